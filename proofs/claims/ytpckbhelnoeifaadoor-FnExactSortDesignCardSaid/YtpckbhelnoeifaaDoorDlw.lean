/- Laws whose result is a design: marking, what is held, what stands. -/
import Derived.Test.YtpckbhelnoeifaaDoorDst
import Derived.Test.YtpckbhelnoeifaaDoorDmk
namespace Go.Proofs.YtpckbhelnoeifaaDoor
open Go.RowKit Go.Shelf
set_option linter.unusedVariables false
set_option linter.unusedSimpArgs false

theorem mark_DesignR (w : World) (B L : Nat) (n : Int) (v : Value) (xss : List (List Int)) (k : Int) (h : RowsL w B L v xss) (k0 : 0 ≤ k) (k1 : k + tot xss ≤ 9000000000000000000) :
    Calls Tryd.prog 24 #[.agg #[.int .i64 n, v], .int .i64 k] w fun e w' => e = .returned (.int .i64 (k + tot xss)) ∧ RowsL w' B L v (marksR k xss) ∧ Marked B L (w.alloc (.cells #[.int .i64 n, v] 30)) w' := by
  have hb : Below w.heap.size w (w.alloc (.cells #[.int .i64 n, v] 30)) := (Below.refl _ _).alloc (Nat.le_refl _) _
  have HM := Lib.hid (mark_rows _ B L v xss k (h.below hb (Nat.le_refl _)) k0 k1)
  obtain ⟨a, cap, rfl, -⟩ := h.at.shape
  clear h hb
  go_enter Tryd.func24, Tryd.ntmps24
  go_wp2_with fail
  refine HM.out.mono ?_
  rintro e w1 ⟨rfl, hr, hm⟩
  have M := Lib.hid hm
  have R := Lib.hid hr
  clear hm hr
  go_wp2
  go_ret
  exact ⟨rfl, R.out, M.out⟩
theorem held_Design (w : World) (n : Int) (v : Value) (xss : List (List Int)) (k : Int) (h : RowsAt w v (marksR k xss)) (k0 : 0 ≤ k) (k1 : k + tot xss ≤ 9000000000000000000) :
    Calls Tryd.prog 25 #[.agg #[.int .i64 n, v], .int .i64 k] w fun e w' => e = .returned (.int .i64 (k + tot xss)) ∧ Below w.heap.size w w' := by
  have hb : Below w.heap.size w (w.alloc (.cells #[.int .i64 n, v] 30)) := (Below.refl _ _).alloc (Nat.le_refl _) _
  have HM := Lib.hid (held_rows _ v k xss (h.below hb (Nat.le_refl _)) k0 k1)
  have HB := Lib.hid hb
  obtain ⟨a, cap, rfl, -⟩ := h.shape
  obtain ⟨q, hq⟩ : ∃ q : Int, k + (tot xss : Int) = q := ⟨_, rfl⟩
  rw [hq] at HM ⊢
  have t : decide (q < 0) = false := decide_eq_false (by omega)
  clear h hb hq
  go_enter Tryd.func25, Tryd.ntmps25
  go_wp2_with fail
  refine HM.out.mono ?_
  rintro e w1 ⟨rfl, d, rfl⟩
  go_wp2
  go_ret
  exact ⟨rfl, below_drewN HB.out _⟩

/-- A design of the call's own in block X, behind its rows. -/
theorem Cpy.keep {W W' : World} {X b B L : Nat} {n : Int} {v : Value} {T : TypeId} {xs : List (List Int)} (h : Hid (Cpy X b n v T xs W)) (m : Marked B L W W') (d : X < B ∨ L ≤ b) : Hid (Cpy X b n v T xs W') := by
  have hb := h.out.2.2
  exact ⟨h.out.1.mark m (by omega), h.out.2.1.keep m (by omega), hb⟩
/-- Its rows are marked. -/
theorem Cpy.marked {W W' : World} {X b : Nat} {n : Int} {v : Value} {T : TypeId} {xs ys : List (List Int)} (h : Hid (Cpy X b n v T xs W)) (m : Marked b X W W') (r : RowsL W' b X v ys) : Hid (Cpy X b n v T ys W') :=
  ⟨h.out.1.mark m (.inr (Nat.le_refl _)), r, h.out.2.2⟩
theorem Cpy.at {W : World} {X b : Nat} {n : Int} {v : Value} {T : TypeId} {xs : List (List Int)} (h : Hid (Cpy X b n v T xs W)) : RowsAt W v xs := h.out.2.1.at
theorem Cpy.cells {W : World} {X b : Nat} {n : Int} {v : Value} {T : TypeId} {xs : List (List Int)} (h : Hid (Cpy X b n v T xs W)) : W.cell? ⟨X, 0, none⟩ = some (.int .i64 n) ∧ W.cell? ⟨X, 1, none⟩ = some v := h.out.1.cells
theorem tot_perm {xs ys : List (List Int)} (h : xs.Perm ys) : tot xs = tot ys := by
  induction h with
  | nil => rfl
  | cons x _ ih => rw [tot_cons, tot_cons, ih]
  | swap x y l => rw [tot_cons, tot_cons, tot_cons, tot_cons]; omega
  | trans _ _ i1 i2 => exact i1.trans i2
theorem tot_mkL (n : Int) (xss : List (List Int)) : tot (mkL n xss) ≤ tot xss ∧ (mkL n xss).length ≤ xss.length := by
  unfold mkL
  split
  · split
    · exact ⟨Nat.zero_le _, Nat.zero_le _⟩
    · exact ⟨Nat.le_of_eq (tot_perm (sortL_perm xss)), Nat.le_of_eq (sortL_len xss)⟩
  · exact ⟨Nat.zero_le _, Nat.zero_le _⟩
end Go.Proofs.YtpckbhelnoeifaaDoor
