/- Laws whose result is a design: marking, what is held, what stands. -/
import Derived.Test.YtanfodbpgpfjmaaDoorDst
import Derived.Test.YtanfodbpgpfjmaaDoorDmk
namespace Go.Proofs.YtanfodbpgpfjmaaDoor
open Go.RowKit Go.Shelf
set_option linter.unusedVariables false
set_option linter.unusedSimpArgs false

theorem mark_DesignR (w : World) (B L : Nat) (n : Int) (v : Value) (xss : List (List Int)) (k : Int) (h : RowsL w B L v xss) (k0 : 0 ≤ k) (k1 : k + tot xss ≤ 9000000000000000000) :
    Calls Tryd.prog 10 #[.agg #[.int .i64 n, v], .int .i64 k] w fun e w' => e = .returned (.int .i64 (k + tot xss)) ∧ RowsL w' B L v (marksR k xss) ∧ Marked B L (w.alloc (.cells #[.int .i64 n, v] 24)) w' := by
  have hb : Below w.heap.size w (w.alloc (.cells #[.int .i64 n, v] 24)) := (Below.refl _ _).alloc (Nat.le_refl _) _
  have HM := Lib.hid (mark_rows _ B L v xss k (h.below hb (Nat.le_refl _)) k0 k1)
  obtain ⟨a, cap, rfl, -⟩ := h.at.shape
  clear h hb
  go_enter Tryd.func10, Tryd.ntmps10
  go_wp2_with fail
  refine HM.out.mono ?_
  rintro e w1 ⟨rfl, hr, hm⟩
  have M := Lib.hid hm
  have R := Lib.hid hr
  clear hm hr
  go_wp2
  go_ret
  exact ⟨rfl, R.out, M.out⟩
theorem held_Design (w : World) (n : Int) (v : Value) (xss : List (List Int)) (k : Int) (h : RowsAt w v (marksR k xss)) (k0 : 0 ≤ k) (k1 : k + tot xss ≤ 9000000000000000000) :
    Calls Tryd.prog 11 #[.agg #[.int .i64 n, v], .int .i64 k] w fun e w' => e = .returned (.int .i64 (k + tot xss)) ∧ Below w.heap.size w w' := by
  have hb : Below w.heap.size w (w.alloc (.cells #[.int .i64 n, v] 24)) := (Below.refl _ _).alloc (Nat.le_refl _) _
  have HM := Lib.hid (held_rows _ v k xss (h.below hb (Nat.le_refl _)) k0 k1)
  have HB := Lib.hid hb
  obtain ⟨a, cap, rfl, -⟩ := h.shape
  obtain ⟨q, hq⟩ : ∃ q : Int, k + (tot xss : Int) = q := ⟨_, rfl⟩
  rw [hq] at HM ⊢
  have t : decide (q < 0) = false := decide_eq_false (by omega)
  clear h hb hq
  go_enter Tryd.func11, Tryd.ntmps11
  go_wp2_with fail
  refine HM.out.mono ?_
  rintro e w1 ⟨rfl, d, rfl⟩
  go_wp2
  go_ret
  exact ⟨rfl, below_drewN HB.out _⟩

/-- A design of the call's own in block X, behind its rows. -/
theorem Cpy.keep {W W' : World} {X b B L : Nat} {n : Int} {v : Value} {T : TypeId} {xs : List (List Int)} (h : Hid (Cpy X b n v T xs W)) (m : Marked B L W W') (d : X < B ∨ L ≤ b) : Hid (Cpy X b n v T xs W') := by
  have hb := h.out.2.2
  exact ⟨h.out.1.mark m (by omega), h.out.2.1.keep m (by omega), hb⟩
/-- Its rows are marked. -/
theorem Cpy.marked {W W' : World} {X b : Nat} {n : Int} {v : Value} {T : TypeId} {xs ys : List (List Int)} (h : Hid (Cpy X b n v T xs W)) (m : Marked b X W W') (r : RowsL W' b X v ys) : Hid (Cpy X b n v T ys W') :=
  ⟨h.out.1.mark m (.inr (Nat.le_refl _)), r, h.out.2.2⟩
theorem Cpy.at {W : World} {X b : Nat} {n : Int} {v : Value} {T : TypeId} {xs : List (List Int)} (h : Hid (Cpy X b n v T xs W)) : RowsAt W v xs := h.out.2.1.at
theorem Cpy.cells {W : World} {X b : Nat} {n : Int} {v : Value} {T : TypeId} {xs : List (List Int)} (h : Hid (Cpy X b n v T xs W)) : W.cell? ⟨X, 0, none⟩ = some (.int .i64 n) ∧ W.cell? ⟨X, 1, none⟩ = some v := h.out.1.cells
theorem tot_perm {xs ys : List (List Int)} (h : xs.Perm ys) : tot xs = tot ys := by
  induction h with
  | nil => rfl
  | cons x _ ih => rw [tot_cons, tot_cons, ih]
  | swap x y l => rw [tot_cons, tot_cons, tot_cons, tot_cons]; omega
  | trans _ _ i1 i2 => exact i1.trans i2
theorem tot_mkL (n : Int) (xss : List (List Int)) : tot (mkL n xss) ≤ tot xss ∧ (mkL n xss).length ≤ xss.length := by
  unfold mkL
  split
  · split
    · exact ⟨Nat.zero_le _, Nat.zero_le _⟩
    · exact ⟨Nat.le_of_eq (tot_perm (sortL_perm xss)), Nat.le_of_eq (sortL_len xss)⟩
  · exact ⟨Nat.zero_le _, Nat.zero_le _⟩

/-! Designs out of sets that may be empty: values. Mathematics alone. -/
section
open Go.RowKit
set_option linter.unusedVariables false
set_option linter.unusedSimpArgs false

def anyE (Ls : List (List Int)) : Bool := Ls.any (fun l => l.isEmpty)
/-- The design with some sets: number of points, blocks, code. -/
def dxN (n : Int) (Ls : List (List Int)) : Int := if anyE Ls then 0 else if 128 < Ls.length then 0 else n
def dxL (Ls : List (List Int)) : List (List Int) := if anyE Ls then [] else if 128 < Ls.length then [] else sortL Ls
def dxC (Ls : List (List Int)) : Int := if anyE Ls then 6 else if 128 < Ls.length then 5 else 0
theorem anyE_true {Ls : List (List Int)} {i : Nat} (hi : i < Ls.length) (h : Ls.getD i [] = []) : anyE Ls = true := by
  unfold anyE; rw [List.any_eq_true]
  refine ⟨Ls.getD i [], ?_, by rw [h]; rfl⟩
  rw [List.getD_eq_getElem?_getD, List.getElem?_eq_getElem hi]; exact List.getElem_mem _
theorem anyE_false {Ls : List (List Int)} (h : ∀ i, i < Ls.length → Ls.getD i [] ≠ []) : anyE Ls = false := by
  unfold anyE; rw [List.any_eq_false]
  intro l hl e
  obtain ⟨i, hi, el⟩ := mem_getD hl
  exact h i hi (by rw [el]; simpa using e)
theorem ptsN_nil (x : Nat) (hx : x < 4294967296) : ptsN x = [] ↔ x = 0 := by
  constructor
  · intro h
    apply bits_ext
    intro i
    cases b : x.testBit i with
    | false => rfl
    | true =>
      have : (i : Int) ∈ ptsN x := (fls_mem 32 _ _).2 ⟨i, bit_lt (by omega) b, b, rfl⟩
      rw [h] at this; cases this
  · rintro rfl
    rw [List.eq_nil_iff_forall_not_mem]
    intro z hz
    obtain ⟨k, -, h, -⟩ := (fls_mem 32 _ _).1 hz
    simp at h
theorem zero_any {m : Nat} {S : Nat → Nat} (hS : ∀ i, i < m → S i < 4294967296) : zeroB m S = anyE (ptsL m S) := by
  cases h : anyE (ptsL m S) with
  | false =>
    refine zero_false fun i hi e => ?_
    have := anyE_true (Ls := ptsL m S) (i := i) (by rw [ptsL_len]; exact hi) (by rw [ptsL_at m S i hi]; exact (ptsN_nil _ (hS i hi)).2 e)
    rw [h] at this; cases this
  | true =>
    unfold anyE at h
    rw [List.any_eq_true] at h
    obtain ⟨l, hl, e⟩ := h
    obtain ⟨i, hi, el⟩ := mem_getD hl
    rw [ptsL_len] at hi
    rw [ptsL_at m S i hi] at el
    exact zero_true hi ((ptsN_nil _ (hS i hi)).1 (by rw [el]; simpa using e))
theorem dx_des (n : Int) {m : Nat} {S : Nat → Nat} (hS : ∀ i, i < m → S i < 4294967296) : desN n m S = dxN n (ptsL m S) ∧ desL m S = dxL (ptsL m S) ∧ desC m S = dxC (ptsL m S) := by
  unfold desN desL desC dxN dxL dxC
  rw [zero_any hS, ptsL_len]
  exact ⟨rfl, rfl, rfl⟩
theorem dx_mk {n : Int} {Ls : List (List Int)} (h1 : 1 ≤ n) (h2 : n ≤ 32) (he : anyE Ls = false) (hr : ∀ i, i < Ls.length → Rises 0 (n - 1) (Ls.getD i [])) : mkN n Ls = dxN n Ls ∧ mkL n Ls = dxL Ls ∧ mkC n Ls = dxC Ls := by
  have hb : blksB n Ls = true := blksB_true ⟨h1, h2, fun i hi => ⟨by
    cases e : Ls.getD i [] with
    | nil => rw [anyE_true hi e] at he; cases he
    | cons => simp, hr i hi⟩⟩
  unfold mkN mkL mkC dxN dxL dxC
  rw [hb, he]
  exact ⟨rfl, rfl, rfl⟩
theorem dx_empty (n : Int) {Ls : List (List Int)} (he : anyE Ls = true) : dxN n Ls = 0 ∧ dxL Ls = [] ∧ dxC Ls = 6 := by
  unfold dxN dxL dxC; rw [he]; exact ⟨rfl, rfl, rfl⟩
theorem dxL_tot (Ls : List (List Int)) : tot (dxL Ls) ≤ tot Ls ∧ (dxL Ls).length ≤ Ls.length := by
  unfold dxL
  split
  · exact ⟨Nat.zero_le _, Nat.zero_le _⟩
  · split
    · exact ⟨Nat.zero_le _, Nat.zero_le _⟩
    · exact ⟨Nat.le_of_eq (tot_perm (sortL_perm Ls)), Nat.le_of_eq (sortL_len Ls)⟩
/-- Lists of numbers with a property. -/
def setsL (N m : Nat) (P : Nat → Nat → Bool) : List (List Int) := (List.range N).map (fun k => fls m (P k))
theorem setsL_len (N m : Nat) (P : Nat → Nat → Bool) : (setsL N m P).length = N := by simp [setsL]
theorem setsL_at (N m : Nat) (P : Nat → Nat → Bool) (k : Nat) (hk : k < N) : (setsL N m P).getD k [] = fls m (P k) := by
  unfold setsL; rw [List.getD_eq_getElem?_getD, List.getElem?_eq_getElem (by simpa using hk)]; simp
theorem setsL_succ (N m : Nat) (P : Nat → Nat → Bool) : setsL (N + 1) m P = setsL N m P ++ [fls m (P N)] := by simp [setsL, List.range_succ]
theorem setsL_tot (N m : Nat) (P : Nat → Nat → Bool) : tot (setsL N m P) ≤ N * m := by
  induction N with
  | zero => simp [setsL, tot]
  | succ N ih =>
    rw [setsL_succ, tot_append, tot_cons, tot_nil, Nat.succ_mul]
    have := fls_len m (P N)
    omega
theorem fls_rises (m : Nat) (P : Nat → Bool) : Rises 0 ((m : Int) - 1) (fls m P) := by
  intro i hi
  unfold okAt
  have hm : (fls m P).getD i 0 ∈ fls m P := by rw [List.getD_eq_getElem?_getD, List.getElem?_eq_getElem hi]; exact List.getElem_mem _
  obtain ⟨k, h1, -, e⟩ := (fls_mem m P _).1 hm
  refine ⟨by omega, by omega, fun h0 => ?_⟩
  have := List.pairwise_iff_getElem.1 (fls_sorted P m) (i - 1) i (by omega) hi (by omega)
  rw [List.getD_eq_getElem?_getD, List.getD_eq_getElem?_getD, List.getElem?_eq_getElem (by omega : i - 1 < (fls m P).length), List.getElem?_eq_getElem hi]
  exact this
/-- The sets' bits. -/
theorem pts_fls {x m : Nat} {P : Nat → Bool} (hm : m ≤ 32) (h : ∀ i, x.testBit i = (decide (i < m) && P i)) : ptsN x = fls m P := by
  refine sorted_ext _ _ (fls_sorted _ _) (fls_sorted _ _) fun z => ?_
  show z ∈ fls 32 _ ↔ _
  rw [fls_mem, fls_mem]
  constructor
  · rintro ⟨k, -, h2, rfl⟩
    rw [h k, Bool.and_eq_true] at h2
    exact ⟨k, of_decide_eq_true h2.1, h2.2, rfl⟩
  · rintro ⟨k, h1, h2, rfl⟩
    exact ⟨k, by omega, by rw [h k, decide_eq_true h1, h2]; rfl, rfl⟩
theorem ptsL_sets {N m : Nat} {S : Nat → Nat} {P : Nat → Nat → Bool} (hm : m ≤ 32) (h : ∀ k, k < N → ∀ i, (S k).testBit i = (decide (i < m) && P k i)) : ptsL N S = setsL N m P := by
  unfold ptsL setsL
  exact List.map_congr_left fun k hk => pts_fls hm (h k (List.mem_range.1 hk))
end
end Go.Proofs.YtanfodbpgpfjmaaDoor
