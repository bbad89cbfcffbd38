/- AffineOrder: the law. -/
import Derived.Test.YtdhlnagkhkcoiaaDoorPls
import Derived.Test.YtdhlnagkhkcoiaaDoorDst
namespace Go.Proofs.YtdhlnagkhkcoiaaDoor
open Go.RowKit
set_option linter.unusedVariables false

set_option maxRecDepth 100000 in
set_option maxHeartbeats 4000000 in
theorem law_FnExactAffineOrder (n : Int) (v0 : Value) (xs : List (List Int)) (w : World) (_ : (Lit.int .i64 n).wf = true) (hv : RowsAt w v0 xs) (hx : ∀ r ∈ xs, ∀ x ∈ r, I64 x) (ht : Tab w) :
    Calls Tryd.prog 3 #[.agg #[.int .i64 n, v0]] w fun e w' => e = .returned (.bool true) ∧ Below w.heap.size w w' := by
  obtain ⟨a, cap, rfl, -⟩ := hv.shape
  obtain ⟨len, hlen⟩ : ∃ l, xs.length = l := ⟨_, rfl⟩
  rw [hlen] at hv ⊢
  have HL := Lib.hid hlen
  have S1 := Arg.new n 24 hv
  have hpos := ht.pos
  have TB := Lib.hid (fun W (h : Below w.heap.size w W) => ht.below h hpos)
  have HZ := Lib.hid (fun W (h : RowsAt W (.slice a len cap) xs) => sz_Design W n _ xs 1048576 h (by omega) (by omega))
  have HS := fun W v h => sAffineOrder n xs W v h
  have HI0 := Lib.hid (fun hl W v h t => iAffineOrder n xs hl W v h t)
  obtain ⟨z1, hz1⟩ : ∃ z, AffineOrder_0 n xs = z := ⟨_, rfl⟩
  simp only [hz1] at HS HI0
  have HS := Lib.hid HS
  have tz1 : (z1 != z1) = false := by simp
  obtain ⟨w1, hw1⟩ : ∃ w1, w.alloc (.cells #[.int .i64 n, .slice a len cap] 24) = w1 := ⟨_, rfl⟩
  obtain ⟨A, hA⟩ : ∃ A, w.heap.size = A := ⟨_, rfl⟩
  rw [hw1, hA] at S1
  clear hz1 hv hx hlen ht hpos
  obtain ⟨c0, c1⟩ := S1.out.2.2.1.cells
  go_enter Tryd.func3, Tryd.ntmps3
  go_wp2_with fail
  try rw [hw1]
  refine (HZ.out _ (Arg.rows S1)).mono ?_
  rintro e w2 ⟨q, rfl, hq, b2⟩
  have S2 := Arg.next S1 b2
  clear b2 c0 c1 hw1 HZ
  by_cases k : q < 0
  · have t : decide (q < 0) = true := decide_eq_true k
    go_wp2
    go_ret
    exact ⟨rfl, S2.out.2.2.2⟩
  have t : decide (q < 0) = false := decide_eq_false k
  obtain ⟨hq1, -⟩ := hq (by omega)
  have HTo := Lib.hid (fun W (h : RowsAt W (.slice a len cap) xs) => copy_Design W n _ xs h (by omega))
  have HI := Lib.hid (HI0.out (by omega))
  have HE := Lib.hid (fun u u' W (h1 : RowsAt W u xs) (h2 : RowsAt W u' xs) => eq_Design W n u u' xs h1 h2)
  have TQ : tot xs ≤ 1048576 := by omega
  clear hq HI0
  obtain ⟨c0, c1⟩ := S2.out.2.2.1.cells
  go_wp2_with fail
  refine (HTo.out _ (Arg.rows S2)).mono ?_
  rintro e w3 ⟨v3, rfl, i3, b3⟩
  have S3 := Arg.next S2 b3
  have I3 := Lib.hid i3.at
  clear i3 b3 c0 c1 S2
  go_wp2_with fail
  refine (HS.out _ _ I3.out).mono ?_
  rintro e w4 ⟨rfl, b4⟩
  have S4 := Arg.next S3 b4
  clear I3 b4 S3 HS
  obtain ⟨c0, c1⟩ := S4.out.2.2.1.cells
  go_wp2_with fail
  refine (HTo.out _ (Arg.rows S4)).mono ?_
  rintro e w5 ⟨v5, rfl, i5, b5⟩
  have S5 := Arg.next S4 b5
  have lA := S4.out.2.2.1.lt
  obtain ⟨b, hb⟩ : ∃ b, w4.heap.size = b := ⟨_, rfl⟩
  rw [hb] at i5 b5 lA
  have s5 : b ≤ w5.heap.size := by rw [← hb]; exact b5.size
  have U5 : Below b w4 w5 := b5
  obtain ⟨a5, cap5, e5, -⟩ := i5.at.shape
  rw [HL.out] at e5
  subst e5
  have C6 := Cpy.new n 27 i5 s5
  have ba : Below w5.heap.size w5 (w5.alloc (.cells #[.int .i64 n, .slice a5 len cap5] 27)) := (Below.refl _ _).alloc (Nat.le_refl _) _
  have S6 := Arg.next S5 ba
  have U6 : Below b w4 (w5.alloc (.cells #[.int .i64 n, .slice a5 len cap5] 27)) := U5.trans (ba.mono s5)
  obtain ⟨X, hX⟩ : ∃ X, w5.heap.size = X := ⟨_, rfl⟩
  obtain ⟨w6, hw6⟩ : ∃ w6, w5.alloc (.cells #[.int .i64 n, .slice a5 len cap5] 27) = w6 := ⟨_, rfl⟩
  rw [hX] at C6 s5
  rw [hw6] at C6 S6 U6
  have HU6 := Lib.hid U6
  have zb6 : Hid (b ≤ w6.heap.size) := Nat.le_trans (Nat.le_of_eq hb.symm) U6.size
  clear i5 b5 c0 c1 S4 S5 U5 U6 ba
  obtain ⟨d0, d1⟩ := C6.out.1.cells
  go_wp2_with fail
  try rw [hw6]
  refine (HI.out _ _ C6.out.2.1.at (TB.out _ S6.out.2.2.2)).mono ?_
  rintro e w7 ⟨rfl, b7⟩
  have S7 := Arg.next S6 b7
  have C7 := Cpy.next C6 b7
  clear b7 d0 d1 hw6 hX S6 C6 HU6 hb zb6
  obtain ⟨P, hP⟩ : ∃ P : World → Prop, P = fun W => True := ⟨_, rfl⟩
  have KP : Keeps P := fun W W' hb h => by rw [hP]; trivial
  have D9 : Hid (StD P w A X b n (.slice a len cap) (.slice a5 len cap5) xs w7) := ⟨S7.out, C7.out, by rw [hP]; trivial⟩
  have D9d := StD.next KP D9 (Below.refl _ _).drew
  clear hP S7 C7
  go_upto_region 10 with fail
  go_region_held3 (fun w' => (w'.cell? ⟨A, 0, none⟩ = some (.int .i64 n) ∧ w'.cell? ⟨A, 1, none⟩ = some (.slice a len cap)) ∧ (w'.cell? ⟨X, 0, none⟩ = some (.int .i64 n) ∧ w'.cell? ⟨X, 1, none⟩ = some (.slice a5 len cap5)) ∧ Hid (StD P w A X b n (.slice a len cap) (.slice a5 len cap5) xs w')) (first | exact held_std (by assumption))
    (first | (go_at_call 10; refine (HTo.out _ (Arg.rows (Lib.hid (Hid.out (by assumption : Hid (StD P w A X b n (.slice a len cap) (.slice a5 len cap5) xs _))).1))).mono ?_; rintro e wc ⟨v9, rfl, i9, b9⟩; have Dc := StD.next KP (by assumption) b9; have I9 := Lib.hid i9.at) | (go_at_call 12; refine (HE.out _ _ _ Dc.out.2.1.2.1.at I9.out).mono ?_; rintro e wd ⟨rfl, ba⟩; have Da := StD.next KP Dc ba))
  go_wp2
  go_ret
  exact ⟨rfl, Da.out.1.2.2.2⟩
end Go.Proofs.YtdhlnagkhkcoiaaDoor
