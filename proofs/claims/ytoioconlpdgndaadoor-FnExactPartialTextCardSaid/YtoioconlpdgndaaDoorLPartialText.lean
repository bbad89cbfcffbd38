/- PartialText: the law. -/
import Derived.Test.YtoioconlpdgndaaDoorPtm
import Derived.Test.YtoioconlpdgndaaDoorPtn
import Derived.Test.YtoioconlpdgndaaDoorLim
import Derived.Test.YtoioconlpdgndaaDoorRowk
import Derived.Test.YtoioconlpdgndaaDoorRowc
import Derived.Test.YtoioconlpdgndaaDoorRowo
namespace Go.Proofs.YtoioconlpdgndaaDoor
open Go.RowKit
set_option linter.unusedVariables false

set_option maxRecDepth 100000 in
set_option maxHeartbeats 8000000 in
theorem law_FnExactPartialText (v0 : Value) (x0 : List (List Int)) (w : World) (h0 : RowsAt w v0 x0) (hx0 : ∀ r ∈ x0, ∀ x ∈ r, I64 x) (ht : Tab w) :
    Calls Tryd.prog 4 #[v0] w fun r w' => r = .returned (.bool true) ∧ Below w.heap.size w w' := by
  have TB := Lib.hid ht
  clear ht
  have A0 := Lib.hid h0
  have X0 := Lib.hid hx0
  clear h0 hx0
  go_enter Tryd.func4, Tryd.ntmps4
  go_wp2_with fail
  refine (sz_rows _ v0 x0 1048576 (A0.out.below (Below.refl _ _) (Nat.le_refl _)) (by omega) (by omega)).mono ?_
  rintro r w1 ⟨q1, rfl, hq1, k1, rfl⟩
  by_cases hb0 : q1 < 0
  · have t0 : decide (q1 < 0) = true := decide_eq_true hb0
    go_wp2
    go_ret
    exact ⟨rfl, Go.below_drewN (Below.refl _ _) k1⟩
  have t0 : decide (q1 < 0) = false := decide_eq_false hb0
  have hl0 := (hq1 (by omega)).1
  have hq1 := (hq1 (by omega)).2
  have M0 := Lib.hid (show SmallLL x0 from ⟨by omega, X0.out⟩)
  have HS := fun W v0 h0 => sPartialText x0 M0.out W v0 h0
  have HI := fun W v0 h0 ht => iPartialText x0 M0.out W v0 h0 ht
  obtain ⟨z0, hz0⟩ : ∃ z, PartialText_0 x0 = z := ⟨_, rfl⟩
  simp only [hz0] at HS HI
  have HS := Lib.hid HS
  have HI := Lib.hid HI
  clear hz0
  have tz0 : (z0.toList != z0.toList) = false := by simp
  go_wp2_with fail
  refine (copy_rows _ _ x0 (A0.out.below (Go.below_drewN (Below.refl _ _) k1) (Nat.le_refl _)) (by omega)).mono ?_
  rintro r w2 ⟨v102, rfl, i2, b2⟩
  have s2 : w.heap.size ≤ w2.heap.size := b2.size
  have T2 := Lib.hid (t_chain (Go.below_drewN (Below.refl _ _) k1) b2)
  have I2 := Lib.hid i2
  clear i2 b2
  go_wp2_with fail
  refine (HS.out _ v102 (I2.out).at).mono ?_
  rintro r w3 ⟨rfl, b3⟩
  have s3 : w2.heap.size ≤ w3.heap.size := b3.size
  have T3 := Lib.hid (t_chain (T2.out) b3)
  clear b3
  go_wp2_with fail
  refine (copy_rows _ _ x0 (A0.out.below (T3.out) (Nat.le_refl _)) (by omega)).mono ?_
  rintro r w4 ⟨v104, rfl, i4, b4⟩
  have s4 : w3.heap.size ≤ w4.heap.size := b4.size
  have T4 := Lib.hid (t_chain (T3.out) b4)
  have I4 := Lib.hid i4
  clear i4 b4
  go_wp2_with fail
  refine (HI.out _ v104 (I4.out).at (TB.out.below (T4.out) TB.out.pos)).mono ?_
  rintro r w5 ⟨rfl, b5⟩
  have s5 : w4.heap.size ≤ w5.heap.size := b5.size
  have Ix0_5 := Lib.hid ((I4.out).below b5 (Nat.le_refl _))
  have T5 := Lib.hid (t_chain (T4.out) b5)
  clear b5
  go_wp2_with fail
  refine (copy_rows _ _ x0 (A0.out.below (T5.out) (Nat.le_refl _)) (by omega)).mono ?_
  rintro r w6 ⟨v106, rfl, i6, b6⟩
  have s6 : w5.heap.size ≤ w6.heap.size := b6.size
  have Ix0_6 := Lib.hid ((Ix0_5.out).below b6 (Nat.le_refl _))
  have T6 := Lib.hid (t_chain (T5.out) b6)
  have I6 := Lib.hid i6
  clear i6 b6
  go_wp2_with fail
  refine (eq_rows _ _ _ x0 (Ix0_6.out).at (I6.out).at).mono ?_
  rintro r w7 ⟨rfl, k7, rfl⟩
  go_wp2
  go_ret
  exact ⟨rfl, Go.below_drewN (T6.out) k7⟩
end Go.Proofs.YtoioconlpdgndaaDoor
