/- Orthogonal: the law. -/
import Derived.Test.YtkonddifmonkcaaOrs
import Derived.Test.YtkonddifmonkcaaOvx
import Derived.Test.YtkonddifmonkcaaLim
import Derived.Test.YtkonddifmonkcaaRowk
import Derived.Test.YtkonddifmonkcaaRowc
import Derived.Test.YtkonddifmonkcaaRowo
namespace Go.Proofs.Ytkonddifmonkcaa
open Go.RowKit
set_option linter.unusedVariables false

set_option maxRecDepth 100000 in
set_option maxHeartbeats 8000000 in
theorem law_FnExactOrthogonal (v0 : Value) (x0 : List (List Int)) (v1 : Value) (x1 : List (List Int)) (w : World) (h0 : RowsAt w v0 x0) (hx0 : ∀ r ∈ x0, ∀ x ∈ r, I64 x) (h1 : RowsAt w v1 x1) (hx1 : ∀ r ∈ x1, ∀ x ∈ r, I64 x) :
    Calls Try.prog 3 #[v0, v1] w fun r w' => r = .returned (.bool true) ∧ Below w.heap.size w w' := by
  have A0 := Lib.hid h0
  have X0 := Lib.hid hx0
  clear h0 hx0
  have A1 := Lib.hid h1
  have X1 := Lib.hid hx1
  clear h1 hx1
  go_enter Try.func3, Try.ntmps3
  go_wp2_with fail
  refine (sz_rows _ v0 x0 1048576 (A0.out.below (Below.refl _ _) (Nat.le_refl _)) (by omega) (by omega)).mono ?_
  rintro r w1 ⟨q1, rfl, hq1, k1, rfl⟩
  by_cases hb0 : q1 < 0
  · have t0 : decide (q1 < 0) = true := decide_eq_true hb0
    go_wp2
    go_ret
    exact ⟨rfl, Go.below_drewN (Below.refl _ _) k1⟩
  have t0 : decide (q1 < 0) = false := decide_eq_false hb0
  have hl0 := (hq1 (by omega)).1
  have hq1 := (hq1 (by omega)).2
  have M0 := Lib.hid (show SmallLL x0 from ⟨by omega, X0.out⟩)
  go_wp2_with fail
  refine (sz_rows _ v1 x1 q1 (A1.out.below (Go.below_drewN (Below.refl _ _) k1) (Nat.le_refl _)) (by omega) (by omega)).mono ?_
  rintro r w2 ⟨q2, rfl, hq2, k2, rfl⟩
  by_cases hb1 : q2 < 0
  · have t1 : decide (q2 < 0) = true := decide_eq_true hb1
    go_wp2
    go_ret
    exact ⟨rfl, Go.below_drewN (Below.refl _ _) (k1 + k2)⟩
  have t1 : decide (q2 < 0) = false := decide_eq_false hb1
  have hl1 := (hq2 (by omega)).1
  have hq2 := (hq2 (by omega)).2
  have M1 := Lib.hid (show SmallLL x1 from ⟨by omega, X1.out⟩)
  have HS := fun W v0 v1 h0 h1 => sOrthogonal x0 x1 M0.out M1.out W v0 v1 h0 h1
  have HI := fun W v0 v1 h0 h1 => iOrthogonal x0 x1 M0.out M1.out W v0 v1 h0 h1
  obtain ⟨z0, hz0⟩ : ∃ z, Orthogonal_0 x0 x1 = z := ⟨_, rfl⟩
  simp only [hz0] at HS HI
  have HS := Lib.hid HS
  have HI := Lib.hid HI
  clear hz0
  have tz0 : (z0 != z0) = false := by simp
  go_wp2_with fail
  refine (copy_rows _ _ x0 (A0.out.below (Go.below_drewN (Below.refl _ _) (k1 + k2)) (Nat.le_refl _)) (by omega)).mono ?_
  rintro r w3 ⟨v103, rfl, i3, b3⟩
  have s3 : w.heap.size ≤ w3.heap.size := b3.size
  have T3 := Lib.hid (t_chain (Go.below_drewN (Below.refl _ _) (k1 + k2)) b3)
  have I3 := Lib.hid i3
  clear i3 b3
  go_wp2_with fail
  refine (copy_rows _ _ x1 (A1.out.below (T3.out) (Nat.le_refl _)) (by omega)).mono ?_
  rintro r w4 ⟨v104, rfl, i4, b4⟩
  have s4 : w3.heap.size ≤ w4.heap.size := b4.size
  have Ic3_4 := Lib.hid ((I3.out).below b4 (Nat.le_refl _))
  have T4 := Lib.hid (t_chain (T3.out) b4)
  have I4 := Lib.hid i4
  clear i4 b4
  go_wp2_with fail
  refine (HS.out _ v103 v104 (Ic3_4.out).at (I4.out).at).mono ?_
  rintro r w5 ⟨rfl, b5⟩
  have s5 : w4.heap.size ≤ w5.heap.size := b5.size
  have T5 := Lib.hid (t_chain (T4.out) b5)
  clear b5
  go_wp2_with fail
  refine (copy_rows _ _ x0 (A0.out.below (T5.out) (Nat.le_refl _)) (by omega)).mono ?_
  rintro r w6 ⟨v106, rfl, i6, b6⟩
  have s6 : w5.heap.size ≤ w6.heap.size := b6.size
  have T6 := Lib.hid (t_chain (T5.out) b6)
  have I6 := Lib.hid i6
  clear i6 b6
  go_wp2_with fail
  refine (copy_rows _ _ x1 (A1.out.below (T6.out) (Nat.le_refl _)) (by omega)).mono ?_
  rintro r w7 ⟨v107, rfl, i7, b7⟩
  have s7 : w6.heap.size ≤ w7.heap.size := b7.size
  have Ix0_7 := Lib.hid ((I6.out).below b7 (Nat.le_refl _))
  have T7 := Lib.hid (t_chain (T6.out) b7)
  have I7 := Lib.hid i7
  clear i7 b7
  go_wp2_with fail
  refine (HI.out _ v106 v107 (Ix0_7.out).at (I7.out).at).mono ?_
  rintro r w8 ⟨rfl, b8⟩
  have s8 : w7.heap.size ≤ w8.heap.size := b8.size
  have Ix0_8 := Lib.hid ((Ix0_7.out).below b8 (Nat.le_refl _))
  have Ix1_8 := Lib.hid ((I7.out).below b8 (Nat.le_refl _))
  have T8 := Lib.hid (t_chain (T7.out) b8)
  clear b8
  go_wp2_with fail
  refine (copy_rows _ _ x0 (A0.out.below (T8.out) (Nat.le_refl _)) (by omega)).mono ?_
  rintro r w9 ⟨v109, rfl, i9, b9⟩
  have s9 : w8.heap.size ≤ w9.heap.size := b9.size
  have Ix0_9 := Lib.hid ((Ix0_8.out).below b9 (Nat.le_refl _))
  have Ix1_9 := Lib.hid ((Ix1_8.out).below b9 (Nat.le_refl _))
  have T9 := Lib.hid (t_chain (T8.out) b9)
  have I9 := Lib.hid i9
  clear i9 b9
  go_wp2_with fail
  refine (eq_rows _ _ _ x0 (Ix0_9.out).at (I9.out).at).mono ?_
  rintro r w10 ⟨rfl, k10, rfl⟩
  go_wp2_with fail
  refine (copy_rows _ _ x1 (A1.out.below (Go.below_drewN (T9.out) k10) (Nat.le_refl _)) (by omega)).mono ?_
  rintro r w11 ⟨v111, rfl, i11, b11⟩
  have s11 : w9.heap.size ≤ w11.heap.size := b11.size
  have Ix0_11 := Lib.hid (((Ix0_9.out).drewN k10).below b11 (Nat.le_refl _))
  have Ix1_11 := Lib.hid (((Ix1_9.out).drewN k10).below b11 (Nat.le_refl _))
  have T11 := Lib.hid (t_chain (Go.below_drewN (T9.out) k10) b11)
  have I11 := Lib.hid i11
  clear i11 b11
  go_wp2_with fail
  refine (eq_rows _ _ _ x1 (Ix1_11.out).at (I11.out).at).mono ?_
  rintro r w12 ⟨rfl, k12, rfl⟩
  go_wp2
  go_ret
  exact ⟨rfl, Go.below_drewN (T11.out) k12⟩
end Go.Proofs.Ytkonddifmonkcaa
