/- ProductMols: the law. -/
import Derived.Test.YtkonddifmonkcaaPmo
import Derived.Test.YtkonddifmonkcaaPmi
import Derived.Test.YtkonddifmonkcaaLim
import Derived.Test.YtkonddifmonkcaaRowk
import Derived.Test.YtkonddifmonkcaaRowc
import Derived.Test.YtkonddifmonkcaaRowo
import Derived.Test.YtkonddifmonkcaaRsq
namespace Go.Proofs.Ytkonddifmonkcaa
open Go.RowKit
set_option linter.unusedVariables false

set_option maxRecDepth 100000 in
set_option maxHeartbeats 8000000 in
theorem law_FnExactProductMols (v0 : Value) (x0 : List (List (List Int))) (v1 : Value) (x1 : List (List (List Int))) (w : World) (h0 : QAt w v0 x0) (hx0 : ∀ y ∈ x0, ∀ r ∈ y, ∀ x ∈ r, I64 x) (h1 : QAt w v1 x1) (hx1 : ∀ y ∈ x1, ∀ r ∈ y, ∀ x ∈ r, I64 x) :
    Calls Try.prog 6 #[v0, v1] w fun r w' => r = .returned (.bool true) ∧ Below w.heap.size w w' := by
  have A0 := Lib.hid h0
  have X0 := Lib.hid hx0
  clear h0 hx0
  have A1 := Lib.hid h1
  have X1 := Lib.hid hx1
  clear h1 hx1
  go_enter Try.func6, Try.ntmps6
  go_wp2_with fail
  refine (sz_q _ v0 x0 1048576 (A0.out.below (Below.refl _ _) (Nat.le_refl _)) (by omega) (by omega)).mono ?_
  rintro r w1 ⟨q1, rfl, hq1, k1, rfl⟩
  by_cases hb0 : q1 < 0
  · have t0 : decide (q1 < 0) = true := decide_eq_true hb0
    go_wp2
    go_ret
    exact ⟨rfl, Go.below_drewN (Below.refl _ _) k1⟩
  have t0 : decide (q1 < 0) = false := decide_eq_false hb0
  have hl0 := (hq1 (by omega)).1
  have hq1 := (hq1 (by omega)).2
  have M0 := Lib.hid (show SmallQ x0 from ⟨by omega, X0.out⟩)
  have tl0 := totQ_le x0
  go_wp2_with fail
  refine (sz_q _ v1 x1 q1 (A1.out.below (Go.below_drewN (Below.refl _ _) k1) (Nat.le_refl _)) (by omega) (by omega)).mono ?_
  rintro r w2 ⟨q2, rfl, hq2, k2, rfl⟩
  by_cases hb1 : q2 < 0
  · have t1 : decide (q2 < 0) = true := decide_eq_true hb1
    go_wp2
    go_ret
    exact ⟨rfl, Go.below_drewN (Below.refl _ _) (k1 + k2)⟩
  have t1 : decide (q2 < 0) = false := decide_eq_false hb1
  have hl1 := (hq2 (by omega)).1
  have hq2 := (hq2 (by omega)).2
  have M1 := Lib.hid (show SmallQ x1 from ⟨by omega, X1.out⟩)
  have tl1 := totQ_le x1
  have HS := fun W v0 v1 h0 h1 => sProductMols x0 x1 M0.out M1.out W v0 v1 h0 h1
  have HI := fun W v0 v1 h0 h1 => iProductMols x0 x1 M0.out M1.out W v0 v1 h0 h1
  have ln0 := lenProductMols_0 x0 x1 M0.out M1.out
  obtain ⟨z0, hz0⟩ : ∃ z, ProductMols_0 x0 x1 = z := ⟨_, rfl⟩
  rw [hz0] at ln0
  obtain ⟨z1, hz1⟩ : ∃ z, ProductMols_1 x0 x1 = z := ⟨_, rfl⟩
  simp only [hz0, hz1] at HS HI
  have HS := Lib.hid HS
  have HI := Lib.hid HI
  clear hz0 hz1
  have tz1 : (z1 != z1) = false := by simp
  go_wp2_with fail
  refine (copy_q _ _ x0 (A0.out.below (Go.below_drewN (Below.refl _ _) (k1 + k2)) (Nat.le_refl _)) (by omega)).mono ?_
  rintro r w3 ⟨v103, rfl, i3, b3⟩
  have s3 : w.heap.size ≤ w3.heap.size := b3.size
  have T3 := Lib.hid (t_chain (Go.below_drewN (Below.refl _ _) (k1 + k2)) b3)
  have I3 := Lib.hid i3
  clear i3 b3
  go_wp2_with fail
  refine (copy_q _ _ x1 (A1.out.below (T3.out) (Nat.le_refl _)) (by omega)).mono ?_
  rintro r w4 ⟨v104, rfl, i4, b4⟩
  have s4 : w3.heap.size ≤ w4.heap.size := b4.size
  have Ic3_4 := Lib.hid ((I3.out).below b4 (Nat.le_refl _))
  have T4 := Lib.hid (t_chain (T3.out) b4)
  have I4 := Lib.hid i4
  clear i4 b4
  go_wp2_with fail
  refine (HS.out _ v103 v104 (Ic3_4.out).at (I4.out).at).mono ?_
  rintro r w5 ⟨v5_0, rfl, i5_0, b5⟩
  have s5 : w4.heap.size ≤ w5.heap.size := b5.size
  have T5 := Lib.hid (t_chain (T4.out) b5)
  have I5_0 := Lib.hid i5_0
  clear i5_0
  clear b5
  go_wp2_with fail
  refine (copy_q _ _ x0 (A0.out.below (T5.out) (Nat.le_refl _)) (by omega)).mono ?_
  rintro r w6 ⟨v106, rfl, i6, b6⟩
  have s6 : w5.heap.size ≤ w6.heap.size := b6.size
  have Uw0_6 := Lib.hid (t_chain (Below.refl _ _) b6)
  have T6 := Lib.hid (t_chain (T5.out) b6)
  have I6 := Lib.hid i6
  clear i6 b6
  go_wp2_with fail
  refine (copy_q _ _ x1 (A1.out.below (T6.out) (Nat.le_refl _)) (by omega)).mono ?_
  rintro r w7 ⟨v107, rfl, i7, b7⟩
  have s7 : w6.heap.size ≤ w7.heap.size := b7.size
  have Ix0_7 := Lib.hid ((I6.out).below b7 (Nat.le_refl _))
  have Uw0_7 := Lib.hid (t_chain (Uw0_6.out) b7)
  have T7 := Lib.hid (t_chain (T6.out) b7)
  have I7 := Lib.hid i7
  clear i7 b7
  go_wp2_with fail
  refine (HI.out _ v106 v107 (Ix0_7.out).at (I7.out).at).mono ?_
  rintro r w8 ⟨v8_0, rfl, i8_0, b8⟩
  have s8 : w7.heap.size ≤ w8.heap.size := b8.size
  have Ix0_8 := Lib.hid ((Ix0_7.out).below b8 (Nat.le_refl _))
  have Ix1_8 := Lib.hid ((I7.out).below b8 (Nat.le_refl _))
  have Uw0_8 := Lib.hid (t_chain (Uw0_7.out) b8)
  have T8 := Lib.hid (t_chain (T7.out) b8)
  have I8_0 := Lib.hid i8_0
  clear i8_0
  clear b8
  go_wp2_with fail
  refine (eq_q _ _ _ z0 (I8_0.out).at (I5_0.out.below (Uw0_8.out) (Nat.le_refl _))).mono ?_
  rintro r w9 ⟨rfl, k9, rfl⟩
  go_wp2_with fail
  refine (copy_q _ _ x0 (A0.out.below (Go.below_drewN (T8.out) k9) (Nat.le_refl _)) (by omega)).mono ?_
  rintro r w10 ⟨v110, rfl, i10, b10⟩
  have s10 : w8.heap.size ≤ w10.heap.size := b10.size
  have Ix0_10 := Lib.hid (((Ix0_8.out).drewN k9).below b10 (Nat.le_refl _))
  have Ix1_10 := Lib.hid (((Ix1_8.out).drewN k9).below b10 (Nat.le_refl _))
  have Ig0_10 := Lib.hid (((I8_0.out).drewN k9).below b10 (Nat.le_refl _))
  have Uw0_10 := Lib.hid (t_chain (Go.below_drewN (Uw0_8.out) k9) b10)
  have T10 := Lib.hid (t_chain (Go.below_drewN (T8.out) k9) b10)
  have I10 := Lib.hid i10
  clear i10 b10
  go_wp2_with fail
  refine (eq_q _ _ _ x0 (Ix0_10.out).at (I10.out).at).mono ?_
  rintro r w11 ⟨rfl, k11, rfl⟩
  go_wp2_with fail
  refine (copy_q _ _ x1 (A1.out.below (Go.below_drewN (T10.out) k11) (Nat.le_refl _)) (by omega)).mono ?_
  rintro r w12 ⟨v112, rfl, i12, b12⟩
  have s12 : w10.heap.size ≤ w12.heap.size := b12.size
  have Ix0_12 := Lib.hid (((Ix0_10.out).drewN k11).below b12 (Nat.le_refl _))
  have Ix1_12 := Lib.hid (((Ix1_10.out).drewN k11).below b12 (Nat.le_refl _))
  have Ig0_12 := Lib.hid (((Ig0_10.out).drewN k11).below b12 (Nat.le_refl _))
  have Uw0_12 := Lib.hid (t_chain (Go.below_drewN (Uw0_10.out) k11) b12)
  have T12 := Lib.hid (t_chain (Go.below_drewN (T10.out) k11) b12)
  have I12 := Lib.hid i12
  clear i12 b12
  go_wp2_with fail
  refine (eq_q _ _ _ x1 (Ix1_12.out).at (I12.out).at).mono ?_
  rintro r w13 ⟨rfl, k13, rfl⟩
  go_wp2_with fail
  refine (mark_q _ _ _ v106 x0 1 ((Ix0_12.out).drewN k13) (by omega) (by omega)).mono ?_
  rintro r w14 ⟨rfl, i14, m14⟩
  have s14 : w14.heap.size = w12.heap.size := m14.size
  have Ix1_14 := Lib.hid (((Ix1_12.out).drewN k13).keep m14 (by omega))
  have Ig0_14 := Lib.hid (((Ig0_12.out).drewN k13).keep m14 (by omega))
  have Ix0_14 := Lib.hid i14
  have Uw0_14 := Lib.hid ((Go.below_drewN (Uw0_12.out) k13).trans (m14.below.mono (by omega)))
  have T14 := Lib.hid ((Go.below_drewN (T12.out) k13).trans (m14.below.mono (by omega)))
  obtain ⟨q14, hq14⟩ : ∃ q : Int, 1 + (totQ x0 : Int) = q := ⟨_, rfl⟩
  rw [hq14]
  have l14 : 0 ≤ q14 := by omega
  have u14 : q14 ≤ 1 + 2000000 := by omega
  have f14 : decide (q14 < 0) = false := decide_eq_false (by omega)
  have e14 : (q14 != q14) = false := by simp
  have HQ14 := Lib.hid hq14
  clear hq14 i14 m14
  go_wp2_with fail
  refine (mark_q _ _ _ v107 x1 q14 (Ix1_14.out) (by omega) (by omega)).mono ?_
  rintro r w15 ⟨rfl, i15, m15⟩
  have s15 : w15.heap.size = w14.heap.size := m15.size
  have Ix0_15 := Lib.hid ((Ix0_14.out).keep m15 (by omega))
  have Ig0_15 := Lib.hid ((Ig0_14.out).keep m15 (by omega))
  have Ix1_15 := Lib.hid i15
  have Uw0_15 := Lib.hid ((Uw0_14.out).trans (m15.below.mono (by omega)))
  have T15 := Lib.hid ((T14.out).trans (m15.below.mono (by omega)))
  obtain ⟨q15, hq15⟩ : ∃ q : Int, q14 + (totQ x1 : Int) = q := ⟨_, rfl⟩
  rw [hq15]
  have l15 : 0 ≤ q15 := by omega
  have u15 : q15 ≤ q14 + 2000000 := by omega
  have f15 : decide (q15 < 0) = false := decide_eq_false (by omega)
  have e15 : (q15 != q15) = false := by simp
  have HQ15 := Lib.hid hq15
  clear hq15 i15 m15
  go_wp2_with fail
  refine (eq_q _ _ _ z0 (Ig0_15.out).at (I5_0.out.below (Uw0_15.out) (Nat.le_refl _))).mono ?_
  rintro r w16 ⟨rfl, k16, rfl⟩
  go_wp2_with fail
  refine (mark_q _ _ _ v8_0 z0 1 ((Ig0_15.out).drewN k16) (by omega) (by omega)).mono ?_
  rintro r w17 ⟨rfl, i17, m17⟩
  have s17 : w17.heap.size = w15.heap.size := m17.size
  have Ix0_17 := Lib.hid (((Ix0_15.out).drewN k16).keep m17 (by omega))
  have Ix1_17 := Lib.hid (((Ix1_15.out).drewN k16).keep m17 (by omega))
  have Ig0_17 := Lib.hid i17
  have Uw0_17 := Lib.hid ((Go.below_drewN (Uw0_15.out) k16).trans (m17.below.mono (by omega)))
  have T17 := Lib.hid ((Go.below_drewN (T15.out) k16).trans (m17.below.mono (by omega)))
  obtain ⟨q17, hq17⟩ : ∃ q : Int, 1 + (totQ z0 : Int) = q := ⟨_, rfl⟩
  rw [hq17]
  have l17 : 0 ≤ q17 := by omega
  have u17 : q17 ≤ 1 + 2000000 := by omega
  have f17 : decide (q17 < 0) = false := decide_eq_false (by omega)
  have e17 : (q17 != q17) = false := by simp
  have HQ17 := Lib.hid hq17
  clear hq17 i17 m17
  go_wp2_with fail
  refine (held_q _ v8_0 1 z0 (Ig0_17.out).at (by omega) (by omega)).mono ?_
  rintro r w18 ⟨rfl, k18, rfl⟩
  rw [HQ17.out]
  go_wp2_with fail
  refine (copy_q _ _ x0 (A0.out.below (Go.below_drewN (T17.out) k18) (Nat.le_refl _)) (by omega)).mono ?_
  rintro r w19 ⟨v119, rfl, i19, b19⟩
  have s19 : w17.heap.size ≤ w19.heap.size := b19.size
  have Ix0_19 := Lib.hid (((Ix0_17.out).drewN k18).below b19 (Nat.le_refl _))
  have Ix1_19 := Lib.hid (((Ix1_17.out).drewN k18).below b19 (Nat.le_refl _))
  have Ig0_19 := Lib.hid (((Ig0_17.out).drewN k18).below b19 (Nat.le_refl _))
  have Uw0_19 := Lib.hid (t_chain (Go.below_drewN (Uw0_17.out) k18) b19)
  have T19 := Lib.hid (t_chain (Go.below_drewN (T17.out) k18) b19)
  have I19 := Lib.hid i19
  clear i19 b19
  go_wp2_with fail
  refine (copy_q _ _ x1 (A1.out.below (T19.out) (Nat.le_refl _)) (by omega)).mono ?_
  rintro r w20 ⟨v120, rfl, i20, b20⟩
  have s20 : w19.heap.size ≤ w20.heap.size := b20.size
  have Ix0_20 := Lib.hid ((Ix0_19.out).below b20 (Nat.le_refl _))
  have Ix1_20 := Lib.hid ((Ix1_19.out).below b20 (Nat.le_refl _))
  have Ig0_20 := Lib.hid ((Ig0_19.out).below b20 (Nat.le_refl _))
  have Ic19_20 := Lib.hid ((I19.out).below b20 (Nat.le_refl _))
  have Uw0_20 := Lib.hid (t_chain (Uw0_19.out) b20)
  have T20 := Lib.hid (t_chain (T19.out) b20)
  have I20 := Lib.hid i20
  clear i20 b20
  go_wp2_with fail
  refine (HI.out _ v119 v120 (Ic19_20.out).at (I20.out).at).mono ?_
  rintro r w21 ⟨v21_0, rfl, i21_0, b21⟩
  have s21 : w20.heap.size ≤ w21.heap.size := b21.size
  have Ix0_21 := Lib.hid ((Ix0_20.out).below b21 (Nat.le_refl _))
  have Ix1_21 := Lib.hid ((Ix1_20.out).below b21 (Nat.le_refl _))
  have Ig0_21 := Lib.hid ((Ig0_20.out).below b21 (Nat.le_refl _))
  have Uw0_21 := Lib.hid (t_chain (Uw0_20.out) b21)
  have T21 := Lib.hid (t_chain (T20.out) b21)
  have I21_0 := Lib.hid i21_0
  clear i21_0
  clear b21
  go_wp2_with fail
  refine (eq_q _ _ _ z0 (I21_0.out).at (I5_0.out.below (Uw0_21.out) (Nat.le_refl _))).mono ?_
  rintro r w22 ⟨rfl, k22, rfl⟩
  go_wp2_with fail
  refine (held_q _ v8_0 1 z0 ((Ig0_21.out).drewN k22).at (by omega) (by omega)).mono ?_
  rintro r w23 ⟨rfl, k23, rfl⟩
  rw [HQ17.out]
  go_wp2
  go_ret
  exact ⟨rfl, Go.below_drewN (T21.out) (k22 + k23)⟩
end Go.Proofs.Ytkonddifmonkcaa
