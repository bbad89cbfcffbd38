/- SwitchIntercalate: the law. -/
import Derived.Test.YtodlcjdbpibacaaSws
import Derived.Test.YtodlcjdbpibacaaSwi
import Derived.Test.YtodlcjdbpibacaaLim
import Derived.Test.YtodlcjdbpibacaaRowk
import Derived.Test.YtodlcjdbpibacaaRowc
import Derived.Test.YtodlcjdbpibacaaRowo
namespace Go.Proofs.Ytodlcjdbpibacaa
open Go.RowKit
set_option linter.unusedVariables false

set_option maxRecDepth 100000 in
set_option maxHeartbeats 8000000 in
theorem law_FnExactSwitchIntercalate (v0 : Value) (x0 : List (List Int)) (a1 : Option Addr) (la1 ca1 : Nat) (za1 : List Int) (w : World) (h0 : RowsAt w v0 x0) (hx0 : ∀ r ∈ x0, ∀ x ∈ r, I64 x) (h1 : IsRow .i64 w a1 la1 ca1 za1) :
    Calls Try.prog 3 #[v0, .slice a1 la1 ca1] w fun r w' => r = .returned (.bool true) ∧ Below w.heap.size w w' := by
  obtain ⟨hat1, hlen1⟩ := h1.at
  have hal1 := h1.all
  by_cases hb1 : 1048576 < la1
  · have t1 : decide ((1048576 : Int) < (la1 : Int)) = true := decide_eq_true (by omega)
    clear h1 hat1 hlen1 hal1
    go_enter Try.func3, Try.ntmps3
    go_wp2
    go_ret
    exact ⟨rfl, Below.refl _ _⟩
  have t1 : decide ((1048576 : Int) < (la1 : Int)) = false := decide_eq_false (by omega)
  obtain ⟨x1, hxs1⟩ : ∃ xs, za1.take la1 = xs := ⟨_, rfl⟩
  rw [hxs1] at hat1 hlen1 hal1
  have sm1 : SmallL x1 := ⟨by omega, hal1⟩
  have A1 := Lib.hid hat1
  have M1 := Lib.hid sm1
  have hl1 := sm1.1
  clear h1 hat1 hal1 hxs1 hlen1 hb1
  have A0 := Lib.hid h0
  have X0 := Lib.hid hx0
  clear h0 hx0
  go_enter Try.func3, Try.ntmps3
  go_wp2_with fail
  refine (sz_rows _ v0 x0 1048576 (A0.out.below (Below.refl _ _) (Nat.le_refl _)) (by omega) (by omega)).mono ?_
  rintro r w1 ⟨q1, rfl, hq1, k1, rfl⟩
  by_cases hb0 : q1 < 0
  · have t0 : decide (q1 < 0) = true := decide_eq_true hb0
    go_wp2
    go_ret
    exact ⟨rfl, Go.below_drewN (Below.refl _ _) k1⟩
  have t0 : decide (q1 < 0) = false := decide_eq_false hb0
  have hl0 := (hq1 (by omega)).1
  have hq1 := (hq1 (by omega)).2
  have M0 := Lib.hid (show SmallLL x0 from ⟨by omega, X0.out⟩)
  have HS := fun W v0 v1 h0 h1 => sSwitchIntercalate x0 x1 M0.out M1.out W v0 v1 h0 h1
  have HI := fun W v0 v1 h0 h1 => iSwitchIntercalate x0 x1 M0.out M1.out W v0 v1 h0 h1
  have ln0 := lenSwitchIntercalate_0 x0 x1 M0.out M1.out
  obtain ⟨z0, hz0⟩ : ∃ z, SwitchIntercalate_0 x0 x1 = z := ⟨_, rfl⟩
  rw [hz0] at ln0
  obtain ⟨z1, hz1⟩ : ∃ z, SwitchIntercalate_1 x0 x1 = z := ⟨_, rfl⟩
  simp only [hz0, hz1] at HS HI
  have HS := Lib.hid HS
  have HI := Lib.hid HI
  clear hz0 hz1
  have tz1 : (z1 != z1) = false := by simp
  go_wp2_with fail
  refine (copy_rows _ _ x0 (A0.out.below (Go.below_drewN (Below.refl _ _) k1) (Nat.le_refl _)) (by omega)).mono ?_
  rintro r w2 ⟨v102, rfl, i2, b2⟩
  have s2 : w.heap.size ≤ w2.heap.size := b2.size
  have T2 := Lib.hid (t_chain (Go.below_drewN (Below.refl _ _) k1) b2)
  have I2 := Lib.hid i2
  clear i2 b2
  go_wp2_with fail
  refine (copy_anyL _ _ x1 (A1.out.below (T2.out) (Nat.le_refl _)) hl1).mono ?_
  rintro r w3 ⟨v103, rfl, i3, b3⟩
  have s3 : w2.heap.size ≤ w3.heap.size := b3.size
  have Ic2_3 := Lib.hid ((I2.out).below b3 (Nat.le_refl _))
  have T3 := Lib.hid (t_chain (T2.out) b3)
  have I3 := Lib.hid i3
  clear i3 b3
  go_wp2_with fail
  refine (HS.out _ v102 v103 (Ic2_3.out).at ⟨_, (I3.out).1⟩).mono ?_
  rintro r w4 ⟨v4_0, rfl, i4_0, b4⟩
  have s4 : w3.heap.size ≤ w4.heap.size := b4.size
  have T4 := Lib.hid (t_chain (T3.out) b4)
  have I4_0 := Lib.hid i4_0
  clear i4_0
  clear b4
  go_wp2_with fail
  refine (copy_rows _ _ x0 (A0.out.below (T4.out) (Nat.le_refl _)) (by omega)).mono ?_
  rintro r w5 ⟨v105, rfl, i5, b5⟩
  have s5 : w4.heap.size ≤ w5.heap.size := b5.size
  have Uw0_5 := Lib.hid (t_chain (Below.refl _ _) b5)
  have T5 := Lib.hid (t_chain (T4.out) b5)
  have I5 := Lib.hid i5
  clear i5 b5
  go_wp2_with fail
  refine (copy_anyL _ _ x1 (A1.out.below (T5.out) (Nat.le_refl _)) hl1).mono ?_
  rintro r w6 ⟨v106, rfl, i6, b6⟩
  have s6 : w5.heap.size ≤ w6.heap.size := b6.size
  have Ix0_6 := Lib.hid ((I5.out).below b6 (Nat.le_refl _))
  have Uw0_6 := Lib.hid (t_chain (Uw0_5.out) b6)
  have T6 := Lib.hid (t_chain (T5.out) b6)
  have I6 := Lib.hid i6
  clear i6 b6
  go_wp2_with fail
  refine (HI.out _ v105 v106 (Ix0_6.out).at ⟨_, (I6.out).1⟩).mono ?_
  rintro r w7 ⟨v7_0, rfl, i7_0, b7⟩
  have s7 : w6.heap.size ≤ w7.heap.size := b7.size
  have Ix0_7 := Lib.hid ((Ix0_6.out).below b7 (Nat.le_refl _))
  have Ix1_7 := Lib.hid ((I6.out).below b7 (Nat.le_refl _))
  have Uw0_7 := Lib.hid (t_chain (Uw0_6.out) b7)
  have T7 := Lib.hid (t_chain (T6.out) b7)
  have I7_0 := Lib.hid i7_0
  clear i7_0
  clear b7
  go_wp2_with fail
  refine (eq_rows _ _ _ z0 (I7_0.out).at (I4_0.out.below (Uw0_7.out) (Nat.le_refl _))).mono ?_
  rintro r w8 ⟨rfl, k8, rfl⟩
  go_wp2_with fail
  refine (copy_rows _ _ x0 (A0.out.below (Go.below_drewN (T7.out) k8) (Nat.le_refl _)) (by omega)).mono ?_
  rintro r w9 ⟨v109, rfl, i9, b9⟩
  have s9 : w7.heap.size ≤ w9.heap.size := b9.size
  have Ix0_9 := Lib.hid (((Ix0_7.out).drewN k8).below b9 (Nat.le_refl _))
  have Ix1_9 := Lib.hid (((Ix1_7.out).drewN k8).below b9 (Nat.le_refl _))
  have Ig0_9 := Lib.hid (((I7_0.out).drewN k8).below b9 (Nat.le_refl _))
  have Uw0_9 := Lib.hid (t_chain (Go.below_drewN (Uw0_7.out) k8) b9)
  have T9 := Lib.hid (t_chain (Go.below_drewN (T7.out) k8) b9)
  have I9 := Lib.hid i9
  clear i9 b9
  go_wp2_with fail
  refine (eq_rows _ _ _ x0 (Ix0_9.out).at (I9.out).at).mono ?_
  rintro r w10 ⟨rfl, k10, rfl⟩
  go_wp2_with fail
  refine (copy_anyL _ _ x1 (A1.out.below (Go.below_drewN (T9.out) k10) (Nat.le_refl _)) hl1).mono ?_
  rintro r w11 ⟨v111, rfl, i11, b11⟩
  have s11 : w9.heap.size ≤ w11.heap.size := b11.size
  have Ix0_11 := Lib.hid (((Ix0_9.out).drewN k10).below b11 (Nat.le_refl _))
  have Ix1_11 := Lib.hid (((Ix1_9.out).drewN k10).below b11 (Nat.le_refl _))
  have Ig0_11 := Lib.hid (((Ig0_9.out).drewN k10).below b11 (Nat.le_refl _))
  have Uw0_11 := Lib.hid (t_chain (Go.below_drewN (Uw0_9.out) k10) b11)
  have T11 := Lib.hid (t_chain (Go.below_drewN (T9.out) k10) b11)
  have I11 := Lib.hid i11
  clear i11 b11
  go_wp2_with fail
  refine (eq_same _ _ _ x1 (Ix1_11.out).at (I11.out).at).mono ?_
  rintro r w12 ⟨rfl, k12, rfl⟩
  go_wp2_with fail
  refine (mark_rows _ _ _ v105 x0 1 ((Ix0_11.out).drewN k12) (by omega) (by omega)).mono ?_
  rintro r w13 ⟨rfl, i13, m13⟩
  have s13 : w13.heap.size = w11.heap.size := m13.size
  have Ix1_13 := Lib.hid (((Ix1_11.out).drewN k12).keep m13 (by omega))
  have Ig0_13 := Lib.hid (((Ig0_11.out).drewN k12).keep m13 (by omega))
  have Ix0_13 := Lib.hid i13
  have Uw0_13 := Lib.hid ((Go.below_drewN (Uw0_11.out) k12).trans (m13.below.mono (by omega)))
  have T13 := Lib.hid ((Go.below_drewN (T11.out) k12).trans (m13.below.mono (by omega)))
  obtain ⟨q13, hq13⟩ : ∃ q : Int, 1 + (tot x0 : Int) = q := ⟨_, rfl⟩
  rw [hq13]
  have l13 : 0 ≤ q13 := by omega
  have u13 : q13 ≤ 1 + 2000000 := by omega
  have f13 : decide (q13 < 0) = false := decide_eq_false (by omega)
  have e13 : (q13 != q13) = false := by simp
  have HQ13 := Lib.hid hq13
  clear hq13 i13 m13
  go_wp2_with fail
  refine (mark_ownL _ _ _ v106 x1 q13 (Ix1_13.out) (by omega) (by omega)).mono ?_
  rintro r w14 ⟨rfl, i14, m14⟩
  have s14 : w14.heap.size = w13.heap.size := m14.size
  have Ix0_14 := Lib.hid ((Ix0_13.out).keep m14 (by omega))
  have Ig0_14 := Lib.hid ((Ig0_13.out).keep m14 (by omega))
  have Ix1_14 := Lib.hid i14
  have Uw0_14 := Lib.hid ((Uw0_13.out).trans (m14.below.mono (by omega)))
  have T14 := Lib.hid ((T13.out).trans (m14.below.mono (by omega)))
  obtain ⟨q14, hq14⟩ : ∃ q : Int, q13 + (x1.length : Int) = q := ⟨_, rfl⟩
  rw [hq14]
  have l14 : 0 ≤ q14 := by omega
  have u14 : q14 ≤ q13 + 2000000 := by omega
  have f14 : decide (q14 < 0) = false := decide_eq_false (by omega)
  have e14 : (q14 != q14) = false := by simp
  have HQ14 := Lib.hid hq14
  clear hq14 i14 m14
  go_wp2_with fail
  refine (eq_rows _ _ _ z0 (Ig0_14.out).at (I4_0.out.below (Uw0_14.out) (Nat.le_refl _))).mono ?_
  rintro r w15 ⟨rfl, k15, rfl⟩
  go_wp2_with fail
  refine (mark_rows _ _ _ v7_0 z0 1 ((Ig0_14.out).drewN k15) (by omega) (by omega)).mono ?_
  rintro r w16 ⟨rfl, i16, m16⟩
  have s16 : w16.heap.size = w14.heap.size := m16.size
  have Ix0_16 := Lib.hid (((Ix0_14.out).drewN k15).keep m16 (by omega))
  have Ix1_16 := Lib.hid (((Ix1_14.out).drewN k15).keep m16 (by omega))
  have Ig0_16 := Lib.hid i16
  have Uw0_16 := Lib.hid ((Go.below_drewN (Uw0_14.out) k15).trans (m16.below.mono (by omega)))
  have T16 := Lib.hid ((Go.below_drewN (T14.out) k15).trans (m16.below.mono (by omega)))
  obtain ⟨q16, hq16⟩ : ∃ q : Int, 1 + (tot z0 : Int) = q := ⟨_, rfl⟩
  rw [hq16]
  have l16 : 0 ≤ q16 := by omega
  have u16 : q16 ≤ 1 + 2000000 := by omega
  have f16 : decide (q16 < 0) = false := decide_eq_false (by omega)
  have e16 : (q16 != q16) = false := by simp
  have HQ16 := Lib.hid hq16
  clear hq16 i16 m16
  go_wp2_with fail
  refine (held_rows _ v7_0 1 z0 (Ig0_16.out).at (by omega) (by omega)).mono ?_
  rintro r w17 ⟨rfl, k17, rfl⟩
  rw [HQ16.out]
  go_wp2_with fail
  refine (copy_rows _ _ x0 (A0.out.below (Go.below_drewN (T16.out) k17) (Nat.le_refl _)) (by omega)).mono ?_
  rintro r w18 ⟨v118, rfl, i18, b18⟩
  have s18 : w16.heap.size ≤ w18.heap.size := b18.size
  have Ix0_18 := Lib.hid (((Ix0_16.out).drewN k17).below b18 (Nat.le_refl _))
  have Ix1_18 := Lib.hid (((Ix1_16.out).drewN k17).below b18 (Nat.le_refl _))
  have Ig0_18 := Lib.hid (((Ig0_16.out).drewN k17).below b18 (Nat.le_refl _))
  have Uw0_18 := Lib.hid (t_chain (Go.below_drewN (Uw0_16.out) k17) b18)
  have T18 := Lib.hid (t_chain (Go.below_drewN (T16.out) k17) b18)
  have I18 := Lib.hid i18
  clear i18 b18
  go_wp2_with fail
  refine (copy_anyL _ _ x1 (A1.out.below (T18.out) (Nat.le_refl _)) hl1).mono ?_
  rintro r w19 ⟨v119, rfl, i19, b19⟩
  have s19 : w18.heap.size ≤ w19.heap.size := b19.size
  have Ix0_19 := Lib.hid ((Ix0_18.out).below b19 (Nat.le_refl _))
  have Ix1_19 := Lib.hid ((Ix1_18.out).below b19 (Nat.le_refl _))
  have Ig0_19 := Lib.hid ((Ig0_18.out).below b19 (Nat.le_refl _))
  have Ic18_19 := Lib.hid ((I18.out).below b19 (Nat.le_refl _))
  have Uw0_19 := Lib.hid (t_chain (Uw0_18.out) b19)
  have T19 := Lib.hid (t_chain (T18.out) b19)
  have I19 := Lib.hid i19
  clear i19 b19
  go_wp2_with fail
  refine (HI.out _ v118 v119 (Ic18_19.out).at ⟨_, (I19.out).1⟩).mono ?_
  rintro r w20 ⟨v20_0, rfl, i20_0, b20⟩
  have s20 : w19.heap.size ≤ w20.heap.size := b20.size
  have Ix0_20 := Lib.hid ((Ix0_19.out).below b20 (Nat.le_refl _))
  have Ix1_20 := Lib.hid ((Ix1_19.out).below b20 (Nat.le_refl _))
  have Ig0_20 := Lib.hid ((Ig0_19.out).below b20 (Nat.le_refl _))
  have Uw0_20 := Lib.hid (t_chain (Uw0_19.out) b20)
  have T20 := Lib.hid (t_chain (T19.out) b20)
  have I20_0 := Lib.hid i20_0
  clear i20_0
  clear b20
  go_wp2_with fail
  refine (eq_rows _ _ _ z0 (I20_0.out).at (I4_0.out.below (Uw0_20.out) (Nat.le_refl _))).mono ?_
  rintro r w21 ⟨rfl, k21, rfl⟩
  go_wp2_with fail
  refine (held_rows _ v7_0 1 z0 ((Ig0_20.out).drewN k21).at (by omega) (by omega)).mono ?_
  rintro r w22 ⟨rfl, k22, rfl⟩
  rw [HQ16.out]
  go_wp2
  go_ret
  exact ⟨rfl, Go.below_drewN (T20.out) (k21 + k22)⟩
end Go.Proofs.Ytodlcjdbpibacaa
