/- ApplySet: the law. -/
import Derived.Test.YtigcgpgkpkoodaaDoorPr
import Derived.Test.YtigcgpgkpkoodaaDoorIas
import Derived.Test.YtigcgpgkpkoodaaDoorLim
namespace Go.Proofs.YtigcgpgkpkoodaaDoor
open Go.RowKit
set_option linter.unusedVariables false

set_option maxRecDepth 100000 in
set_option maxHeartbeats 8000000 in
theorem law_FnExactApplySet (a0 : Option Addr) (la0 ca0 : Nat) (za0 : List Int) (a1 : Option Addr) (la1 ca1 : Nat) (za1 : List Int) (w : World) (h0 : IsRow .i64 w a0 la0 ca0 za0) (h1 : IsRow .i64 w a1 la1 ca1 za1) (ht : Tab w) :
    Calls Tryd.prog 7 #[.slice a0 la0 ca0, .slice a1 la1 ca1] w fun r w' => r = .returned (.bool true) ∧ Below w.heap.size w w' := by
  have TB := Lib.hid ht
  clear ht
  obtain ⟨hat0, hlen0⟩ := h0.at
  have hal0 := h0.all
  obtain ⟨hat1, hlen1⟩ := h1.at
  have hal1 := h1.all
  by_cases hb0 : 1048576 < la0
  · have t0 : decide ((1048576 : Int) < (la0 : Int)) = true := decide_eq_true (by omega)
    clear h0 hat0 hlen0 hal0 h1 hat1 hlen1 hal1
    go_enter Tryd.func7, Tryd.ntmps7
    go_wp2
    go_ret
    exact ⟨rfl, Below.refl _ _⟩
  have t0 : decide ((1048576 : Int) < (la0 : Int)) = false := decide_eq_false (by omega)
  by_cases hb1 : 1048576 < la1
  · have t1 : decide ((1048576 : Int) < (la1 : Int)) = true := decide_eq_true (by omega)
    clear h0 hat0 hlen0 hal0 h1 hat1 hlen1 hal1
    go_enter Tryd.func7, Tryd.ntmps7
    go_wp2
    go_ret
    exact ⟨rfl, Below.refl _ _⟩
  have t1 : decide ((1048576 : Int) < (la1 : Int)) = false := decide_eq_false (by omega)
  obtain ⟨x0, hxs0⟩ : ∃ xs, za0.take la0 = xs := ⟨_, rfl⟩
  rw [hxs0] at hat0 hlen0 hal0
  have sm0 : SmallL x0 := ⟨by omega, hal0⟩
  have A0 := Lib.hid hat0
  have M0 := Lib.hid sm0
  have hl0 := sm0.1
  clear h0 hat0 hal0 hxs0 hlen0 hb0
  obtain ⟨x1, hxs1⟩ : ∃ xs, za1.take la1 = xs := ⟨_, rfl⟩
  rw [hxs1] at hat1 hlen1 hal1
  have sm1 : SmallL x1 := ⟨by omega, hal1⟩
  have A1 := Lib.hid hat1
  have M1 := Lib.hid sm1
  have hl1 := sm1.1
  clear h1 hat1 hal1 hxs1 hlen1 hb1
  have HS := fun W v0 v1 h0 h1 => sApplySet x0 x1 M0.out M1.out W v0 v1 h0 h1
  have HI := fun W v0 v1 h0 h1 ht => iApplySet x0 x1 M0.out M1.out W v0 v1 h0 h1 ht
  have ln0 := lenApplySet_0 x0 x1 M0.out M1.out
  obtain ⟨z0, hz0⟩ : ∃ z, ApplySet_0 x0 x1 = z := ⟨_, rfl⟩
  rw [hz0] at ln0
  obtain ⟨z1, hz1⟩ : ∃ z, ApplySet_1 x0 x1 = z := ⟨_, rfl⟩
  simp only [hz0, hz1] at HS HI
  have HS := Lib.hid HS
  have HI := Lib.hid HI
  clear hz0 hz1
  have tz1 : (z1 != z1) = false := by simp
  go_enter Tryd.func7, Tryd.ntmps7
  go_wp2_with fail
  refine (copy_anyL _ _ x0 (A0.out.below (Below.refl _ _) (Nat.le_refl _)) hl0).mono ?_
  rintro r w1 ⟨v101, rfl, i1, b1⟩
  have s1 : w.heap.size ≤ w1.heap.size := b1.size
  have T1 := Lib.hid (t_chain (Below.refl _ _) b1)
  have I1 := Lib.hid i1
  clear i1 b1
  go_wp2_with fail
  refine (copy_anyL _ _ x1 (A1.out.below (T1.out) (Nat.le_refl _)) hl1).mono ?_
  rintro r w2 ⟨v102, rfl, i2, b2⟩
  have s2 : w1.heap.size ≤ w2.heap.size := b2.size
  have Ic1_2 := Lib.hid ((I1.out).below b2 (Nat.le_refl _))
  have T2 := Lib.hid (t_chain (T1.out) b2)
  have I2 := Lib.hid i2
  clear i2 b2
  go_wp2_with fail
  refine (HS.out _ v101 v102 (Ic1_2.out).c (I2.out).c).mono ?_
  rintro r w3 ⟨v3_0, rfl, i3_0, b3⟩
  have s3 : w2.heap.size ≤ w3.heap.size := b3.size
  have T3 := Lib.hid (t_chain (T2.out) b3)
  have I3_0 := Lib.hid i3_0
  clear i3_0
  clear b3
  go_wp2_with fail
  refine (copy_anyL _ _ x0 (A0.out.below (T3.out) (Nat.le_refl _)) hl0).mono ?_
  rintro r w4 ⟨v104, rfl, i4, b4⟩
  have s4 : w3.heap.size ≤ w4.heap.size := b4.size
  have Uw0_4 := Lib.hid (t_chain (Below.refl _ _) b4)
  have T4 := Lib.hid (t_chain (T3.out) b4)
  have I4 := Lib.hid i4
  clear i4 b4
  go_wp2_with fail
  refine (copy_anyL _ _ x1 (A1.out.below (T4.out) (Nat.le_refl _)) hl1).mono ?_
  rintro r w5 ⟨v105, rfl, i5, b5⟩
  have s5 : w4.heap.size ≤ w5.heap.size := b5.size
  have Ix0_5 := Lib.hid ((I4.out).below b5 (Nat.le_refl _))
  have Uw0_5 := Lib.hid (t_chain (Uw0_4.out) b5)
  have T5 := Lib.hid (t_chain (T4.out) b5)
  have I5 := Lib.hid i5
  clear i5 b5
  go_wp2_with fail
  refine (HI.out _ v104 v105 (Ix0_5.out).c (I5.out).c (TB.out.below (T5.out) TB.out.pos)).mono ?_
  rintro r w6 ⟨v6_0, rfl, i6_0, b6⟩
  have s6 : w5.heap.size ≤ w6.heap.size := b6.size
  have Ix0_6 := Lib.hid ((Ix0_5.out).below b6 (Nat.le_refl _))
  have Ix1_6 := Lib.hid ((I5.out).below b6 (Nat.le_refl _))
  have Uw0_6 := Lib.hid (t_chain (Uw0_5.out) b6)
  have T6 := Lib.hid (t_chain (T5.out) b6)
  have I6_0 := Lib.hid i6_0.lim
  clear i6_0
  clear b6
  go_wp2_with fail
  refine (eq_same _ _ _ z0 (I6_0.out).at (I3_0.out.below (Uw0_6.out) (Nat.le_refl _))).mono ?_
  rintro r w7 ⟨rfl, k7, rfl⟩
  go_wp2_with fail
  refine (copy_anyL _ _ x0 (A0.out.below (Go.below_drewN (T6.out) k7) (Nat.le_refl _)) hl0).mono ?_
  rintro r w8 ⟨v108, rfl, i8, b8⟩
  have s8 : w6.heap.size ≤ w8.heap.size := b8.size
  have Ix0_8 := Lib.hid (((Ix0_6.out).drewN k7).below b8 (Nat.le_refl _))
  have Ix1_8 := Lib.hid (((Ix1_6.out).drewN k7).below b8 (Nat.le_refl _))
  have Ig0_8 := Lib.hid (((I6_0.out).drewN k7).below b8 (Nat.le_refl _))
  have Uw0_8 := Lib.hid (t_chain (Go.below_drewN (Uw0_6.out) k7) b8)
  have T8 := Lib.hid (t_chain (Go.below_drewN (T6.out) k7) b8)
  have I8 := Lib.hid i8
  clear i8 b8
  go_wp2_with fail
  refine (eq_same _ _ _ x0 (Ix0_8.out).at (I8.out).at).mono ?_
  rintro r w9 ⟨rfl, k9, rfl⟩
  go_wp2_with fail
  refine (copy_anyL _ _ x1 (A1.out.below (Go.below_drewN (T8.out) k9) (Nat.le_refl _)) hl1).mono ?_
  rintro r w10 ⟨v110, rfl, i10, b10⟩
  have s10 : w8.heap.size ≤ w10.heap.size := b10.size
  have Ix0_10 := Lib.hid (((Ix0_8.out).drewN k9).below b10 (Nat.le_refl _))
  have Ix1_10 := Lib.hid (((Ix1_8.out).drewN k9).below b10 (Nat.le_refl _))
  have Ig0_10 := Lib.hid (((Ig0_8.out).drewN k9).below b10 (Nat.le_refl _))
  have Uw0_10 := Lib.hid (t_chain (Go.below_drewN (Uw0_8.out) k9) b10)
  have T10 := Lib.hid (t_chain (Go.below_drewN (T8.out) k9) b10)
  have I10 := Lib.hid i10
  clear i10 b10
  go_wp2_with fail
  refine (eq_same _ _ _ x1 (Ix1_10.out).at (I10.out).at).mono ?_
  rintro r w11 ⟨rfl, k11, rfl⟩
  go_wp2_with fail
  refine (mark_ownL _ _ _ v104 x0 1 ((Ix0_10.out).drewN k11) (by omega) (by omega)).mono ?_
  rintro r w12 ⟨rfl, i12, m12⟩
  have s12 : w12.heap.size = w10.heap.size := m12.size
  have Ix1_12 := Lib.hid (((Ix1_10.out).drewN k11).keep m12 (by omega))
  have Ig0_12 := Lib.hid (((Ig0_10.out).drewN k11).keep m12 (by omega))
  have Ix0_12 := Lib.hid i12
  have Uw0_12 := Lib.hid ((Go.below_drewN (Uw0_10.out) k11).trans (m12.below.mono (by omega)))
  have T12 := Lib.hid ((Go.below_drewN (T10.out) k11).trans (m12.below.mono (by omega)))
  obtain ⟨q12, hq12⟩ : ∃ q : Int, 1 + (x0.length : Int) = q := ⟨_, rfl⟩
  rw [hq12]
  have l12 : 0 ≤ q12 := by omega
  have u12 : q12 ≤ 1 + 2000000 := by omega
  have f12 : decide (q12 < 0) = false := decide_eq_false (by omega)
  have e12 : (q12 != q12) = false := by simp
  have HQ12 := Lib.hid hq12
  clear hq12 i12 m12
  go_wp2_with fail
  refine (mark_ownL _ _ _ v105 x1 q12 (Ix1_12.out) (by omega) (by omega)).mono ?_
  rintro r w13 ⟨rfl, i13, m13⟩
  have s13 : w13.heap.size = w12.heap.size := m13.size
  have Ix0_13 := Lib.hid ((Ix0_12.out).keep m13 (by omega))
  have Ig0_13 := Lib.hid ((Ig0_12.out).keep m13 (by omega))
  have Ix1_13 := Lib.hid i13
  have Uw0_13 := Lib.hid ((Uw0_12.out).trans (m13.below.mono (by omega)))
  have T13 := Lib.hid ((T12.out).trans (m13.below.mono (by omega)))
  obtain ⟨q13, hq13⟩ : ∃ q : Int, q12 + (x1.length : Int) = q := ⟨_, rfl⟩
  rw [hq13]
  have l13 : 0 ≤ q13 := by omega
  have u13 : q13 ≤ q12 + 2000000 := by omega
  have f13 : decide (q13 < 0) = false := decide_eq_false (by omega)
  have e13 : (q13 != q13) = false := by simp
  have HQ13 := Lib.hid hq13
  clear hq13 i13 m13
  go_wp2_with fail
  refine (eq_same _ _ _ z0 (Ig0_13.out).at (I3_0.out.below (Uw0_13.out) (Nat.le_refl _))).mono ?_
  rintro r w14 ⟨rfl, k14, rfl⟩
  go_wp2_with fail
  refine (mark_ownL _ _ _ v6_0 z0 1 ((Ig0_13.out).drewN k14) (by omega) (by omega)).mono ?_
  rintro r w15 ⟨rfl, i15, m15⟩
  have s15 : w15.heap.size = w13.heap.size := m15.size
  have Ix0_15 := Lib.hid (((Ix0_13.out).drewN k14).keep m15 (by omega))
  have Ix1_15 := Lib.hid (((Ix1_13.out).drewN k14).keep m15 (by omega))
  have Ig0_15 := Lib.hid i15
  have Uw0_15 := Lib.hid ((Go.below_drewN (Uw0_13.out) k14).trans (m15.below.mono (by omega)))
  have T15 := Lib.hid ((Go.below_drewN (T13.out) k14).trans (m15.below.mono (by omega)))
  obtain ⟨q15, hq15⟩ : ∃ q : Int, 1 + (z0.length : Int) = q := ⟨_, rfl⟩
  rw [hq15]
  have l15 : 0 ≤ q15 := by omega
  have u15 : q15 ≤ 1 + 2000000 := by omega
  have f15 : decide (q15 < 0) = false := decide_eq_false (by omega)
  have e15 : (q15 != q15) = false := by simp
  have HQ15 := Lib.hid hq15
  clear hq15 i15 m15
  go_wp2_with fail
  refine (held_marks _ v6_0 1 z0.length (Ig0_15.out).at (by omega) (by omega)).mono ?_
  rintro r w16 ⟨rfl, rfl⟩
  rw [HQ15.out]
  go_wp2_with fail
  refine (copy_anyL _ _ x0 (A0.out.below (T15.out) (Nat.le_refl _)) hl0).mono ?_
  rintro r w17 ⟨v117, rfl, i17, b17⟩
  have s17 : w15.heap.size ≤ w17.heap.size := b17.size
  have Ix0_17 := Lib.hid ((Ix0_15.out).below b17 (Nat.le_refl _))
  have Ix1_17 := Lib.hid ((Ix1_15.out).below b17 (Nat.le_refl _))
  have Ig0_17 := Lib.hid ((Ig0_15.out).below b17 (Nat.le_refl _))
  have Uw0_17 := Lib.hid (t_chain (Uw0_15.out) b17)
  have T17 := Lib.hid (t_chain (T15.out) b17)
  have I17 := Lib.hid i17
  clear i17 b17
  go_wp2_with fail
  refine (copy_anyL _ _ x1 (A1.out.below (T17.out) (Nat.le_refl _)) hl1).mono ?_
  rintro r w18 ⟨v118, rfl, i18, b18⟩
  have s18 : w17.heap.size ≤ w18.heap.size := b18.size
  have Ix0_18 := Lib.hid ((Ix0_17.out).below b18 (Nat.le_refl _))
  have Ix1_18 := Lib.hid ((Ix1_17.out).below b18 (Nat.le_refl _))
  have Ig0_18 := Lib.hid ((Ig0_17.out).below b18 (Nat.le_refl _))
  have Ic17_18 := Lib.hid ((I17.out).below b18 (Nat.le_refl _))
  have Uw0_18 := Lib.hid (t_chain (Uw0_17.out) b18)
  have T18 := Lib.hid (t_chain (T17.out) b18)
  have I18 := Lib.hid i18
  clear i18 b18
  go_wp2_with fail
  refine (HI.out _ v117 v118 (Ic17_18.out).c (I18.out).c (TB.out.below (T18.out) TB.out.pos)).mono ?_
  rintro r w19 ⟨v19_0, rfl, i19_0, b19⟩
  have s19 : w18.heap.size ≤ w19.heap.size := b19.size
  have Ix0_19 := Lib.hid ((Ix0_18.out).below b19 (Nat.le_refl _))
  have Ix1_19 := Lib.hid ((Ix1_18.out).below b19 (Nat.le_refl _))
  have Ig0_19 := Lib.hid ((Ig0_18.out).below b19 (Nat.le_refl _))
  have Uw0_19 := Lib.hid (t_chain (Uw0_18.out) b19)
  have T19 := Lib.hid (t_chain (T18.out) b19)
  have I19_0 := Lib.hid i19_0.lim
  clear i19_0
  clear b19
  go_wp2_with fail
  refine (eq_same _ _ _ z0 (I19_0.out).at (I3_0.out.below (Uw0_19.out) (Nat.le_refl _))).mono ?_
  rintro r w20 ⟨rfl, k20, rfl⟩
  go_wp2_with fail
  refine (held_marks _ v6_0 1 z0.length ((Ig0_19.out).drewN k20).at (by omega) (by omega)).mono ?_
  rintro r w21 ⟨rfl, rfl⟩
  rw [HQ15.out]
  go_wp2
  go_ret
  exact ⟨rfl, Go.below_drewN (T19.out) k20⟩
end Go.Proofs.YtigcgpgkpkoodaaDoor
