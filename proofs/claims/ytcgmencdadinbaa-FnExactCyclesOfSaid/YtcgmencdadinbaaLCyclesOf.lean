/- CyclesOf: the law. -/
import Derived.Test.YtcgmencdadinbaaIcl
import Derived.Test.YtcgmencdadinbaaLim
import Derived.Test.YtcgmencdadinbaaRowk
namespace Go.Proofs.Ytcgmencdadinbaa
open Go.RowKit
set_option linter.unusedVariables false

set_option maxRecDepth 100000 in
set_option maxHeartbeats 8000000 in
theorem law_FnExactCyclesOf (a0 : Option Addr) (la0 ca0 : Nat) (za0 : List Int) (w : World) (h0 : IsRow .i64 w a0 la0 ca0 za0) :
    Calls Try.prog 8 #[.slice a0 la0 ca0] w fun r w' => r = .returned (.bool true) ∧ Below w.heap.size w w' := by
  obtain ⟨hat0, hlen0⟩ := h0.at
  have hal0 := h0.all
  by_cases hb0 : 1048576 < la0
  · have t0 : decide ((1048576 : Int) < (la0 : Int)) = true := decide_eq_true (by omega)
    clear h0 hat0 hlen0 hal0
    go_enter Try.func8, Try.ntmps8
    go_wp2
    go_ret
    exact ⟨rfl, Below.refl _ _⟩
  have t0 : decide ((1048576 : Int) < (la0 : Int)) = false := decide_eq_false (by omega)
  obtain ⟨x0, hxs0⟩ : ∃ xs, za0.take la0 = xs := ⟨_, rfl⟩
  rw [hxs0] at hat0 hlen0 hal0
  have sm0 : SmallL x0 := ⟨by omega, hal0⟩
  have A0 := Lib.hid hat0
  have M0 := Lib.hid sm0
  have hl0 := sm0.1
  clear h0 hat0 hal0 hxs0 hlen0 hb0
  have HS := fun W v0 h0 => sCyclesOf x0 M0.out W v0 h0
  have HI := fun W v0 h0 => iCyclesOf x0 M0.out W v0 h0
  have ln0 := lenCyclesOf_0 x0 M0.out
  obtain ⟨z0, hz0⟩ : ∃ z, CyclesOf_0 x0 = z := ⟨_, rfl⟩
  rw [hz0] at ln0
  simp only [hz0] at HS HI
  have HS := Lib.hid HS
  have HI := Lib.hid HI
  clear hz0
  go_enter Try.func8, Try.ntmps8
  go_wp2_with fail
  refine (copy_anyL _ _ x0 (A0.out.below (Below.refl _ _) (Nat.le_refl _)) hl0).mono ?_
  rintro r w1 ⟨v101, rfl, i1, b1⟩
  have s1 : w.heap.size ≤ w1.heap.size := b1.size
  have T1 := Lib.hid (t_chain (Below.refl _ _) b1)
  have I1 := Lib.hid i1
  clear i1 b1
  go_wp2_with fail
  refine (HS.out _ v101 (I1.out).c).mono ?_
  rintro r w2 ⟨v2_0, rfl, i2_0, b2⟩
  have s2 : w1.heap.size ≤ w2.heap.size := b2.size
  have T2 := Lib.hid (t_chain (T1.out) b2)
  have I2_0 := Lib.hid i2_0
  clear i2_0
  clear b2
  go_wp2_with fail
  refine (copy_anyL _ _ x0 (A0.out.below (T2.out) (Nat.le_refl _)) hl0).mono ?_
  rintro r w3 ⟨v103, rfl, i3, b3⟩
  have s3 : w2.heap.size ≤ w3.heap.size := b3.size
  have Uw0_3 := Lib.hid (t_chain (Below.refl _ _) b3)
  have T3 := Lib.hid (t_chain (T2.out) b3)
  have I3 := Lib.hid i3
  clear i3 b3
  go_wp2_with fail
  refine (HI.out _ v103 (I3.out).c).mono ?_
  rintro r w4 ⟨v4_0, rfl, i4_0, b4⟩
  have s4 : w3.heap.size ≤ w4.heap.size := b4.size
  have Ix0_4 := Lib.hid ((I3.out).below b4 (Nat.le_refl _))
  have Uw0_4 := Lib.hid (t_chain (Uw0_3.out) b4)
  have T4 := Lib.hid (t_chain (T3.out) b4)
  have I4_0 := Lib.hid i4_0
  clear i4_0
  clear b4
  go_wp2_with fail
  refine (eq_rows _ _ _ z0 (I4_0.out).at (I2_0.out.below (Uw0_4.out) (Nat.le_refl _))).mono ?_
  rintro r w5 ⟨rfl, k5, rfl⟩
  go_wp2_with fail
  refine (copy_anyL _ _ x0 (A0.out.below (Go.below_drewN (T4.out) k5) (Nat.le_refl _)) hl0).mono ?_
  rintro r w6 ⟨v106, rfl, i6, b6⟩
  have s6 : w4.heap.size ≤ w6.heap.size := b6.size
  have Ix0_6 := Lib.hid (((Ix0_4.out).drewN k5).below b6 (Nat.le_refl _))
  have Ig0_6 := Lib.hid (((I4_0.out).drewN k5).below b6 (Nat.le_refl _))
  have Uw0_6 := Lib.hid (t_chain (Go.below_drewN (Uw0_4.out) k5) b6)
  have T6 := Lib.hid (t_chain (Go.below_drewN (T4.out) k5) b6)
  have I6 := Lib.hid i6
  clear i6 b6
  go_wp2_with fail
  refine (eq_same _ _ _ x0 (Ix0_6.out).at (I6.out).at).mono ?_
  rintro r w7 ⟨rfl, k7, rfl⟩
  go_wp2_with fail
  refine (mark_ownL _ _ _ v103 x0 1 ((Ix0_6.out).drewN k7) (by omega) (by omega)).mono ?_
  rintro r w8 ⟨rfl, i8, m8⟩
  have s8 : w8.heap.size = w6.heap.size := m8.size
  have Ig0_8 := Lib.hid (((Ig0_6.out).drewN k7).keep m8 (by omega))
  have Ix0_8 := Lib.hid i8
  have Uw0_8 := Lib.hid ((Go.below_drewN (Uw0_6.out) k7).trans (m8.below.mono (by omega)))
  have T8 := Lib.hid ((Go.below_drewN (T6.out) k7).trans (m8.below.mono (by omega)))
  obtain ⟨q8, hq8⟩ : ∃ q : Int, 1 + (x0.length : Int) = q := ⟨_, rfl⟩
  rw [hq8]
  have l8 : 0 ≤ q8 := by omega
  have u8 : q8 ≤ 1 + 2000000 := by omega
  have f8 : decide (q8 < 0) = false := decide_eq_false (by omega)
  have e8 : (q8 != q8) = false := by simp
  have HQ8 := Lib.hid hq8
  clear hq8 i8 m8
  go_wp2_with fail
  refine (eq_rows _ _ _ z0 (Ig0_8.out).at (I2_0.out.below (Uw0_8.out) (Nat.le_refl _))).mono ?_
  rintro r w9 ⟨rfl, k9, rfl⟩
  go_wp2_with fail
  refine (mark_rows _ _ _ v4_0 z0 1 ((Ig0_8.out).drewN k9) (by omega) (by omega)).mono ?_
  rintro r w10 ⟨rfl, i10, m10⟩
  have s10 : w10.heap.size = w8.heap.size := m10.size
  have Ix0_10 := Lib.hid (((Ix0_8.out).drewN k9).keep m10 (by omega))
  have Ig0_10 := Lib.hid i10
  have Uw0_10 := Lib.hid ((Go.below_drewN (Uw0_8.out) k9).trans (m10.below.mono (by omega)))
  have T10 := Lib.hid ((Go.below_drewN (T8.out) k9).trans (m10.below.mono (by omega)))
  obtain ⟨q10, hq10⟩ : ∃ q : Int, 1 + (tot z0 : Int) = q := ⟨_, rfl⟩
  rw [hq10]
  have l10 : 0 ≤ q10 := by omega
  have u10 : q10 ≤ 1 + 2000000 := by omega
  have f10 : decide (q10 < 0) = false := decide_eq_false (by omega)
  have e10 : (q10 != q10) = false := by simp
  have HQ10 := Lib.hid hq10
  clear hq10 i10 m10
  go_wp2_with fail
  refine (held_rows _ v4_0 1 z0 (Ig0_10.out).at (by omega) (by omega)).mono ?_
  rintro r w11 ⟨rfl, k11, rfl⟩
  rw [HQ10.out]
  go_wp2_with fail
  refine (copy_anyL _ _ x0 (A0.out.below (Go.below_drewN (T10.out) k11) (Nat.le_refl _)) hl0).mono ?_
  rintro r w12 ⟨v112, rfl, i12, b12⟩
  have s12 : w10.heap.size ≤ w12.heap.size := b12.size
  have Ix0_12 := Lib.hid (((Ix0_10.out).drewN k11).below b12 (Nat.le_refl _))
  have Ig0_12 := Lib.hid (((Ig0_10.out).drewN k11).below b12 (Nat.le_refl _))
  have Uw0_12 := Lib.hid (t_chain (Go.below_drewN (Uw0_10.out) k11) b12)
  have T12 := Lib.hid (t_chain (Go.below_drewN (T10.out) k11) b12)
  have I12 := Lib.hid i12
  clear i12 b12
  go_wp2_with fail
  refine (HI.out _ v112 (I12.out).c).mono ?_
  rintro r w13 ⟨v13_0, rfl, i13_0, b13⟩
  have s13 : w12.heap.size ≤ w13.heap.size := b13.size
  have Ix0_13 := Lib.hid ((Ix0_12.out).below b13 (Nat.le_refl _))
  have Ig0_13 := Lib.hid ((Ig0_12.out).below b13 (Nat.le_refl _))
  have Uw0_13 := Lib.hid (t_chain (Uw0_12.out) b13)
  have T13 := Lib.hid (t_chain (T12.out) b13)
  have I13_0 := Lib.hid i13_0
  clear i13_0
  clear b13
  go_wp2_with fail
  refine (eq_rows _ _ _ z0 (I13_0.out).at (I2_0.out.below (Uw0_13.out) (Nat.le_refl _))).mono ?_
  rintro r w14 ⟨rfl, k14, rfl⟩
  go_wp2_with fail
  refine (held_rows _ v4_0 1 z0 ((Ig0_13.out).drewN k14).at (by omega) (by omega)).mono ?_
  rintro r w15 ⟨rfl, k15, rfl⟩
  rw [HQ10.out]
  go_wp2
  go_ret
  exact ⟨rfl, Go.below_drewN (T13.out) (k14 + k15)⟩
end Go.Proofs.Ytcgmencdadinbaa
