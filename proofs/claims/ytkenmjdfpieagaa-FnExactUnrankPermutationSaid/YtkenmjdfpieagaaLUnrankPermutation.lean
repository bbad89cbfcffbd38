/- UnrankPermutation: the law. -/
import Derived.Test.YtkenmjdfpieagaaSuf
import Derived.Test.YtkenmjdfpieagaaLim
namespace Go.Proofs.Ytkenmjdfpieagaa
open Go.RowKit
set_option linter.unusedVariables false

set_option maxRecDepth 100000 in
set_option maxHeartbeats 8000000 in
theorem law_FnExactUnrankPermutation (x0 : Int) (x1 : Int) (w : World) (wf0 : (Lit.int .i64 x0).wf = true) (wf1 : (Lit.int .i64 x1).wf = true) :
    Calls Try.prog 7 #[.int .i64 x0, .int .i64 x1] w fun r w' => r = .returned (.bool true) ∧ Below w.heap.size w w' := by
  have bd0 : I64 x0 := I64.of_wf wf0
  have M0 := Lib.hid bd0
  clear wf0 bd0
  have bd1 : I64 x1 := I64.of_wf wf1
  have M1 := Lib.hid bd1
  clear wf1 bd1
  have HS := fun W => sUnrankPermutation x0 x1 M0.out M1.out W
  have HI := fun W => iUnrankPermutation x0 x1 M0.out M1.out W
  have ln0 := lenUnrankPermutation_0 x0 x1 M0.out M1.out
  obtain ⟨z0, hz0⟩ : ∃ z, UnrankPermutation_0 x0 x1 = z := ⟨_, rfl⟩
  rw [hz0] at ln0
  obtain ⟨z1, hz1⟩ : ∃ z, UnrankPermutation_1 x0 x1 = z := ⟨_, rfl⟩
  simp only [hz0, hz1] at HS HI
  have HS := Lib.hid HS
  have HI := Lib.hid HI
  clear hz0 hz1
  have tz1 : (z1 != z1) = false := by simp
  go_enter Try.func7, Try.ntmps7
  go_wp2_with fail
  refine (HS.out _  ).mono ?_
  rintro r w1 ⟨v1_0, rfl, i1_0, b1⟩
  have s1 : w.heap.size ≤ w1.heap.size := b1.size
  have T1 := Lib.hid (t_chain (Below.refl _ _) b1)
  have I1_0 := Lib.hid i1_0
  clear i1_0
  clear b1
  go_wp2_with fail
  refine (HI.out _  ).mono ?_
  rintro r w2 ⟨v2_0, rfl, i2_0, b2⟩
  have s2 : w1.heap.size ≤ w2.heap.size := b2.size
  have Uw0_2 := Lib.hid (t_chain (Below.refl _ _) b2)
  have T2 := Lib.hid (t_chain (T1.out) b2)
  have I2_0 := Lib.hid i2_0.lim
  clear i2_0
  clear b2
  go_wp2_with fail
  refine (eq_same _ _ _ z0 (I2_0.out).at (I1_0.out.below (Uw0_2.out) (Nat.le_refl _))).mono ?_
  rintro r w3 ⟨rfl, k3, rfl⟩
  go_wp2_with fail
  refine (mark_ownL _ _ _ v2_0 z0 1 ((I2_0.out).drewN k3) (by omega) (by omega)).mono ?_
  rintro r w4 ⟨rfl, i4, m4⟩
  have s4 : w4.heap.size = w2.heap.size := m4.size
  have Ig0_4 := Lib.hid i4
  have Uw0_4 := Lib.hid ((Go.below_drewN (Uw0_2.out) k3).trans (m4.below.mono (by omega)))
  have T4 := Lib.hid ((Go.below_drewN (T2.out) k3).trans (m4.below.mono (by omega)))
  obtain ⟨q4, hq4⟩ : ∃ q : Int, 1 + (z0.length : Int) = q := ⟨_, rfl⟩
  rw [hq4]
  have l4 : 0 ≤ q4 := by omega
  have u4 : q4 ≤ 1 + 2000000 := by omega
  have f4 : decide (q4 < 0) = false := decide_eq_false (by omega)
  have e4 : (q4 != q4) = false := by simp
  have HQ4 := Lib.hid hq4
  clear hq4 i4 m4
  go_wp2_with fail
  refine (held_marks _ v2_0 1 z0.length (Ig0_4.out).at (by omega) (by omega)).mono ?_
  rintro r w5 ⟨rfl, rfl⟩
  rw [HQ4.out]
  go_wp2_with fail
  refine (HI.out _  ).mono ?_
  rintro r w6 ⟨v6_0, rfl, i6_0, b6⟩
  have s6 : w4.heap.size ≤ w6.heap.size := b6.size
  have Ig0_6 := Lib.hid ((Ig0_4.out).below b6 (Nat.le_refl _))
  have Uw0_6 := Lib.hid (t_chain (Uw0_4.out) b6)
  have T6 := Lib.hid (t_chain (T4.out) b6)
  have I6_0 := Lib.hid i6_0.lim
  clear i6_0
  clear b6
  go_wp2_with fail
  refine (eq_same _ _ _ z0 (I6_0.out).at (I1_0.out.below (Uw0_6.out) (Nat.le_refl _))).mono ?_
  rintro r w7 ⟨rfl, k7, rfl⟩
  go_wp2_with fail
  refine (held_marks _ v2_0 1 z0.length ((Ig0_6.out).drewN k7).at (by omega) (by omega)).mono ?_
  rintro r w8 ⟨rfl, rfl⟩
  rw [HQ4.out]
  go_wp2
  go_ret
  exact ⟨rfl, Go.below_drewN (T6.out) k7⟩
end Go.Proofs.Ytkenmjdfpieagaa
