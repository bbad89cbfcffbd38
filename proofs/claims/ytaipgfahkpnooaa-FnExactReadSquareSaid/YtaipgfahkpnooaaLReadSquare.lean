/- ReadSquare: the law. -/
import Derived.Test.YtaipgfahkpnooaaRsd
import Derived.Test.YtaipgfahkpnooaaRpi
import Derived.Test.YtaipgfahkpnooaaLim
import Derived.Test.YtaipgfahkpnooaaRowk
import Derived.Test.YtaipgfahkpnooaaRowc
import Derived.Test.YtaipgfahkpnooaaRowo
namespace Go.Proofs.Ytaipgfahkpnooaa
open Go.RowKit
set_option linter.unusedVariables false

set_option maxRecDepth 100000 in
set_option maxHeartbeats 8000000 in
theorem law_FnExactReadSquare (x0 : ByteArray) (w : World) (_ : x0.size ≤ maxLen) :
    Calls Try.prog 8 #[.string x0] w fun r w' => r = .returned (.bool true) ∧ Below w.heap.size w w' := by
  by_cases hb0 : 1048576 < x0.size
  · have t0 : decide ((1048576 : Int) < (x0.size : Int)) = true := decide_eq_true (by omega)
    go_enter Try.func8, Try.ntmps8
    go_wp2
    go_ret
    exact ⟨rfl, Below.refl _ _⟩
  have t0 : decide ((1048576 : Int) < (x0.size : Int)) = false := decide_eq_false (by omega)
  have M0 := Lib.hid (show x0.size ≤ 1048576 by omega)
  clear hb0
  have HS := fun W => sReadSquare x0 M0.out W
  have HI := fun W => iReadSquare x0 M0.out W
  have ln0 := lenReadSquare_0 x0 M0.out
  obtain ⟨z0, hz0⟩ : ∃ z, ReadSquare_0 x0 = z := ⟨_, rfl⟩
  rw [hz0] at ln0
  obtain ⟨z1, hz1⟩ : ∃ z, ReadSquare_1 x0 = z := ⟨_, rfl⟩
  simp only [hz0, hz1] at HS HI
  have HS := Lib.hid HS
  have HI := Lib.hid HI
  clear hz0 hz1
  have tz1 : (z1 != z1) = false := by simp
  go_enter Try.func8, Try.ntmps8
  go_wp2_with fail
  refine (HS.out _  ).mono ?_
  rintro r w1 ⟨v1_0, rfl, i1_0, b1⟩
  have s1 : w.heap.size ≤ w1.heap.size := b1.size
  have T1 := Lib.hid (t_chain (Below.refl _ _) b1)
  have I1_0 := Lib.hid i1_0
  clear i1_0
  clear b1
  go_wp2_with fail
  refine (HI.out _  ).mono ?_
  rintro r w2 ⟨v2_0, rfl, i2_0, b2⟩
  have s2 : w1.heap.size ≤ w2.heap.size := b2.size
  have Uw0_2 := Lib.hid (t_chain (Below.refl _ _) b2)
  have T2 := Lib.hid (t_chain (T1.out) b2)
  have I2_0 := Lib.hid i2_0
  clear i2_0
  clear b2
  go_wp2_with fail
  refine (eq_rows _ _ _ z0 (I2_0.out).at (I1_0.out.below (Uw0_2.out) (Nat.le_refl _))).mono ?_
  rintro r w3 ⟨rfl, k3, rfl⟩
  go_wp2_with fail
  refine (mark_rows _ _ _ v2_0 z0 1 ((I2_0.out).drewN k3) (by omega) (by omega)).mono ?_
  rintro r w4 ⟨rfl, i4, m4⟩
  have s4 : w4.heap.size = w2.heap.size := m4.size
  have Ig0_4 := Lib.hid i4
  have Uw0_4 := Lib.hid ((Go.below_drewN (Uw0_2.out) k3).trans (m4.below.mono (by omega)))
  have T4 := Lib.hid ((Go.below_drewN (T2.out) k3).trans (m4.below.mono (by omega)))
  obtain ⟨q4, hq4⟩ : ∃ q : Int, 1 + (tot z0 : Int) = q := ⟨_, rfl⟩
  rw [hq4]
  have l4 : 0 ≤ q4 := by omega
  have u4 : q4 ≤ 1 + 2000000 := by omega
  have f4 : decide (q4 < 0) = false := decide_eq_false (by omega)
  have e4 : (q4 != q4) = false := by simp
  have HQ4 := Lib.hid hq4
  clear hq4 i4 m4
  go_wp2_with fail
  refine (held_rows _ v2_0 1 z0 (Ig0_4.out).at (by omega) (by omega)).mono ?_
  rintro r w5 ⟨rfl, k5, rfl⟩
  rw [HQ4.out]
  go_wp2_with fail
  refine (HI.out _  ).mono ?_
  rintro r w6 ⟨v6_0, rfl, i6_0, b6⟩
  have s6 : w4.heap.size ≤ w6.heap.size := b6.size
  have Ig0_6 := Lib.hid (((Ig0_4.out).drewN k5).below b6 (Nat.le_refl _))
  have Uw0_6 := Lib.hid (t_chain (Go.below_drewN (Uw0_4.out) k5) b6)
  have T6 := Lib.hid (t_chain (Go.below_drewN (T4.out) k5) b6)
  have I6_0 := Lib.hid i6_0
  clear i6_0
  clear b6
  go_wp2_with fail
  refine (eq_rows _ _ _ z0 (I6_0.out).at (I1_0.out.below (Uw0_6.out) (Nat.le_refl _))).mono ?_
  rintro r w7 ⟨rfl, k7, rfl⟩
  go_wp2_with fail
  refine (held_rows _ v2_0 1 z0 ((Ig0_6.out).drewN k7).at (by omega) (by omega)).mono ?_
  rintro r w8 ⟨rfl, k8, rfl⟩
  rw [HQ4.out]
  go_wp2
  go_ret
  exact ⟨rfl, Go.below_drewN (T6.out) (k7 + k8)⟩
end Go.Proofs.Ytaipgfahkpnooaa
