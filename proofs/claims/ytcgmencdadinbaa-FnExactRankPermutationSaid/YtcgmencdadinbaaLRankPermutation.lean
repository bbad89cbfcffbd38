/- RankPermutation: the law. -/
import Derived.Test.YtcgmencdadinbaaSrk
import Derived.Test.YtcgmencdadinbaaIrk
import Derived.Test.YtcgmencdadinbaaLim
namespace Go.Proofs.Ytcgmencdadinbaa
open Go.RowKit
set_option linter.unusedVariables false

set_option maxRecDepth 100000 in
set_option maxHeartbeats 8000000 in
theorem law_FnExactRankPermutation (a0 : Option Addr) (la0 ca0 : Nat) (za0 : List Int) (w : World) (h0 : IsRow .i64 w a0 la0 ca0 za0) :
    Calls Try.prog 13 #[.slice a0 la0 ca0] w fun r w' => r = .returned (.bool true) ∧ Below w.heap.size w w' := by
  obtain ⟨hat0, hlen0⟩ := h0.at
  have hal0 := h0.all
  by_cases hb0 : 1048576 < la0
  · have t0 : decide ((1048576 : Int) < (la0 : Int)) = true := decide_eq_true (by omega)
    clear h0 hat0 hlen0 hal0
    go_enter Try.func13, Try.ntmps13
    go_wp2
    go_ret
    exact ⟨rfl, Below.refl _ _⟩
  have t0 : decide ((1048576 : Int) < (la0 : Int)) = false := decide_eq_false (by omega)
  obtain ⟨x0, hxs0⟩ : ∃ xs, za0.take la0 = xs := ⟨_, rfl⟩
  rw [hxs0] at hat0 hlen0 hal0
  have sm0 : SmallL x0 := ⟨by omega, hal0⟩
  have A0 := Lib.hid hat0
  have M0 := Lib.hid sm0
  have hl0 := sm0.1
  clear h0 hat0 hal0 hxs0 hlen0 hb0
  have HS := fun W v0 h0 => sRankPermutation x0 M0.out W v0 h0
  have HI := fun W v0 h0 => iRankPermutation x0 M0.out W v0 h0
  obtain ⟨z0, hz0⟩ : ∃ z, RankPermutation_0 x0 = z := ⟨_, rfl⟩
  obtain ⟨z1, hz1⟩ : ∃ z, RankPermutation_1 x0 = z := ⟨_, rfl⟩
  simp only [hz0, hz1] at HS HI
  have HS := Lib.hid HS
  have HI := Lib.hid HI
  clear hz0 hz1
  have tz0 : (z0 != z0) = false := by simp
  have tz1 : (z1 != z1) = false := by simp
  go_enter Try.func13, Try.ntmps13
  go_wp2_with fail
  refine (copy_anyL _ _ x0 (A0.out.below (Below.refl _ _) (Nat.le_refl _)) hl0).mono ?_
  rintro r w1 ⟨v101, rfl, i1, b1⟩
  have s1 : w.heap.size ≤ w1.heap.size := b1.size
  have T1 := Lib.hid (t_chain (Below.refl _ _) b1)
  have I1 := Lib.hid i1
  clear i1 b1
  go_wp2_with fail
  refine (HS.out _ v101 (I1.out).c).mono ?_
  rintro r w2 ⟨rfl, b2⟩
  have s2 : w1.heap.size ≤ w2.heap.size := b2.size
  have T2 := Lib.hid (t_chain (T1.out) b2)
  clear b2
  go_wp2_with fail
  refine (copy_anyL _ _ x0 (A0.out.below (T2.out) (Nat.le_refl _)) hl0).mono ?_
  rintro r w3 ⟨v103, rfl, i3, b3⟩
  have s3 : w2.heap.size ≤ w3.heap.size := b3.size
  have T3 := Lib.hid (t_chain (T2.out) b3)
  have I3 := Lib.hid i3
  clear i3 b3
  go_wp2_with fail
  refine (HI.out _ v103 (I3.out).c).mono ?_
  rintro r w4 ⟨rfl, b4⟩
  have s4 : w3.heap.size ≤ w4.heap.size := b4.size
  have Ix0_4 := Lib.hid ((I3.out).below b4 (Nat.le_refl _))
  have T4 := Lib.hid (t_chain (T3.out) b4)
  clear b4
  go_wp2_with fail
  refine (copy_anyL _ _ x0 (A0.out.below (T4.out) (Nat.le_refl _)) hl0).mono ?_
  rintro r w5 ⟨v105, rfl, i5, b5⟩
  have s5 : w4.heap.size ≤ w5.heap.size := b5.size
  have Ix0_5 := Lib.hid ((Ix0_4.out).below b5 (Nat.le_refl _))
  have T5 := Lib.hid (t_chain (T4.out) b5)
  have I5 := Lib.hid i5
  clear i5 b5
  go_wp2_with fail
  refine (eq_same _ _ _ x0 (Ix0_5.out).at (I5.out).at).mono ?_
  rintro r w6 ⟨rfl, k6, rfl⟩
  go_wp2
  go_ret
  exact ⟨rfl, Go.below_drewN (T5.out) k6⟩
end Go.Proofs.Ytcgmencdadinbaa
