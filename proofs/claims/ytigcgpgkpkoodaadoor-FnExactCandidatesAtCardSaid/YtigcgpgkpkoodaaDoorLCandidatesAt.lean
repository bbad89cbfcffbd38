/- CandidatesAt: the law. -/
import Derived.Test.YtigcgpgkpkoodaaDoorFc
import Derived.Test.YtigcgpgkpkoodaaDoorCai
import Derived.Test.YtigcgpgkpkoodaaDoorLim
import Derived.Test.YtigcgpgkpkoodaaDoorRowk
import Derived.Test.YtigcgpgkpkoodaaDoorRowc
import Derived.Test.YtigcgpgkpkoodaaDoorRowo
namespace Go.Proofs.YtigcgpgkpkoodaaDoor
open Go.RowKit
set_option linter.unusedVariables false

set_option maxRecDepth 100000 in
set_option maxHeartbeats 8000000 in
theorem law_FnExactCandidatesAt (v0 : Value) (x0 : List (List Int)) (x1 : Int) (x2 : Int) (w : World) (h0 : RowsAt w v0 x0) (hx0 : ∀ r ∈ x0, ∀ x ∈ r, I64 x) (wf1 : (Lit.int .i64 x1).wf = true) (wf2 : (Lit.int .i64 x2).wf = true) (ht : Tab w) :
    Calls Tryd.prog 9 #[v0, .int .i64 x1, .int .i64 x2] w fun r w' => r = .returned (.bool true) ∧ Below w.heap.size w w' := by
  have TB := Lib.hid ht
  clear ht
  have bd1 : I64 x1 := I64.of_wf wf1
  have M1 := Lib.hid bd1
  clear wf1 bd1
  have bd2 : I64 x2 := I64.of_wf wf2
  have M2 := Lib.hid bd2
  clear wf2 bd2
  have A0 := Lib.hid h0
  have X0 := Lib.hid hx0
  clear h0 hx0
  go_enter Tryd.func9, Tryd.ntmps9
  go_wp2_with fail
  refine (sz_rows _ v0 x0 1048576 (A0.out.below (Below.refl _ _) (Nat.le_refl _)) (by omega) (by omega)).mono ?_
  rintro r w1 ⟨q1, rfl, hq1, k1, rfl⟩
  by_cases hb0 : q1 < 0
  · have t0 : decide (q1 < 0) = true := decide_eq_true hb0
    go_wp2
    go_ret
    exact ⟨rfl, Go.below_drewN (Below.refl _ _) k1⟩
  have t0 : decide (q1 < 0) = false := decide_eq_false hb0
  have hl0 := (hq1 (by omega)).1
  have hq1 := (hq1 (by omega)).2
  have M0 := Lib.hid (show SmallLL x0 from ⟨by omega, X0.out⟩)
  have HS := fun W v0 h0 => sCandidatesAt x0 x1 x2 M0.out M1.out M2.out W v0 h0
  have HI := fun W v0 h0 ht => iCandidatesAt x0 x1 x2 M0.out M1.out M2.out W v0 h0 ht
  have ln0 := lenCandidatesAt_0 x0 x1 x2 M0.out M1.out M2.out
  obtain ⟨z0, hz0⟩ : ∃ z, CandidatesAt_0 x0 x1 x2 = z := ⟨_, rfl⟩
  rw [hz0] at ln0
  obtain ⟨z1, hz1⟩ : ∃ z, CandidatesAt_1 x0 x1 x2 = z := ⟨_, rfl⟩
  simp only [hz0, hz1] at HS HI
  have HS := Lib.hid HS
  have HI := Lib.hid HI
  clear hz0 hz1
  have tz1 : (z1 != z1) = false := by simp
  go_wp2_with fail
  refine (copy_rows _ _ x0 (A0.out.below (Go.below_drewN (Below.refl _ _) k1) (Nat.le_refl _)) (by omega)).mono ?_
  rintro r w2 ⟨v102, rfl, i2, b2⟩
  have s2 : w.heap.size ≤ w2.heap.size := b2.size
  have T2 := Lib.hid (t_chain (Go.below_drewN (Below.refl _ _) k1) b2)
  have I2 := Lib.hid i2
  clear i2 b2
  go_wp2_with fail
  refine (HS.out _ v102 (I2.out).at).mono ?_
  rintro r w3 ⟨v3_0, rfl, i3_0, b3⟩
  have s3 : w2.heap.size ≤ w3.heap.size := b3.size
  have T3 := Lib.hid (t_chain (T2.out) b3)
  have I3_0 := Lib.hid i3_0
  clear i3_0
  clear b3
  go_wp2_with fail
  refine (copy_rows _ _ x0 (A0.out.below (T3.out) (Nat.le_refl _)) (by omega)).mono ?_
  rintro r w4 ⟨v104, rfl, i4, b4⟩
  have s4 : w3.heap.size ≤ w4.heap.size := b4.size
  have Uw0_4 := Lib.hid (t_chain (Below.refl _ _) b4)
  have T4 := Lib.hid (t_chain (T3.out) b4)
  have I4 := Lib.hid i4
  clear i4 b4
  go_wp2_with fail
  refine (HI.out _ v104 (I4.out).at (TB.out.below (T4.out) TB.out.pos)).mono ?_
  rintro r w5 ⟨v5_0, rfl, i5_0, b5⟩
  have s5 : w4.heap.size ≤ w5.heap.size := b5.size
  have Ix0_5 := Lib.hid ((I4.out).below b5 (Nat.le_refl _))
  have Uw0_5 := Lib.hid (t_chain (Uw0_4.out) b5)
  have T5 := Lib.hid (t_chain (T4.out) b5)
  have I5_0 := Lib.hid i5_0.lim
  clear i5_0
  clear b5
  go_wp2_with fail
  refine (eq_same _ _ _ z0 (I5_0.out).at (I3_0.out.below (Uw0_5.out) (Nat.le_refl _))).mono ?_
  rintro r w6 ⟨rfl, k6, rfl⟩
  go_wp2_with fail
  refine (copy_rows _ _ x0 (A0.out.below (Go.below_drewN (T5.out) k6) (Nat.le_refl _)) (by omega)).mono ?_
  rintro r w7 ⟨v107, rfl, i7, b7⟩
  have s7 : w5.heap.size ≤ w7.heap.size := b7.size
  have Ix0_7 := Lib.hid (((Ix0_5.out).drewN k6).below b7 (Nat.le_refl _))
  have Ig0_7 := Lib.hid (((I5_0.out).drewN k6).below b7 (Nat.le_refl _))
  have Uw0_7 := Lib.hid (t_chain (Go.below_drewN (Uw0_5.out) k6) b7)
  have T7 := Lib.hid (t_chain (Go.below_drewN (T5.out) k6) b7)
  have I7 := Lib.hid i7
  clear i7 b7
  go_wp2_with fail
  refine (eq_rows _ _ _ x0 (Ix0_7.out).at (I7.out).at).mono ?_
  rintro r w8 ⟨rfl, k8, rfl⟩
  go_wp2_with fail
  refine (mark_rows _ _ _ v104 x0 1 ((Ix0_7.out).drewN k8) (by omega) (by omega)).mono ?_
  rintro r w9 ⟨rfl, i9, m9⟩
  have s9 : w9.heap.size = w7.heap.size := m9.size
  have Ig0_9 := Lib.hid (((Ig0_7.out).drewN k8).keep m9 (by omega))
  have Ix0_9 := Lib.hid i9
  have Uw0_9 := Lib.hid ((Go.below_drewN (Uw0_7.out) k8).trans (m9.below.mono (by omega)))
  have T9 := Lib.hid ((Go.below_drewN (T7.out) k8).trans (m9.below.mono (by omega)))
  obtain ⟨q9, hq9⟩ : ∃ q : Int, 1 + (tot x0 : Int) = q := ⟨_, rfl⟩
  rw [hq9]
  have l9 : 0 ≤ q9 := by omega
  have u9 : q9 ≤ 1 + 2000000 := by omega
  have f9 : decide (q9 < 0) = false := decide_eq_false (by omega)
  have e9 : (q9 != q9) = false := by simp
  have HQ9 := Lib.hid hq9
  clear hq9 i9 m9
  go_wp2_with fail
  refine (eq_same _ _ _ z0 (Ig0_9.out).at (I3_0.out.below (Uw0_9.out) (Nat.le_refl _))).mono ?_
  rintro r w10 ⟨rfl, k10, rfl⟩
  go_wp2_with fail
  refine (mark_ownL _ _ _ v5_0 z0 1 ((Ig0_9.out).drewN k10) (by omega) (by omega)).mono ?_
  rintro r w11 ⟨rfl, i11, m11⟩
  have s11 : w11.heap.size = w9.heap.size := m11.size
  have Ix0_11 := Lib.hid (((Ix0_9.out).drewN k10).keep m11 (by omega))
  have Ig0_11 := Lib.hid i11
  have Uw0_11 := Lib.hid ((Go.below_drewN (Uw0_9.out) k10).trans (m11.below.mono (by omega)))
  have T11 := Lib.hid ((Go.below_drewN (T9.out) k10).trans (m11.below.mono (by omega)))
  obtain ⟨q11, hq11⟩ : ∃ q : Int, 1 + (z0.length : Int) = q := ⟨_, rfl⟩
  rw [hq11]
  have l11 : 0 ≤ q11 := by omega
  have u11 : q11 ≤ 1 + 2000000 := by omega
  have f11 : decide (q11 < 0) = false := decide_eq_false (by omega)
  have e11 : (q11 != q11) = false := by simp
  have HQ11 := Lib.hid hq11
  clear hq11 i11 m11
  go_wp2_with fail
  refine (held_marks _ v5_0 1 z0.length (Ig0_11.out).at (by omega) (by omega)).mono ?_
  rintro r w12 ⟨rfl, rfl⟩
  rw [HQ11.out]
  go_wp2_with fail
  refine (copy_rows _ _ x0 (A0.out.below (T11.out) (Nat.le_refl _)) (by omega)).mono ?_
  rintro r w13 ⟨v113, rfl, i13, b13⟩
  have s13 : w11.heap.size ≤ w13.heap.size := b13.size
  have Ix0_13 := Lib.hid ((Ix0_11.out).below b13 (Nat.le_refl _))
  have Ig0_13 := Lib.hid ((Ig0_11.out).below b13 (Nat.le_refl _))
  have Uw0_13 := Lib.hid (t_chain (Uw0_11.out) b13)
  have T13 := Lib.hid (t_chain (T11.out) b13)
  have I13 := Lib.hid i13
  clear i13 b13
  go_wp2_with fail
  refine (HI.out _ v113 (I13.out).at (TB.out.below (T13.out) TB.out.pos)).mono ?_
  rintro r w14 ⟨v14_0, rfl, i14_0, b14⟩
  have s14 : w13.heap.size ≤ w14.heap.size := b14.size
  have Ix0_14 := Lib.hid ((Ix0_13.out).below b14 (Nat.le_refl _))
  have Ig0_14 := Lib.hid ((Ig0_13.out).below b14 (Nat.le_refl _))
  have Uw0_14 := Lib.hid (t_chain (Uw0_13.out) b14)
  have T14 := Lib.hid (t_chain (T13.out) b14)
  have I14_0 := Lib.hid i14_0.lim
  clear i14_0
  clear b14
  go_wp2_with fail
  refine (eq_same _ _ _ z0 (I14_0.out).at (I3_0.out.below (Uw0_14.out) (Nat.le_refl _))).mono ?_
  rintro r w15 ⟨rfl, k15, rfl⟩
  go_wp2_with fail
  refine (held_marks _ v5_0 1 z0.length ((Ig0_14.out).drewN k15).at (by omega) (by omega)).mono ?_
  rintro r w16 ⟨rfl, rfl⟩
  rw [HQ11.out]
  go_wp2
  go_ret
  exact ⟨rfl, Go.below_drewN (T14.out) k15⟩
end Go.Proofs.YtigcgpgkpkoodaaDoor
