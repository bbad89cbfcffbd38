/- IsTransversal: the law. -/
import Derived.Test.YtkonddifmonkcaaTrs
import Derived.Test.YtkonddifmonkcaaTri
import Derived.Test.YtkonddifmonkcaaLim
import Derived.Test.YtkonddifmonkcaaRowk
import Derived.Test.YtkonddifmonkcaaRowc
import Derived.Test.YtkonddifmonkcaaRowo
namespace Go.Proofs.Ytkonddifmonkcaa
open Go.RowKit
set_option linter.unusedVariables false

set_option maxRecDepth 100000 in
set_option maxHeartbeats 8000000 in
theorem law_FnExactIsTransversal (v0 : Value) (x0 : List (List Int)) (a1 : Option Addr) (la1 ca1 : Nat) (za1 : List Int) (w : World) (h0 : RowsAt w v0 x0) (hx0 : ∀ r ∈ x0, ∀ x ∈ r, I64 x) (h1 : IsRow .i64 w a1 la1 ca1 za1) :
    Calls Try.prog 7 #[v0, .slice a1 la1 ca1] w fun r w' => r = .returned (.bool true) ∧ Below w.heap.size w w' := by
  obtain ⟨hat1, hlen1⟩ := h1.at
  have hal1 := h1.all
  by_cases hb1 : 1048576 < la1
  · have t1 : decide ((1048576 : Int) < (la1 : Int)) = true := decide_eq_true (by omega)
    clear h1 hat1 hlen1 hal1
    go_enter Try.func7, Try.ntmps7
    go_wp2
    go_ret
    exact ⟨rfl, Below.refl _ _⟩
  have t1 : decide ((1048576 : Int) < (la1 : Int)) = false := decide_eq_false (by omega)
  obtain ⟨x1, hxs1⟩ : ∃ xs, za1.take la1 = xs := ⟨_, rfl⟩
  rw [hxs1] at hat1 hlen1 hal1
  have sm1 : SmallL x1 := ⟨by omega, hal1⟩
  have A1 := Lib.hid hat1
  have M1 := Lib.hid sm1
  have hl1 := sm1.1
  clear h1 hat1 hal1 hxs1 hlen1 hb1
  have A0 := Lib.hid h0
  have X0 := Lib.hid hx0
  clear h0 hx0
  go_enter Try.func7, Try.ntmps7
  go_wp2_with fail
  refine (sz_rows _ v0 x0 1048576 (A0.out.below (Below.refl _ _) (Nat.le_refl _)) (by omega) (by omega)).mono ?_
  rintro r w1 ⟨q1, rfl, hq1, k1, rfl⟩
  by_cases hb0 : q1 < 0
  · have t0 : decide (q1 < 0) = true := decide_eq_true hb0
    go_wp2
    go_ret
    exact ⟨rfl, Go.below_drewN (Below.refl _ _) k1⟩
  have t0 : decide (q1 < 0) = false := decide_eq_false hb0
  have hl0 := (hq1 (by omega)).1
  have hq1 := (hq1 (by omega)).2
  have M0 := Lib.hid (show SmallLL x0 from ⟨by omega, X0.out⟩)
  have HS := fun W v0 v1 h0 h1 => sIsTransversal x0 x1 M0.out M1.out W v0 v1 h0 h1
  have HI := fun W v0 v1 h0 h1 => iIsTransversal x0 x1 M0.out M1.out W v0 v1 h0 h1
  obtain ⟨z0, hz0⟩ : ∃ z, IsTransversal_0 x0 x1 = z := ⟨_, rfl⟩
  simp only [hz0] at HS HI
  have HS := Lib.hid HS
  have HI := Lib.hid HI
  clear hz0
  have tz0 : (z0 != z0) = false := by simp
  go_wp2_with fail
  refine (copy_rows _ _ x0 (A0.out.below (Go.below_drewN (Below.refl _ _) k1) (Nat.le_refl _)) (by omega)).mono ?_
  rintro r w2 ⟨v102, rfl, i2, b2⟩
  have s2 : w.heap.size ≤ w2.heap.size := b2.size
  have T2 := Lib.hid (t_chain (Go.below_drewN (Below.refl _ _) k1) b2)
  have I2 := Lib.hid i2
  clear i2 b2
  go_wp2_with fail
  refine (copy_anyL _ _ x1 (A1.out.below (T2.out) (Nat.le_refl _)) hl1).mono ?_
  rintro r w3 ⟨v103, rfl, i3, b3⟩
  have s3 : w2.heap.size ≤ w3.heap.size := b3.size
  have Ic2_3 := Lib.hid ((I2.out).below b3 (Nat.le_refl _))
  have T3 := Lib.hid (t_chain (T2.out) b3)
  have I3 := Lib.hid i3
  clear i3 b3
  go_wp2_with fail
  refine (HS.out _ v102 v103 (Ic2_3.out).at (I3.out).c).mono ?_
  rintro r w4 ⟨rfl, b4⟩
  have s4 : w3.heap.size ≤ w4.heap.size := b4.size
  have T4 := Lib.hid (t_chain (T3.out) b4)
  clear b4
  go_wp2_with fail
  refine (copy_rows _ _ x0 (A0.out.below (T4.out) (Nat.le_refl _)) (by omega)).mono ?_
  rintro r w5 ⟨v105, rfl, i5, b5⟩
  have s5 : w4.heap.size ≤ w5.heap.size := b5.size
  have T5 := Lib.hid (t_chain (T4.out) b5)
  have I5 := Lib.hid i5
  clear i5 b5
  go_wp2_with fail
  refine (copy_anyL _ _ x1 (A1.out.below (T5.out) (Nat.le_refl _)) hl1).mono ?_
  rintro r w6 ⟨v106, rfl, i6, b6⟩
  have s6 : w5.heap.size ≤ w6.heap.size := b6.size
  have Ix0_6 := Lib.hid ((I5.out).below b6 (Nat.le_refl _))
  have T6 := Lib.hid (t_chain (T5.out) b6)
  have I6 := Lib.hid i6
  clear i6 b6
  go_wp2_with fail
  refine (HI.out _ v105 v106 (Ix0_6.out).at (I6.out).c).mono ?_
  rintro r w7 ⟨rfl, b7⟩
  have s7 : w6.heap.size ≤ w7.heap.size := b7.size
  have Ix0_7 := Lib.hid ((Ix0_6.out).below b7 (Nat.le_refl _))
  have Ix1_7 := Lib.hid ((I6.out).below b7 (Nat.le_refl _))
  have T7 := Lib.hid (t_chain (T6.out) b7)
  clear b7
  go_wp2_with fail
  refine (copy_rows _ _ x0 (A0.out.below (T7.out) (Nat.le_refl _)) (by omega)).mono ?_
  rintro r w8 ⟨v108, rfl, i8, b8⟩
  have s8 : w7.heap.size ≤ w8.heap.size := b8.size
  have Ix0_8 := Lib.hid ((Ix0_7.out).below b8 (Nat.le_refl _))
  have Ix1_8 := Lib.hid ((Ix1_7.out).below b8 (Nat.le_refl _))
  have T8 := Lib.hid (t_chain (T7.out) b8)
  have I8 := Lib.hid i8
  clear i8 b8
  go_wp2_with fail
  refine (eq_rows _ _ _ x0 (Ix0_8.out).at (I8.out).at).mono ?_
  rintro r w9 ⟨rfl, k9, rfl⟩
  go_wp2_with fail
  refine (copy_anyL _ _ x1 (A1.out.below (Go.below_drewN (T8.out) k9) (Nat.le_refl _)) hl1).mono ?_
  rintro r w10 ⟨v110, rfl, i10, b10⟩
  have s10 : w8.heap.size ≤ w10.heap.size := b10.size
  have Ix0_10 := Lib.hid (((Ix0_8.out).drewN k9).below b10 (Nat.le_refl _))
  have Ix1_10 := Lib.hid (((Ix1_8.out).drewN k9).below b10 (Nat.le_refl _))
  have T10 := Lib.hid (t_chain (Go.below_drewN (T8.out) k9) b10)
  have I10 := Lib.hid i10
  clear i10 b10
  go_wp2_with fail
  refine (eq_same _ _ _ x1 (Ix1_10.out).at (I10.out).at).mono ?_
  rintro r w11 ⟨rfl, k11, rfl⟩
  go_wp2
  go_ret
  exact ⟨rfl, Go.below_drewN (T10.out) k11⟩
end Go.Proofs.Ytkonddifmonkcaa
