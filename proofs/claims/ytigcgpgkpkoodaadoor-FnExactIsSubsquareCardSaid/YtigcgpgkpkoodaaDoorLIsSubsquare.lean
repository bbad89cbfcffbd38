/- IsSubsquare: the law. -/
import Derived.Test.YtigcgpgkpkoodaaDoorIsr
import Derived.Test.YtigcgpgkpkoodaaDoorLim
import Derived.Test.YtigcgpgkpkoodaaDoorRowk
import Derived.Test.YtigcgpgkpkoodaaDoorRowc
import Derived.Test.YtigcgpgkpkoodaaDoorRowo
namespace Go.Proofs.YtigcgpgkpkoodaaDoor
open Go.RowKit
set_option linter.unusedVariables false

set_option maxRecDepth 100000 in
set_option maxHeartbeats 8000000 in
theorem law_FnExactIsSubsquare (v0 : Value) (x0 : List (List Int)) (a1 : Option Addr) (la1 ca1 : Nat) (za1 : List Int) (a2 : Option Addr) (la2 ca2 : Nat) (za2 : List Int) (w : World) (h0 : RowsAt w v0 x0) (hx0 : ∀ r ∈ x0, ∀ x ∈ r, I64 x) (h1 : IsRow .i64 w a1 la1 ca1 za1) (h2 : IsRow .i64 w a2 la2 ca2 za2) (ht : Tab w) :
    Calls Tryd.prog 8 #[v0, .slice a1 la1 ca1, .slice a2 la2 ca2] w fun r w' => r = .returned (.bool true) ∧ Below w.heap.size w w' := by
  have TB := Lib.hid ht
  clear ht
  obtain ⟨hat1, hlen1⟩ := h1.at
  have hal1 := h1.all
  obtain ⟨hat2, hlen2⟩ := h2.at
  have hal2 := h2.all
  by_cases hb1 : 1048576 < la1
  · have t1 : decide ((1048576 : Int) < (la1 : Int)) = true := decide_eq_true (by omega)
    clear h1 hat1 hlen1 hal1 h2 hat2 hlen2 hal2
    go_enter Tryd.func8, Tryd.ntmps8
    go_wp2
    go_ret
    exact ⟨rfl, Below.refl _ _⟩
  have t1 : decide ((1048576 : Int) < (la1 : Int)) = false := decide_eq_false (by omega)
  by_cases hb2 : 1048576 < la2
  · have t2 : decide ((1048576 : Int) < (la2 : Int)) = true := decide_eq_true (by omega)
    clear h1 hat1 hlen1 hal1 h2 hat2 hlen2 hal2
    go_enter Tryd.func8, Tryd.ntmps8
    go_wp2
    go_ret
    exact ⟨rfl, Below.refl _ _⟩
  have t2 : decide ((1048576 : Int) < (la2 : Int)) = false := decide_eq_false (by omega)
  obtain ⟨x1, hxs1⟩ : ∃ xs, za1.take la1 = xs := ⟨_, rfl⟩
  rw [hxs1] at hat1 hlen1 hal1
  have sm1 : SmallL x1 := ⟨by omega, hal1⟩
  have A1 := Lib.hid hat1
  have M1 := Lib.hid sm1
  have hl1 := sm1.1
  clear h1 hat1 hal1 hxs1 hlen1 hb1
  obtain ⟨x2, hxs2⟩ : ∃ xs, za2.take la2 = xs := ⟨_, rfl⟩
  rw [hxs2] at hat2 hlen2 hal2
  have sm2 : SmallL x2 := ⟨by omega, hal2⟩
  have A2 := Lib.hid hat2
  have M2 := Lib.hid sm2
  have hl2 := sm2.1
  clear h2 hat2 hal2 hxs2 hlen2 hb2
  have A0 := Lib.hid h0
  have X0 := Lib.hid hx0
  clear h0 hx0
  go_enter Tryd.func8, Tryd.ntmps8
  go_wp2_with fail
  refine (sz_rows _ v0 x0 1048576 (A0.out.below (Below.refl _ _) (Nat.le_refl _)) (by omega) (by omega)).mono ?_
  rintro r w1 ⟨q1, rfl, hq1, k1, rfl⟩
  by_cases hb0 : q1 < 0
  · have t0 : decide (q1 < 0) = true := decide_eq_true hb0
    go_wp2
    go_ret
    exact ⟨rfl, Go.below_drewN (Below.refl _ _) k1⟩
  have t0 : decide (q1 < 0) = false := decide_eq_false hb0
  have hl0 := (hq1 (by omega)).1
  have hq1 := (hq1 (by omega)).2
  have M0 := Lib.hid (show SmallLL x0 from ⟨by omega, X0.out⟩)
  have HS := fun W v0 v1 v2 h0 h1 h2 => sIsSubsquare x0 x1 x2 M0.out M1.out M2.out W v0 v1 v2 h0 h1 h2
  have HI := fun W v0 v1 v2 h0 h1 h2 ht => iIsSubsquare x0 x1 x2 M0.out M1.out M2.out W v0 v1 v2 h0 h1 h2 ht
  obtain ⟨z0, hz0⟩ : ∃ z, IsSubsquare_0 x0 x1 x2 = z := ⟨_, rfl⟩
  simp only [hz0] at HS HI
  have HS := Lib.hid HS
  have HI := Lib.hid HI
  clear hz0
  have tz0 : (z0 != z0) = false := by simp
  go_wp2_with fail
  refine (copy_rows _ _ x0 (A0.out.below (Go.below_drewN (Below.refl _ _) k1) (Nat.le_refl _)) (by omega)).mono ?_
  rintro r w2 ⟨v102, rfl, i2, b2⟩
  have s2 : w.heap.size ≤ w2.heap.size := b2.size
  have T2 := Lib.hid (t_chain (Go.below_drewN (Below.refl _ _) k1) b2)
  have I2 := Lib.hid i2
  clear i2 b2
  go_wp2_with fail
  refine (copy_anyL _ _ x1 (A1.out.below (T2.out) (Nat.le_refl _)) hl1).mono ?_
  rintro r w3 ⟨v103, rfl, i3, b3⟩
  have s3 : w2.heap.size ≤ w3.heap.size := b3.size
  have Ic2_3 := Lib.hid ((I2.out).below b3 (Nat.le_refl _))
  have T3 := Lib.hid (t_chain (T2.out) b3)
  have I3 := Lib.hid i3
  clear i3 b3
  go_wp2_with fail
  refine (copy_anyL _ _ x2 (A2.out.below (T3.out) (Nat.le_refl _)) hl2).mono ?_
  rintro r w4 ⟨v104, rfl, i4, b4⟩
  have s4 : w3.heap.size ≤ w4.heap.size := b4.size
  have Ic2_4 := Lib.hid ((Ic2_3.out).below b4 (Nat.le_refl _))
  have Ic3_4 := Lib.hid ((I3.out).below b4 (Nat.le_refl _))
  have T4 := Lib.hid (t_chain (T3.out) b4)
  have I4 := Lib.hid i4
  clear i4 b4
  go_wp2_with fail
  refine (HS.out _ v102 v103 v104 (Ic2_4.out).at (Ic3_4.out).c (I4.out).c).mono ?_
  rintro r w5 ⟨rfl, b5⟩
  have s5 : w4.heap.size ≤ w5.heap.size := b5.size
  have T5 := Lib.hid (t_chain (T4.out) b5)
  clear b5
  go_wp2_with fail
  refine (copy_rows _ _ x0 (A0.out.below (T5.out) (Nat.le_refl _)) (by omega)).mono ?_
  rintro r w6 ⟨v106, rfl, i6, b6⟩
  have s6 : w5.heap.size ≤ w6.heap.size := b6.size
  have T6 := Lib.hid (t_chain (T5.out) b6)
  have I6 := Lib.hid i6
  clear i6 b6
  go_wp2_with fail
  refine (copy_anyL _ _ x1 (A1.out.below (T6.out) (Nat.le_refl _)) hl1).mono ?_
  rintro r w7 ⟨v107, rfl, i7, b7⟩
  have s7 : w6.heap.size ≤ w7.heap.size := b7.size
  have Ix0_7 := Lib.hid ((I6.out).below b7 (Nat.le_refl _))
  have T7 := Lib.hid (t_chain (T6.out) b7)
  have I7 := Lib.hid i7
  clear i7 b7
  go_wp2_with fail
  refine (copy_anyL _ _ x2 (A2.out.below (T7.out) (Nat.le_refl _)) hl2).mono ?_
  rintro r w8 ⟨v108, rfl, i8, b8⟩
  have s8 : w7.heap.size ≤ w8.heap.size := b8.size
  have Ix0_8 := Lib.hid ((Ix0_7.out).below b8 (Nat.le_refl _))
  have Ix1_8 := Lib.hid ((I7.out).below b8 (Nat.le_refl _))
  have T8 := Lib.hid (t_chain (T7.out) b8)
  have I8 := Lib.hid i8
  clear i8 b8
  go_wp2_with fail
  refine (HI.out _ v106 v107 v108 (Ix0_8.out).at (Ix1_8.out).c (I8.out).c (TB.out.below (T8.out) TB.out.pos)).mono ?_
  rintro r w9 ⟨rfl, b9⟩
  have s9 : w8.heap.size ≤ w9.heap.size := b9.size
  have Ix0_9 := Lib.hid ((Ix0_8.out).below b9 (Nat.le_refl _))
  have Ix1_9 := Lib.hid ((Ix1_8.out).below b9 (Nat.le_refl _))
  have Ix2_9 := Lib.hid ((I8.out).below b9 (Nat.le_refl _))
  have T9 := Lib.hid (t_chain (T8.out) b9)
  clear b9
  go_wp2_with fail
  refine (copy_rows _ _ x0 (A0.out.below (T9.out) (Nat.le_refl _)) (by omega)).mono ?_
  rintro r w10 ⟨v110, rfl, i10, b10⟩
  have s10 : w9.heap.size ≤ w10.heap.size := b10.size
  have Ix0_10 := Lib.hid ((Ix0_9.out).below b10 (Nat.le_refl _))
  have Ix1_10 := Lib.hid ((Ix1_9.out).below b10 (Nat.le_refl _))
  have Ix2_10 := Lib.hid ((Ix2_9.out).below b10 (Nat.le_refl _))
  have T10 := Lib.hid (t_chain (T9.out) b10)
  have I10 := Lib.hid i10
  clear i10 b10
  go_wp2_with fail
  refine (eq_rows _ _ _ x0 (Ix0_10.out).at (I10.out).at).mono ?_
  rintro r w11 ⟨rfl, k11, rfl⟩
  go_wp2_with fail
  refine (copy_anyL _ _ x1 (A1.out.below (Go.below_drewN (T10.out) k11) (Nat.le_refl _)) hl1).mono ?_
  rintro r w12 ⟨v112, rfl, i12, b12⟩
  have s12 : w10.heap.size ≤ w12.heap.size := b12.size
  have Ix0_12 := Lib.hid (((Ix0_10.out).drewN k11).below b12 (Nat.le_refl _))
  have Ix1_12 := Lib.hid (((Ix1_10.out).drewN k11).below b12 (Nat.le_refl _))
  have Ix2_12 := Lib.hid (((Ix2_10.out).drewN k11).below b12 (Nat.le_refl _))
  have T12 := Lib.hid (t_chain (Go.below_drewN (T10.out) k11) b12)
  have I12 := Lib.hid i12
  clear i12 b12
  go_wp2_with fail
  refine (eq_same _ _ _ x1 (Ix1_12.out).at (I12.out).at).mono ?_
  rintro r w13 ⟨rfl, k13, rfl⟩
  go_wp2_with fail
  refine (copy_anyL _ _ x2 (A2.out.below (Go.below_drewN (T12.out) k13) (Nat.le_refl _)) hl2).mono ?_
  rintro r w14 ⟨v114, rfl, i14, b14⟩
  have s14 : w12.heap.size ≤ w14.heap.size := b14.size
  have Ix0_14 := Lib.hid (((Ix0_12.out).drewN k13).below b14 (Nat.le_refl _))
  have Ix1_14 := Lib.hid (((Ix1_12.out).drewN k13).below b14 (Nat.le_refl _))
  have Ix2_14 := Lib.hid (((Ix2_12.out).drewN k13).below b14 (Nat.le_refl _))
  have T14 := Lib.hid (t_chain (Go.below_drewN (T12.out) k13) b14)
  have I14 := Lib.hid i14
  clear i14 b14
  go_wp2_with fail
  refine (eq_same _ _ _ x2 (Ix2_14.out).at (I14.out).at).mono ?_
  rintro r w15 ⟨rfl, k15, rfl⟩
  go_wp2
  go_ret
  exact ⟨rfl, Go.below_drewN (T14.out) k15⟩
end Go.Proofs.YtigcgpgkpkoodaaDoor
