/- Isotope: the law. -/
import Derived.Test.YtkbkaphgieimoaaIsi
import Derived.Test.YtkbkaphgieimoaaLim
import Derived.Test.YtkbkaphgieimoaaRowk
import Derived.Test.YtkbkaphgieimoaaRowc
import Derived.Test.YtkbkaphgieimoaaRowo
namespace Go.Proofs.Ytkbkaphgieimoaa
open Go.RowKit
set_option linter.unusedVariables false

set_option maxRecDepth 100000 in
set_option maxHeartbeats 8000000 in
theorem law_FnExactIsotope (v0 : Value) (x0 : List (List Int)) (a1 : Option Addr) (la1 ca1 : Nat) (za1 : List Int) (a2 : Option Addr) (la2 ca2 : Nat) (za2 : List Int) (a3 : Option Addr) (la3 ca3 : Nat) (za3 : List Int) (w : World) (h0 : RowsAt w v0 x0) (hx0 : ∀ r ∈ x0, ∀ x ∈ r, I64 x) (h1 : IsRow .i64 w a1 la1 ca1 za1) (h2 : IsRow .i64 w a2 la2 ca2 za2) (h3 : IsRow .i64 w a3 la3 ca3 za3) :
    Calls Try.prog 10 #[v0, .slice a1 la1 ca1, .slice a2 la2 ca2, .slice a3 la3 ca3] w fun r w' => r = .returned (.bool true) ∧ Below w.heap.size w w' := by
  obtain ⟨hat1, hlen1⟩ := h1.at
  have hal1 := h1.all
  obtain ⟨hat2, hlen2⟩ := h2.at
  have hal2 := h2.all
  obtain ⟨hat3, hlen3⟩ := h3.at
  have hal3 := h3.all
  by_cases hb1 : 1048576 < la1
  · have t1 : decide ((1048576 : Int) < (la1 : Int)) = true := decide_eq_true (by omega)
    clear h1 hat1 hlen1 hal1 h2 hat2 hlen2 hal2 h3 hat3 hlen3 hal3
    go_enter Try.func10, Try.ntmps10
    go_wp2
    go_ret
    exact ⟨rfl, Below.refl _ _⟩
  have t1 : decide ((1048576 : Int) < (la1 : Int)) = false := decide_eq_false (by omega)
  by_cases hb2 : 1048576 < la2
  · have t2 : decide ((1048576 : Int) < (la2 : Int)) = true := decide_eq_true (by omega)
    clear h1 hat1 hlen1 hal1 h2 hat2 hlen2 hal2 h3 hat3 hlen3 hal3
    go_enter Try.func10, Try.ntmps10
    go_wp2
    go_ret
    exact ⟨rfl, Below.refl _ _⟩
  have t2 : decide ((1048576 : Int) < (la2 : Int)) = false := decide_eq_false (by omega)
  by_cases hb3 : 1048576 < la3
  · have t3 : decide ((1048576 : Int) < (la3 : Int)) = true := decide_eq_true (by omega)
    clear h1 hat1 hlen1 hal1 h2 hat2 hlen2 hal2 h3 hat3 hlen3 hal3
    go_enter Try.func10, Try.ntmps10
    go_wp2
    go_ret
    exact ⟨rfl, Below.refl _ _⟩
  have t3 : decide ((1048576 : Int) < (la3 : Int)) = false := decide_eq_false (by omega)
  obtain ⟨x1, hxs1⟩ : ∃ xs, za1.take la1 = xs := ⟨_, rfl⟩
  rw [hxs1] at hat1 hlen1 hal1
  have sm1 : SmallL x1 := ⟨by omega, hal1⟩
  have A1 := Lib.hid hat1
  have M1 := Lib.hid sm1
  have hl1 := sm1.1
  clear h1 hat1 hal1 hxs1 hlen1 hb1
  obtain ⟨x2, hxs2⟩ : ∃ xs, za2.take la2 = xs := ⟨_, rfl⟩
  rw [hxs2] at hat2 hlen2 hal2
  have sm2 : SmallL x2 := ⟨by omega, hal2⟩
  have A2 := Lib.hid hat2
  have M2 := Lib.hid sm2
  have hl2 := sm2.1
  clear h2 hat2 hal2 hxs2 hlen2 hb2
  obtain ⟨x3, hxs3⟩ : ∃ xs, za3.take la3 = xs := ⟨_, rfl⟩
  rw [hxs3] at hat3 hlen3 hal3
  have sm3 : SmallL x3 := ⟨by omega, hal3⟩
  have A3 := Lib.hid hat3
  have M3 := Lib.hid sm3
  have hl3 := sm3.1
  clear h3 hat3 hal3 hxs3 hlen3 hb3
  have A0 := Lib.hid h0
  have X0 := Lib.hid hx0
  clear h0 hx0
  go_enter Try.func10, Try.ntmps10
  go_wp2_with fail
  refine (sz_rows _ v0 x0 1048576 (A0.out.below (Below.refl _ _) (Nat.le_refl _)) (by omega) (by omega)).mono ?_
  rintro r w1 ⟨q1, rfl, hq1, k1, rfl⟩
  by_cases hb0 : q1 < 0
  · have t0 : decide (q1 < 0) = true := decide_eq_true hb0
    go_wp2
    go_ret
    exact ⟨rfl, Go.below_drewN (Below.refl _ _) k1⟩
  have t0 : decide (q1 < 0) = false := decide_eq_false hb0
  have hl0 := (hq1 (by omega)).1
  have hq1 := (hq1 (by omega)).2
  have M0 := Lib.hid (show SmallLL x0 from ⟨by omega, X0.out⟩)
  have HS := fun W v0 v1 v2 v3 h0 h1 h2 h3 => sIsotope x0 x1 x2 x3 M0.out M1.out M2.out M3.out W v0 v1 v2 v3 h0 h1 h2 h3
  have HI := fun W v0 v1 v2 v3 h0 h1 h2 h3 => iIsotope x0 x1 x2 x3 M0.out M1.out M2.out M3.out W v0 v1 v2 v3 h0 h1 h2 h3
  have ln0 := lenIsotope_0 x0 x1 x2 x3 M0.out M1.out M2.out M3.out
  obtain ⟨z0, hz0⟩ : ∃ z, Isotope_0 x0 x1 x2 x3 = z := ⟨_, rfl⟩
  rw [hz0] at ln0
  obtain ⟨z1, hz1⟩ : ∃ z, Isotope_1 x0 x1 x2 x3 = z := ⟨_, rfl⟩
  simp only [hz0, hz1] at HS HI
  have HS := Lib.hid HS
  have HI := Lib.hid HI
  clear hz0 hz1
  have tz1 : (z1 != z1) = false := by simp
  go_wp2_with fail
  refine (copy_rows _ _ x0 (A0.out.below (Go.below_drewN (Below.refl _ _) k1) (Nat.le_refl _)) (by omega)).mono ?_
  rintro r w2 ⟨v102, rfl, i2, b2⟩
  have s2 : w.heap.size ≤ w2.heap.size := b2.size
  have T2 := Lib.hid (t_chain (Go.below_drewN (Below.refl _ _) k1) b2)
  have I2 := Lib.hid i2
  clear i2 b2
  go_wp2_with fail
  refine (copy_anyL _ _ x1 (A1.out.below (T2.out) (Nat.le_refl _)) hl1).mono ?_
  rintro r w3 ⟨v103, rfl, i3, b3⟩
  have s3 : w2.heap.size ≤ w3.heap.size := b3.size
  have Ic2_3 := Lib.hid ((I2.out).below b3 (Nat.le_refl _))
  have T3 := Lib.hid (t_chain (T2.out) b3)
  have I3 := Lib.hid i3
  clear i3 b3
  go_wp2_with fail
  refine (copy_anyL _ _ x2 (A2.out.below (T3.out) (Nat.le_refl _)) hl2).mono ?_
  rintro r w4 ⟨v104, rfl, i4, b4⟩
  have s4 : w3.heap.size ≤ w4.heap.size := b4.size
  have Ic2_4 := Lib.hid ((Ic2_3.out).below b4 (Nat.le_refl _))
  have Ic3_4 := Lib.hid ((I3.out).below b4 (Nat.le_refl _))
  have T4 := Lib.hid (t_chain (T3.out) b4)
  have I4 := Lib.hid i4
  clear i4 b4
  go_wp2_with fail
  refine (copy_anyL _ _ x3 (A3.out.below (T4.out) (Nat.le_refl _)) hl3).mono ?_
  rintro r w5 ⟨v105, rfl, i5, b5⟩
  have s5 : w4.heap.size ≤ w5.heap.size := b5.size
  have Ic2_5 := Lib.hid ((Ic2_4.out).below b5 (Nat.le_refl _))
  have Ic3_5 := Lib.hid ((Ic3_4.out).below b5 (Nat.le_refl _))
  have Ic4_5 := Lib.hid ((I4.out).below b5 (Nat.le_refl _))
  have T5 := Lib.hid (t_chain (T4.out) b5)
  have I5 := Lib.hid i5
  clear i5 b5
  go_wp2_with fail
  refine (HS.out _ v102 v103 v104 v105 (Ic2_5.out).at (Ic3_5.out).c (Ic4_5.out).c (I5.out).c).mono ?_
  rintro r w6 ⟨v6_0, rfl, i6_0, b6⟩
  have s6 : w5.heap.size ≤ w6.heap.size := b6.size
  have T6 := Lib.hid (t_chain (T5.out) b6)
  have I6_0 := Lib.hid i6_0
  clear i6_0
  clear b6
  go_wp2_with fail
  refine (copy_rows _ _ x0 (A0.out.below (T6.out) (Nat.le_refl _)) (by omega)).mono ?_
  rintro r w7 ⟨v107, rfl, i7, b7⟩
  have s7 : w6.heap.size ≤ w7.heap.size := b7.size
  have Uw0_7 := Lib.hid (t_chain (Below.refl _ _) b7)
  have T7 := Lib.hid (t_chain (T6.out) b7)
  have I7 := Lib.hid i7
  clear i7 b7
  go_wp2_with fail
  refine (copy_anyL _ _ x1 (A1.out.below (T7.out) (Nat.le_refl _)) hl1).mono ?_
  rintro r w8 ⟨v108, rfl, i8, b8⟩
  have s8 : w7.heap.size ≤ w8.heap.size := b8.size
  have Ix0_8 := Lib.hid ((I7.out).below b8 (Nat.le_refl _))
  have Uw0_8 := Lib.hid (t_chain (Uw0_7.out) b8)
  have T8 := Lib.hid (t_chain (T7.out) b8)
  have I8 := Lib.hid i8
  clear i8 b8
  go_wp2_with fail
  refine (copy_anyL _ _ x2 (A2.out.below (T8.out) (Nat.le_refl _)) hl2).mono ?_
  rintro r w9 ⟨v109, rfl, i9, b9⟩
  have s9 : w8.heap.size ≤ w9.heap.size := b9.size
  have Ix0_9 := Lib.hid ((Ix0_8.out).below b9 (Nat.le_refl _))
  have Ix1_9 := Lib.hid ((I8.out).below b9 (Nat.le_refl _))
  have Uw0_9 := Lib.hid (t_chain (Uw0_8.out) b9)
  have T9 := Lib.hid (t_chain (T8.out) b9)
  have I9 := Lib.hid i9
  clear i9 b9
  go_wp2_with fail
  refine (copy_anyL _ _ x3 (A3.out.below (T9.out) (Nat.le_refl _)) hl3).mono ?_
  rintro r w10 ⟨v110, rfl, i10, b10⟩
  have s10 : w9.heap.size ≤ w10.heap.size := b10.size
  have Ix0_10 := Lib.hid ((Ix0_9.out).below b10 (Nat.le_refl _))
  have Ix1_10 := Lib.hid ((Ix1_9.out).below b10 (Nat.le_refl _))
  have Ix2_10 := Lib.hid ((I9.out).below b10 (Nat.le_refl _))
  have Uw0_10 := Lib.hid (t_chain (Uw0_9.out) b10)
  have T10 := Lib.hid (t_chain (T9.out) b10)
  have I10 := Lib.hid i10
  clear i10 b10
  go_wp2_with fail
  refine (HI.out _ v107 v108 v109 v110 (Ix0_10.out).at (Ix1_10.out).c (Ix2_10.out).c (I10.out).c).mono ?_
  rintro r w11 ⟨v11_0, rfl, i11_0, b11⟩
  have s11 : w10.heap.size ≤ w11.heap.size := b11.size
  have Ix0_11 := Lib.hid ((Ix0_10.out).below b11 (Nat.le_refl _))
  have Ix1_11 := Lib.hid ((Ix1_10.out).below b11 (Nat.le_refl _))
  have Ix2_11 := Lib.hid ((Ix2_10.out).below b11 (Nat.le_refl _))
  have Ix3_11 := Lib.hid ((I10.out).below b11 (Nat.le_refl _))
  have Uw0_11 := Lib.hid (t_chain (Uw0_10.out) b11)
  have T11 := Lib.hid (t_chain (T10.out) b11)
  have I11_0 := Lib.hid i11_0
  clear i11_0
  clear b11
  go_wp2_with fail
  refine (eq_rows _ _ _ z0 (I11_0.out).at (I6_0.out.below (Uw0_11.out) (Nat.le_refl _))).mono ?_
  rintro r w12 ⟨rfl, k12, rfl⟩
  go_wp2_with fail
  refine (copy_rows _ _ x0 (A0.out.below (Go.below_drewN (T11.out) k12) (Nat.le_refl _)) (by omega)).mono ?_
  rintro r w13 ⟨v113, rfl, i13, b13⟩
  have s13 : w11.heap.size ≤ w13.heap.size := b13.size
  have Ix0_13 := Lib.hid (((Ix0_11.out).drewN k12).below b13 (Nat.le_refl _))
  have Ix1_13 := Lib.hid (((Ix1_11.out).drewN k12).below b13 (Nat.le_refl _))
  have Ix2_13 := Lib.hid (((Ix2_11.out).drewN k12).below b13 (Nat.le_refl _))
  have Ix3_13 := Lib.hid (((Ix3_11.out).drewN k12).below b13 (Nat.le_refl _))
  have Ig0_13 := Lib.hid (((I11_0.out).drewN k12).below b13 (Nat.le_refl _))
  have Uw0_13 := Lib.hid (t_chain (Go.below_drewN (Uw0_11.out) k12) b13)
  have T13 := Lib.hid (t_chain (Go.below_drewN (T11.out) k12) b13)
  have I13 := Lib.hid i13
  clear i13 b13
  go_wp2_with fail
  refine (eq_rows _ _ _ x0 (Ix0_13.out).at (I13.out).at).mono ?_
  rintro r w14 ⟨rfl, k14, rfl⟩
  go_wp2_with fail
  refine (copy_anyL _ _ x1 (A1.out.below (Go.below_drewN (T13.out) k14) (Nat.le_refl _)) hl1).mono ?_
  rintro r w15 ⟨v115, rfl, i15, b15⟩
  have s15 : w13.heap.size ≤ w15.heap.size := b15.size
  have Ix0_15 := Lib.hid (((Ix0_13.out).drewN k14).below b15 (Nat.le_refl _))
  have Ix1_15 := Lib.hid (((Ix1_13.out).drewN k14).below b15 (Nat.le_refl _))
  have Ix2_15 := Lib.hid (((Ix2_13.out).drewN k14).below b15 (Nat.le_refl _))
  have Ix3_15 := Lib.hid (((Ix3_13.out).drewN k14).below b15 (Nat.le_refl _))
  have Ig0_15 := Lib.hid (((Ig0_13.out).drewN k14).below b15 (Nat.le_refl _))
  have Uw0_15 := Lib.hid (t_chain (Go.below_drewN (Uw0_13.out) k14) b15)
  have T15 := Lib.hid (t_chain (Go.below_drewN (T13.out) k14) b15)
  have I15 := Lib.hid i15
  clear i15 b15
  go_wp2_with fail
  refine (eq_same _ _ _ x1 (Ix1_15.out).at (I15.out).at).mono ?_
  rintro r w16 ⟨rfl, k16, rfl⟩
  go_wp2_with fail
  refine (copy_anyL _ _ x2 (A2.out.below (Go.below_drewN (T15.out) k16) (Nat.le_refl _)) hl2).mono ?_
  rintro r w17 ⟨v117, rfl, i17, b17⟩
  have s17 : w15.heap.size ≤ w17.heap.size := b17.size
  have Ix0_17 := Lib.hid (((Ix0_15.out).drewN k16).below b17 (Nat.le_refl _))
  have Ix1_17 := Lib.hid (((Ix1_15.out).drewN k16).below b17 (Nat.le_refl _))
  have Ix2_17 := Lib.hid (((Ix2_15.out).drewN k16).below b17 (Nat.le_refl _))
  have Ix3_17 := Lib.hid (((Ix3_15.out).drewN k16).below b17 (Nat.le_refl _))
  have Ig0_17 := Lib.hid (((Ig0_15.out).drewN k16).below b17 (Nat.le_refl _))
  have Uw0_17 := Lib.hid (t_chain (Go.below_drewN (Uw0_15.out) k16) b17)
  have T17 := Lib.hid (t_chain (Go.below_drewN (T15.out) k16) b17)
  have I17 := Lib.hid i17
  clear i17 b17
  go_wp2_with fail
  refine (eq_same _ _ _ x2 (Ix2_17.out).at (I17.out).at).mono ?_
  rintro r w18 ⟨rfl, k18, rfl⟩
  go_wp2_with fail
  refine (copy_anyL _ _ x3 (A3.out.below (Go.below_drewN (T17.out) k18) (Nat.le_refl _)) hl3).mono ?_
  rintro r w19 ⟨v119, rfl, i19, b19⟩
  have s19 : w17.heap.size ≤ w19.heap.size := b19.size
  have Ix0_19 := Lib.hid (((Ix0_17.out).drewN k18).below b19 (Nat.le_refl _))
  have Ix1_19 := Lib.hid (((Ix1_17.out).drewN k18).below b19 (Nat.le_refl _))
  have Ix2_19 := Lib.hid (((Ix2_17.out).drewN k18).below b19 (Nat.le_refl _))
  have Ix3_19 := Lib.hid (((Ix3_17.out).drewN k18).below b19 (Nat.le_refl _))
  have Ig0_19 := Lib.hid (((Ig0_17.out).drewN k18).below b19 (Nat.le_refl _))
  have Uw0_19 := Lib.hid (t_chain (Go.below_drewN (Uw0_17.out) k18) b19)
  have T19 := Lib.hid (t_chain (Go.below_drewN (T17.out) k18) b19)
  have I19 := Lib.hid i19
  clear i19 b19
  go_wp2_with fail
  refine (eq_same _ _ _ x3 (Ix3_19.out).at (I19.out).at).mono ?_
  rintro r w20 ⟨rfl, k20, rfl⟩
  go_wp2_with fail
  refine (mark_rows _ _ _ v107 x0 1 ((Ix0_19.out).drewN k20) (by omega) (by omega)).mono ?_
  rintro r w21 ⟨rfl, i21, m21⟩
  have s21 : w21.heap.size = w19.heap.size := m21.size
  have Ix1_21 := Lib.hid (((Ix1_19.out).drewN k20).keep m21 (by omega))
  have Ix2_21 := Lib.hid (((Ix2_19.out).drewN k20).keep m21 (by omega))
  have Ix3_21 := Lib.hid (((Ix3_19.out).drewN k20).keep m21 (by omega))
  have Ig0_21 := Lib.hid (((Ig0_19.out).drewN k20).keep m21 (by omega))
  have Ix0_21 := Lib.hid i21
  have Uw0_21 := Lib.hid ((Go.below_drewN (Uw0_19.out) k20).trans (m21.below.mono (by omega)))
  have T21 := Lib.hid ((Go.below_drewN (T19.out) k20).trans (m21.below.mono (by omega)))
  obtain ⟨q21, hq21⟩ : ∃ q : Int, 1 + (tot x0 : Int) = q := ⟨_, rfl⟩
  rw [hq21]
  have l21 : 0 ≤ q21 := by omega
  have u21 : q21 ≤ 1 + 2000000 := by omega
  have f21 : decide (q21 < 0) = false := decide_eq_false (by omega)
  have e21 : (q21 != q21) = false := by simp
  have HQ21 := Lib.hid hq21
  clear hq21 i21 m21
  go_wp2_with fail
  refine (mark_ownL _ _ _ v108 x1 q21 (Ix1_21.out) (by omega) (by omega)).mono ?_
  rintro r w22 ⟨rfl, i22, m22⟩
  have s22 : w22.heap.size = w21.heap.size := m22.size
  have Ix0_22 := Lib.hid ((Ix0_21.out).keep m22 (by omega))
  have Ix2_22 := Lib.hid ((Ix2_21.out).keep m22 (by omega))
  have Ix3_22 := Lib.hid ((Ix3_21.out).keep m22 (by omega))
  have Ig0_22 := Lib.hid ((Ig0_21.out).keep m22 (by omega))
  have Ix1_22 := Lib.hid i22
  have Uw0_22 := Lib.hid ((Uw0_21.out).trans (m22.below.mono (by omega)))
  have T22 := Lib.hid ((T21.out).trans (m22.below.mono (by omega)))
  obtain ⟨q22, hq22⟩ : ∃ q : Int, q21 + (x1.length : Int) = q := ⟨_, rfl⟩
  rw [hq22]
  have l22 : 0 ≤ q22 := by omega
  have u22 : q22 ≤ q21 + 2000000 := by omega
  have f22 : decide (q22 < 0) = false := decide_eq_false (by omega)
  have e22 : (q22 != q22) = false := by simp
  have HQ22 := Lib.hid hq22
  clear hq22 i22 m22
  go_wp2_with fail
  refine (mark_ownL _ _ _ v109 x2 q22 (Ix2_22.out) (by omega) (by omega)).mono ?_
  rintro r w23 ⟨rfl, i23, m23⟩
  have s23 : w23.heap.size = w22.heap.size := m23.size
  have Ix0_23 := Lib.hid ((Ix0_22.out).keep m23 (by omega))
  have Ix1_23 := Lib.hid ((Ix1_22.out).keep m23 (by omega))
  have Ix3_23 := Lib.hid ((Ix3_22.out).keep m23 (by omega))
  have Ig0_23 := Lib.hid ((Ig0_22.out).keep m23 (by omega))
  have Ix2_23 := Lib.hid i23
  have Uw0_23 := Lib.hid ((Uw0_22.out).trans (m23.below.mono (by omega)))
  have T23 := Lib.hid ((T22.out).trans (m23.below.mono (by omega)))
  obtain ⟨q23, hq23⟩ : ∃ q : Int, q22 + (x2.length : Int) = q := ⟨_, rfl⟩
  rw [hq23]
  have l23 : 0 ≤ q23 := by omega
  have u23 : q23 ≤ q22 + 2000000 := by omega
  have f23 : decide (q23 < 0) = false := decide_eq_false (by omega)
  have e23 : (q23 != q23) = false := by simp
  have HQ23 := Lib.hid hq23
  clear hq23 i23 m23
  go_wp2_with fail
  refine (mark_ownL _ _ _ v110 x3 q23 (Ix3_23.out) (by omega) (by omega)).mono ?_
  rintro r w24 ⟨rfl, i24, m24⟩
  have s24 : w24.heap.size = w23.heap.size := m24.size
  have Ix0_24 := Lib.hid ((Ix0_23.out).keep m24 (by omega))
  have Ix1_24 := Lib.hid ((Ix1_23.out).keep m24 (by omega))
  have Ix2_24 := Lib.hid ((Ix2_23.out).keep m24 (by omega))
  have Ig0_24 := Lib.hid ((Ig0_23.out).keep m24 (by omega))
  have Ix3_24 := Lib.hid i24
  have Uw0_24 := Lib.hid ((Uw0_23.out).trans (m24.below.mono (by omega)))
  have T24 := Lib.hid ((T23.out).trans (m24.below.mono (by omega)))
  obtain ⟨q24, hq24⟩ : ∃ q : Int, q23 + (x3.length : Int) = q := ⟨_, rfl⟩
  rw [hq24]
  have l24 : 0 ≤ q24 := by omega
  have u24 : q24 ≤ q23 + 2000000 := by omega
  have f24 : decide (q24 < 0) = false := decide_eq_false (by omega)
  have e24 : (q24 != q24) = false := by simp
  have HQ24 := Lib.hid hq24
  clear hq24 i24 m24
  go_wp2_with fail
  refine (eq_rows _ _ _ z0 (Ig0_24.out).at (I6_0.out.below (Uw0_24.out) (Nat.le_refl _))).mono ?_
  rintro r w25 ⟨rfl, k25, rfl⟩
  go_wp2_with fail
  refine (mark_rows _ _ _ v11_0 z0 1 ((Ig0_24.out).drewN k25) (by omega) (by omega)).mono ?_
  rintro r w26 ⟨rfl, i26, m26⟩
  have s26 : w26.heap.size = w24.heap.size := m26.size
  have Ix0_26 := Lib.hid (((Ix0_24.out).drewN k25).keep m26 (by omega))
  have Ix1_26 := Lib.hid (((Ix1_24.out).drewN k25).keep m26 (by omega))
  have Ix2_26 := Lib.hid (((Ix2_24.out).drewN k25).keep m26 (by omega))
  have Ix3_26 := Lib.hid (((Ix3_24.out).drewN k25).keep m26 (by omega))
  have Ig0_26 := Lib.hid i26
  have Uw0_26 := Lib.hid ((Go.below_drewN (Uw0_24.out) k25).trans (m26.below.mono (by omega)))
  have T26 := Lib.hid ((Go.below_drewN (T24.out) k25).trans (m26.below.mono (by omega)))
  obtain ⟨q26, hq26⟩ : ∃ q : Int, 1 + (tot z0 : Int) = q := ⟨_, rfl⟩
  rw [hq26]
  have l26 : 0 ≤ q26 := by omega
  have u26 : q26 ≤ 1 + 2000000 := by omega
  have f26 : decide (q26 < 0) = false := decide_eq_false (by omega)
  have e26 : (q26 != q26) = false := by simp
  have HQ26 := Lib.hid hq26
  clear hq26 i26 m26
  go_wp2_with fail
  refine (held_rows _ v11_0 1 z0 (Ig0_26.out).at (by omega) (by omega)).mono ?_
  rintro r w27 ⟨rfl, k27, rfl⟩
  rw [HQ26.out]
  go_wp2_with fail
  refine (copy_rows _ _ x0 (A0.out.below (Go.below_drewN (T26.out) k27) (Nat.le_refl _)) (by omega)).mono ?_
  rintro r w28 ⟨v128, rfl, i28, b28⟩
  have s28 : w26.heap.size ≤ w28.heap.size := b28.size
  have Ix0_28 := Lib.hid (((Ix0_26.out).drewN k27).below b28 (Nat.le_refl _))
  have Ix1_28 := Lib.hid (((Ix1_26.out).drewN k27).below b28 (Nat.le_refl _))
  have Ix2_28 := Lib.hid (((Ix2_26.out).drewN k27).below b28 (Nat.le_refl _))
  have Ix3_28 := Lib.hid (((Ix3_26.out).drewN k27).below b28 (Nat.le_refl _))
  have Ig0_28 := Lib.hid (((Ig0_26.out).drewN k27).below b28 (Nat.le_refl _))
  have Uw0_28 := Lib.hid (t_chain (Go.below_drewN (Uw0_26.out) k27) b28)
  have T28 := Lib.hid (t_chain (Go.below_drewN (T26.out) k27) b28)
  have I28 := Lib.hid i28
  clear i28 b28
  go_wp2_with fail
  refine (copy_anyL _ _ x1 (A1.out.below (T28.out) (Nat.le_refl _)) hl1).mono ?_
  rintro r w29 ⟨v129, rfl, i29, b29⟩
  have s29 : w28.heap.size ≤ w29.heap.size := b29.size
  have Ix0_29 := Lib.hid ((Ix0_28.out).below b29 (Nat.le_refl _))
  have Ix1_29 := Lib.hid ((Ix1_28.out).below b29 (Nat.le_refl _))
  have Ix2_29 := Lib.hid ((Ix2_28.out).below b29 (Nat.le_refl _))
  have Ix3_29 := Lib.hid ((Ix3_28.out).below b29 (Nat.le_refl _))
  have Ig0_29 := Lib.hid ((Ig0_28.out).below b29 (Nat.le_refl _))
  have Ic28_29 := Lib.hid ((I28.out).below b29 (Nat.le_refl _))
  have Uw0_29 := Lib.hid (t_chain (Uw0_28.out) b29)
  have T29 := Lib.hid (t_chain (T28.out) b29)
  have I29 := Lib.hid i29
  clear i29 b29
  go_wp2_with fail
  refine (copy_anyL _ _ x2 (A2.out.below (T29.out) (Nat.le_refl _)) hl2).mono ?_
  rintro r w30 ⟨v130, rfl, i30, b30⟩
  have s30 : w29.heap.size ≤ w30.heap.size := b30.size
  have Ix0_30 := Lib.hid ((Ix0_29.out).below b30 (Nat.le_refl _))
  have Ix1_30 := Lib.hid ((Ix1_29.out).below b30 (Nat.le_refl _))
  have Ix2_30 := Lib.hid ((Ix2_29.out).below b30 (Nat.le_refl _))
  have Ix3_30 := Lib.hid ((Ix3_29.out).below b30 (Nat.le_refl _))
  have Ig0_30 := Lib.hid ((Ig0_29.out).below b30 (Nat.le_refl _))
  have Ic28_30 := Lib.hid ((Ic28_29.out).below b30 (Nat.le_refl _))
  have Ic29_30 := Lib.hid ((I29.out).below b30 (Nat.le_refl _))
  have Uw0_30 := Lib.hid (t_chain (Uw0_29.out) b30)
  have T30 := Lib.hid (t_chain (T29.out) b30)
  have I30 := Lib.hid i30
  clear i30 b30
  go_wp2_with fail
  refine (copy_anyL _ _ x3 (A3.out.below (T30.out) (Nat.le_refl _)) hl3).mono ?_
  rintro r w31 ⟨v131, rfl, i31, b31⟩
  have s31 : w30.heap.size ≤ w31.heap.size := b31.size
  have Ix0_31 := Lib.hid ((Ix0_30.out).below b31 (Nat.le_refl _))
  have Ix1_31 := Lib.hid ((Ix1_30.out).below b31 (Nat.le_refl _))
  have Ix2_31 := Lib.hid ((Ix2_30.out).below b31 (Nat.le_refl _))
  have Ix3_31 := Lib.hid ((Ix3_30.out).below b31 (Nat.le_refl _))
  have Ig0_31 := Lib.hid ((Ig0_30.out).below b31 (Nat.le_refl _))
  have Ic28_31 := Lib.hid ((Ic28_30.out).below b31 (Nat.le_refl _))
  have Ic29_31 := Lib.hid ((Ic29_30.out).below b31 (Nat.le_refl _))
  have Ic30_31 := Lib.hid ((I30.out).below b31 (Nat.le_refl _))
  have Uw0_31 := Lib.hid (t_chain (Uw0_30.out) b31)
  have T31 := Lib.hid (t_chain (T30.out) b31)
  have I31 := Lib.hid i31
  clear i31 b31
  go_wp2_with fail
  refine (HI.out _ v128 v129 v130 v131 (Ic28_31.out).at (Ic29_31.out).c (Ic30_31.out).c (I31.out).c).mono ?_
  rintro r w32 ⟨v32_0, rfl, i32_0, b32⟩
  have s32 : w31.heap.size ≤ w32.heap.size := b32.size
  have Ix0_32 := Lib.hid ((Ix0_31.out).below b32 (Nat.le_refl _))
  have Ix1_32 := Lib.hid ((Ix1_31.out).below b32 (Nat.le_refl _))
  have Ix2_32 := Lib.hid ((Ix2_31.out).below b32 (Nat.le_refl _))
  have Ix3_32 := Lib.hid ((Ix3_31.out).below b32 (Nat.le_refl _))
  have Ig0_32 := Lib.hid ((Ig0_31.out).below b32 (Nat.le_refl _))
  have Uw0_32 := Lib.hid (t_chain (Uw0_31.out) b32)
  have T32 := Lib.hid (t_chain (T31.out) b32)
  have I32_0 := Lib.hid i32_0
  clear i32_0
  clear b32
  go_wp2_with fail
  refine (eq_rows _ _ _ z0 (I32_0.out).at (I6_0.out.below (Uw0_32.out) (Nat.le_refl _))).mono ?_
  rintro r w33 ⟨rfl, k33, rfl⟩
  go_wp2_with fail
  refine (held_rows _ v11_0 1 z0 ((Ig0_32.out).drewN k33).at (by omega) (by omega)).mono ?_
  rintro r w34 ⟨rfl, k34, rfl⟩
  rw [HQ26.out]
  go_wp2
  go_ret
  exact ⟨rfl, Go.below_drewN (T32.out) (k33 + k34)⟩
end Go.Proofs.Ytkbkaphgieimoaa
