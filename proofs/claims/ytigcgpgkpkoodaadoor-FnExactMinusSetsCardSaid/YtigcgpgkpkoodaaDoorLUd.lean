/- MinusSets: the law. -/
import Derived.Test.YtigcgpgkpkoodaaDoorUs
import Derived.Test.YtigcgpgkpkoodaaDoorSep
namespace Go.Proofs.YtigcgpgkpkoodaaDoor
open Go.RowKit
set_option linter.unusedVariables false

set_option maxHeartbeats 4000000 in
theorem law_FnExactMinusSets (a : Option Addr) (la ca : Nat) (za : List Int) (b : Option Addr) (lb cb : Nat) (zb : List Int) (w : World) (h : IsRow .i64 w a la ca za) (h' : IsRow .i64 w b lb cb zb) (ht : Tab w) :
    Calls Tryd.prog 5 #[.slice a la ca, .slice b lb cb] w fun r w' => r = .returned (.bool true) ∧ Below w.heap.size w w' := by
  obtain ⟨hat, hlen⟩ := h.at
  obtain ⟨hat', hlen'⟩ := h'.at
  by_cases hbig : 1048576 < la
  · clear h h' hat hat' hlen hlen'
    go_enter Tryd.func5, Tryd.ntmps5
    go_wp2
    go_ret
    exact ⟨rfl, Below.refl _ _⟩
  by_cases hbig' : 1048576 < lb
  · have t1 : decide ((1048576 : Int) < (la : Int)) = false := by simp; omega
    have t2 : decide ((1048576 : Int) < (lb : Int)) = true := by simp; omega
    clear h h' hat hat' hlen hlen'
    go_enter Tryd.func5, Tryd.ntmps5
    go_wp2
    go_ret
    exact ⟨rfl, Below.refl _ _⟩
  obtain ⟨xs, hxs⟩ : ∃ xs, za.take la = xs := ⟨_, rfl⟩
  obtain ⟨ys, hys⟩ : ∃ ys, zb.take lb = ys := ⟨_, rfl⟩
  rw [hxs] at hat hlen
  rw [hys] at hat' hlen'
  have hl : xs.length ≤ 1048576 := by omega
  have hl' : ys.length ≤ 1048576 := by omega
  have A := Lib.hid hat
  have A' := Lib.hid hat'
  have TB := Lib.hid ht
  have hzl := cmbA_len (fun a b => a && !b) xs ys
  obtain ⟨zs, hzs⟩ : ∃ zs, cmbA (fun a b => a && !b) xs ys = zs := ⟨_, rfl⟩
  have hS := fun W B u v hu hv => sMinusSets xs ys u v W B hu hv
  have hI := fun W u v hu hv ht => iMinusSets xs ys u v W hu hv ht
  rw [hzs] at hzl
  simp only [hzs] at hS hI
  have HS := Lib.hid hS
  have HI := Lib.hid hI
  have t1 : decide ((1048576 : Int) < (la : Int)) = false := by simp; omega
  have t2 : decide ((1048576 : Int) < (lb : Int)) = false := by simp; omega
  clear h h' hat hat' hlen hlen' hxs hys hS hI hzs ht hbig hbig'
  go_enter Tryd.func5, Tryd.ntmps5
  go_wp2_with fail
  refine (copy_any _ _ xs A.out hl).mono ?_
  rintro r w1 ⟨v1, rfl, i1, b1⟩
  have I1 := Lib.hid i1
  have T1 := Lib.hid b1
  clear i1 b1
  go_wp2_with fail
  refine (copy_any _ _ ys (A'.out.below T1.out (Nat.le_refl _)) hl').mono ?_
  rintro r w2 ⟨v2, rfl, i2, b2⟩
  have I2 := Lib.hid i2
  have I1' := Lib.hid (I1.out.below b2 (Nat.le_refl _))
  have T2 := Lib.hid (t_step T1.out b2)
  clear i2 b2
  go_wp2_with fail
  refine (HS.out _ _ v1 v2 I1'.out I2.out.at).mono ?_
  rintro r w3 ⟨v3, rfl, i3, b3⟩
  have I3 := Lib.hid i3
  have T3 := Lib.hid (t_step T2.out b3)
  clear i3 b3
  go_wp2_with fail
  refine (copy_any _ _ xs (A.out.below T3.out (Nat.le_refl _)) hl).mono ?_
  rintro r w4 ⟨v4, rfl, i4, b4⟩
  have I4 := Lib.hid i4
  have s4 := b4.size
  have I34 := Lib.hid (I3.out.below b4 (Nat.le_refl _))
  have T4 := Lib.hid (t_step T3.out b4)
  have P43 := Lib.hid (I3.out.sep i4 (Nat.le_refl _))
  clear i4 b4
  go_wp2_with fail
  refine (copy_any _ _ ys (A'.out.below T4.out (Nat.le_refl _)) hl').mono ?_
  rintro r w5 ⟨v5, rfl, i5, b5⟩
  have I5 := Lib.hid i5
  have s5 := b5.size
  have I35 := Lib.hid (I34.out.below b5 (Nat.le_refl _))
  have I45 := Lib.hid (I4.out.below b5 (Nat.le_refl _))
  have T5 := Lib.hid (t_step T4.out b5)
  have P53 := Lib.hid (I34.out.sep i5 (Nat.le_refl _))
  have P54 := Lib.hid (I4.out.sep i5 (Nat.le_refl _))
  clear i5 b5
  go_wp2_with fail
  refine (HI.out _ v4 v5 I45.out.at I5.out.at (TB.out.below T5.out TB.out.pos)).mono ?_
  rintro r w6 ⟨v6, rfl, i6, b6⟩
  have I6 := Lib.hid i6
  have s6 := b6.size
  have I36 := Lib.hid (I35.out.below b6 (Nat.le_refl _))
  have I46 := Lib.hid (I45.out.below b6 (Nat.le_refl _))
  have I56 := Lib.hid (I5.out.below b6 (Nat.le_refl _))
  have T6 := Lib.hid (t_step T5.out b6)
  have P63 := Lib.hid (I35.out.sep i6 (Nat.le_refl _))
  have P64 := Lib.hid (I45.out.sep i6 (Nat.le_refl _))
  have P65 := Lib.hid (I5.out.sep i6 (Nat.le_refl _))
  clear i6 b6 I34 I35 I45
  go_wp2_with fail
  refine (eq_same _ _ _ zs I6.out.at I36.out.at).mono ?_
  rintro r w7 ⟨rfl, k7, rfl⟩
  go_wp2_with fail
  refine (copy_any _ _ xs (A.out.below (below_drewN T6.out k7) (Nat.le_refl _)) hl).mono ?_
  rintro r w8 ⟨v8, rfl, i8, b8⟩
  have I8 := Lib.hid i8
  have s8 : w6.heap.size ≤ w8.heap.size := b8.size
  have I38 := Lib.hid ((I36.out.drewN k7).below b8 (Nat.le_refl _))
  have I48 := Lib.hid ((I46.out.drewN k7).below b8 (Nat.le_refl _))
  have I58 := Lib.hid ((I56.out.drewN k7).below b8 (Nat.le_refl _))
  have I68 := Lib.hid ((I6.out.drewN k7).below b8 (Nat.le_refl _))
  have T8 := Lib.hid (t_step (below_drewN T6.out k7) b8)
  clear i8 b8 I36 I46 I56
  go_wp2_with fail
  refine (eq_same _ _ _ xs I48.out.at I8.out.at).mono ?_
  rintro r w9 ⟨rfl, k9, rfl⟩
  go_wp2_with fail
  refine (copy_any _ _ ys (A'.out.below (below_drewN T8.out k9) (Nat.le_refl _)) hl').mono ?_
  rintro r w10 ⟨v10, rfl, i10, b10⟩
  have I10 := Lib.hid i10
  have s10 : w8.heap.size ≤ w10.heap.size := b10.size
  have J3 := Lib.hid ((I38.out.drewN k9).below b10 (Nat.le_refl _))
  have J4 := Lib.hid ((I48.out.drewN k9).below b10 (Nat.le_refl _))
  have J5 := Lib.hid ((I58.out.drewN k9).below b10 (Nat.le_refl _))
  have J6 := Lib.hid ((I68.out.drewN k9).below b10 (Nat.le_refl _))
  have T10 := Lib.hid (t_step (below_drewN T8.out k9) b10)
  clear i10 b10 I38 I48 I58 I68 I8
  go_wp2_with fail
  refine (eq_same _ _ _ ys J5.out.at I10.out.at).mono ?_
  rintro r w11 ⟨rfl, k11, rfl⟩
  go_wp2_with fail
  refine (mark_own _ _ v4 xs 1 (J4.out.drewN k11) (by omega) (by omega)).mono ?_
  rintro r w12 ⟨rfl, j12, g12, s12⟩
  have s12' : w12.heap.size = w10.heap.size := s12
  have K3 := Lib.hid ((J3.out.drewN k11).grown g12 P43.out.1)
  have K5 := Lib.hid ((J5.out.drewN k11).grown g12 P54.out.2)
  have K6 := Lib.hid ((J6.out.drewN k11).grown g12 P64.out.2)
  have b12 := below_of_grown g12 (B := w3.heap.size) (show w3.heap.size ≤ w10.heap.size by omega) (fun k hk => (World.ownsRow.lt I4.out k hk).1)
  have T12 := Lib.hid ((below_drewN T10.out k11).trans (b12.mono T3.out.size))
  clear j12 g12 b12 s12
  go_wp2_with fail
  refine (mark_own _ _ v5 ys (1 + (xs.length : Int)) K5.out (by omega) (by omega)).mono ?_
  rintro r w13 ⟨rfl, j13, g13, s13⟩
  have L3 := Lib.hid (K3.out.grown g13 P53.out.1)
  have L6 := Lib.hid (K6.out.grown g13 P65.out.2)
  have b13 := below_of_grown g13 (B := w4.heap.size) (show w4.heap.size ≤ w12.heap.size by omega) (fun k hk => (World.ownsRow.lt I5.out k hk).1)
  have T13 := Lib.hid (T12.out.trans (b13.mono T4.out.size))
  have t8 : decide ((1 : Int) + (xs.length : Int) + (ys.length : Int) < 0) = false := by simp; omega
  clear j13 g13 b13 J3 J4 J5 J6 K3 K6
  go_wp2_with fail
  refine (eq_same _ _ _ zs L6.out.at L3.out.at).mono ?_
  rintro r w14 ⟨rfl, k14, rfl⟩
  go_wp2_with fail
  refine (mark_own _ _ v6 zs 1 (L6.out.drewN k14) (by omega) (by omega)).mono ?_
  rintro r w15 ⟨rfl, j15, g15, s15⟩
  have J15 := Lib.hid j15
  have M3 := Lib.hid ((L3.out.drewN k14).grown g15 P63.out.1)
  have b15 := below_of_grown g15 (B := w5.heap.size) (show w5.heap.size ≤ w13.heap.size by omega) (fun k hk => (World.ownsRow.lt I6.out k hk).1)
  have T15 := Lib.hid ((below_drewN T13.out k14).trans (b15.mono T5.out.size))
  clear j15 g15 b15
  go_wp2_with fail
  refine (held_marks _ v6 1 zs.length J15.out.at (by omega) (by omega)).mono ?_
  rintro r w16 ⟨rfl, rfl⟩
  go_wp2_with fail
  refine (copy_any _ _ xs (A.out.below T15.out (Nat.le_refl _)) hl).mono ?_
  rintro r w17 ⟨v17, rfl, i17, b17⟩
  have I17 := Lib.hid i17
  have J17 := Lib.hid (J15.out.below b17 (Nat.le_refl _))
  have M17 := Lib.hid (M3.out.below b17 (Nat.le_refl _))
  have T17 := Lib.hid (t_step T15.out b17)
  clear i17 b17 M3 J15
  go_wp2_with fail
  refine (copy_any _ _ ys (A'.out.below T17.out (Nat.le_refl _)) hl').mono ?_
  rintro r w18 ⟨v18, rfl, i18, b18⟩
  have I18 := Lib.hid i18
  have I17' := Lib.hid (I17.out.below b18 (Nat.le_refl _))
  have J18 := Lib.hid (J17.out.below b18 (Nat.le_refl _))
  have M18 := Lib.hid (M17.out.below b18 (Nat.le_refl _))
  have T18 := Lib.hid (t_step T17.out b18)
  clear i18 b18 M17 J17 I17
  go_wp2_with fail
  refine (HI.out _ v17 v18 I17'.out.at I18.out.at (TB.out.below T18.out TB.out.pos)).mono ?_
  rintro r w19 ⟨v19, rfl, i19, b19⟩
  have I19 := Lib.hid i19
  have J19 := Lib.hid (J18.out.below b19 (Nat.le_refl _))
  have M19 := Lib.hid (M18.out.below b19 (Nat.le_refl _))
  have T19 := Lib.hid (t_step T18.out b19)
  clear i19 b19
  go_wp2_with fail
  refine (eq_same _ _ _ zs I19.out.at M19.out.at).mono ?_
  rintro r w20 ⟨rfl, k20, rfl⟩
  go_wp2_with fail
  refine (held_marks _ v6 1 zs.length (J19.out.drewN k20).at (by omega) (by omega)).mono ?_
  rintro r w21 ⟨rfl, rfl⟩
  go_wp2
  go_ret
  exact ⟨rfl, below_drewN T19.out _⟩
end Go.Proofs.YtigcgpgkpkoodaaDoor
