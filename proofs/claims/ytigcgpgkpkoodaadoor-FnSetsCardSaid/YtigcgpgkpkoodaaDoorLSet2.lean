/- FnSets: the law. -/
import Derived.Test.YtigcgpgkpkoodaaDoorLSets
namespace Go.Proofs.YtigcgpgkpkoodaaDoor
open Go.RowKit
set_option linter.unusedVariables false

theorem shape_of {w : World} {v : Value} {xs : List Int} (hv : IntsAt w v xs) : ∃ a cap, v = .slice a xs.length cap := by
  obtain ⟨_, ⟨rfl, a, cap, rfl⟩ | ⟨g, off, cap, rfl, hc⟩⟩ := hv
  · exact ⟨a, cap, rfl⟩
  · exact ⟨_, cap, rfl⟩

set_option maxHeartbeats 4000000 in
theorem law_FnSets (a : Option Addr) (len cap : Nat) (zs : List Int) (w : World) (h : IsRow .u8 w a len cap zs) (ht : Tab w) :
    Calls Tryd.prog 6 #[.slice a len cap] w fun r w' => r = .returned (.bool true) ∧ Below w.heap.size w w' := by
  by_cases hbig : 1048576 < len
  · have hb : (1048576 : Int) < (len : Int) := by omega
    clear h ht
    go_enter Tryd.func6, Tryd.ntmps6
    go_wp2_with (go_at_call 21; go_in)
    go_ret
    exact ⟨rfl, Below.refl _ _⟩
  have hb : ¬ (1048576 : Int) < (len : Int) := by omega
  have H := Lib.hid h
  have TB := Lib.hid ht
  have hl : len ≤ 1048576 := by omega
  clear h ht hbig
  go_enter Tryd.func6, Tryd.ntmps6
  go_wp2_with (go_at_call 21; go_in)
  refine (drawUnion _ a len cap zs H.out hl).mono ?_
  rintro e w1 ⟨u, v, xs, ys, rfl, iu, iv, hx, hy, b1⟩
  have IU := Lib.hid iu.at
  have IV := Lib.hid iv.at
  have T1 := Lib.hid b1
  clear iu iv b1
  go_wp2_with fail
  refine (iUnionSets xs ys u v _ IU.out IV.out (TB.out.below T1.out TB.out.pos)).mono ?_
  rintro e w2 ⟨vU, rfl, i2, b2⟩
  have U2 := Lib.hid i2.at
  have IU2 := Lib.hid (IU.out.below b2 (Nat.le_refl _))
  have IV2 := Lib.hid (IV.out.below b2 (Nat.le_refl _))
  have T2 := Lib.hid (t_step T1.out b2)
  clear i2 b2
  go_wp2_with fail
  refine (iMeetSets xs ys u v _ IU2.out IV2.out (TB.out.below T2.out TB.out.pos)).mono ?_
  rintro e w3 ⟨vM, rfl, i3, b3⟩
  have M3 := Lib.hid i3.at
  have U3 := Lib.hid (U2.out.below b3 (Nat.le_refl _))
  have IU3 := Lib.hid (IU2.out.below b3 (Nat.le_refl _))
  have IV3 := Lib.hid (IV2.out.below b3 (Nat.le_refl _))
  have T3 := Lib.hid (t_step T2.out b3)
  clear i3 b3
  go_wp2_with fail
  refine (iMinusSets xs ys u v _ IU3.out IV3.out (TB.out.below T3.out TB.out.pos)).mono ?_
  rintro e w4 ⟨vD, rfl, i4, b4⟩
  have D4 := Lib.hid i4.at
  have M4 := Lib.hid (M3.out.below b4 (Nat.le_refl _))
  have U4 := Lib.hid (U3.out.below b4 (Nat.le_refl _))
  have IU4 := Lib.hid (IU3.out.below b4 (Nat.le_refl _))
  have IV4 := Lib.hid (IV3.out.below b4 (Nat.le_refl _))
  have T4 := Lib.hid (t_step T3.out b4)
  clear i4 b4 U2 U3 M3 IU IU2 IU3 IV IV2 IV3
  have SX := Lib.hid (fun k => svalid (w4.drewN k) u xs 32 (IU4.out.drewN k))
  have SY := Lib.hid (fun k => svalid (w4.drewN k) v ys 32 (IV4.out.drewN k))
  have SX0 := Lib.hid (svalid w4 u xs 32 IU4.out)
  obtain ⟨p, hp⟩ : ∃ p, validSet xs 32 = p := ⟨_, rfl⟩
  obtain ⟨q, hq⟩ : ∃ q, validSet ys 32 = q := ⟨_, rfl⟩
  by_cases hpq : (p && q) = false
  · have C : Hid (∀ op, cmbA op xs ys = []) := fun op => cmb_not op (by rw [hp, hq]; exact hpq)
    rw [C.out] at U4 M4 D4
    obtain ⟨aU, cU, rfl⟩ := shape_of U4.out
    obtain ⟨aM, cM, rfl⟩ := shape_of M4.out
    obtain ⟨aD, cD, rfl⟩ := shape_of D4.out
    simp only [hp] at SX0
    simp only [hq] at SY
    clear hp hq C
    cases p with
    | false =>
      clear hpq
      go_wp2_with (go_at_call 23; refine SX0.out.mono ?_; rintro e w5 ⟨rfl, k, rfl⟩)
      go_ret
      exact ⟨rfl, below_drewN T4.out k⟩
    | true =>
      obtain rfl : q = false := by simpa using hpq
      clear hpq
      go_wp2_with fail
      refine SX0.out.mono ?_
      rintro e w5 ⟨rfl, k, rfl⟩
      go_wp2_with fail
      refine (SY.out k).mono ?_
      rintro e w6 ⟨rfl, k2, rfl⟩
      go_wp2
      go_ret
      exact ⟨rfl, below_drewN T4.out (k + k2)⟩
  · obtain ⟨rfl, rfl⟩ := two_valid (by simpa using hpq)
    obtain ⟨L1, L2, L3, L4, L5, L6⟩ := set_laws hp hq
    have HL3 := Lib.hid L3
    have HL4 := Lib.hid L4
    have HL5 := Lib.hid L5
    have HL6 := Lib.hid L6
    have VU := Lib.hid (L1 (fun a b => a || b))
    have VM := Lib.hid (L1 (fun a b => a && b))
    have VD := Lib.hid (L1 (fun a b => a && !b))
    obtain ⟨au, cu, eu⟩ := shape_of IU4.out
    obtain ⟨av, cv, ev⟩ := shape_of IV4.out
    obtain ⟨aU, cU, eU⟩ := shape_of U4.out
    obtain ⟨aM, cM, eM⟩ := shape_of M4.out
    obtain ⟨zU, hzU⟩ : ∃ z, cmbA (fun a b => a || b) xs ys = z := ⟨_, rfl⟩
    obtain ⟨zM, hzM⟩ : ∃ z, cmbA (fun a b => a && b) xs ys = z := ⟨_, rfl⟩
    obtain ⟨zD, hzD⟩ : ∃ z, cmbA (fun a b => a && !b) xs ys = z := ⟨_, rfl⟩
    rw [hzU] at U4 VU HL5 HL6 eU L2
    rw [hzM] at M4 VM HL3 eM L2
    rw [hzD] at D4 VD HL3 HL4 HL5 HL6
    simp only [hp] at SX0
    simp only [hq] at SY
    have hlen : ((zU.length : Int) + (zM.length : Int) != (xs.length : Int) + (ys.length : Int)) = false := by simp; omega
    have lU : zU.length ≤ 32 := by rw [← hzU]; exact cmbA_len _ _ _
    have lM : zM.length ≤ 32 := by rw [← hzM]; exact cmbA_len _ _ _
    have w1' := wrapk (n := (zU.length : Int) + (zM.length : Int)) (by omega)
    have w2' := wrapk (n := (xs.length : Int) + (ys.length : Int)) (by omega)
    have KU := Lib.hid (fun k => ivalid (w4.drewN k) vU zU 32 (U4.out.drewN k))
    have KM := Lib.hid (fun k => ivalid (w4.drewN k) vM zM 32 (M4.out.drewN k))
    have KD := Lib.hid (fun k => ivalid (w4.drewN k) vD zD 32 (D4.out.drewN k))
    rw [VU.out] at KU
    rw [VM.out] at KM
    rw [VD.out] at KD
    subst eu ev eU eM
    clear hp hq hpq L1 L2 L3 L4 L5 L6 hzU hzM hzD VU VM VD SX hx hy
    go_wp2_with fail
    refine SX0.out.mono ?_
    rintro e w5 ⟨rfl, k, rfl⟩
    go_wp2_with fail
    refine (SY.out k).mono ?_
    rintro e w6 ⟨rfl, k2, rfl⟩
    go_wp2_with fail
    refine (KU.out (k + k2)).mono ?_
    rintro e w7 ⟨rfl, rfl⟩
    go_wp2_with fail
    refine (KM.out (k + k2)).mono ?_
    rintro e w7 ⟨rfl, rfl⟩
    go_wp2_with fail
    refine (KD.out (k + k2)).mono ?_
    rintro e w7 ⟨rfl, rfl⟩
    obtain ⟨K, hK⟩ : ∃ K, k + k2 = K := ⟨_, rfl⟩
    rw [hK]
    have T7 := Lib.hid (below_drewN T4.out K)
    have U7 := Lib.hid (U4.out.drewN K)
    have M7 := Lib.hid (M4.out.drewN K)
    have D7 := Lib.hid (D4.out.drewN K)
    have A7 := Lib.hid (IU4.out.drewN K)
    have B7 := Lib.hid (IV4.out.drewN K)
    clear hK U4 M4 D4 IU4 IV4 T4 SX0 SY KU KM KD
    obtain ⟨w7, hw7⟩ : ∃ w7, w4.drewN K = w7 := ⟨_, rfl⟩
    rw [hw7] at T7 U7 M7 D7 A7 B7 ⊢
    clear hw7
    go_wp2_with fail
    refine (iUnionSets zM zD _ vD _ M7.out D7.out (TB.out.below T7.out TB.out.pos)).mono ?_
    rintro e w8 ⟨v8, rfl, i8, b8⟩
    have I8 := Lib.hid i8.at
    rw [HL3.out] at I8
    have A8 := Lib.hid (A7.out.below b8 (Nat.le_refl _))
    have B8 := Lib.hid (B7.out.below b8 (Nat.le_refl _))
    have D8 := Lib.hid (D7.out.below b8 (Nat.le_refl _))
    have U8 := Lib.hid (U7.out.below b8 (Nat.le_refl _))
    have T8 := Lib.hid (t_step T7.out b8)
    clear i8 b8
    go_wp2_with fail
    refine (nums_same _ v8 _ xs I8.out A8.out).mono ?_
    rintro e w9 ⟨rfl, k9, rfl⟩
    go_wp2_with fail
    refine (iMeetSets zD ys vD _ _ (D8.out.drewN k9) (B8.out.drewN k9) (TB.out.below (below_drewN T8.out k9) TB.out.pos)).mono ?_
    rintro e w10 ⟨v10, rfl, i10, b10⟩
    have i10' := i10.at
    rw [HL4.out] at i10'
    obtain ⟨a10, c10, rfl⟩ := shape_of i10'
    have B10 := Lib.hid ((B8.out.drewN k9).below b10 (Nat.le_refl _))
    have D10 := Lib.hid ((D8.out.drewN k9).below b10 (Nat.le_refl _))
    have U10 := Lib.hid ((U8.out.drewN k9).below b10 (Nat.le_refl _))
    have T10 := Lib.hid (t_step (below_drewN T8.out k9) b10)
    clear i10 b10 i10'
    go_wp2_with fail
    refine (iUnionSets zD ys vD _ _ D10.out B10.out (TB.out.below T10.out TB.out.pos)).mono ?_
    rintro e w11 ⟨v11, rfl, i11, b11⟩
    have I11 := Lib.hid i11.at
    rw [HL5.out] at I11
    have B11 := Lib.hid (B10.out.below b11 (Nat.le_refl _))
    have D11 := Lib.hid (D10.out.below b11 (Nat.le_refl _))
    have U11 := Lib.hid (U10.out.below b11 (Nat.le_refl _))
    have T11 := Lib.hid (t_step T10.out b11)
    clear i11 b11
    go_wp2_with fail
    refine (nums_same _ v11 _ zU I11.out U11.out).mono ?_
    rintro e w12 ⟨rfl, k12, rfl⟩
    go_wp2_with fail
    refine (iMinusSets zU ys _ _ _ (U11.out.drewN k12) (B11.out.drewN k12) (TB.out.below (below_drewN T11.out k12) TB.out.pos)).mono ?_
    rintro e w13 ⟨v13, rfl, i13, b13⟩
    have I13 := Lib.hid i13.at
    rw [HL6.out] at I13
    have D13 := Lib.hid ((D11.out.drewN k12).below b13 (Nat.le_refl _))
    have T13 := Lib.hid (t_step (below_drewN T11.out k12) b13)
    clear i13 b13
    go_wp2_with fail
    refine (nums_same _ v13 _ zD I13.out D13.out).mono ?_
    rintro e w14 ⟨rfl, k14, rfl⟩
    go_wp2
    go_ret
    exact ⟨rfl, below_drewN T13.out _⟩
end Go.Proofs.YtigcgpgkpkoodaaDoor
