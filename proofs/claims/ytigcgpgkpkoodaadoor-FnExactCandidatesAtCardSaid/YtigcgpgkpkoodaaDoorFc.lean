/- FillCell: both sides. -/
import Derived.Test.YtigcgpgkpkoodaaDoorCd
import Derived.Test.YtigcgpgkpkoodaaDoorPtp
import Derived.Deep.MidRow
namespace Go.Proofs.YtigcgpgkpkoodaaDoor
open Go.RowKit Go.Shelf
set_option linter.unusedVariables false

theorem takeQ {xss : List (List Int)} {j : Nat} (h : j < xss.length) : xss.take (j + 1) = xss.take j ++ [xss.getD j []] := by
  rw [List.take_succ_eq_append_getElem h]
  simp [List.getD, List.getElem?_eq_getElem h]

set_option maxRecDepth 100000 in
set_option maxHeartbeats 8000000 in
theorem sCandI (xss : List (List Int)) (a b : Int) (w : World) (v : Value) (hv : RowsAt w v xss) :
    Calls Tryd.prog 33 #[v, .int .i64 a, .int .i64 b] w fun e w' => ∃ r, e = .returned (.tuple #[r, .int .i64 (CandidatesAt_1 xss a b)]) ∧ Ints w' w.heap.size r (CandidatesAt_0 xss a b) ∧ Below w.heap.size w w' := by
  have HS := Lib.hid (sPart w v xss hv)
  have hml := hv.1
  have e1 : CandidatesAt_1 xss a b = cdC xss a b := rfl
  rw [e1]
  clear e1
  have NO : Hid (cdC xss a b ≠ 0 → CandidatesAt_0 xss a b = []) := CandidatesAt_no
  have OK := Lib.hid (fun h => CandidatesAt_ok (xss := xss) (a := a) (b := b) h)
  cases hp : ptB xss with
  | false =>
    obtain ⟨va, vk, rfl, -, -⟩ := hv.cellsOf
    have V := Lib.hid (cdC_bad (a := a) (b := b) hp)
    have L := Lib.hid (NO.out (by rw [V.out]; decide))
    rw [hp] at HS
    clear hp hv NO OK
    go_enter Tryd.func33, Tryd.ntmps33
    go_wp2_with fail
    refine HS.out.mono ?_
    rintro e w1 ⟨rfl, b1⟩
    have B1 := Lib.hid b1
    clear b1
    go_wp2
    go_ret2
    exact ⟨_, by rw [V.out]; rfl, by rw [L.out]; exact nilI _ _, B1.out⟩
  | true =>
    have VO := Lib.hid (fun k => cdC_out (a := a) (b := b) hp k)
    have VF := Lib.hid (fun k q => cdC_full (a := a) (b := b) hp k q)
    have VK := Lib.hid (fun k q => cdC_ok (a := a) (b := b) hp k q)
    have S := of_ptB hp
    rw [hp] at HS
    have nhi := S.hi
    have nlo := S.lo
    have SR := Lib.hid S.row
    have HV := Lib.hid (fun W (h : Below w.heap.size w W) => hv.below h (Nat.le_refl _))
    obtain ⟨n, hn⟩ : ∃ n, xss.length = n := ⟨_, rfl⟩
    rw [hn] at VO VF VK nhi nlo SR hml OK
    obtain ⟨g, off, vk, rfl, K⟩ := hv.look2 hn SR.out nlo
    have HK := Lib.hid K
    have HN := Lib.hid hn
    have w1n := IntWalk.i64_in ((n : Int) - 1) (by omega)
    clear hp hv S K
    by_cases k : In2 n a b
    case neg =>
      have V := Lib.hid (VO.out k)
      have L := Lib.hid (NO.out (by rw [V.out]; decide))
      unfold In2 at k
      clear VO VF VK SR NO OK HK HV
      by_cases c : 0 ≤ a ∧ a ≤ (n : Int) - 1
      · have HA := Lib.hid (fun W => in_yes' a 0 ((n : Int) - 1) W c.1 c.2)
        have HB := Lib.hid (fun W => in_no' b 0 ((n : Int) - 1) W (by omega))
        clear k c
        go_enter Tryd.func33, Tryd.ntmps33
        go_wp2_with fail
        refine HS.out.mono ?_
        rintro e w1 ⟨rfl, b1⟩
        have B1 := Lib.hid b1
        clear b1
        go_wp2_with fail
        refine (HA.out _).mono ?_
        rintro e w2 ⟨rfl, rfl⟩
        go_wp2_with fail
        refine (HB.out _).mono ?_
        rintro e w3 ⟨rfl, rfl⟩
        go_wp2
        go_ret2
        exact ⟨_, by rw [V.out]; rfl, by rw [L.out]; exact nilI _ _, B1.out⟩
      · have HA := Lib.hid (fun W => in_no' a 0 ((n : Int) - 1) W (by omega))
        clear k c
        go_enter Tryd.func33, Tryd.ntmps33
        go_wp2_with fail
        refine HS.out.mono ?_
        rintro e w1 ⟨rfl, b1⟩
        have B1 := Lib.hid b1
        clear b1
        go_wp2_with fail
        refine (HA.out _).mono ?_
        rintro e w2 ⟨rfl, rfl⟩
        go_wp2
        go_ret2
        exact ⟨_, by rw [V.out]; rfl, by rw [L.out]; exact nilI _ _, B1.out⟩
    have VF2 := Lib.hid (VF.out k)
    have VK2 := Lib.hid (VK.out k)
    unfold In2 at k
    obtain ⟨⟨a0, a1⟩, b0, b1⟩ := k
    obtain ⟨A, rfl⟩ : ∃ A : Nat, a = A := ⟨a.toNat, by omega⟩
    obtain ⟨C, rfl⟩ : ∃ C : Nat, b = C := ⟨b.toNat, by omega⟩
    rw [Int.toNat_natCast, Int.toNat_natCast] at VF2 VK2 OK
    have A1 : A < n := by omega
    have C1 : C < n := by omega
    have HA := Lib.hid (fun W => in_yes' (A : Int) 0 ((n : Int) - 1) W (by omega) (by omega))
    have HB := Lib.hid (fun W => in_yes' (C : Int) 0 ((n : Int) - 1) W (by omega) (by omega))
    have HL := Lib.hid (fun W (h : Below w.heap.size w W) => sCands W _ xss n HN.out nlo nhi SR.out (HV.out W h) A C A1 C1)
    have HM := Lib.hid (fun W (h : Below w.heap.size w W) => HK.out W h A A1)
    have a1 : (A : Int) < (n : Int) := by omega
    have c1 : (C : Int) < (n : Int) := by omega
    clear VO VF VK SR HK HV b1
    obtain ⟨u, hu⟩ : ∃ u, cellF xss A C = u := ⟨_, rfl⟩
    have HU := Lib.hid hu
    rw [hu] at VF2 VK2
    by_cases q : 0 ≤ u
    · have V := Lib.hid (VF2.out q)
      have L := Lib.hid (NO.out (by rw [V.out]; decide))
      have t1 : decide (0 ≤ u) = true := decide_eq_true q
      clear VF2 VK2 NO OK q hu
      go_enter Tryd.func33, Tryd.ntmps33
      go_wp2_with fail
      refine HS.out.mono ?_
      rintro e w1 ⟨rfl, b1⟩
      have B1 := Lib.hid b1
      obtain ⟨g2, off2, k2, m1, m2⟩ := HM.out w1 b1
      have m3 := m2 C C1
      rw [HU.out] at m3
      clear b1 m2
      go_wp2_with fail
      refine (HA.out _).mono ?_
      rintro e w2 ⟨rfl, rfl⟩
      go_wp2_with fail
      refine (HB.out _).mono ?_
      rintro e w3 ⟨rfl, rfl⟩
      go_wp2
      go_ret2
      exact ⟨_, by rw [V.out]; rfl, by rw [L.out]; exact nilI _ _, B1.out⟩
    · have V := Lib.hid (VK2.out q)
      have L := Lib.hid (OK.out V.out)
      have t1 : decide (0 ≤ u) = false := decide_eq_false q
      clear VF2 VK2 NO OK q hu
      go_enter Tryd.func33, Tryd.ntmps33
      go_wp2_with fail
      refine HS.out.mono ?_
      rintro e w1 ⟨rfl, b1⟩
      have B1 := Lib.hid b1
      obtain ⟨g2, off2, k2, m1, m2⟩ := HM.out w1 b1
      have m3 := m2 C C1
      rw [HU.out] at m3
      clear b1 m2
      go_wp2_with fail
      refine (HA.out _).mono ?_
      rintro e w2 ⟨rfl, rfl⟩
      go_wp2_with fail
      refine (HB.out _).mono ?_
      rintro e w3 ⟨rfl, rfl⟩
      go_wp2_with fail
      refine (HL.out _ B1.out).mono ?_
      rintro e w4 ⟨r, rfl, i4, b4⟩
      have I4 := Lib.hid (i4.mono (B' := w.heap.size) B1.out.size)
      have B4 := Lib.hid (t_chain B1.out b4)
      clear i4 b4
      go_wp2
      go_ret2
      exact ⟨_, by rw [V.out]; rfl, by rw [L.out]; exact I4.out, B4.out⟩

theorem sCandidatesAt (xss : List (List Int)) (a b : Int) (hx : SmallLL xss) (ha : I64 a) (hb : I64 b) (w : World) (v : Value) (hv : RowsAt w v xss) :
    Calls Tryd.prog 33 #[v, .int .i64 a, .int .i64 b] w fun e w' => ∃ r, e = .returned (.tuple #[r, .int .i64 (CandidatesAt_1 xss a b)]) ∧ IntsAt w' r (CandidatesAt_0 xss a b) ∧ Below w.heap.size w w' :=
  (sCandI xss a b w v hv).mono fun e w' ⟨r, h1, h2, h3⟩ => ⟨r, h1, h2.at, h3⟩

noncomputable def filB (xss : List (List Int)) (a b s : Int) : Bool := canB xss.length (cellF xss) a.toNat b.toNat s
noncomputable def FillCell_0 (xss : List (List Int)) (a b s : Int) : List (List Int) := if cdC xss a b = 0 ∧ filB xss a b s = true then gridL xss.length xss.length (upd2 (cellF xss) a.toNat b.toNat s) else []
noncomputable def FillCell_1 (xss : List (List Int)) (a b s : Int) : Int := if cdC xss a b = 0 then if filB xss a b s = true then 0 else 4 else cdC xss a b
theorem Fil_no {xss : List (List Int)} {a b s : Int} (h : cdC xss a b ≠ 0) : FillCell_0 xss a b s = [] ∧ FillCell_1 xss a b s = cdC xss a b := by
  unfold FillCell_0 FillCell_1
  rw [if_neg (fun k => h k.1), if_neg h]; exact ⟨rfl, rfl⟩
theorem Fil_bad {xss : List (List Int)} {a b s : Int} (h : cdC xss a b = 0) (k : filB xss a b s = false) : FillCell_0 xss a b s = [] ∧ FillCell_1 xss a b s = 4 := by
  unfold FillCell_0 FillCell_1
  rw [k, if_neg (fun q => Bool.noConfusion q.2), if_pos h, if_neg Bool.noConfusion]; exact ⟨rfl, rfl⟩
theorem Fil_ok {xss : List (List Int)} {a b s : Int} (h : cdC xss a b = 0) (k : filB xss a b s = true) : FillCell_0 xss a b s = gridL xss.length xss.length (upd2 (cellF xss) a.toNat b.toNat s) ∧ FillCell_1 xss a b s = 0 := by
  unfold FillCell_0 FillCell_1
  rw [if_pos ⟨h, k⟩, if_pos h, if_pos k]; exact ⟨rfl, rfl⟩
theorem lenFillCell_0 (xss : List (List Int)) (a b s : Int) (hx : SmallLL xss) (ha : I64 a) (hb : I64 b) (hs : I64 s) : (FillCell_0 xss a b s).length + tot (FillCell_0 xss a b s) ≤ 2000000 := by
  by_cases h : cdC xss a b = 0
  · cases k : filB xss a b s with
    | false => rw [(Fil_bad h k).1]; decide
    | true =>
      have := (of_ptB (cdC_zero h).1).hi
      rw [(Fil_ok h k).1, gridL_length, tot_gridL]
      have : xss.length * xss.length ≤ 10 * 10 := Nat.mul_le_mul this this
      omega
  · rw [(Fil_no h).1]; decide
theorem IsPart.grid {xss : List (List Int)} (h : IsPart xss) : gridL xss.length xss.length (cellF xss) = xss := gridL_cellF h.row

end Go.Proofs.YtigcgpgkpkoodaaDoor
