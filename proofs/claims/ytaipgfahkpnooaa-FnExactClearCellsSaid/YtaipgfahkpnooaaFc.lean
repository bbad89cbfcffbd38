/- FillCell: both sides. -/
import Derived.Test.YtaipgfahkpnooaaCd
import Derived.Test.YtaipgfahkpnooaaPtp
import Derived.Deep.MidRow
namespace Go.Proofs.Ytaipgfahkpnooaa
open Go.RowKit Go.Shelf
set_option linter.unusedVariables false

theorem takeQ {xss : List (List Int)} {j : Nat} (h : j < xss.length) : xss.take (j + 1) = xss.take j ++ [xss.getD j []] := by
  rw [List.take_succ_eq_append_getElem h]
  simp [List.getD, List.getElem?_eq_getElem h]

set_option maxRecDepth 100000 in
set_option maxHeartbeats 8000000 in
theorem sOwn6 (w : World) (v : Value) (xss : List (List Int)) (n : Nat) (hn : xss.length = n) (h10 : n ≤ 10) (hr : ∀ x, x < n → (xss.getD x []).length = n) (hv : RowsAt w v xss) :
    Calls Try.prog 34 #[v] w fun e w' => ∃ r, e = .returned r ∧ RowsL w' w.heap.size w'.heap.size r xss ∧ Below w.heap.size w w' := by
  obtain ⟨a, cap, rfl, hk, hc⟩ := hv.cellsOf
  have hml := hv.1
  have HC := Lib.hid hc
  have TK : Hid (∀ j, j < xss.length → xss.take (j + 1) = xss.take j ++ [xss.getD j []]) := fun j h => takeQ h
  have TL : Hid (∀ j, j ≤ xss.length → (xss.take j).length = j) := fun j h => by rw [List.length_take]; omega
  have TA : Hid (xss.take xss.length = xss) := List.take_length
  have HR := Lib.hid hr
  rw [hn] at HC TK TL TA hml hk ⊢
  obtain ⟨B, hB⟩ : ∃ B, w.heap.size = B := ⟨_, rfl⟩
  have bo : Below B w (w.alloc (.cells #[] 28)) := (Below.refl _ _).alloc (by omega) _
  have R0 : RowsL (w.alloc (.cells #[] 28)) B (w.alloc (.cells #[] 28)).heap.size (.slice (some ⟨B, 0, none⟩) 0 0) (xss.take 0) := by
    have := RowsL.made w B 0 #[] (by omega) (by decide) rfl
    rw [hB] at this
    rw [World.size_alloc, hB]
    exact this
  obtain ⟨wo, hwo⟩ : ∃ wo, w.alloc (.cells #[] 28) = wo := ⟨_, rfl⟩
  rw [hwo] at bo R0
  have BO := Lib.hid bo
  have RO := Lib.hid R0
  have zo : B ≤ wo.heap.size := by rw [← hwo, World.size_alloc]; omega
  have HW := Lib.hid hB
  rw [hB] at HC
  clear hv hc hr hn bo R0
  go_enter Try.func34, Try.ntmps34
  go_wp2
  clear hwo hB
  go_loopw [3, 4] (fun rv i wr => ∃ j : Nat, j ≤ n ∧ i = .int .i64 j ∧ Hid (RowsL wr B wr.heap.size rv (xss.take j)) ∧ Hid (Below B w wr) ∧ B ≤ wr.heap.size) (fun _ i _ => n - (intOf i).toNat)
  case atStart => exact ⟨0, by omega, rfl, RO, BO, zo⟩
  case round =>
    obtain ⟨j, hj, rfl, hR, hBl, hz⟩ := hrel
    by_cases c : j < n
    · have k1 : decide (j < n) = true := by simpa using c
      have k1' : decide ((j : Int) < (n : Int)) = true := decide_eq_true (by omega)
      have wx3 := IntWalk.i64_in ((j : Int) + 1) (by omega)
      have j0 : (0 : Int) ≤ (j : Int) := by omega
      have j1 : (j : Int) < (n : Int) := by omega
      obtain ⟨g, off, u, rfl, hg, cj, hu⟩ := HC.out j c
      have cj2 := (hBl.out.cell (p := ⟨g, off + j, none⟩) hg).trans cj
      have HS := Lib.hid (sown_at wr u _ (hu.below hBl.out (by rw [HW.out]; exact Nat.le_refl _)).1 (by rw [HR.out j c]; omega))
      have tk := Lib.hid (TK.out j c)
      have gl := TL.out j (by omega)
      obtain ⟨R, hRR⟩ : ∃ R, xss.getD j [] = R := ⟨_, rfl⟩
      rw [hRR] at HS tk
      clear cj hu hg hRR
      obtain ⟨ov, rfl⟩ : ∃ ov : Value, ov = u3 := ⟨_, rfl⟩
      obtain ⟨wc, rfl⟩ : ∃ wc : World, wc = wr := ⟨_, rfl⟩
      go_wp2_with fail
      refine HS.out.mono ?_
      rintro e w4 ⟨r, rfl, i4, b4⟩
      obtain ⟨ra, rc, rfl⟩ := Ints.len_eq i4
      have I4 := Lib.hid i4
      have R4 := Lib.hid (hR.out.below b4 (Nat.le_refl _))
      have B4 : Hid (Below B w w4) := hBl.out.trans (b4.mono hz)
      have z4 : B ≤ w4.heap.size := Nat.le_trans hz b4.size
      have hz4 : wc.heap.size ≤ w4.heap.size := b4.size
      clear i4 b4
      go_wp2_with (at_builtin; refine wpList_pushR w4 (by rfl) _ _ (by rfl) B wc.heap.size _ _ _ _ (by rfl) R4.out I4.out _ (by rfl) (by rw [gl]; omega) hz ?_; intro v' w6 hn hb; have HN := Lib.hid hn; have HB6 := Lib.hid hb; clear hn hb)
      go_roundw
      case rel => exact ⟨j + 1, by omega, by go_num, by unfold Hid; rw [tk.out]; exact HN.out, B4.out.trans HB6.out, Nat.le_trans z4 HB6.out.size⟩
      case measure => simp [intOf]; omega
    · have k1 : decide (j < n) = false := by simpa using c
      have k1' : decide ((j : Int) < (n : Int)) = false := decide_eq_false (by omega)
      obtain rfl : j = n := by omega
      have hR' := hR.out
      rw [TA.out] at hR'
      have RR := Lib.hid hR'
      clear hR'
      go_wp2
      go_ret
      exact ⟨_, rfl, by rw [HW.out]; exact RR.out, by rw [HW.out]; exact hBl.out⟩

set_option maxRecDepth 100000 in
set_option maxHeartbeats 8000000 in
theorem sCandI (xss : List (List Int)) (a b : Int) (w : World) (v : Value) (hv : RowsAt w v xss) :
    Calls Try.prog 38 #[v, .int .i64 a, .int .i64 b] w fun e w' => ∃ r, e = .returned (.tuple #[r, .int .i64 (CandidatesAt_1 xss a b)]) ∧ Ints w' w.heap.size r (CandidatesAt_0 xss a b) ∧ Below w.heap.size w w' := by
  have HS := Lib.hid (sPart w v xss hv)
  have hml := hv.1
  have e1 : CandidatesAt_1 xss a b = cdC xss a b := rfl
  rw [e1]
  clear e1
  have NO : Hid (cdC xss a b ≠ 0 → CandidatesAt_0 xss a b = []) := CandidatesAt_no
  have OK := Lib.hid (fun h => CandidatesAt_ok (xss := xss) (a := a) (b := b) h)
  cases hp : ptB xss with
  | false =>
    obtain ⟨va, vk, rfl, -, -⟩ := hv.cellsOf
    have V := Lib.hid (cdC_bad (a := a) (b := b) hp)
    have L := Lib.hid (NO.out (by rw [V.out]; decide))
    rw [hp] at HS
    clear hp hv NO OK
    go_enter Try.func38, Try.ntmps38
    go_wp2_with fail
    refine HS.out.mono ?_
    rintro e w1 ⟨rfl, b1⟩
    have B1 := Lib.hid b1
    clear b1
    go_wp2
    go_ret2
    exact ⟨_, by rw [V.out]; rfl, by rw [L.out]; exact nilI _ _, B1.out⟩
  | true =>
    have VO := Lib.hid (fun k => cdC_out (a := a) (b := b) hp k)
    have VF := Lib.hid (fun k q => cdC_full (a := a) (b := b) hp k q)
    have VK := Lib.hid (fun k q => cdC_ok (a := a) (b := b) hp k q)
    have S := of_ptB hp
    rw [hp] at HS
    have nhi := S.hi
    have nlo := S.lo
    have SR := Lib.hid S.row
    have HV := Lib.hid (fun W (h : Below w.heap.size w W) => hv.below h (Nat.le_refl _))
    obtain ⟨n, hn⟩ : ∃ n, xss.length = n := ⟨_, rfl⟩
    rw [hn] at VO VF VK nhi nlo SR hml OK
    obtain ⟨g, off, vk, rfl, K⟩ := hv.look2 hn SR.out nlo
    have HK := Lib.hid K
    have HN := Lib.hid hn
    have w1n := IntWalk.i64_in ((n : Int) - 1) (by omega)
    clear hp hv S K
    by_cases k : In2 n a b
    case neg =>
      have V := Lib.hid (VO.out k)
      have L := Lib.hid (NO.out (by rw [V.out]; decide))
      unfold In2 at k
      clear VO VF VK SR NO OK HK HV
      by_cases c : 0 ≤ a ∧ a ≤ (n : Int) - 1
      · have HA := Lib.hid (fun W => in_yes' a 0 ((n : Int) - 1) W c.1 c.2)
        have HB := Lib.hid (fun W => in_no' b 0 ((n : Int) - 1) W (by omega))
        clear k c
        go_enter Try.func38, Try.ntmps38
        go_wp2_with fail
        refine HS.out.mono ?_
        rintro e w1 ⟨rfl, b1⟩
        have B1 := Lib.hid b1
        clear b1
        go_wp2_with fail
        refine (HA.out _).mono ?_
        rintro e w2 ⟨rfl, rfl⟩
        go_wp2_with fail
        refine (HB.out _).mono ?_
        rintro e w3 ⟨rfl, rfl⟩
        go_wp2
        go_ret2
        exact ⟨_, by rw [V.out]; rfl, by rw [L.out]; exact nilI _ _, B1.out⟩
      · have HA := Lib.hid (fun W => in_no' a 0 ((n : Int) - 1) W (by omega))
        clear k c
        go_enter Try.func38, Try.ntmps38
        go_wp2_with fail
        refine HS.out.mono ?_
        rintro e w1 ⟨rfl, b1⟩
        have B1 := Lib.hid b1
        clear b1
        go_wp2_with fail
        refine (HA.out _).mono ?_
        rintro e w2 ⟨rfl, rfl⟩
        go_wp2
        go_ret2
        exact ⟨_, by rw [V.out]; rfl, by rw [L.out]; exact nilI _ _, B1.out⟩
    have VF2 := Lib.hid (VF.out k)
    have VK2 := Lib.hid (VK.out k)
    unfold In2 at k
    obtain ⟨⟨a0, a1⟩, b0, b1⟩ := k
    obtain ⟨A, rfl⟩ : ∃ A : Nat, a = A := ⟨a.toNat, by omega⟩
    obtain ⟨C, rfl⟩ : ∃ C : Nat, b = C := ⟨b.toNat, by omega⟩
    rw [Int.toNat_natCast, Int.toNat_natCast] at VF2 VK2 OK
    have A1 : A < n := by omega
    have C1 : C < n := by omega
    have HA := Lib.hid (fun W => in_yes' (A : Int) 0 ((n : Int) - 1) W (by omega) (by omega))
    have HB := Lib.hid (fun W => in_yes' (C : Int) 0 ((n : Int) - 1) W (by omega) (by omega))
    have HL := Lib.hid (fun W (h : Below w.heap.size w W) => sCands W _ xss n HN.out nlo nhi SR.out (HV.out W h) A C A1 C1)
    have HM := Lib.hid (fun W (h : Below w.heap.size w W) => HK.out W h A A1)
    have a1 : (A : Int) < (n : Int) := by omega
    have c1 : (C : Int) < (n : Int) := by omega
    clear VO VF VK SR HK HV b1
    obtain ⟨u, hu⟩ : ∃ u, cellF xss A C = u := ⟨_, rfl⟩
    have HU := Lib.hid hu
    rw [hu] at VF2 VK2
    by_cases q : 0 ≤ u
    · have V := Lib.hid (VF2.out q)
      have L := Lib.hid (NO.out (by rw [V.out]; decide))
      have t1 : decide (0 ≤ u) = true := decide_eq_true q
      clear VF2 VK2 NO OK q hu
      go_enter Try.func38, Try.ntmps38
      go_wp2_with fail
      refine HS.out.mono ?_
      rintro e w1 ⟨rfl, b1⟩
      have B1 := Lib.hid b1
      obtain ⟨g2, off2, k2, m1, m2⟩ := HM.out w1 b1
      have m3 := m2 C C1
      rw [HU.out] at m3
      clear b1 m2
      go_wp2_with fail
      refine (HA.out _).mono ?_
      rintro e w2 ⟨rfl, rfl⟩
      go_wp2_with fail
      refine (HB.out _).mono ?_
      rintro e w3 ⟨rfl, rfl⟩
      go_wp2
      go_ret2
      exact ⟨_, by rw [V.out]; rfl, by rw [L.out]; exact nilI _ _, B1.out⟩
    · have V := Lib.hid (VK2.out q)
      have L := Lib.hid (OK.out V.out)
      have t1 : decide (0 ≤ u) = false := decide_eq_false q
      clear VF2 VK2 NO OK q hu
      go_enter Try.func38, Try.ntmps38
      go_wp2_with fail
      refine HS.out.mono ?_
      rintro e w1 ⟨rfl, b1⟩
      have B1 := Lib.hid b1
      obtain ⟨g2, off2, k2, m1, m2⟩ := HM.out w1 b1
      have m3 := m2 C C1
      rw [HU.out] at m3
      clear b1 m2
      go_wp2_with fail
      refine (HA.out _).mono ?_
      rintro e w2 ⟨rfl, rfl⟩
      go_wp2_with fail
      refine (HB.out _).mono ?_
      rintro e w3 ⟨rfl, rfl⟩
      go_wp2_with fail
      refine (HL.out _ B1.out).mono ?_
      rintro e w4 ⟨r, rfl, i4, b4⟩
      have I4 := Lib.hid (i4.mono (B' := w.heap.size) B1.out.size)
      have B4 := Lib.hid (t_chain B1.out b4)
      clear i4 b4
      go_wp2
      go_ret2
      exact ⟨_, by rw [V.out]; rfl, by rw [L.out]; exact I4.out, B4.out⟩

theorem sCandidatesAt (xss : List (List Int)) (a b : Int) (hx : SmallLL xss) (ha : I64 a) (hb : I64 b) (w : World) (v : Value) (hv : RowsAt w v xss) :
    Calls Try.prog 38 #[v, .int .i64 a, .int .i64 b] w fun e w' => ∃ r, e = .returned (.tuple #[r, .int .i64 (CandidatesAt_1 xss a b)]) ∧ IntsAt w' r (CandidatesAt_0 xss a b) ∧ Below w.heap.size w w' :=
  (sCandI xss a b w v hv).mono fun e w' ⟨r, h1, h2, h3⟩ => ⟨r, h1, h2.at, h3⟩

noncomputable def filB (xss : List (List Int)) (a b s : Int) : Bool := canB xss.length (cellF xss) a.toNat b.toNat s
noncomputable def FillCell_0 (xss : List (List Int)) (a b s : Int) : List (List Int) := if cdC xss a b = 0 ∧ filB xss a b s = true then gridL xss.length xss.length (upd2 (cellF xss) a.toNat b.toNat s) else []
noncomputable def FillCell_1 (xss : List (List Int)) (a b s : Int) : Int := if cdC xss a b = 0 then if filB xss a b s = true then 0 else 4 else cdC xss a b
theorem Fil_no {xss : List (List Int)} {a b s : Int} (h : cdC xss a b ≠ 0) : FillCell_0 xss a b s = [] ∧ FillCell_1 xss a b s = cdC xss a b := by
  unfold FillCell_0 FillCell_1
  rw [if_neg (fun k => h k.1), if_neg h]; exact ⟨rfl, rfl⟩
theorem Fil_bad {xss : List (List Int)} {a b s : Int} (h : cdC xss a b = 0) (k : filB xss a b s = false) : FillCell_0 xss a b s = [] ∧ FillCell_1 xss a b s = 4 := by
  unfold FillCell_0 FillCell_1
  rw [k, if_neg (fun q => Bool.noConfusion q.2), if_pos h, if_neg Bool.noConfusion]; exact ⟨rfl, rfl⟩
theorem Fil_ok {xss : List (List Int)} {a b s : Int} (h : cdC xss a b = 0) (k : filB xss a b s = true) : FillCell_0 xss a b s = gridL xss.length xss.length (upd2 (cellF xss) a.toNat b.toNat s) ∧ FillCell_1 xss a b s = 0 := by
  unfold FillCell_0 FillCell_1
  rw [if_pos ⟨h, k⟩, if_pos h, if_pos k]; exact ⟨rfl, rfl⟩
theorem lenFillCell_0 (xss : List (List Int)) (a b s : Int) (hx : SmallLL xss) (ha : I64 a) (hb : I64 b) (hs : I64 s) : (FillCell_0 xss a b s).length + tot (FillCell_0 xss a b s) ≤ 2000000 := by
  by_cases h : cdC xss a b = 0
  · cases k : filB xss a b s with
    | false => rw [(Fil_bad h k).1]; decide
    | true =>
      have := (of_ptB (cdC_zero h).1).hi
      rw [(Fil_ok h k).1, gridL_length, tot_gridL]
      have : xss.length * xss.length ≤ 10 * 10 := Nat.mul_le_mul this this
      omega
  · rw [(Fil_no h).1]; decide
theorem IsPart.grid {xss : List (List Int)} (h : IsPart xss) : gridL xss.length xss.length (cellF xss) = xss := gridL_cellF h.row

set_option maxRecDepth 100000 in
set_option maxHeartbeats 8000000 in
theorem sFillCell (xss : List (List Int)) (a b s : Int) (hx : SmallLL xss) (ha : I64 a) (hb : I64 b) (hs : I64 s) (w : World) (v : Value) (hv : RowsAt w v xss) :
    Calls Try.prog 23 #[v, .int .i64 a, .int .i64 b, .int .i64 s] w fun e w' => ∃ r, e = .returned (.tuple #[r, .int .i64 (FillCell_1 xss a b s)]) ∧ RowsAt w' r (FillCell_0 xss a b s) ∧ Below w.heap.size w w' := by
  have HC := Lib.hid (sCandI xss a b w v hv)
  by_cases hz : cdC xss a b = 0
  case neg =>
    have V := Lib.hid (Fil_no (s := s) hz)
    have e1 : CandidatesAt_1 xss a b = cdC xss a b := rfl
    rw [e1] at HC
    obtain ⟨q, hq⟩ : ∃ q, cdC xss a b = q := ⟨_, rfl⟩
    rw [hq] at HC V hz
    have t1 : (q != 0) = true := by simpa using hz
    clear hv hx hq hz e1
    go_enter Try.func23, Try.ntmps23
    go_wp2_with fail
    refine HC.out.mono ?_
    rintro e w1 ⟨r, rfl, -, b1⟩
    have B1 := Lib.hid b1
    clear b1
    go_wp2
    go_ret2
    exact ⟨_, by rw [V.out.2]; rfl, by rw [V.out.1]; exact RowsAt.nil _ _ _, B1.out⟩
  have VB := Lib.hid (fun k => Fil_bad (s := s) hz k)
  have VK := Lib.hid (fun k => Fil_ok (s := s) hz k)
  obtain ⟨hp, hI, -⟩ := cdC_zero hz
  have S := of_ptB hp
  have nhi := S.hi
  have nlo := S.lo
  have SG := S.grid
  have SR := Lib.hid S.row
  have HV := Lib.hid (fun W (h : Below w.heap.size w W) => hv.below h (Nat.le_refl _))
  have e1 : CandidatesAt_1 xss a b = 0 := hz
  rw [e1, CandidatesAt_ok hz] at HC
  have HB : Hid (filB xss a b s = canB xss.length (cellF xss) a.toNat b.toNat s) := rfl
  obtain ⟨n, hn⟩ : ∃ n, xss.length = n := ⟨_, rfl⟩
  rw [hn] at HC VK nhi nlo SR HB SG hI
  have HO := Lib.hid (fun W (h : Below w.heap.size w W) => sOwn6 W v xss n hn nhi SR.out (HV.out W h))
  have HG := Lib.hid SG
  unfold In2 at hI
  obtain ⟨⟨a0, a1⟩, b0, b1⟩ := hI
  obtain ⟨A, rfl⟩ : ∃ A : Nat, a = A := ⟨a.toNat, by omega⟩
  obtain ⟨C, rfl⟩ : ∃ C : Nat, b = C := ⟨b.toNat, by omega⟩
  rw [Int.toNat_natCast, Int.toNat_natCast] at VK HB HC
  have A1 : A < n := by omega
  have C1 : C < n := by omega
  have a1 : (A : Int) < (n : Int) := by omega
  have c1 : (C : Int) < (n : Int) := by omega
  have HH := Lib.hid (fun W r (hr : IntsAt W r (cdl n (cellF xss) A C n)) => shas W r _ s hr)
  simp only [has_cdl] at HH
  obtain ⟨F, hF⟩ : ∃ F, cellF xss = F := ⟨_, rfl⟩
  simp only [hF] at HH HC HB VK HG
  obtain ⟨z, hzz⟩ : ∃ z, canB n F A C s = z := ⟨_, rfl⟩
  simp only [hzz] at HH HB
  rw [HB.out] at VB VK
  obtain ⟨L, hL⟩ : ∃ L, cdl n F A C n = L := ⟨_, rfl⟩
  simp only [hL] at HC HH
  clear hv hx hz hp S SG e1 hn HB hF hzz hL b1 SR HV
  cases z with
  | false =>
    have V := Lib.hid (VB.out rfl)
    clear VB VK HG HO
    go_enter Try.func23, Try.ntmps23
    go_wp2_with fail
    refine HC.out.mono ?_
    rintro e w1 ⟨r, rfl, i1, b1⟩
    have B1 := Lib.hid b1
    have I1 := Lib.hid i1.at
    clear b1 i1
    go_wp2_with fail
    refine (HH.out _ _ I1.out).mono ?_
    rintro e w2 ⟨rfl, rfl⟩
    go_wp2
    go_ret2
    exact ⟨_, by rw [V.out.2]; rfl, by rw [V.out.1]; exact RowsAt.nil _ _ _, B1.out⟩
  | true =>
    have V := Lib.hid (VK.out rfl)
    clear VB VK
    go_enter Try.func23, Try.ntmps23
    go_wp2_with fail
    refine HC.out.mono ?_
    rintro e w1 ⟨r, rfl, i1, b1⟩
    have B1 := Lib.hid b1
    have I1 := Lib.hid i1.at
    clear b1 i1
    go_wp2_with fail
    refine (HH.out _ _ I1.out).mono ?_
    rintro e w2 ⟨rfl, rfl⟩
    go_wp2_with fail
    refine (HO.out _ B1.out).mono ?_
    rintro e w3 ⟨o, rfl, r3, b3⟩
    have r3' := r3
    rw [← HG.out] at r3'
    obtain ⟨g0, c0, g, c, e0, m1, m2, fz, l1, l2, hp⟩ := gridSet r3' A1 C1
    subst e0
    have B3 := t_chain B1.out b3
    have hgw : w.heap.size ≤ g := Nat.le_trans B1.out.size l1
    have R4 := Lib.hid (hp s).at
    have B4 : Hid (Below w.heap.size w (w3.setCell ⟨g, C, none⟩ (.int .i64 s))) := B3.setCell (p := ⟨g, C, none⟩) hgw _
    clear r3 r3' b3 B3 hp
    go_wp2
    go_ret2
    exact ⟨_, by rw [V.out.2]; rfl, by rw [V.out.1]; exact R4.out, B4.out⟩
end Go.Proofs.Ytaipgfahkpnooaa
