/- ReadPartial: the model. -/
import Derived.Test.YtaipgfahkpnooaaRsd
import Derived.Test.YtaipgfahkpnooaaRpp
import Derived.Test.YtaipgfahkpnooaaPts
namespace Go.Proofs.Ytaipgfahkpnooaa
open Go.RowKit
set_option linter.unusedVariables false
set_option linter.unusedSimpArgs false

theorem take_rowP {xs : List UInt8} {j : Nat} (h : j < xs.length) : (rowp xs).take (j + 1) = (rowp xs).take j ++ [vlp xs[j]] := by
  unfold rowp
  rw [List.take_succ_eq_append_getElem (by rw [List.length_map]; exact h), List.getElem_map]
theorem take_rowsP {R : List (List Int)} {x : Nat} (h : x < R.length) : R.take (x + 1) = R.take x ++ [R.getD x []] := by
  rw [List.take_succ_eq_append_getElem h]
  simp [List.getD, List.getElem?_eq_getElem h]

set_option maxRecDepth 100000 in
set_option maxHeartbeats 8000000 in
theorem sReadPartial (s : ByteArray) (hs : s.size ≤ 1048576) (W : World) :
    Calls Try.prog 25 #[.string s] W fun e w' => ∃ r, e = .returned (.tuple #[r, .bool (ReadPartial_1 s)]) ∧ RowsAt w' r (ReadPartial_0 s) ∧ Below W.heap.size W w' := by
  have HC := Lib.hid (scut7 s W hs)
  have RL : (rowsp s.data.toList).length = (ctB7 s).length := by unfold rowsp ctB7; rw [List.length_map, List.length_map]
  have RG : Hid (∀ x, x < (ctB7 s).length → (rowsp s.data.toList).getD x [] = rowp ((ctB7 s).getD x ByteArray.empty).data.toList ∧ ((ctB7 s).getD x ByteArray.empty).data.toList ∈ cut 47 s.data.toList) := fun x hx => by
    unfold ctB7 at hx
    rw [List.length_map] at hx
    unfold rowsp ctB7
    simp [List.getD, List.getElem?_eq_getElem hx]
  have NB : Hid (∀ b : UInt8, b ∈ s.data.toList → b ≠ 47 → ¬ dgp b → ReadPartial_1 s = false ∧ ReadPartial_0 s = []) := fun b h1 h2 h3 => readp_bad h1 h2 h3
  have NS := Lib.hid (fun z => readp_nopt (s := s) z)
  have YS := Lib.hid (fun h z => readp_yes (s := s) h z)
  have CV : Hid ((∀ x, x < (ctB7 s).length → ∀ b ∈ ((ctB7 s).getD x ByteArray.empty).data.toList, dgp b) → okp s.data.toList) := fun h b hb => by
    rcases cut_cover 47 _ b hb with e | ⟨p, hp, hb⟩
    · exact .inl e
    · obtain ⟨k, hk, rfl⟩ := List.mem_iff_getElem.1 hp
      refine .inr (h k (by unfold ctB7; rw [List.length_map]; exact hk) b ?_)
      unfold ctB7
      simp [List.getD, List.getElem?_eq_getElem hk, hb]
  have CM : Hid (∀ p ∈ cut 47 s.data.toList, ∀ b ∈ p, b ∈ s.data.toList ∧ b ≠ 47) := cut_mem 47 s.data.toList
  obtain ⟨R, hR⟩ : ∃ R, rowsp s.data.toList = R := ⟨_, rfl⟩
  rw [hR] at RL RG NS YS
  obtain ⟨ps, hps⟩ : ∃ ps, ctB7 s = ps := ⟨_, rfl⟩
  rw [hps] at HC RL RG CV
  clear hR hps
  obtain ⟨z, hz⟩ : ∃ z, ptB R = z := ⟨_, rfl⟩
  have SQ : Hid (∀ (W : World) (v : Value), RowsAt W v R → Calls Try.prog 30 #[v] W fun e w' => e = .returned (.bool z) ∧ Below W.heap.size W w') := fun W v h => by rw [← hz]; exact sPart W v R h
  have LONG : Hid (∀ x, x < R.length → 10 < (R.getD x []).length → z = false) := fun x hx h => by
    rw [← hz]
    refine ptB_false fun k => ?_
    have := k.row x hx
    have := k.hi
    omega
  have MANY : Hid (10 < R.length → z = false) := fun h => by
    rw [← hz]
    refine ptB_false fun k => ?_
    have := k.hi
    omega
  rw [hz] at NS YS
  have TR : Hid (∀ x, x < R.length → R.take (x + 1) = R.take x ++ [R.getD x []]) := fun x hx => take_rowsP hx
  have TM : Hid (R.take R.length = R) := List.take_length
  have T0 : Hid (R.take 0 = []) := rfl
  clear hz
  go_enter Try.func25, Try.ntmps25
  go_wp2_with fail
  refine HC.out.mono ?_
  rintro e w1 ⟨v, rfl, i1, b1⟩
  obtain ⟨a, cap, rfl, hc⟩ := i1.at.shape
  have HK := Lib.hid (show ∀ j, j < ps.length → ∃ g off, a = some ⟨g, off, none⟩ ∧ g < w1.heap.size ∧ w1.cell? ⟨g, off + j, none⟩ = some (.string (ps.getD j ByteArray.empty)) from fun j hj => by
    obtain ⟨g, off, h1, h2⟩ := hc j hj
    exact ⟨g, off, h1, World.block_lt_of_cell? w1 _ h2, h2⟩)
  have T1 := Lib.hid b1
  obtain ⟨m, hm⟩ : ∃ m, ps.length = m := ⟨_, rfl⟩
  rw [hm] at HK RL RG CV ⊢
  rw [RL] at TR TM MANY LONG
  clear i1 b1 hc hm HC
  by_cases hmn : 10 < m
  · have V := Lib.hid (NS.out (MANY.out hmn))
    have t1 : decide ((10 : Int) < (m : Int)) = true := decide_eq_true (by omega)
    have t1' : decide (10 < m) = true := decide_eq_true hmn
    clear hmn
    go_wp2
    go_ret2
    exact ⟨_, by rw [V.out.1]; rfl, by rw [V.out.2]; exact RowsAt.nil _ _ _, T1.out⟩
  have t1 : decide ((10 : Int) < (m : Int)) = false := decide_eq_false (by omega)
  have t1' : decide (10 < m) = false := decide_eq_false hmn
  go_wp2
  obtain ⟨B, hB⟩ : ∃ B, w1.heap.size = B := ⟨_, rfl⟩
  have wB : W.heap.size ≤ B := by rw [← hB]; exact T1.out.size
  obtain ⟨wo, hwo⟩ : ∃ wo, w1.alloc (.cells #[] 28) = wo := ⟨_, rfl⟩
  have HI : Hid (RowsL wo B wo.heap.size (.slice (some ⟨w1.heap.size, 0, none⟩) 0 0) (R.take 0)) := by
    rw [← hwo, ← hB]
    have := RowsL.made w1 w1.heap.size 0 #[] (Nat.le_refl _) (by decide) rfl
    rw [T0.out, show (w1.alloc (.cells #[] 28)).heap.size = w1.heap.size + 1 by simp]
    exact this
  have HB : Hid (Below B w1 wo) := by rw [← hwo, ← hB]; exact (Below.refl _ _).alloc (Nat.le_refl _) _
  rw [hB] at HK
  rw [hwo]
  rw [hB] at HI ⊢
  have HBE := Lib.hid hB
  clear hwo hB
  go_loopw [5, 6] (fun o i wr => ∃ x : Nat, x ≤ m ∧ i = .int .i64 x ∧ Hid (RowsL wr B wr.heap.size o (R.take x)) ∧ Hid (Below B w1 wr) ∧ Hid (∀ y, y < x → ∀ b ∈ (ps.getD y ByteArray.empty).data.toList, dgp b)) (fun _ i _ => m - (intOf i).toNat)
  case atStart => exact ⟨0, by omega, rfl, HI, HB, fun y hy => by omega⟩
  case round =>
    obtain ⟨x, hx, rfl, hQ, hBl, hD⟩ := hrel
    by_cases c : x < m
    · have k1 : decide ((x : Int) < (m : Int)) = true := decide_eq_true (by omega)
      have k1' : decide (x < m) = true := decide_eq_true c
      have wx3 := IntWalk.i64_in ((x : Int) + 1) (by omega)
      have x0 : (0 : Int) ≤ (x : Int) := by omega
      have x1 : (x : Int) < (m : Int) := by omega
      obtain ⟨g, off, rfl, hg, hcx⟩ := HK.out x c
      obtain ⟨rg1, rg2⟩ := RG.out x c
      have lng := LONG.out x c
      have TS := Lib.hid (TR.out x c)
      obtain ⟨p, hp⟩ : ∃ p, ps.getD x ByteArray.empty = p := ⟨_, rfl⟩
      have HPP := Lib.hid hp
      rw [hp] at hcx rg1 rg2
      have PM := Lib.hid (fun b hb => CM.out _ rg2 b hb)
      rw [rg1] at lng TS
      have pl : p.data.toList.length = p.size := rfl
      have rl : (rowp p.data.toList).length = p.size := by unfold rowp; rw [List.length_map]; rfl
      rw [rl] at lng
      have KEY : Hid (∀ V : World, Below B w1 V → V.cell? ⟨g, off + x, none⟩ = some (.string p)) := fun V b => (b.cell (p := ⟨g, off + x, none⟩) hg).trans hcx
      have cxr := KEY.out wr hBl.out
      clear hp hcx rg1 rg2
      by_cases hl : 10 < p.size
      · have V := Lib.hid (NS.out (lng hl))
        have t2 : decide ((10 : Int) < (p.size : Int)) = true := decide_eq_true (by omega)
        have t2' : decide (10 < p.size) = true := decide_eq_true hl
        have BB := Lib.hid (T1.out.trans (hBl.out.mono wB))
        clear hl
        go_wp2
        go_ret2
        exact ⟨_, by rw [V.out.1]; rfl, by rw [V.out.2]; exact RowsAt.nil _ _ _, BB.out⟩
      have t2 : decide ((10 : Int) < (p.size : Int)) = false := decide_eq_false (by omega)
      have t2' : decide (10 < p.size) = false := decide_eq_false hl
      obtain ⟨wq, rfl⟩ : ∃ wq : World, wq = wr := ⟨_, rfl⟩
      go_wp2
      obtain ⟨L, hL⟩ : ∃ L, wq.heap.size = L := ⟨_, rfl⟩
      have BL : B ≤ L := by rw [← hL, ← HBE.out]; exact hBl.out.size
      obtain ⟨wo, hwo⟩ : ∃ wo, wq.alloc (.cells #[] 2) = wo := ⟨_, rfl⟩
      have HI2 : Hid (Ints wo L (.slice (some ⟨wq.heap.size, 0, none⟩) 0 0) ((rowp p.data.toList).take 0)) := by rw [← hwo, ← hL]; exact World.ownsRow_made wq #[] 0 (Nat.le_refl _) (by decide) rfl
      have HB2 : Hid (Below L wq wo) := by rw [← hwo, ← hL]; exact (Below.refl _ _).alloc (Nat.le_refl _) _
      have LQ : Hid (wq.heap.size ≤ L) := Nat.le_of_eq hL
      have QQ := Lib.hid hQ.out
      rw [hL] at QQ
      have QK : Hid (∀ V : World, Below L wq V → RowsL V B L u5 (R.take x)) := fun V b => QQ.out.below b (Nat.le_of_eq hL)
      have BK : Hid (∀ V : World, Below L wq V → Below B w1 V) := fun V b => hBl.out.trans (b.mono BL)
      have PT := Lib.hid (fun j h => take_rowP (xs := p.data.toList) (j := j) h)
      have PE : Hid ((rowp p.data.toList).take p.size = rowp p.data.toList) := by unfold Hid; rw [← rl]; exact List.take_length
      rw [hwo]
      rw [hL] at HI2 ⊢
      have HLE := Lib.hid hL
      clear hwo hL
      go_loopw [7, 8] (fun o i wr => ∃ j : Nat, j ≤ p.size ∧ i = .int .i64 j ∧ Hid (Ints wr L o ((rowp p.data.toList).take j)) ∧ Hid (Below L wq wr) ∧ Hid (∀ k (h : k < p.data.toList.length), k < j → dgp p.data.toList[k])) (fun _ i _ => p.size - (intOf i).toNat)
      case atStart => exact ⟨0, by omega, rfl, HI2, HB2, fun k _ hk => by omega⟩
      case round =>
        obtain ⟨j, hj, rfl, hI, hBq, hDj⟩ := hrel
        have cxq := KEY.out wr (BK.out wr hBq.out)
        by_cases d : j < p.size
        · have y1 : decide ((j : Int) < (p.size : Int)) = true := decide_eq_true (by omega)
          have y1' : decide (j < p.size) = true := decide_eq_true d
          have wy3 := IntWalk.i64_in ((j : Int) + 1) (by omega)
          have j0 : (0 : Int) ≤ (j : Int) := by omega
          have j1 : (j : Int) < (p.size : Int) := by omega
          have pt := PT.out j (by omega)
          have pm := PM.out _ (List.getElem_mem (show j < p.data.toList.length by omega))
          have dj := Lib.hid hDj.out
          have eb : p.data.toList[j]'(by omega) = p[j] := rfl
          rw [eb] at pt pm
          have b256 := UInt8.toNat_lt p[j]
          obtain ⟨b, hb⟩ : ∃ b, p[j] = b := ⟨_, rfl⟩
          have HBB := Lib.hid (eb.trans hb)
          rw [hb] at pt pm b256
          have PTT := Lib.hid pt
          have hlen : ((rowp p.data.toList).take j).length < 1000000000000 := by rw [List.length_take]; omega
          have s2 : L ≤ wr.heap.size := Nat.le_trans (Nat.le_of_eq HLE.out.symm) hBq.out.size
          have DJ : Hid (dgp b → ∀ k (h : k < p.data.toList.length), k < j + 1 → dgp p.data.toList[k]) := fun hdb k h hk => by
            by_cases e : k = j
            · subst e; rw [HBB.out]; exact hdb
            · exact dj.out k h (by omega)
          by_cases dot : b.toNat = 46
          · have q1 : ((b.toNat : Int) != 46) = false := by simp; omega
            have q1' : (b.toNat != 46) = false := by simp; omega
            have VD : Hid (vlp b = -1) := vlp_dot dot
            have DJ2 := Lib.hid (DJ.out (.inl dot))
            rw [VD.out] at PTT
            clear pt pm eb DJ dot
            go_wp2_with (at_builtin; refine wpList_push _ (by rfl) _ _ (by rfl) L _ _ (by rfl) hI.out (-1) _ (by rfl) hlen s2 ?_; intro v' w6 hn hb2; have HN' := Lib.hid hn; have HB3 := Lib.hid hb2; clear hn hb2)
            go_roundw
            case rel => exact ⟨j + 1, by omega, by go_num, by unfold Hid; rw [PTT.out]; exact HN'.out, hBq.out.trans HB3.out, DJ2⟩
            case measure => simp [intOf]; omega
          have q1 : ((b.toNat : Int) != 46) = true := by simp; omega
          have q1' : (b.toNat != 46) = true := by simp [dot]
          by_cases dg : dg7 b
          · have q2 : decide (48 ≤ b.toNat ∧ b.toNat ≤ 57) = true := decide_eq_true dg
            have SD := Lib.hid (sdig b.toNat b256 wr)
            rw [q2] at SD
            have VD : Hid (vlp b = (b.toNat : Int) - 48) := vlp_dig dg
            have DJ2 := Lib.hid (DJ.out (.inr dg))
            rw [VD.out] at PTT
            obtain ⟨g1, g2⟩ := dg
            have wu : IntKind.u8.wrap ((b.toNat : Int) - 48) = (b.toNat : Int) - 48 := by unfold IntKind.wrap; simp [IntKind.bits, IntKind.signed]; omega
            have wv := IntWalk.i64_in ((b.toNat : Int) - 48) (by omega)
            clear pt pm eb q2 g1 g2 DJ dot
            go_wp2_with fail
            refine SD.out.mono ?_
            rintro e w4 ⟨rfl, rfl⟩
            go_wp2_with (at_builtin; refine wpList_push _ (by rfl) _ _ (by rfl) L _ _ (by rfl) hI.out ((b.toNat : Int) - 48) _ (by rfl) hlen s2 ?_; intro v' w6 hn hb2; have HN' := Lib.hid hn; have HB3 := Lib.hid hb2; clear hn hb2)
            go_roundw
            case rel => exact ⟨j + 1, by omega, by go_num, by unfold Hid; rw [PTT.out]; exact HN'.out, hBq.out.trans HB3.out, DJ2⟩
            case measure => simp [intOf]; omega
          · have q2 : decide (48 ≤ b.toNat ∧ b.toNat ≤ 57) = false := decide_eq_false dg
            have SD := Lib.hid (sdig b.toNat b256 wr)
            rw [q2] at SD
            have V := Lib.hid (NB.out b pm.1 pm.2 (fun h => h.elim dot dg))
            have BB := Lib.hid (T1.out.trans ((BK.out wr hBq.out).mono wB))
            clear pt pm eb q2 dg DJ dot
            go_wp2_with fail
            refine SD.out.mono ?_
            rintro e w4 ⟨rfl, rfl⟩
            go_wp2
            go_ret2
            exact ⟨_, by rw [V.out.1]; rfl, by rw [V.out.2]; exact RowsAt.nil _ _ _, BB.out⟩
        · have y1 : decide ((j : Int) < (p.size : Int)) = false := decide_eq_false (by omega)
          have y1' : decide (j < p.size) = false := decide_eq_false d
          obtain rfl : j = p.size := by omega
          have I2 := Lib.hid hI.out
          rw [PE.out] at I2
          obtain ⟨ra, rc, rfl⟩ := I2.out.len_eq
          rw [rl] at I2
          rw [rl]
          have Q2 := Lib.hid (QK.out wr hBq.out)
          have B2 := Lib.hid (BK.out wr hBq.out)
          have hlen : (R.take x).length < 1000000000 := by rw [List.length_take]; omega
          have DD : Hid (∀ y, y < x + 1 → ∀ b ∈ (ps.getD y ByteArray.empty).data.toList, dgp b) := fun y hy b hb => by
            by_cases e : y = x
            · rw [e, HPP.out] at hb
              obtain ⟨k, hk, rfl⟩ := List.mem_iff_getElem.1 hb
              exact hDj.out k hk (by omega)
            · exact hD.out y (by omega) b hb
          go_wp2_with (at_builtin; refine wpList_pushR _ (by rfl) _ _ (by rfl) B L _ _ _ _ (by rfl) Q2.out I2.out _ (by rfl) hlen BL ?_; intro v' w6 hn hb2; have HN' := Lib.hid hn; have HB3 := Lib.hid hb2; clear hn hb2)
          go_roundw
          case rel => exact ⟨x + 1, by omega, by go_num, by unfold Hid; rw [TS.out]; exact HN'.out, B2.out.trans HB3.out, DD⟩
          case measure => simp [intOf]; omega
    · have k1 : decide ((x : Int) < (m : Int)) = false := decide_eq_false (by omega)
      have k1' : decide (x < m) = false := decide_eq_false c
      obtain rfl : x = m := by omega
      have Q2 := Lib.hid hQ.out
      rw [TM.out] at Q2
      have OK := Lib.hid (CV.out hD.out)
      have SS := Lib.hid (SQ.out wr _ Q2.out.at)
      have BB := Lib.hid (T1.out.trans (hBl.out.mono wB))
      have RR := Lib.hid (fun V (b : Below wr.heap.size wr V) => Q2.out.at.below b (Nat.le_refl _))
      cases z with
      | false =>
        have V := Lib.hid (NS.out rfl)
        go_wp2_with fail
        refine SS.out.mono ?_
        rintro e w4 ⟨rfl, b4⟩
        have X4 := Lib.hid (t_chain BB.out b4)
        clear b4
        go_wp2
        go_ret2
        exact ⟨_, by rw [V.out.1]; rfl, by rw [V.out.2]; exact RowsAt.nil _ _ _, X4.out⟩
      | true =>
        have V := Lib.hid (YS.out OK.out rfl)
        go_wp2_with fail
        refine SS.out.mono ?_
        rintro e w4 ⟨rfl, b4⟩
        have X4 := Lib.hid (t_chain BB.out b4)
        have R4 := Lib.hid (RR.out w4 b4)
        clear b4
        go_wp2
        go_ret2
        exact ⟨_, by rw [V.out.1]; rfl, by rw [V.out.2]; exact R4.out, X4.out⟩
end Go.Proofs.Ytaipgfahkpnooaa
