/- PartialText: the model. -/
import Derived.Test.YtoioconlpdgndaaDoorRtx
import Derived.Test.YtoioconlpdgndaaDoorPts
namespace Go.Proofs.YtoioconlpdgndaaDoor
open Go.RowKit
set_option linter.unusedVariables false
set_option linter.unusedSimpArgs false

noncomputable def PartialText_0 (xss : List (List Int)) : ByteArray := if ptB xss = true then ⟨(txt7 xss xss.length).toArray⟩ else ⟨#[]⟩
theorem pt_yes {xss : List (List Int)} (h : ptB xss = true) : PartialText_0 xss = ⟨(txt7 xss xss.length).toArray⟩ := if_pos h
theorem pt_no {xss : List (List Int)} (h : ptB xss = false) : PartialText_0 xss = ⟨#[]⟩ := if_neg (by rw [h]; simp)
theorem ptFacts {xss : List (List Int)} (h : IsPart xss) : SqFacts xss xss.length :=
  rowsFacts h.lo h.hi (fun x hx => h.row x hx) (fun x y hx hy => h.pf.cell x y hx hy)

set_option maxRecDepth 100000 in
set_option maxHeartbeats 8000000 in
theorem sPartialText (xss : List (List Int)) (hx : SmallLL xss) (W : World) (v : Value) (hv : RowsAt W v xss) :
    Calls Tryd.prog 10 #[v] W fun e w' => e = .returned (.string (PartialText_0 xss)) ∧ Below W.heap.size W w' := by
  have HS := Lib.hid (sPart W v xss hv)
  obtain ⟨a, cap, rfl, -, hc⟩ := hv.cellsOf
  have HC := Lib.hid hc
  obtain ⟨z, hz⟩ : ∃ z, ptB xss = z := ⟨_, rfl⟩
  have VN := Lib.hid (fun h => pt_no (xss := xss) h)
  have VY := Lib.hid (fun h => pt_yes (xss := xss) h)
  have SF := Lib.hid (fun h => ptFacts (of_ptB (xss := xss) h))
  rw [hz] at HS VN VY SF
  obtain ⟨n, hn⟩ : ∃ n, xss.length = n := ⟨_, rfl⟩
  rw [hn] at HC VY SF HS ⊢
  clear hx hv hc hz hn
  cases z with
  | false =>
    have V := Lib.hid (VN.out rfl)
    go_enter Tryd.func10, Tryd.ntmps10
    go_wp2_with fail
    refine HS.out.mono ?_
    rintro e w1 ⟨rfl, b1⟩
    have B1 := Lib.hid b1
    clear b1
    go_wp2
    go_ret
    exact ⟨by rw [V.out]; rfl, B1.out⟩
  | true =>
    have V := Lib.hid (VY.out rfl)
    have F := Lib.hid (SF.out rfl)
    have n1 := F.out.lo
    have n2 := F.out.hi
    go_enter Tryd.func10, Tryd.ntmps10
    go_wp2_with fail
    refine HS.out.mono ?_
    rintro e w1 ⟨rfl, b1⟩
    have B1 := Lib.hid b1
    clear b1 HS
    go_wp2
    go_loopw [3, 4] (fun o i wr => ∃ (x : Nat) (L : List UInt8), x ≤ n ∧ i = .int .i64 x ∧ o = .string ⟨L.toArray⟩ ∧ Hid (L = txt7 xss x) ∧ Hid (Below W.heap.size W wr)) (fun _ i _ => n - (intOf i).toNat)
    case atStart => exact ⟨0, [], by omega, rfl, rfl, rfl, B1⟩
    case round =>
      obtain ⟨x, L, hx, rfl, rfl, hL, hBl⟩ := hrel
      have tl := F.out.tlen x hx
      rw [← hL.out] at tl
      by_cases c : x < n
      · have k1 : decide ((x : Int) < (n : Int)) = true := decide_eq_true (by omega)
        have k1' : decide (x < n) = true := decide_eq_true c
        have wx3 := IntWalk.i64_in ((x : Int) + 1) (by omega)
        have x0 : (0 : Int) ≤ (x : Int) := by omega
        have x1 : (x : Int) < (n : Int) := by omega
        obtain ⟨g, off, u, rfl, hg, cx, hu⟩ := HC.out x c
        obtain ⟨ua, uc, rfl, -, -, hu2⟩ := hu.part
        have rl := F.out.len x c
        have CE := Lib.hid (fun y hy => F.out.cell x y c hy)
        have RL := Lib.hid (fun y => F.out.rlen x y c)
        have TS : Hid (txt7 xss (x + 1) = txt7 xss x ++ sep7 x ++ rowt (xss.getD x [])) := rfl
        obtain ⟨r, hr⟩ : ∃ r, xss.getD x [] = r := ⟨_, rfl⟩
        rw [hr] at cx rl CE RL TS hu2
        have RS := Lib.hid (fun y h => rowt_succ (r := r) (y := y) h)
        have RE : Hid (r.take n = r) := by unfold Hid; rw [← rl]; exact List.take_length
        rw [rl] at cx hu2 RS
        have HU := Lib.hid hu2
        obtain ⟨M, hM⟩ : ∃ M, L ++ sep7 x = M := ⟨_, rfl⟩
        have HM := Lib.hid hM
        have ml : M.length ≤ 111 := by have := sep7_len x; rw [← hM, List.length_append]; omega
        have KEY : Hid (∀ V : World, Below W.heap.size W V → V.cell? ⟨g, off + x, none⟩ = some (.slice ua n uc)) := fun V b => (b.cell (p := ⟨g, off + x, none⟩) hg).trans cx
        have cxr := KEY.out wr hBl.out
        obtain ⟨wq, rfl⟩ : ∃ wq : World, wq = wr := ⟨_, rfl⟩
        have KM : (x = 0 ∧ M = L) ∨ (0 < x ∧ L ++ [47] = M) := by
          by_cases e : x = 0
          · exact .inl ⟨e, by rw [← hM]; unfold sep7; rw [if_pos e, List.append_nil]⟩
          · exact .inr ⟨by omega, by rw [← hM]; unfold sep7; rw [if_neg e]⟩
        clear hr rl hu hu2 cx hM
        rcases KM with ⟨e, e2⟩ | ⟨e, e2⟩
        · have k2 : decide ((0 : Int) < (x : Int)) = false := decide_eq_false (by omega)
          have k2' : decide (0 < x) = false := decide_eq_false (by omega)
          subst e2
          clear e
          go_wp2
          go_loopw [3, 5] (fun o i wr => ∃ (y : Nat) (K : List UInt8), y ≤ n ∧ i = .int .i64 y ∧ o = .string ⟨K.toArray⟩ ∧ Hid (K = M ++ rowt (r.take y)) ∧ Hid (Below W.heap.size W wr)) (fun _ i _ => n - (intOf i).toNat)
          case atStart => exact ⟨0, M, by omega, rfl, rfl, by simp [Hid, rowt], hBl⟩
          case round =>
            obtain ⟨y, K, hy, rfl, rfl, hK, hBq⟩ := hrel
            have kl : K.length ≤ 121 := by
              have := RL.out y
              rw [hK.out, List.length_append]; omega
            by_cases d : y < n
            · have y1 : decide ((y : Int) < (n : Int)) = true := decide_eq_true (by omega)
              have y1' : decide (y < n) = true := decide_eq_true d
              have wy3 := IntWalk.i64_in ((y : Int) + 1) (by omega)
              have j0 : (0 : Int) ≤ (y : Int) := by omega
              have j1 : (y : Int) < (n : Int) := by omega
              obtain ⟨g2, off2, rfl, hg2, cy⟩ := HU.out y d
              obtain ⟨q1, q2⟩ := CE.out y d
              have rs := RS.out y d
              obtain ⟨q, hq⟩ : ∃ q, r.getD y 0 = q := ⟨_, rfl⟩
              rw [hq] at cy q1 q2 rs
              have cyr := (hBq.out.cell (p := ⟨g2, off2 + y, none⟩) hg2).trans cy
              have cxq := KEY.out wr hBq.out
              clear hq cy hg2
              by_cases ee : q < 0
              · have t1 : decide (q < 0) = true := decide_eq_true ee
                have sz : ¬ ((⟨K.toArray⟩ : ByteArray).size + (⟨#[46]⟩ : ByteArray).size > 9223372036854775807) := by simp [ByteArray.size]; omega
                have ap : (⟨K.toArray⟩ : ByteArray) ++ ⟨#[46]⟩ = ⟨(K ++ [46]).toArray⟩ := by rw [show (⟨#[46]⟩ : ByteArray) = ⟨[46].toArray⟩ from rfl, ba_app]
                rw [show q = -1 by omega, cellt_e] at rs
                have K2 : Hid (K ++ [46] = M ++ rowt (r.take (y + 1))) := by unfold Hid; rw [rs, hK.out, List.append_assoc]
                clear rs ee q1 q2
                go_wp2
                go_roundw
                case rel => exact ⟨y + 1, K ++ [46], by omega, by go_num, rfl, K2, hBq⟩
                case measure => simp [intOf]; omega
              · have t1 : decide (q < 0) = false := decide_eq_false ee
                rw [cellt_f (by omega)] at rs
                have il := itoa_one (v := q) ⟨by omega, by omega⟩
                have hD := Lib.hid (fun V : World => sdec q V (by omega) (by omega))
                obtain ⟨D, hDD⟩ : ∃ D, Lib.itoa q = D := ⟨_, rfl⟩
                have ed : dec q = ⟨D.toArray⟩ := by unfold dec; rw [hDD]
                rw [hDD] at il rs
                simp only [ed] at hD
                have sz : ¬ ((⟨K.toArray⟩ : ByteArray).size + (⟨D.toArray⟩ : ByteArray).size > 9223372036854775807) := by simp [ByteArray.size]; omega
                have ap : (⟨K.toArray⟩ : ByteArray) ++ ⟨D.toArray⟩ = ⟨(K ++ D).toArray⟩ := ba_app _ _
                have K2 : Hid (K ++ D = M ++ rowt (r.take (y + 1))) := by unfold Hid; rw [rs, hK.out, List.append_assoc]
                clear rs hDD ed ee q1 q2
                go_wp2_with fail
                refine (hD.out _).mono ?_
                rintro e w5 ⟨rfl, b5⟩
                have B5 := Lib.hid (hBq.out.trans (b5.mono hBq.out.size))
                clear b5
                go_wp2
                go_roundw
                case rel => exact ⟨y + 1, K ++ D, by omega, by go_num, rfl, K2, B5⟩
                case measure => simp [intOf]; omega
            · have y1 : decide ((y : Int) < (n : Int)) = false := decide_eq_false (by omega)
              have y1' : decide (y < n) = false := decide_eq_false d
              obtain rfl : y = n := by omega
              have L2 : Hid (K = txt7 xss (x + 1)) := by unfold Hid; rw [hK.out, RE.out, TS.out, ← hL.out, HM.out]
              go_wp2
              go_roundw
              case rel => exact ⟨x + 1, K, by omega, by go_num, rfl, L2, hBq⟩
              case measure => simp [intOf]; omega
        · have k2 : decide ((0 : Int) < (x : Int)) = true := decide_eq_true (by omega)
          have k2' : decide (0 < x) = true := decide_eq_true (by omega)
          have sz1 : ¬ ((⟨L.toArray⟩ : ByteArray).size + (⟨#[47]⟩ : ByteArray).size > 9223372036854775807) := by simp [ByteArray.size]; omega
          have ap1 : (⟨L.toArray⟩ : ByteArray) ++ ⟨#[47]⟩ = ⟨M.toArray⟩ := by rw [show (⟨#[47]⟩ : ByteArray) = ⟨[47].toArray⟩ from rfl, ba_app, e2]
          clear e e2
          go_wp2
          go_loopw [3, 5] (fun o i wr => ∃ (y : Nat) (K : List UInt8), y ≤ n ∧ i = .int .i64 y ∧ o = .string ⟨K.toArray⟩ ∧ Hid (K = M ++ rowt (r.take y)) ∧ Hid (Below W.heap.size W wr)) (fun _ i _ => n - (intOf i).toNat)
          case atStart => exact ⟨0, M, by omega, rfl, rfl, by simp [Hid, rowt], hBl⟩
          case round =>
            obtain ⟨y, K, hy, rfl, rfl, hK, hBq⟩ := hrel
            have kl : K.length ≤ 121 := by
              have := RL.out y
              rw [hK.out, List.length_append]; omega
            by_cases d : y < n
            · have y1 : decide ((y : Int) < (n : Int)) = true := decide_eq_true (by omega)
              have y1' : decide (y < n) = true := decide_eq_true d
              have wy3 := IntWalk.i64_in ((y : Int) + 1) (by omega)
              have j0 : (0 : Int) ≤ (y : Int) := by omega
              have j1 : (y : Int) < (n : Int) := by omega
              obtain ⟨g2, off2, rfl, hg2, cy⟩ := HU.out y d
              obtain ⟨q1, q2⟩ := CE.out y d
              have rs := RS.out y d
              obtain ⟨q, hq⟩ : ∃ q, r.getD y 0 = q := ⟨_, rfl⟩
              rw [hq] at cy q1 q2 rs
              have cyr := (hBq.out.cell (p := ⟨g2, off2 + y, none⟩) hg2).trans cy
              have cxq := KEY.out wr hBq.out
              clear hq cy hg2
              by_cases ee : q < 0
              · have t1 : decide (q < 0) = true := decide_eq_true ee
                have sz : ¬ ((⟨K.toArray⟩ : ByteArray).size + (⟨#[46]⟩ : ByteArray).size > 9223372036854775807) := by simp [ByteArray.size]; omega
                have ap : (⟨K.toArray⟩ : ByteArray) ++ ⟨#[46]⟩ = ⟨(K ++ [46]).toArray⟩ := by rw [show (⟨#[46]⟩ : ByteArray) = ⟨[46].toArray⟩ from rfl, ba_app]
                rw [show q = -1 by omega, cellt_e] at rs
                have K2 : Hid (K ++ [46] = M ++ rowt (r.take (y + 1))) := by unfold Hid; rw [rs, hK.out, List.append_assoc]
                clear rs ee q1 q2
                go_wp2
                go_roundw
                case rel => exact ⟨y + 1, K ++ [46], by omega, by go_num, rfl, K2, hBq⟩
                case measure => simp [intOf]; omega
              · have t1 : decide (q < 0) = false := decide_eq_false ee
                rw [cellt_f (by omega)] at rs
                have il := itoa_one (v := q) ⟨by omega, by omega⟩
                have hD := Lib.hid (fun V : World => sdec q V (by omega) (by omega))
                obtain ⟨D, hDD⟩ : ∃ D, Lib.itoa q = D := ⟨_, rfl⟩
                have ed : dec q = ⟨D.toArray⟩ := by unfold dec; rw [hDD]
                rw [hDD] at il rs
                simp only [ed] at hD
                have sz : ¬ ((⟨K.toArray⟩ : ByteArray).size + (⟨D.toArray⟩ : ByteArray).size > 9223372036854775807) := by simp [ByteArray.size]; omega
                have ap : (⟨K.toArray⟩ : ByteArray) ++ ⟨D.toArray⟩ = ⟨(K ++ D).toArray⟩ := ba_app _ _
                have K2 : Hid (K ++ D = M ++ rowt (r.take (y + 1))) := by unfold Hid; rw [rs, hK.out, List.append_assoc]
                clear rs hDD ed ee q1 q2
                go_wp2_with fail
                refine (hD.out _).mono ?_
                rintro e w5 ⟨rfl, b5⟩
                have B5 := Lib.hid (hBq.out.trans (b5.mono hBq.out.size))
                clear b5
                go_wp2
                go_roundw
                case rel => exact ⟨y + 1, K ++ D, by omega, by go_num, rfl, K2, B5⟩
                case measure => simp [intOf]; omega
            · have y1 : decide ((y : Int) < (n : Int)) = false := decide_eq_false (by omega)
              have y1' : decide (y < n) = false := decide_eq_false d
              obtain rfl : y = n := by omega
              have L2 : Hid (K = txt7 xss (x + 1)) := by unfold Hid; rw [hK.out, RE.out, TS.out, ← hL.out, HM.out]
              go_wp2
              go_roundw
              case rel => exact ⟨x + 1, K, by omega, by go_num, rfl, L2, hBq⟩
              case measure => simp [intOf]; omega
      · have k1 : decide ((x : Int) < (n : Int)) = false := decide_eq_false (by omega)
        have k1' : decide (x < n) = false := decide_eq_false c
        obtain rfl : x = n := by omega
        go_wp2
        go_ret
        exact ⟨by rw [V.out, ← hL.out]; rfl, hBl.out⟩
end Go.Proofs.YtoioconlpdgndaaDoor
