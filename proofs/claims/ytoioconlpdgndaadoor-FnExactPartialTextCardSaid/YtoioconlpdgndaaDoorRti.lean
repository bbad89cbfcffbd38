/- The text of rows: the program. -/
import Derived.Test.YtoioconlpdgndaaDoorRtx
namespace Go.Proofs.YtoioconlpdgndaaDoor
open Go.RowKit
set_option linter.unusedVariables false
set_option linter.unusedSimpArgs false

theorem bc_app (L M : List UInt8) : Lib.byteCells (L ++ M) = Lib.byteCells L ++ Lib.byteCells M := Lib.byteCells_append L M
abbrev Bd (w : World) (B b : Nat) (L : List UInt8) : Prop := Lib.IsBuilder 44 5 B b (Lib.byteCells L) w
theorem Bd.below {B b B' : Nat} {L : List UInt8} {w w' : World} (h : Bd w B b L) (hb : Below B' w w') (hs : w.heap.size ≤ B') : Bd w' B b L := by
  have k : ∀ p, Lib.BuilderAt 44 5 B b p (Lib.byteCells L) w → Lib.BuilderAt 44 5 B b p (Lib.byteCells L) w' := fun p ⟨h1, v, h2, h3, h4⟩ => by
    have lt := (Array.getElem?_eq_some_iff.1 h2).1
    exact ⟨h1, v, (hb.block b (by omega)).trans h2, ownsRow_of_block h3 (fun k e => hb.block k (by have := (World.ownsRow.lt h3 k e).2; omega)), h4⟩
  rcases h with h | h
  · exact Or.inl (k _ h)
  · exact Or.inr (k _ h)
theorem Bd.byte {B b : Nat} {L : List UInt8} {w : World} (h : Bd w B b L) (hl : L.length ≤ 1000) (hB : B ≤ w.heap.size) :
    Calls Tryd.prog 23 #[.pointer (some ⟨b, 0, none⟩), .int .u8 47] w fun e w' => e = .returned .nilIface ∧ Bd w' B b (L ++ [47]) ∧ Below B w w' :=
  (bbyte B b _ 47 w h (by rw [Lib.byteCells_length]; omega) hB).mono fun e w' ⟨h1, h2, h3⟩ => ⟨h1, by unfold Bd; rw [bc_app]; exact h2, h3⟩
theorem Bd.str {B b : Nat} {L D : List UInt8} {w : World} (h : Bd w B b L) (hl : L.length + D.length ≤ 1000) (hB : B ≤ w.heap.size) :
    Calls Tryd.prog 24 #[.pointer (some ⟨b, 0, none⟩), .string ⟨D.toArray⟩] w fun e w' => ∃ z, e = .returned (.tuple #[z, .nilIface]) ∧ Bd w' B b (L ++ D) ∧ Below B w w' :=
  (bstring B b _ ⟨D.toArray⟩ w h (by rw [Lib.byteCells_length]; show L.length + D.toArray.size ≤ 1000000; rw [List.size_toArray]; omega) hB).mono fun e w' ⟨h1, h2, h3⟩ => ⟨_, h1, by unfold Bd; rw [bc_app]; exact h2, h3⟩

theorem Bd.dot {B b : Nat} {L : List UInt8} {w : World} (h : Bd w B b L) (hl : L.length ≤ 1000) (hB : B ≤ w.heap.size) :
    Calls Tryd.prog 23 #[.pointer (some ⟨b, 0, none⟩), .int .u8 46] w fun e w' => e = .returned .nilIface ∧ Bd w' B b (L ++ [46]) ∧ Below B w w' :=
  (bbyte B b _ 46 w h (by rw [Lib.byteCells_length]; omega) hB).mono fun e w' ⟨h1, h2, h3⟩ => ⟨h1, by unfold Bd; rw [bc_app]; exact h2, h3⟩
set_option maxRecDepth 100000 in
set_option maxHeartbeats 8000000 in
theorem irowsText (xss : List (List Int)) (n : Nat) (hn : xss.length = n) (W : World) (v : Value) (hv : RowsAt W v xss) (hF : SqFacts xss n) (ht : Tab W) :
    Calls Tryd.prog 17 #[v] W fun e w' => e = .returned (.string ⟨(txt7 xss n).toArray⟩) ∧ Below W.heap.size W w' := by
  obtain ⟨a, cap, rfl, -, hc⟩ := hv.cellsOf
  have HC := Lib.hid hc
  have F := Lib.hid hF
  have TB := Lib.hid ht
  rw [hn] at HC ⊢
  clear hv hc hn ht hF
  have n1 := F.out.lo
  have n2 := F.out.hi
  have NE := Lib.hid (txt7_ne F.out)
  obtain ⟨B, hB⟩ : ∃ B, W.heap.size = B := ⟨_, rfl⟩
  have HBE := Lib.hid hB
  go_enter Tryd.func17, Tryd.ntmps17
  rw [hB] at HC
  have B1 : Hid (Below B W (W.alloc (.cells #[.pointer none, .slice none 0 0] 44))) := (Below.refl B W).alloc (by omega) _
  have D1 : Hid (Bd (W.alloc (.cells #[.pointer none, .slice none 0 0] 44)) W.heap.size W.heap.size []) := Lib.fresh_isBuilder _ _ _
  go_wp2
  obtain ⟨wo, hwo⟩ : ∃ wo, W.alloc (.cells #[.pointer none, .slice none 0 0] 44) = wo := ⟨_, rfl⟩
  have so : B ≤ wo.heap.size := by rw [← hwo, World.size_alloc]; omega
  rw [hwo] at B1 D1 ⊢
  rw [hB] at D1
  have sw : B ≤ B := Nat.le_refl _
  clear hwo hB
  go_loopw [10] (fun i wr => ∃ (x : Nat) (L : List UInt8), x ≤ n ∧ i = .int .i64 x ∧ Hid (Bd wr B B L) ∧ Hid (L = txt7 xss x) ∧ Hid (Below B W wr) ∧ Hid (B ≤ wr.heap.size)) (fun i _ => n - (intOf i).toNat)
  case atStart => exact ⟨0, [], by omega, rfl, D1, rfl, B1, so⟩
  case round =>
    obtain ⟨x, L, hx, rfl, hD, hL, hBl, hs⟩ := hrel
    have tl := F.out.tlen x hx
    rw [← hL.out] at tl
    by_cases c : x < n
    · have k1 : decide ((x : Int) < (n : Int)) = true := decide_eq_true (by omega)
      have k1' : decide (x < n) = true := decide_eq_true c
      have wx3 := IntWalk.i64_in ((x : Int) + 1) (by omega)
      have x0 : (0 : Int) ≤ (x : Int) := by omega
      have x1 : (x : Int) < (n : Int) := by omega
      obtain ⟨g, off, u, rfl, hg, cx, hu⟩ := HC.out x c
      obtain ⟨ua, uc, rfl, -, -, hu2⟩ := hu.part
      have rl := F.out.len x c
      have CE := Lib.hid (fun y hy => F.out.cell x y c hy)
      have RL := Lib.hid (fun y => F.out.rlen x y c)
      have TS : Hid (txt7 xss (x + 1) = txt7 xss x ++ sep7 x ++ rowt (xss.getD x [])) := rfl
      obtain ⟨r, hr⟩ : ∃ r, xss.getD x [] = r := ⟨_, rfl⟩
      rw [hr] at cx rl CE RL TS hu2
      have RS := Lib.hid (fun y h => rowt_succ (r := r) (y := y) h)
      have RE : Hid (r.take n = r) := by unfold Hid; rw [← rl]; exact List.take_length
      rw [rl] at cx hu2 RS
      have HU := Lib.hid hu2
      obtain ⟨M, hM⟩ : ∃ M, L ++ sep7 x = M := ⟨_, rfl⟩
      have HM := Lib.hid hM
      have ml : M.length ≤ 111 := by have := sep7_len x; rw [← hM, List.length_append]; omega
      have cxr := (hBl.out.cell (p := ⟨g, off + x, none⟩) hg).trans cx
      have KM : (x = 0 ∧ M = L) ∨ (0 < x ∧ L ++ [47] = M) := by
        by_cases e : x = 0
        · exact .inl ⟨e, by rw [← hM]; unfold sep7; rw [if_pos e, List.append_nil]⟩
        · exact .inr ⟨by omega, by rw [← hM]; unfold sep7; rw [if_neg e]⟩
      clear hr rl hu hu2 cx hM
      rcases KM with ⟨e, e2⟩ | ⟨e, e2⟩
      · have k2 : decide ((0 : Int) < (x : Int)) = false := decide_eq_false (by omega)
        have k2' : decide (0 < x) = false := decide_eq_false (by omega)
        subst e2
        clear e
        have hD2 := Lib.hid hD.out
        have hBl2 := Lib.hid hBl.out
        have hs2 := Lib.hid hs.out
        obtain ⟨wq, rfl⟩ : ∃ wq : World, wq = wr := ⟨_, rfl⟩
        go_wp2
        go_loopw [20] (fun i wr => ∃ (y : Nat) (K : List UInt8), y ≤ n ∧ i = .int .i64 y ∧ Hid (Bd wr B B K) ∧ Hid (K = M ++ rowt (r.take y)) ∧ Hid (Below B W wr) ∧ Hid (B ≤ wr.heap.size)) (fun i _ => n - (intOf i).toNat)
        case atStart => exact ⟨0, M, by omega, rfl, hD2, by simp [Hid, rowt], hBl2, hs2⟩
        case round =>
          obtain ⟨y, K, hy, rfl, hDk, hK, hBq, hsq⟩ := hrel
          have kl : K.length ≤ 121 := by
            have := RL.out y
            rw [hK.out, List.length_append]; omega
          by_cases d : y < n
          · have y1 : decide ((y : Int) < (n : Int)) = true := decide_eq_true (by omega)
            have y1' : decide (y < n) = true := decide_eq_true d
            have wy3 := IntWalk.i64_in ((y : Int) + 1) (by omega)
            have j0 : (0 : Int) ≤ (y : Int) := by omega
            have j1 : (y : Int) < (n : Int) := by omega
            obtain ⟨g2, off2, rfl, hg2, cy⟩ := HU.out y d
            obtain ⟨q1, q2⟩ := CE.out y d
            have rs := RS.out y d
            obtain ⟨q, hq⟩ : ∃ q, r.getD y 0 = q := ⟨_, rfl⟩
            rw [hq] at cy q1 q2 rs
            have cyr := (hBq.out.cell (p := ⟨g2, off2 + y, none⟩) (by rw [← HBE.out]; exact hg2)).trans cy
            clear cy hg2 hq
            by_cases ee : q = -1
            · have t1 : (q == (-1 : Int)) = true := by simp [ee]
              rw [ee, cellt_e] at rs
              have HW5 := Lib.hid (Bd.dot hDk.out (by omega) hsq.out)
              have K2 : Hid (K ++ [46] = M ++ rowt (r.take (y + 1))) := by unfold Hid; rw [rs, hK.out, List.append_assoc]
              clear rs ee q1 q2
              go_wp2_with fail
              refine HW5.out.mono ?_
              rintro e w6 ⟨rfl, d6, b6⟩
              have D6 := Lib.hid d6
              have B6 := Lib.hid (hBq.out.trans b6)
              have S6 := Lib.hid (Nat.le_trans hsq.out b6.size)
              clear d6 b6
              go_wp2
              go_roundw
              case rel => exact ⟨y + 1, K ++ [46], by omega, by go_num, D6, K2, B6, S6⟩
              case measure => simp [intOf]; omega
            · have t1 : (q == (-1 : Int)) = false := by simp [ee]
              have q0 : 0 ≤ q := by omega
              rw [cellt_f q0] at rs
              have il := itoa_one (v := q) ⟨q0, by omega⟩
              have hDc := Lib.hid (idec q wr (by omega) (by omega) (TB.out.below hBq.out (by rw [← HBE.out]; exact TB.out.pos)))
              obtain ⟨D, hDD⟩ : ∃ D, Lib.itoa q = D := ⟨_, rfl⟩
              have ed : dec q = ⟨D.toArray⟩ := by unfold dec; rw [hDD]
              rw [hDD] at il rs
              rw [ed] at hDc
              have K2 : Hid (K ++ D = M ++ rowt (r.take (y + 1))) := by unfold Hid; rw [rs, hK.out, List.append_assoc]
              clear rs hDD ed ee q1 q2 q0
              go_wp2_with fail
              refine hDc.out.mono ?_
              rintro e w5 ⟨rfl, b5⟩
              have B5 := Lib.hid (hBq.out.trans (b5.mono (by have := hBq.out.size; have := HBE.out; omega)))
              have HW5 := Lib.hid (Bd.str (D := D) (hDk.out.below b5 (Nat.le_refl _)) (by omega) (Nat.le_trans hsq.out b5.size))
              have S5 := Lib.hid (Nat.le_trans hsq.out b5.size)
              clear b5
              go_wp2_with fail
              refine HW5.out.mono ?_
              rintro e w6 ⟨z6, rfl, d6, b6⟩
              have D6 := Lib.hid d6
              have B6 := Lib.hid (B5.out.trans b6)
              have S6 := Lib.hid (Nat.le_trans S5.out b6.size)
              clear d6 b6
              go_wp2
              go_roundw
              case rel => exact ⟨y + 1, K ++ D, by omega, by go_num, D6, K2, B6, S6⟩
              case measure => simp [intOf]; omega
          · have y1 : decide ((y : Int) < (n : Int)) = false := decide_eq_false (by omega)
            have y1' : decide (y < n) = false := decide_eq_false d
            obtain rfl : y = n := by omega
            have L2 : Hid (K = txt7 xss (x + 1)) := by unfold Hid; rw [hK.out, RE.out, TS.out, ← hL.out, HM.out]
            go_wp2
            go_roundw
            case rel => exact ⟨x + 1, K, by omega, by go_num, hDk, L2, hBq, hsq⟩
            case measure => simp [intOf]; omega
      · have k2 : decide ((0 : Int) < (x : Int)) = true := decide_eq_true (by omega)
        have k2' : decide (0 < x) = true := decide_eq_true (by omega)
        have HW := Lib.hid (hD.out.byte (by omega) hs.out)
        rw [e2] at HW
        clear e e2
        go_wp2_with fail
        refine HW.out.mono ?_
        rintro e wq ⟨rfl, d5, b5⟩
        have hD2 : Hid (Bd wq B B M) := d5
        have hBl2 := Lib.hid (hBl.out.trans b5)
        have hs2 := Lib.hid (Nat.le_trans hs.out b5.size)
        clear d5 b5 HW cxr
        go_wp2
        go_loopw [20] (fun i wr => ∃ (y : Nat) (K : List UInt8), y ≤ n ∧ i = .int .i64 y ∧ Hid (Bd wr B B K) ∧ Hid (K = M ++ rowt (r.take y)) ∧ Hid (Below B W wr) ∧ Hid (B ≤ wr.heap.size)) (fun i _ => n - (intOf i).toNat)
        case atStart => exact ⟨0, M, by omega, rfl, hD2, by simp [Hid, rowt], hBl2, hs2⟩
        case round =>
          obtain ⟨y, K, hy, rfl, hDk, hK, hBq, hsq⟩ := hrel
          have kl : K.length ≤ 121 := by
            have := RL.out y
            rw [hK.out, List.length_append]; omega
          by_cases d : y < n
          · have y1 : decide ((y : Int) < (n : Int)) = true := decide_eq_true (by omega)
            have y1' : decide (y < n) = true := decide_eq_true d
            have wy3 := IntWalk.i64_in ((y : Int) + 1) (by omega)
            have j0 : (0 : Int) ≤ (y : Int) := by omega
            have j1 : (y : Int) < (n : Int) := by omega
            obtain ⟨g2, off2, rfl, hg2, cy⟩ := HU.out y d
            obtain ⟨q1, q2⟩ := CE.out y d
            have rs := RS.out y d
            obtain ⟨q, hq⟩ : ∃ q, r.getD y 0 = q := ⟨_, rfl⟩
            rw [hq] at cy q1 q2 rs
            have cyr := (hBq.out.cell (p := ⟨g2, off2 + y, none⟩) (by rw [← HBE.out]; exact hg2)).trans cy
            clear cy hg2 hq
            by_cases ee : q = -1
            · have t1 : (q == (-1 : Int)) = true := by simp [ee]
              rw [ee, cellt_e] at rs
              have HW5 := Lib.hid (Bd.dot hDk.out (by omega) hsq.out)
              have K2 : Hid (K ++ [46] = M ++ rowt (r.take (y + 1))) := by unfold Hid; rw [rs, hK.out, List.append_assoc]
              clear rs ee q1 q2
              go_wp2_with fail
              refine HW5.out.mono ?_
              rintro e w6 ⟨rfl, d6, b6⟩
              have D6 := Lib.hid d6
              have B6 := Lib.hid (hBq.out.trans b6)
              have S6 := Lib.hid (Nat.le_trans hsq.out b6.size)
              clear d6 b6
              go_wp2
              go_roundw
              case rel => exact ⟨y + 1, K ++ [46], by omega, by go_num, D6, K2, B6, S6⟩
              case measure => simp [intOf]; omega
            · have t1 : (q == (-1 : Int)) = false := by simp [ee]
              have q0 : 0 ≤ q := by omega
              rw [cellt_f q0] at rs
              have il := itoa_one (v := q) ⟨q0, by omega⟩
              have hDc := Lib.hid (idec q wr (by omega) (by omega) (TB.out.below hBq.out (by rw [← HBE.out]; exact TB.out.pos)))
              obtain ⟨D, hDD⟩ : ∃ D, Lib.itoa q = D := ⟨_, rfl⟩
              have ed : dec q = ⟨D.toArray⟩ := by unfold dec; rw [hDD]
              rw [hDD] at il rs
              rw [ed] at hDc
              have K2 : Hid (K ++ D = M ++ rowt (r.take (y + 1))) := by unfold Hid; rw [rs, hK.out, List.append_assoc]
              clear rs hDD ed ee q1 q2 q0
              go_wp2_with fail
              refine hDc.out.mono ?_
              rintro e w5 ⟨rfl, b5⟩
              have B5 := Lib.hid (hBq.out.trans (b5.mono (by have := hBq.out.size; have := HBE.out; omega)))
              have HW5 := Lib.hid (Bd.str (D := D) (hDk.out.below b5 (Nat.le_refl _)) (by omega) (Nat.le_trans hsq.out b5.size))
              have S5 := Lib.hid (Nat.le_trans hsq.out b5.size)
              clear b5
              go_wp2_with fail
              refine HW5.out.mono ?_
              rintro e w6 ⟨z6, rfl, d6, b6⟩
              have D6 := Lib.hid d6
              have B6 := Lib.hid (B5.out.trans b6)
              have S6 := Lib.hid (Nat.le_trans S5.out b6.size)
              clear d6 b6
              go_wp2
              go_roundw
              case rel => exact ⟨y + 1, K ++ D, by omega, by go_num, D6, K2, B6, S6⟩
              case measure => simp [intOf]; omega
          · have y1 : decide ((y : Int) < (n : Int)) = false := decide_eq_false (by omega)
            have y1' : decide (y < n) = false := decide_eq_false d
            obtain rfl : y = n := by omega
            have L2 : Hid (K = txt7 xss (x + 1)) := by unfold Hid; rw [hK.out, RE.out, TS.out, ← hL.out, HM.out]
            go_wp2
            go_roundw
            case rel => exact ⟨x + 1, K, by omega, by go_num, hDk, L2, hBq, hsq⟩
            case measure => simp [intOf]; omega
    · have k1 : decide ((x : Int) < (n : Int)) = false := decide_eq_false (by omega)
      have k1' : decide (x < n) = false := decide_eq_false c
      obtain rfl : x = n := by omega
      have ST := Lib.hid (Go.Proofs.Tryd.Builder_String B B L wr hD.out (by rw [hL.out]; exact NE.out))
      go_wp2_with fail
      refine ST.out.mono ?_
      rintro e w5 ⟨rfl, b5⟩
      have X5 := Lib.hid (hBl.out.trans b5)
      clear b5
      go_wp2
      go_ret
      exact ⟨by rw [hL.out]; rfl, by rw [HBE.out]; exact X5.out⟩
end Go.Proofs.YtoioconlpdgndaaDoor
