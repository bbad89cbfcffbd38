/- SquareText: both sides. -/
import Derived.Test.YtfkppoajfelakaaDoorPowt
import Derived.Test.YtfkppoajfelakaaDoorBld
import Derived.Test.YtfkppoajfelakaaDoorLsq
namespace Go.Proofs.YtfkppoajfelakaaDoor
open Go.RowKit
set_option linter.unusedVariables false
set_option linter.unusedSimpArgs false

abbrev Tab := PowTab
def sep7 (x : Nat) : List UInt8 := if x = 0 then [] else [47]
/-- The symbols of a row. -/
def rowt : List Int → List UInt8
  | [] => []
  | v :: r => Lib.itoa v ++ rowt r
theorem rowt_append : ∀ (p q : List Int), rowt (p ++ q) = rowt p ++ rowt q
  | [], q => rfl
  | v :: p, q => by rw [List.cons_append, rowt, rowt, rowt_append p q, List.append_assoc]
def txt7 (xss : List (List Int)) : Nat → List UInt8
  | 0 => []
  | x + 1 => txt7 xss x ++ sep7 x ++ rowt (xss.getD x [])
noncomputable def SquareText_0 (xss : List (List Int)) : ByteArray := if sqB xss = true then ⟨(txt7 xss xss.length).toArray⟩ else ⟨#[]⟩
theorem st_yes {xss : List (List Int)} (h : sqB xss = true) : SquareText_0 xss = ⟨(txt7 xss xss.length).toArray⟩ := if_pos h
theorem st_no {xss : List (List Int)} (h : sqB xss = false) : SquareText_0 xss = ⟨#[]⟩ := if_neg (by rw [h]; simp)
theorem itoa_one {v : Int} (h : 0 ≤ v ∧ v < 10) : (Lib.itoa v).length = 1 := by
  unfold Lib.itoa
  rw [if_neg (by omega), Lib.decDigits, dif_pos (by omega)]; rfl
theorem rowt_len : ∀ {r : List Int}, (∀ v ∈ r, 0 ≤ v ∧ v < 10) → (rowt r).length = r.length
  | [], _ => rfl
  | v :: r, h => by
    rw [rowt, List.length_append, itoa_one (h v (List.mem_cons_self ..)), rowt_len (fun x hx => h x (List.mem_cons_of_mem _ hx)), List.length_cons]
    omega
theorem sep7_len (x : Nat) : (sep7 x).length ≤ 1 := by unfold sep7; split <;> simp
theorem txt7_len {xss : List (List Int)} : ∀ x, (∀ i, i < x → (rowt (xss.getD i [])).length ≤ 10) → (txt7 xss x).length ≤ 11 * x
  | 0, _ => Nat.le_refl _
  | x + 1, h => by
    have a := txt7_len x (fun i hi => h i (by omega))
    have b := h x (by omega)
    have c := sep7_len x
    rw [txt7, List.length_append, List.length_append]
    omega
theorem rowt_succ {r : List Int} {y : Nat} (h : y < r.length) : rowt (r.take (y + 1)) = rowt (r.take y) ++ Lib.itoa (r.getD y 0) := by
  rw [List.take_succ_eq_append_getElem h, rowt_append]
  simp [rowt, List.getD, List.getElem?_eq_getElem h]
/-- What the walks want of a square. -/
structure SqFacts (xss : List (List Int)) (n : Nat) : Prop where
  lo : 1 ≤ n
  hi : n ≤ 10
  len : ∀ x, x < n → (xss.getD x []).length = n
  cell : ∀ x y, x < n → y < n → 0 ≤ (xss.getD x []).getD y 0 ∧ (xss.getD x []).getD y 0 < n
  rlen : ∀ x y, x < n → (rowt ((xss.getD x []).take y)).length ≤ 10
  tlen : ∀ x, x ≤ n → (txt7 xss x).length ≤ 11 * x
theorem sqFacts {xss : List (List Int)} (h : IsSq xss) : SqFacts xss xss.length := by
  have len : ∀ x, x < xss.length → (xss.getD x []).length = xss.length := fun x hx => (h.row x hx).1
  have cell : ∀ x y, x < xss.length → y < xss.length → 0 ≤ (xss.getD x []).getD y 0 ∧ (xss.getD x []).getD y 0 < xss.length := fun x y hx hy => h.cell hx hy
  have hi := h.hi
  have rl : ∀ x y, x < xss.length → (rowt ((xss.getD x []).take y)).length ≤ 10 := fun x y hx => by
    rw [rowt_len (fun v hv => ?_)]
    · rw [List.length_take, len x hx]; omega
    · obtain ⟨k, hk, rfl⟩ := List.mem_iff_getElem.1 hv
      rw [List.length_take, len x hx] at hk
      have := cell x k hx (by omega)
      rw [show (xss.getD x []).getD k 0 = ((xss.getD x []).take y)[k] by
        rw [List.getElem_take]; simp only [List.getD]; rw [List.getElem?_eq_getElem (by have := len x hx; simp only [List.getD] at this; omega)]; rfl] at this
      omega
  refine ⟨h.lo, hi, len, cell, rl, fun x hx => txt7_len x (fun i hi => ?_)⟩
  have := rl i xss.length (by omega)
  rw [List.take_of_length_le (by rw [len i (by omega)]; exact Nat.le_refl _)] at this
  exact this
theorem ba_app (L M : List UInt8) : (⟨L.toArray⟩ : ByteArray) ++ ⟨M.toArray⟩ = ⟨(L ++ M).toArray⟩ := ByteArray.mk_append_mk _ _

set_option maxRecDepth 100000 in
set_option maxHeartbeats 8000000 in
theorem sSquareText (xss : List (List Int)) (hx : SmallLL xss) (W : World) (v : Value) (hv : RowsAt W v xss) :
    Calls Tryd.prog 5 #[v] W fun e w' => e = .returned (.string (SquareText_0 xss)) ∧ Below W.heap.size W w' := by
  have HS := Lib.hid (sSq W v xss hv)
  obtain ⟨a, cap, rfl, -, hc⟩ := hv.cellsOf
  have HC := Lib.hid hc
  obtain ⟨z, hz⟩ : ∃ z, sqB xss = z := ⟨_, rfl⟩
  have VN := Lib.hid (fun h => st_no (xss := xss) h)
  have VY := Lib.hid (fun h => st_yes (xss := xss) h)
  have SF := Lib.hid (fun h => sqFacts (of_sqB (xss := xss) h))
  rw [hz] at HS VN VY SF
  obtain ⟨n, hn⟩ : ∃ n, xss.length = n := ⟨_, rfl⟩
  rw [hn] at HC VY SF HS ⊢
  clear hx hv hc hz hn
  cases z with
  | false =>
    have V := Lib.hid (VN.out rfl)
    go_enter Tryd.func5, Tryd.ntmps5
    go_wp2_with fail
    refine HS.out.mono ?_
    rintro e w1 ⟨rfl, b1⟩
    have B1 := Lib.hid b1
    clear b1
    go_wp2
    go_ret
    exact ⟨by rw [V.out]; rfl, B1.out⟩
  | true =>
    have V := Lib.hid (VY.out rfl)
    have F := Lib.hid (SF.out rfl)
    have n1 := F.out.lo
    have n2 := F.out.hi
    go_enter Tryd.func5, Tryd.ntmps5
    go_wp2_with fail
    refine HS.out.mono ?_
    rintro e w1 ⟨rfl, b1⟩
    have B1 := Lib.hid b1
    clear b1 HS
    go_wp2
    go_loopw [3, 4] (fun o i wr => ∃ (x : Nat) (L : List UInt8), x ≤ n ∧ i = .int .i64 x ∧ o = .string ⟨L.toArray⟩ ∧ Hid (L = txt7 xss x) ∧ Hid (Below W.heap.size W wr)) (fun _ i _ => n - (intOf i).toNat)
    case atStart => exact ⟨0, [], by omega, rfl, rfl, rfl, B1⟩
    case round =>
      obtain ⟨x, L, hx, rfl, rfl, hL, hBl⟩ := hrel
      have tl := F.out.tlen x hx
      rw [← hL.out] at tl
      by_cases c : x < n
      · have k1 : decide ((x : Int) < (n : Int)) = true := decide_eq_true (by omega)
        have k1' : decide (x < n) = true := decide_eq_true c
        have wx3 := IntWalk.i64_in ((x : Int) + 1) (by omega)
        have x0 : (0 : Int) ≤ (x : Int) := by omega
        have x1 : (x : Int) < (n : Int) := by omega
        obtain ⟨g, off, u, rfl, hg, cx, hu⟩ := HC.out x c
        obtain ⟨ua, uc, rfl, -, -, hu2⟩ := hu.part
        have rl := F.out.len x c
        have CE := Lib.hid (fun y hy => F.out.cell x y c hy)
        have RL := Lib.hid (fun y => F.out.rlen x y c)
        have TS : Hid (txt7 xss (x + 1) = txt7 xss x ++ sep7 x ++ rowt (xss.getD x [])) := rfl
        obtain ⟨r, hr⟩ : ∃ r, xss.getD x [] = r := ⟨_, rfl⟩
        rw [hr] at cx rl CE RL TS hu2
        have RS := Lib.hid (fun y h => rowt_succ (r := r) (y := y) h)
        have RE : Hid (r.take n = r) := by unfold Hid; rw [← rl]; exact List.take_length
        rw [rl] at cx hu2 RS
        have HU := Lib.hid hu2
        obtain ⟨M, hM⟩ : ∃ M, L ++ sep7 x = M := ⟨_, rfl⟩
        have HM := Lib.hid hM
        have ml : M.length ≤ 111 := by have := sep7_len x; rw [← hM, List.length_append]; omega
        have KEY : Hid (∀ V : World, Below W.heap.size W V → V.cell? ⟨g, off + x, none⟩ = some (.slice ua n uc)) := fun V b => (b.cell (p := ⟨g, off + x, none⟩) hg).trans cx
        have cxr := KEY.out wr hBl.out
        obtain ⟨wq, rfl⟩ : ∃ wq : World, wq = wr := ⟨_, rfl⟩
        have KM : (x = 0 ∧ M = L) ∨ (0 < x ∧ L ++ [47] = M) := by
          by_cases e : x = 0
          · exact .inl ⟨e, by rw [← hM]; unfold sep7; rw [if_pos e, List.append_nil]⟩
          · exact .inr ⟨by omega, by rw [← hM]; unfold sep7; rw [if_neg e]⟩
        clear hr rl hu hu2 cx hM
        rcases KM with ⟨e, e2⟩ | ⟨e, e2⟩
        · have k2 : decide ((0 : Int) < (x : Int)) = false := decide_eq_false (by omega)
          have k2' : decide (0 < x) = false := decide_eq_false (by omega)
          subst e2
          clear e
          go_wp2
          go_loopw [3, 5] (fun o i wr => ∃ (y : Nat) (K : List UInt8), y ≤ n ∧ i = .int .i64 y ∧ o = .string ⟨K.toArray⟩ ∧ Hid (K = M ++ rowt (r.take y)) ∧ Hid (Below W.heap.size W wr)) (fun _ i _ => n - (intOf i).toNat)
          case atStart => exact ⟨0, M, by omega, rfl, rfl, by simp [Hid, rowt], hBl⟩
          case round =>
            obtain ⟨y, K, hy, rfl, rfl, hK, hBq⟩ := hrel
            have kl : K.length ≤ 121 := by
              have := RL.out y
              rw [hK.out, List.length_append]; omega
            by_cases d : y < n
            · have y1 : decide ((y : Int) < (n : Int)) = true := decide_eq_true (by omega)
              have y1' : decide (y < n) = true := decide_eq_true d
              have wy3 := IntWalk.i64_in ((y : Int) + 1) (by omega)
              have j0 : (0 : Int) ≤ (y : Int) := by omega
              have j1 : (y : Int) < (n : Int) := by omega
              obtain ⟨g2, off2, rfl, hg2, cy⟩ := HU.out y d
              obtain ⟨q1, q2⟩ := CE.out y d
              have rs := RS.out y d
              obtain ⟨q, hq⟩ : ∃ q, r.getD y 0 = q := ⟨_, rfl⟩
              rw [hq] at cy q1 q2 rs
              have cyr := (hBq.out.cell (p := ⟨g2, off2 + y, none⟩) hg2).trans cy
              have cxq := KEY.out wr hBq.out
              have il := itoa_one (v := q) ⟨q1, by omega⟩
              have hD := Lib.hid (fun V : World => sdec q V (by omega) (by omega))
              obtain ⟨D, hDD⟩ : ∃ D, Lib.itoa q = D := ⟨_, rfl⟩
              have ed : dec q = ⟨D.toArray⟩ := by unfold dec; rw [hDD]
              rw [hDD] at il rs
              simp only [ed] at hD
              have sz : ¬ ((⟨K.toArray⟩ : ByteArray).size + (⟨D.toArray⟩ : ByteArray).size > 9223372036854775807) := by simp [ByteArray.size]; omega
              have ap : (⟨K.toArray⟩ : ByteArray) ++ ⟨D.toArray⟩ = ⟨(K ++ D).toArray⟩ := ba_app _ _
              have K2 : Hid (K ++ D = M ++ rowt (r.take (y + 1))) := by unfold Hid; rw [rs, hK.out, List.append_assoc]
              clear rs hq hDD ed cy hg2
              go_wp2_with fail
              refine (hD.out _).mono ?_
              rintro e w5 ⟨rfl, b5⟩
              have B5 := Lib.hid (hBq.out.trans (b5.mono hBq.out.size))
              clear b5
              go_wp2
              go_roundw
              case rel => exact ⟨y + 1, K ++ D, by omega, by go_num, rfl, K2, B5⟩
              case measure => simp [intOf]; omega
            · have y1 : decide ((y : Int) < (n : Int)) = false := decide_eq_false (by omega)
              have y1' : decide (y < n) = false := decide_eq_false d
              obtain rfl : y = n := by omega
              have L2 : Hid (K = txt7 xss (x + 1)) := by unfold Hid; rw [hK.out, RE.out, TS.out, ← hL.out, HM.out]
              go_wp2
              go_roundw
              case rel => exact ⟨x + 1, K, by omega, by go_num, rfl, L2, hBq⟩
              case measure => simp [intOf]; omega
        · have k2 : decide ((0 : Int) < (x : Int)) = true := decide_eq_true (by omega)
          have k2' : decide (0 < x) = true := decide_eq_true (by omega)
          have sz1 : ¬ ((⟨L.toArray⟩ : ByteArray).size + (⟨#[47]⟩ : ByteArray).size > 9223372036854775807) := by simp [ByteArray.size]; omega
          have ap1 : (⟨L.toArray⟩ : ByteArray) ++ ⟨#[47]⟩ = ⟨M.toArray⟩ := by rw [show (⟨#[47]⟩ : ByteArray) = ⟨[47].toArray⟩ from rfl, ba_app, e2]
          clear e e2
          go_wp2
          go_loopw [3, 5] (fun o i wr => ∃ (y : Nat) (K : List UInt8), y ≤ n ∧ i = .int .i64 y ∧ o = .string ⟨K.toArray⟩ ∧ Hid (K = M ++ rowt (r.take y)) ∧ Hid (Below W.heap.size W wr)) (fun _ i _ => n - (intOf i).toNat)
          case atStart => exact ⟨0, M, by omega, rfl, rfl, by simp [Hid, rowt], hBl⟩
          case round =>
            obtain ⟨y, K, hy, rfl, rfl, hK, hBq⟩ := hrel
            have kl : K.length ≤ 121 := by
              have := RL.out y
              rw [hK.out, List.length_append]; omega
            by_cases d : y < n
            · have y1 : decide ((y : Int) < (n : Int)) = true := decide_eq_true (by omega)
              have y1' : decide (y < n) = true := decide_eq_true d
              have wy3 := IntWalk.i64_in ((y : Int) + 1) (by omega)
              have j0 : (0 : Int) ≤ (y : Int) := by omega
              have j1 : (y : Int) < (n : Int) := by omega
              obtain ⟨g2, off2, rfl, hg2, cy⟩ := HU.out y d
              obtain ⟨q1, q2⟩ := CE.out y d
              have rs := RS.out y d
              obtain ⟨q, hq⟩ : ∃ q, r.getD y 0 = q := ⟨_, rfl⟩
              rw [hq] at cy q1 q2 rs
              have cyr := (hBq.out.cell (p := ⟨g2, off2 + y, none⟩) hg2).trans cy
              have cxq := KEY.out wr hBq.out
              have il := itoa_one (v := q) ⟨q1, by omega⟩
              have hD := Lib.hid (fun V : World => sdec q V (by omega) (by omega))
              obtain ⟨D, hDD⟩ : ∃ D, Lib.itoa q = D := ⟨_, rfl⟩
              have ed : dec q = ⟨D.toArray⟩ := by unfold dec; rw [hDD]
              rw [hDD] at il rs
              simp only [ed] at hD
              have sz : ¬ ((⟨K.toArray⟩ : ByteArray).size + (⟨D.toArray⟩ : ByteArray).size > 9223372036854775807) := by simp [ByteArray.size]; omega
              have ap : (⟨K.toArray⟩ : ByteArray) ++ ⟨D.toArray⟩ = ⟨(K ++ D).toArray⟩ := ba_app _ _
              have K2 : Hid (K ++ D = M ++ rowt (r.take (y + 1))) := by unfold Hid; rw [rs, hK.out, List.append_assoc]
              clear rs hq hDD ed cy hg2
              go_wp2_with fail
              refine (hD.out _).mono ?_
              rintro e w5 ⟨rfl, b5⟩
              have B5 := Lib.hid (hBq.out.trans (b5.mono hBq.out.size))
              clear b5
              go_wp2
              go_roundw
              case rel => exact ⟨y + 1, K ++ D, by omega, by go_num, rfl, K2, B5⟩
              case measure => simp [intOf]; omega
            · have y1 : decide ((y : Int) < (n : Int)) = false := decide_eq_false (by omega)
              have y1' : decide (y < n) = false := decide_eq_false d
              obtain rfl : y = n := by omega
              have L2 : Hid (K = txt7 xss (x + 1)) := by unfold Hid; rw [hK.out, RE.out, TS.out, ← hL.out, HM.out]
              go_wp2
              go_roundw
              case rel => exact ⟨x + 1, K, by omega, by go_num, rfl, L2, hBq⟩
              case measure => simp [intOf]; omega
      · have k1 : decide ((x : Int) < (n : Int)) = false := decide_eq_false (by omega)
        have k1' : decide (x < n) = false := decide_eq_false c
        obtain rfl : x = n := by omega
        go_wp2
        go_ret
        exact ⟨by rw [V.out, ← hL.out]; rfl, hBl.out⟩
end Go.Proofs.YtfkppoajfelakaaDoor
