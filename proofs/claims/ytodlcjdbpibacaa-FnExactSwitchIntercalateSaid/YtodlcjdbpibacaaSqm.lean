/- Latin squares: the model's test and grids. -/
import Derived.Test.YtodlcjdbpibacaaGrd
import Derived.Test.YtodlcjdbpibacaaPn
namespace Go.Proofs.Ytodlcjdbpibacaa
open Go.RowKit
set_option linter.unusedVariables false

/-- A column. -/
def colL (xss : List (List Int)) (y : Nat) : List Int := xss.map fun r => r.getD y 0
theorem colL_length (xss : List (List Int)) (y : Nat) : (colL xss y).length = xss.length := by simp [colL]
theorem colL_getD {xss : List (List Int)} {x y : Nat} (h : x < xss.length) : (colL xss y).getD x 0 = (xss.getD x []).getD y 0 := by simp [colL, List.getD, h]
theorem colL_take {xss : List (List Int)} {x y : Nat} (h : x < xss.length) : (colL xss y).take (x + 1) = (colL xss y).take x ++ [(xss.getD x []).getD y 0] := by
  have := takeI_getD (xs := colL xss y) (j := x) (by rw [colL_length]; exact h)
  rw [this, colL_getD h]
/-- A Latin square. -/
def rowOk (xss : List (List Int)) (x : Nat) : Prop := (xss.getD x []).length = xss.length ∧ pmB (xss.getD x []) = true
structure IsSq (xss : List (List Int)) : Prop where
  lo : 1 ≤ xss.length
  hi : xss.length ≤ 10
  row : ∀ x, x < xss.length → rowOk xss x
  col : ∀ y, y < xss.length → pmB (colL xss y) = true
noncomputable def sqB (xss : List (List Int)) : Bool := @decide (IsSq xss) (Classical.propDecidable _)
theorem sqB_true {xss : List (List Int)} (h : IsSq xss) : sqB xss = true := @decide_eq_true _ (Classical.propDecidable _) h
theorem sqB_false {xss : List (List Int)} (h : ¬ IsSq xss) : sqB xss = false := @decide_eq_false _ (Classical.propDecidable _) h
theorem of_sqB {xss : List (List Int)} (h : sqB xss = true) : IsSq xss := @of_decide_eq_true _ (Classical.propDecidable _) h

theorem RowsAt.cellsOf {w : World} {v : Value} {xss : List (List Int)} (h : RowsAt w v xss) : ∃ a cap, v = .slice a xss.length cap ∧ xss.length ≤ cap ∧ ∀ j, j < xss.length → ∃ g off u, a = some ⟨g, off, none⟩ ∧ g < w.heap.size ∧ w.cell? ⟨g, off + j, none⟩ = some u ∧ IntsC w u (xss.getD j []) := by
  obtain ⟨_, a, cap, e, hk, hc⟩ := h
  refine ⟨a, cap, e, hk, fun j hj => ?_⟩
  obtain ⟨g, off, u, h1, h2, h3⟩ := hc j hj
  exact ⟨g, off, u, h1, World.block_lt_of_cell? w _ h2, h2, h3⟩
/-- What a cell of rows reads as. -/
theorem RowsAt.at2 {w : World} {v : Value} {xss : List (List Int)} (h : RowsAt w v xss) {x y : Nat} (hx : x < xss.length) (hy : y < (xss.getD x []).length) :
    ∃ g off g2 off2 l2 c2 cap, v = .slice (some ⟨g, off, none⟩) xss.length cap ∧ w.cell? ⟨g, off + x, none⟩ = some (.slice (some ⟨g2, off2, none⟩) l2 c2) ∧ l2 = (xss.getD x []).length ∧ w.cell? ⟨g2, off2 + y, none⟩ = some (.int .i64 ((xss.getD x []).getD y 0)) := by
  obtain ⟨_, a, cap, e, hk, hc⟩ := h
  obtain ⟨g, off, u, h1, h2, h3⟩ := hc x hx
  subst h1
  obtain ⟨a2, c2, e2, _, _, h4⟩ := h3.part
  obtain ⟨g2, off2, h5, _, h6⟩ := h4 y hy
  subst h5
  exact ⟨g, off, g2, off2, _, c2, cap, e, by rw [h2, e2], rfl, h6⟩

set_option maxRecDepth 100000 in
set_option maxHeartbeats 4000000 in
theorem sSq (w : World) (v : Value) (xss : List (List Int)) (hv : RowsAt w v xss) :
    Calls Try.prog 15 #[v] w fun e w' => e = .returned (.bool (sqB xss)) ∧ Below w.heap.size w w' := by
  obtain ⟨a, cap, rfl, hk, hc⟩ := hv.cellsOf
  have hml := hv.1
  by_cases hn : 1 ≤ xss.length ∧ xss.length ≤ 10
  case neg =>
    have V := Lib.hid (sqB_false (xss := xss) (fun h => hn ⟨h.lo, h.hi⟩))
    obtain ⟨n, hn'⟩ : ∃ n, xss.length = n := ⟨_, rfl⟩
    rw [hn'] at hn hml ⊢
    by_cases c : n < 1
    · have t1 : decide ((n : Int) < 1) = true := decide_eq_true (by omega)
      have t1' : decide (n < 1) = true := decide_eq_true (by omega)
      clear hv hc hn hn'
      go_enter Try.func15, Try.ntmps15
      go_wp2
      go_ret
      exact ⟨by rw [V.out]; rfl, Below.refl _ _⟩
    · have t1 : decide ((n : Int) < 1) = false := decide_eq_false (by omega)
      have t1' : decide (n < 1) = false := decide_eq_false (by omega)
      have t2 : decide ((10 : Int) < (n : Int)) = true := decide_eq_true (by omega)
      have t2' : decide (10 < n) = true := decide_eq_true (by omega)
      clear hv hc hn hn'
      go_enter Try.func15, Try.ntmps15
      go_wp2
      go_ret
      exact ⟨by rw [V.out]; rfl, Below.refl _ _⟩
  obtain ⟨lo, hi⟩ := hn
  have NO1 : Hid (∀ x, x < xss.length → ¬ rowOk xss x → sqB xss = false) := fun x hx h => sqB_false fun k => h (k.row x hx)
  have NO2 : Hid (∀ y, y < xss.length → pmB (colL xss y) = false → sqB xss = false) := fun y hy h => sqB_false fun k => by rw [k.col y hy] at h; cases h
  have YES : Hid ((∀ x, x < xss.length → rowOk xss x) → (∀ y, y < xss.length → pmB (colL xss y) = true) → sqB xss = true) := fun h1 h2 => sqB_true ⟨lo, hi, h1, h2⟩
  have HC := Lib.hid hc
  have CT : Hid (∀ x y, x < xss.length → (colL xss y).take (x + 1) = (colL xss y).take x ++ [(xss.getD x []).getD y 0]) := fun x y h => colL_take h
  have CA : Hid (∀ y, (colL xss y).take xss.length = colL xss y) := fun y => by rw [← colL_length xss y, List.take_length]
  have CL : Hid (∀ x y, x ≤ xss.length → ((colL xss y).take x).length = x) := fun x y h => by rw [List.length_take, colL_length]; omega
  have RO : Hid (∀ x, rowOk xss x ↔ ((xss.getD x []).length = xss.length ∧ pmB (xss.getD x []) = true)) := fun x => Iff.rfl
  obtain ⟨n, hn⟩ : ∃ n, xss.length = n := ⟨_, rfl⟩
  rw [hn] at lo hi HC NO1 NO2 YES CT CA CL RO hk ⊢
  have t1 : decide ((n : Int) < 1) = false := decide_eq_false (by omega)
  have t1' : decide (n < 1) = false := decide_eq_false (by omega)
  have t2 : decide ((10 : Int) < (n : Int)) = false := decide_eq_false (by omega)
  have t2' : decide (10 < n) = false := decide_eq_false (by omega)
  clear hv hc hn hml
  go_enter Try.func15, Try.ntmps15
  go_wp2
  go_loopw [4] (fun i wr => ∃ j : Nat, j ≤ n ∧ i = .int .i64 j ∧ Hid (∀ k, k < j → rowOk xss k) ∧ ∃ d, wr = w.drewN d) (fun i _ => n - (intOf i).toNat)
  case atStart => exact ⟨0, by omega, rfl, fun k hk => by omega, 0, rfl⟩
  case round =>
    obtain ⟨j, hj, rfl, hO, d, rfl⟩ := hrel
    by_cases c : j < n
    · have k1 : decide (j < n) = true := by simpa using c
      have k1' : decide ((j : Int) < (n : Int)) = true := decide_eq_true (by omega)
      obtain ⟨g, off, u, rfl, hg, cj, hu⟩ := HC.out j c
      obtain ⟨ua, uc, rfl⟩ := hu.shape
      have NJ := Lib.hid (NO1.out j c)
      have RJ := Lib.hid (RO.out j)
      have j0 : (0 : Int) ≤ (j : Int) := by omega
      have j1 : (j : Int) < (n : Int) := by omega
      have w3 := IntWalk.i64_in ((j : Int) + 1) (by omega)
      have HP := Lib.hid (sok (w.drewN d) _ _ (hu.drewN d))
      obtain ⟨b, hb⟩ : ∃ b, pmB (xss.getD j []) = b := ⟨_, rfl⟩
      rw [hb] at HP RJ
      obtain ⟨l, hl⟩ : ∃ l, (xss.getD j []).length = l := ⟨_, rfl⟩
      rw [hl] at cj HP RJ
      have ll : l ≤ 9223372036854775807 := by rw [← hl]; exact hu.1.1
      clear hu hl hb hg
      by_cases el : l = n
      · subst el
        have e1 : ((l : Int) != (l : Int)) = false := by simp
        have e1' : (l != l) = false := by simp
        cases b with
        | true =>
          have O2 : Hid (∀ k, k < j + 1 → rowOk xss k) := fun k hk => by
            by_cases e : k = j
            · rw [e]; exact RJ.out.2 ⟨rfl, rfl⟩
            · exact hO.out k (by omega)
          go_wp2_with fail
          refine HP.out.mono ?_
          rintro e w' ⟨rfl, d2, rfl⟩
          go_wp2
          go_roundw
          case rel => exact ⟨j + 1, by omega, by go_num, O2, _, rfl⟩
          case measure => simp [intOf]; omega
        | false =>
          have V := Lib.hid (NJ.out (fun h => by have := (RJ.out.1 h).2; cases this))
          go_wp2_with fail
          refine HP.out.mono ?_
          rintro e w' ⟨rfl, d2, rfl⟩
          go_wp2
          go_ret
          exact ⟨by rw [V.out]; rfl, below_drewN (Below.refl _ _) _⟩
      · have V := Lib.hid (NJ.out (fun h => el (RJ.out.1 h).1))
        have e1 : ((l : Int) != (n : Int)) = true := by simp; omega
        have e1' : (l != n) = true := by simp [el]
        clear el
        go_wp2
        go_ret
        exact ⟨by rw [V.out]; rfl, below_drewN (Below.refl _ _) _⟩
    · have k1 : decide (j < n) = false := by simpa using c
      have k1' : decide ((j : Int) < (n : Int)) = false := decide_eq_false (by omega)
      obtain rfl : j = n := by omega
      have ROW : Hid (∀ x, x < j → (xss.getD x []).length = j) := fun x hx => ((RO.out x).1 (hO.out x hx)).1
      have Y2 : Hid ((∀ y, y < j → pmB (colL xss y) = true) → sqB xss = true) := YES.out hO.out
      obtain ⟨wd, hwd⟩ : ∃ wd, w.drewN d = wd := ⟨_, rfl⟩
      have BD : Hid (Below w.heap.size w wd) := by rw [← hwd]; exact below_drewN (Below.refl _ _) _
      have zd : wd.heap.size = w.heap.size := by rw [← hwd]; rfl
      have HC2 : Hid (∀ x y, x < j → y < j → ∃ g off g2 off2 c2, a = some ⟨g, off, none⟩ ∧ g < w.heap.size ∧ g2 < w.heap.size ∧ w.cell? ⟨g, off + x, none⟩ = some (.slice (some ⟨g2, off2, none⟩) j c2) ∧ w.cell? ⟨g2, off2 + y, none⟩ = some (.int .i64 ((xss.getD x []).getD y 0))) := fun x y hx hy => by
        obtain ⟨g, off, u, h1, h2, h3, h4⟩ := HC.out x hx
        obtain ⟨a2, c2, e2, _, _, h5⟩ := h4.part
        have e := ROW.out x hx
        obtain ⟨g2, off2, h6, h7, h8⟩ := h5 y (by omega)
        subst h6
        rw [e] at e2
        exact ⟨g, off, g2, off2, c2, h1, h2, h7, by rw [h3, e2], h8⟩
      rw [hwd]
      clear YES NO1 RO HC hwd hO
      go_wp2
      go_loopw [5] (fun i wr => ∃ q : Nat, q ≤ j ∧ i = .int .i64 q ∧ Hid (∀ k, k < q → pmB (colL xss k) = true) ∧ Hid (Below w.heap.size w wr)) (fun i _ => j - (intOf i).toNat)
      case atStart => exact ⟨0, by omega, rfl, fun k hk => by omega, BD⟩
      case round =>
        obtain ⟨q, hq, rfl, hQ, hBl⟩ := hrel
        by_cases c2 : q < j
        · have k2 : decide (q < j) = true := by simpa using c2
          have k2' : decide ((q : Int) < (j : Int)) = true := decide_eq_true (by omega)
          have q0 : (0 : Int) ≤ (q : Int) := by omega
          have q1 : (q : Int) < (j : Int) := by omega
          have w4 := IntWalk.i64_in ((q : Int) + 1) (by omega)
          have sz := hBl.out.size
          obtain ⟨wq, rfl⟩ : ∃ wq : World, wq = wr := ⟨_, rfl⟩
          obtain ⟨B, hB⟩ : ∃ B, wq.heap.size = B := ⟨_, rfl⟩
          have I0 : Hid (Ints (wq.alloc (.cells #[] 2)) B (.slice (some ⟨B, 0, none⟩) 0 0) ((colL xss q).take 0)) := by rw [← hB]; exact World.ownsRow_made wq #[] 0 (Nat.le_refl _) (by decide) rfl
          have B0 : Hid (Below w.heap.size w (wq.alloc (.cells #[] 2))) := hBl.out.alloc sz _
          have z0 : B ≤ (wq.alloc (.cells #[] 2)).heap.size := by rw [World.size_alloc]; omega
          have BL0 : Hid (Below B wq (wq.alloc (.cells #[] 2))) := (Below.refl _ _).alloc (by omega) _
          go_wp2
          obtain ⟨wo, hwo⟩ : ∃ wo, wq.alloc (.cells #[] 2) = wo := ⟨_, rfl⟩
          rw [hwo] at I0 B0 z0 BL0 ⊢
          clear hwo
          go_loopw [6, 7] (fun cv i wr => ∃ x : Nat, x ≤ j ∧ i = .int .i64 x ∧ Hid (Ints wr B cv ((colL xss q).take x)) ∧ Hid (Below w.heap.size w wr) ∧ B ≤ wr.heap.size ∧ Hid (Below B wq wr)) (fun _ i _ => j - (intOf i).toNat)
          case atStart => exact ⟨0, by omega, rfl, I0, B0, z0, BL0⟩
          case round =>
            obtain ⟨x, hx, rfl, hI, hB2, hz, hB3⟩ := hrel
            by_cases c3 : x < j
            · have k3 : decide (x < j) = true := by simpa using c3
              have k3' : decide ((x : Int) < (j : Int)) = true := decide_eq_true (by omega)
              have x0 : (0 : Int) ≤ (x : Int) := by omega
              have x1 : (x : Int) < (j : Int) := by omega
              have w5 := IntWalk.i64_in ((x : Int) + 1) (by omega)
              obtain ⟨g, off, g2, off2, cc, rfl, hg, hg2, e1, e2⟩ := HC2.out x q c3 c2
              have d1 : wr.cell? ⟨g, off + x, none⟩ = some (.slice (some ⟨g2, off2, none⟩) j cc) := by rw [hB2.out.cell (p := ⟨g, off + x, none⟩) hg, e1]
              have d2 : wr.cell? ⟨g2, off2 + q, none⟩ = some (.int .i64 ((xss.getD x []).getD q 0)) := by rw [hB2.out.cell (p := ⟨g2, off2 + q, none⟩) hg2, e2]
              have T := Lib.hid (CT.out x q c3)
              have L := CL.out x q (by omega)
              obtain ⟨z, hz'⟩ : ∃ z, (xss.getD x []).getD q 0 = z := ⟨_, rfl⟩
              rw [hz'] at d2 T
              clear e1 e2 hz'
              go_wp2_with (at_builtin; refine wpList_push wr (by rfl) _ _ (by rfl) B _ _ (by rfl) hI.out z _ (by rfl) (by rw [L]; omega) hz ?_; intro v' w6 hn hb; have HN := Lib.hid hn; have HB6 := Lib.hid hb; clear hn hb)
              go_roundw
              case rel => exact ⟨x + 1, by omega, by go_num, by unfold Hid; rw [T.out]; exact HN.out, hB2.out.trans (HB6.out.mono (by omega)), Nat.le_trans hz HB6.out.size, hB3.out.trans HB6.out⟩
              case measure => simp [intOf]; omega
            · have k3 : decide (x < j) = false := by simpa using c3
              have k3' : decide ((x : Int) < (j : Int)) = false := decide_eq_false (by omega)
              obtain rfl : x = j := by omega
              have I5 : Hid (IntsC wr u6 (colL xss q)) := by
                have := hI.out.c
                rwa [CA.out] at this
              have HP := Lib.hid (sok wr _ _ I5.out)
              obtain ⟨b, hb⟩ : ∃ b, pmB (colL xss q) = b := ⟨_, rfl⟩
              rw [hb] at HP
              cases b with
              | true =>
                have Q2 : Hid (∀ k, k < q + 1 → pmB (colL xss k) = true) := fun k hk => by
                  by_cases e : k = q
                  · rw [e]; exact hb
                  · exact hQ.out k (by omega)
                clear hb
                go_wp2_with fail
                refine HP.out.mono ?_
                rintro e w' ⟨rfl, d2, rfl⟩
                go_wp2
                go_roundw
                case rel => exact ⟨q + 1, by omega, by go_num, Q2, below_drewN hB2.out _⟩
                case measure => simp [intOf]; omega
              | false =>
                have V := Lib.hid (NO2.out q c2 hb)
                clear hb
                go_wp2_with fail
                refine HP.out.mono ?_
                rintro e w' ⟨rfl, d2, rfl⟩
                go_wp2
                go_ret
                exact ⟨by rw [V.out]; rfl, below_drewN hB2.out _⟩
        · have k2 : decide (q < j) = false := by simpa using c2
          have k2' : decide ((q : Int) < (j : Int)) = false := decide_eq_false (by omega)
          obtain rfl : q = j := by omega
          have V := Lib.hid (Y2.out hQ.out)
          go_wp2
          go_ret
          exact ⟨by rw [V.out]; rfl, hBl.out⟩

end Go.Proofs.Ytodlcjdbpibacaa
