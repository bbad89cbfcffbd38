/- Partial squares: the model's test. -/
import Derived.Test.YtigcgpgkpkoodaaDoorPt
import Derived.StillTailTactics
namespace Go.Proofs.YtigcgpgkpkoodaaDoor
open Go.RowKit Go.Shelf
set_option linter.unusedVariables false
set_option linter.unusedSimpArgs false

set_option maxRecDepth 100000 in
set_option maxHeartbeats 16000000 in
theorem sPart (w : World) (v : Value) (xss : List (List Int)) (hv : RowsAt w v xss) :
    Calls Tryd.prog 59 #[v] w fun e w' => e = .returned (.bool (ptB xss)) ∧ Below w.heap.size w w' := by
  have HV := Lib.hid (fun hn hr h1 => hv.look2 (n := xss.length) hn hr h1)
  obtain ⟨a, cap, rfl, hk, hc⟩ := hv.cellsOf
  have hml := hv.1
  by_cases hn : 1 ≤ xss.length ∧ xss.length ≤ 10
  case neg =>
    have V := Lib.hid (ptB_false (xss := xss) (fun h => hn ⟨h.lo, h.hi⟩))
    obtain ⟨n, hn'⟩ : ∃ n, xss.length = n := ⟨_, rfl⟩
    rw [hn'] at hn hml ⊢
    by_cases c : n < 1
    · have t1 : decide ((n : Int) < 1) = true := decide_eq_true (by omega)
      have t1' : decide (n < 1) = true := decide_eq_true (by omega)
      clear hv hc hn hn' HV
      go_enter Tryd.func59, Tryd.ntmps59
      go_wp2
      go_ret
      exact ⟨by rw [V.out]; rfl, Below.refl _ _⟩
    · have t1 : decide ((n : Int) < 1) = false := decide_eq_false (by omega)
      have t1' : decide (n < 1) = false := decide_eq_false (by omega)
      have t2 : decide ((10 : Int) < (n : Int)) = true := decide_eq_true (by omega)
      have t2' : decide (10 < n) = true := decide_eq_true (by omega)
      clear hv hc hn hn' HV
      go_enter Tryd.func59, Tryd.ntmps59
      go_wp2
      go_ret
      exact ⟨by rw [V.out]; rfl, Below.refl _ _⟩
  obtain ⟨lo, hi⟩ := hn
  have NO1 : Hid (∀ x, x < xss.length → (xss.getD x []).length ≠ xss.length → ptB xss = false) := fun x hx h => ptB_false fun k => h (k.row x hx)
  have NO2 : Hid (∀ x y, x < xss.length → y < xss.length → ¬ (-1 ≤ cellF xss x y ∧ cellF xss x y ≤ (xss.length : Int) - 1) → ptB xss = false) := fun x y hx hy h => ptB_false fun k => h (by have := k.pf.cell x y hx hy; omega)
  have NO3 : Hid (∀ x y k, x < xss.length → y < xss.length → k < xss.length → bad3 (cellF xss) x y k = true → ptB xss = false) := fun x y k hx hy hk h => ptB_false fun q => by rw [q.pf.good hx hy hk] at h; cases h
  have YES : Hid ((∀ x, x < xss.length → (xss.getD x []).length = xss.length) → (∀ x y, x < xss.length → y < xss.length → (-1 ≤ cellF xss x y ∧ cellF xss x y ≤ (xss.length : Int) - 1) ∧ ∀ k, k < xss.length → bad3 (cellF xss) x y k = false) → ptB xss = true) := fun h1 h2 => ptB_true ⟨lo, hi, h1, part_of (fun x y hx hy => (h2 x y hx hy).1) (fun x y k hx hy hk => (h2 x y hx hy).2 k hk)⟩
  have BAD : Hid (∀ x y k, bad3 (cellF xss) x y k = (decide (0 ≤ cellF xss x y) && ((decide (k ≠ y) && (cellF xss x k == cellF xss x y)) || (decide (k ≠ x) && (cellF xss k y == cellF xss x y))))) := fun x y k => rfl
  have HC := Lib.hid hc
  obtain ⟨n, hn⟩ : ∃ n, xss.length = n := ⟨_, rfl⟩
  rw [hn] at lo hi HC NO1 NO2 NO3 YES hk HV hml ⊢
  have HN := Lib.hid hn
  obtain ⟨V, hV⟩ : ∃ V, ptB xss = V := ⟨_, rfl⟩
  rw [hV] at NO1 NO2 NO3 YES ⊢
  have t1 : decide ((n : Int) < 1) = false := decide_eq_false (by omega)
  have t1' : decide (n < 1) = false := decide_eq_false (by omega)
  have t2 : decide ((10 : Int) < (n : Int)) = false := decide_eq_false (by omega)
  have t2' : decide (10 < n) = false := decide_eq_false (by omega)
  have wn := IntWalk.i64_in ((n : Int) - 1) (by omega)
  clear hv hc hn hV
  go_enter Tryd.func59, Tryd.ntmps59
  go_wp2
  go_loop [4] (fun i => ∃ j : Nat, j ≤ n ∧ i = .int .i64 j ∧ Hid (∀ k, k < j → (xss.getD k []).length = n)) (fun i => n - (intOf i).toNat)
  case atStart => exact ⟨0, by omega, rfl, fun k hk => by omega⟩
  case round =>
    obtain ⟨j, hj, rfl, hO⟩ := hrel
    by_cases c : j < n
    · have k1 : decide (j < n) = true := by simpa using c
      have k1' : decide ((j : Int) < (n : Int)) = true := decide_eq_true (by omega)
      obtain ⟨g, off, u, rfl, hg, cj, hu⟩ := HC.out j c
      obtain ⟨ua, uc, rfl⟩ := hu.shape
      have NJ := Lib.hid (NO1.out j c)
      have j0 : (0 : Int) ≤ (j : Int) := by omega
      have j1 : (j : Int) < (n : Int) := by omega
      have w3 := IntWalk.i64_in ((j : Int) + 1) (by omega)
      obtain ⟨l, hl⟩ : ∃ l, (xss.getD j []).length = l := ⟨_, rfl⟩
      have ll : l ≤ 9223372036854775807 := by rw [← hl]; exact hu.1.1
      rw [hl] at cj NJ
      clear hu hg
      by_cases el : l = n
      · have e1 : ((l : Int) != (n : Int)) = false := by simp [el]
        have e1' : (l != n) = false := by simp [el]
        have O2 : Hid (∀ k, k < j + 1 → (xss.getD k []).length = n) := fun k hk => by
          by_cases e : k = j
          · rw [e, hl]; exact el
          · exact hO.out k (by omega)
        clear el hl
        go_wp2
        go_round
        case rel => exact ⟨j + 1, by omega, by go_num, O2⟩
        case measure => simp [intOf]; omega
      · have V2 := Lib.hid (NJ.out el)
        have e1 : ((l : Int) != (n : Int)) = true := by simp; omega
        have e1' : (l != n) = true := by simp [el]
        clear el hl
        go_wp2
        go_ret
        exact ⟨by rw [V2.out]; rfl, Below.refl _ _⟩
    · have k1 : decide (j < n) = false := by simpa using c
      have k1' : decide ((j : Int) < (n : Int)) = false := decide_eq_false (by omega)
      obtain rfl : j = n := by omega
      have Y2 := Lib.hid (YES.out hO.out)
      obtain ⟨g, off, cc, e, K⟩ := HV.out trivial hO.out lo
      simp only [Value.slice.injEq] at e
      obtain ⟨rfl, -, rfl⟩ := e
      have HK := Lib.hid K
      obtain ⟨F, hF⟩ : ∃ F, cellF xss = F := ⟨_, rfl⟩
      rw [hF] at HK NO2 NO3 Y2 BAD
      clear YES NO1 HC HV K hF
      obtain ⟨n, rfl⟩ : ∃ n, n = j := ⟨_, rfl⟩
      go_wp2
      go_loopw [5] (fun i wr => ∃ x : Nat, x ≤ n ∧ i = .int .i64 x ∧ Hid (∀ a b, a < x → b < n → (-1 ≤ F a b ∧ F a b ≤ (n : Int) - 1) ∧ ∀ c, c < n → bad3 F a b c = false) ∧ Hid (Below w.heap.size w wr)) (fun i _ => n - (intOf i).toNat)
      case atStart => exact ⟨0, by omega, rfl, fun a b h => by omega, Below.refl _ _⟩
      case round =>
        obtain ⟨x, hx, rfl, hP, hBl⟩ := hrel
        by_cases cx : x < n
        · have k2 : decide (x < n) = true := by simpa using cx
          have k2' : decide ((x : Int) < (n : Int)) = true := decide_eq_true (by omega)
          have wx := IntWalk.i64_in ((x : Int) + 1) (by omega)
          have x0 : (0 : Int) ≤ (x : Int) := by omega
          have x1 : (x : Int) < (n : Int) := by omega
          obtain ⟨wq, rfl⟩ : ∃ wq : World, wq = wr := ⟨_, rfl⟩
          go_wp2
          go_loopw [6] (fun i wr => ∃ y : Nat, y ≤ n ∧ i = .int .i64 y ∧ Hid (∀ b, b < y → (-1 ≤ F x b ∧ F x b ≤ (n : Int) - 1) ∧ ∀ c, c < n → bad3 F x b c = false) ∧ Hid (Below w.heap.size w wr)) (fun i _ => n - (intOf i).toNat)
          case atStart => exact ⟨0, by omega, rfl, fun b h => by omega, hBl⟩
          case round =>
            obtain ⟨y, hy, rfl, hP2, hBl2⟩ := hrel
            by_cases cy : y < n
            · have k3 : decide (y < n) = true := by simpa using cy
              have k3' : decide ((y : Int) < (n : Int)) = true := decide_eq_true (by omega)
              have wy := IntWalk.i64_in ((y : Int) + 1) (by omega)
              have y0 : (0 : Int) ≤ (y : Int) := by omega
              have y1 : (y : Int) < (n : Int) := by omega
              obtain ⟨gx, ox, kx, hx1, hx2⟩ := HK.out wr hBl2.out x cx
              have m1 := hx2 y cy
              have N2 := Lib.hid (NO2.out x y cx cy)
              obtain ⟨u, hu⟩ : ∃ u, F x y = u := ⟨_, rfl⟩
              have HU := Lib.hid hu
              rw [hu] at m1 N2
              clear hx2 hu
              by_cases ci : -1 ≤ u ∧ u ≤ (n : Int) - 1
              · have CI := Lib.hid ci
                have HI := Lib.hid (fun W => in_yes' u (-1) ((n : Int) - 1) W ci.1 ci.2)
                clear N2 ci
                obtain ⟨wp, rfl⟩ : ∃ wp : World, wp = wr := ⟨_, rfl⟩
                go_wp2_with fail
                refine (HI.out _).mono ?_
                rintro e w2 ⟨rfl, rfl⟩
                go_wp2
                clear m1 hx1
                go_loopw [7] (fun i wr => ∃ k : Nat, k ≤ n ∧ i = .int .i64 k ∧ Hid (∀ c, c < k → bad3 F x y c = false) ∧ Hid (Below w.heap.size w wr)) (fun i _ => n - (intOf i).toNat)
                case atStart => exact ⟨0, by omega, rfl, fun c h => by omega, hBl2⟩
                case round =>
                  obtain ⟨k, hk, rfl, hP3, hBl3⟩ := hrel
                  by_cases ck : k < n
                  · have k4 : decide (k < n) = true := by simpa using ck
                    have k4' : decide ((k : Int) < (n : Int)) = true := decide_eq_true (by omega)
                    have wk := IntWalk.i64_in ((k : Int) + 1) (by omega)
                    have kk0 : (0 : Int) ≤ (k : Int) := by omega
                    have kk1 : (k : Int) < (n : Int) := by omega
                    obtain ⟨gx, ox, kx, hx1, hx2⟩ := HK.out wr hBl3.out x cx
                    obtain ⟨gk, ok, kk, hk1, hk2⟩ := HK.out wr hBl3.out k ck
                    have m1 := hx2 y cy
                    have m2 := hx2 k ck
                    have m3 := hk2 y cy
                    have BD := BAD.out x y k
                    obtain ⟨s, hs⟩ : ∃ s, F x k = s := ⟨_, rfl⟩
                    obtain ⟨t, ht⟩ : ∃ t, F k y = t := ⟨_, rfl⟩
                    rw [HU.out] at m1 BD
                    rw [hs] at m2 BD
                    rw [ht] at m3 BD
                    clear hx2 hk2 hs ht
                    by_cases h0 : 0 ≤ u
                    · by_cases h1 : k = y
                      · by_cases h3 : k = x
                        · skip
                          have t0 : decide (0 ≤ u) = true := by simp [h0]
                          have t1 : ((k : Int) != (y : Int)) = false := by simp; omega
                          have t1' : (k != y) = false := by simp; omega
                          have t3 : ((k : Int) != (x : Int)) = false := by simp; omega
                          have t3' : (k != x) = false := by simp; omega
                          have p1 : decide (k ≠ y) = false := by simpa using h1
                          have p3 : decide (k ≠ x) = false := by simpa using h3
                          have B3 : bad3 F x y k = false := by rw [BD]; simp only [t0, p1, p3, Bool.true_and, Bool.false_and, Bool.and_true, Bool.and_false, Bool.or_true, Bool.true_or, Bool.or_false, Bool.false_or]
                          have P4 : Hid (∀ c, c < k + 1 → bad3 F x y c = false) := fun c hc => by
                            by_cases e2 : c = k
                            · rw [e2]; exact B3
                            · exact hP3.out c (by omega)
                          clear B3 BD h0 h1 h3 p1 p3
                          go_wp2
                          go_quiet (fail)
                          go_wp2
                          go_roundw
                          case rel => exact ⟨k + 1, by omega, by go_num, P4, Go.below_drewN hBl3.out _⟩
                          case measure => simp [intOf]; omega
                        · by_cases h4 : t = u
                          · skip
                            have t0 : decide (0 ≤ u) = true := by simp [h0]
                            have t1 : ((k : Int) != (y : Int)) = false := by simp; omega
                            have t1' : (k != y) = false := by simp; omega
                            have t3 : ((k : Int) != (x : Int)) = true := by simp; omega
                            have t3' : (k != x) = true := by simp; omega
                            have t4 : (t == u) = true := by simp [h4]
                            have p1 : decide (k ≠ y) = false := by simpa using h1
                            have p3 : decide (k ≠ x) = true := by simpa using h3
                            have B3 : bad3 F x y k = true := by rw [BD]; simp only [t0, p1, p3, t4, Bool.true_and, Bool.false_and, Bool.and_true, Bool.and_false, Bool.or_true, Bool.true_or, Bool.or_false, Bool.false_or]
                            have V2 := Lib.hid (NO3.out x y k cx cy ck B3)
                            clear B3 BD h0 h1 h3 h4 p1 p3
                            go_wp2
                            go_quiet (fail)
                            go_wp2
                            go_ret
                            exact ⟨by rw [V2.out]; rfl, Go.below_drewN hBl3.out _⟩
                          · skip
                            have t0 : decide (0 ≤ u) = true := by simp [h0]
                            have t1 : ((k : Int) != (y : Int)) = false := by simp; omega
                            have t1' : (k != y) = false := by simp; omega
                            have t3 : ((k : Int) != (x : Int)) = true := by simp; omega
                            have t3' : (k != x) = true := by simp; omega
                            have t4 : (t == u) = false := by simp [h4]
                            have p1 : decide (k ≠ y) = false := by simpa using h1
                            have p3 : decide (k ≠ x) = true := by simpa using h3
                            have B3 : bad3 F x y k = false := by rw [BD]; simp only [t0, p1, p3, t4, Bool.true_and, Bool.false_and, Bool.and_true, Bool.and_false, Bool.or_true, Bool.true_or, Bool.or_false, Bool.false_or]
                            have P4 : Hid (∀ c, c < k + 1 → bad3 F x y c = false) := fun c hc => by
                              by_cases e2 : c = k
                              · rw [e2]; exact B3
                              · exact hP3.out c (by omega)
                            clear B3 BD h0 h1 h3 h4 p1 p3
                            go_wp2
                            go_quiet (fail)
                            go_wp2
                            go_roundw
                            case rel => exact ⟨k + 1, by omega, by go_num, P4, Go.below_drewN hBl3.out _⟩
                            case measure => simp [intOf]; omega
                      · by_cases h2 : s = u
                        · skip
                          have t0 : decide (0 ≤ u) = true := by simp [h0]
                          have t1 : ((k : Int) != (y : Int)) = true := by simp; omega
                          have t1' : (k != y) = true := by simp; omega
                          have t2 : (s == u) = true := by simp [h2]
                          have p1 : decide (k ≠ y) = true := by simpa using h1
                          have B3 : bad3 F x y k = true := by rw [BD]; simp only [t0, p1, t2, Bool.true_and, Bool.false_and, Bool.and_true, Bool.and_false, Bool.or_true, Bool.true_or, Bool.or_false, Bool.false_or]
                          have V2 := Lib.hid (NO3.out x y k cx cy ck B3)
                          clear B3 BD h0 h1 h2 p1
                          go_wp2
                          go_quiet (fail)
                          go_wp2
                          go_ret
                          exact ⟨by rw [V2.out]; rfl, Go.below_drewN hBl3.out _⟩
                        · by_cases h3 : k = x
                          · skip
                            have t0 : decide (0 ≤ u) = true := by simp [h0]
                            have t1 : ((k : Int) != (y : Int)) = true := by simp; omega
                            have t1' : (k != y) = true := by simp; omega
                            have t2 : (s == u) = false := by simp [h2]
                            have t3 : ((k : Int) != (x : Int)) = false := by simp; omega
                            have t3' : (k != x) = false := by simp; omega
                            have p1 : decide (k ≠ y) = true := by simpa using h1
                            have p3 : decide (k ≠ x) = false := by simpa using h3
                            have B3 : bad3 F x y k = false := by rw [BD]; simp only [t0, p1, t2, p3, Bool.true_and, Bool.false_and, Bool.and_true, Bool.and_false, Bool.or_true, Bool.true_or, Bool.or_false, Bool.false_or]
                            have P4 : Hid (∀ c, c < k + 1 → bad3 F x y c = false) := fun c hc => by
                              by_cases e2 : c = k
                              · rw [e2]; exact B3
                              · exact hP3.out c (by omega)
                            clear B3 BD h0 h1 h2 h3 p1 p3
                            go_wp2
                            go_quiet (fail)
                            go_wp2
                            go_roundw
                            case rel => exact ⟨k + 1, by omega, by go_num, P4, Go.below_drewN hBl3.out _⟩
                            case measure => simp [intOf]; omega
                          · by_cases h4 : t = u
                            · skip
                              have t0 : decide (0 ≤ u) = true := by simp [h0]
                              have t1 : ((k : Int) != (y : Int)) = true := by simp; omega
                              have t1' : (k != y) = true := by simp; omega
                              have t2 : (s == u) = false := by simp [h2]
                              have t3 : ((k : Int) != (x : Int)) = true := by simp; omega
                              have t3' : (k != x) = true := by simp; omega
                              have t4 : (t == u) = true := by simp [h4]
                              have p1 : decide (k ≠ y) = true := by simpa using h1
                              have p3 : decide (k ≠ x) = true := by simpa using h3
                              have B3 : bad3 F x y k = true := by rw [BD]; simp only [t0, p1, t2, p3, t4, Bool.true_and, Bool.false_and, Bool.and_true, Bool.and_false, Bool.or_true, Bool.true_or, Bool.or_false, Bool.false_or]
                              have V2 := Lib.hid (NO3.out x y k cx cy ck B3)
                              clear B3 BD h0 h1 h2 h3 h4 p1 p3
                              go_wp2
                              go_quiet (fail)
                              go_wp2
                              go_ret
                              exact ⟨by rw [V2.out]; rfl, Go.below_drewN hBl3.out _⟩
                            · skip
                              have t0 : decide (0 ≤ u) = true := by simp [h0]
                              have t1 : ((k : Int) != (y : Int)) = true := by simp; omega
                              have t1' : (k != y) = true := by simp; omega
                              have t2 : (s == u) = false := by simp [h2]
                              have t3 : ((k : Int) != (x : Int)) = true := by simp; omega
                              have t3' : (k != x) = true := by simp; omega
                              have t4 : (t == u) = false := by simp [h4]
                              have p1 : decide (k ≠ y) = true := by simpa using h1
                              have p3 : decide (k ≠ x) = true := by simpa using h3
                              have B3 : bad3 F x y k = false := by rw [BD]; simp only [t0, p1, t2, p3, t4, Bool.true_and, Bool.false_and, Bool.and_true, Bool.and_false, Bool.or_true, Bool.true_or, Bool.or_false, Bool.false_or]
                              have P4 : Hid (∀ c, c < k + 1 → bad3 F x y c = false) := fun c hc => by
                                by_cases e2 : c = k
                                · rw [e2]; exact B3
                                · exact hP3.out c (by omega)
                              clear B3 BD h0 h1 h2 h3 h4 p1 p3
                              go_wp2
                              go_quiet (fail)
                              go_wp2
                              go_roundw
                              case rel => exact ⟨k + 1, by omega, by go_num, P4, Go.below_drewN hBl3.out _⟩
                              case measure => simp [intOf]; omega
                    · skip
                      have t0 : decide (0 ≤ u) = false := by simp [h0]
                      have B3 : bad3 F x y k = false := by rw [BD]; simp only [t0, Bool.true_and, Bool.false_and, Bool.and_true, Bool.and_false, Bool.or_true, Bool.true_or, Bool.or_false, Bool.false_or]
                      have P4 : Hid (∀ c, c < k + 1 → bad3 F x y c = false) := fun c hc => by
                        by_cases e2 : c = k
                        · rw [e2]; exact B3
                        · exact hP3.out c (by omega)
                      clear B3 BD h0
                      go_wp2
                      go_quiet (fail)
                      go_wp2
                      go_roundw
                      case rel => exact ⟨k + 1, by omega, by go_num, P4, Go.below_drewN hBl3.out _⟩
                      case measure => simp [intOf]; omega
                  · have k4 : decide (k < n) = false := by simpa using ck
                    have k4' : decide ((k : Int) < (n : Int)) = false := decide_eq_false (by omega)
                    obtain rfl : k = n := by omega
                    have P3 : Hid (∀ b, b < y + 1 → (-1 ≤ F x b ∧ F x b ≤ (k : Int) - 1) ∧ ∀ c, c < k → bad3 F x b c = false) := fun b hb => by
                      by_cases e : b = y
                      · rw [e]; exact ⟨by rw [HU.out]; exact CI.out, hP3.out⟩
                      · exact hP2.out b (by omega)
                    go_wp2
                    go_roundw
                    case rel => exact ⟨y + 1, by omega, by go_num, P3, hBl3⟩
                    case measure => simp [intOf]; omega
              · have V2 := Lib.hid (N2.out ci)
                have HI := Lib.hid (fun W => in_no' u (-1) ((n : Int) - 1) W (by omega))
                clear N2 ci
                go_wp2_with fail
                refine (HI.out _).mono ?_
                rintro e w2 ⟨rfl, rfl⟩
                go_wp2
                go_ret
                exact ⟨by rw [V2.out]; rfl, hBl2.out⟩
            · have k3 : decide (y < n) = false := by simpa using cy
              have k3' : decide ((y : Int) < (n : Int)) = false := decide_eq_false (by omega)
              obtain rfl : y = n := by omega
              have P3 : Hid (∀ a b, a < x + 1 → b < y → (-1 ≤ F a b ∧ F a b ≤ (y : Int) - 1) ∧ ∀ c, c < y → bad3 F a b c = false) := fun a b ha hb => by
                by_cases e : a = x
                · rw [e]; exact hP2.out b hb
                · exact hP.out a b (by omega) hb
              go_wp2
              go_roundw
              case rel => exact ⟨x + 1, by omega, by go_num, P3, hBl2⟩
              case measure => simp [intOf]; omega
        · have k2 : decide (x < n) = false := by simpa using cx
          have k2' : decide ((x : Int) < (n : Int)) = false := decide_eq_false (by omega)
          obtain rfl : x = n := by omega
          have V2 := Lib.hid (Y2.out hP.out)
          go_wp2
          go_ret
          exact ⟨by rw [V2.out]; rfl, hBl.out⟩
end Go.Proofs.YtigcgpgkpkoodaaDoor
