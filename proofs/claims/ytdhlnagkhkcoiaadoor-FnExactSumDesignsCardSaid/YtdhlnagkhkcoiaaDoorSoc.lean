/- sort.Slice with a `less` that makes memory: partialInsertionSort_func. -/
import Derived.Test.YtdhlnagkhkcoiaaDoorSoa
import Derived.Sort.WalkA6
namespace Go.Proofs.YtdhlnagkhkcoiaaDoor
open Go.Shelf Go.RowKit Go.Lib Go.Sort
set_option linter.unusedVariables false
variable {P : Program} {ρ : Ren} {α : Type} [Inhabited α] {enc : α → Value} {lt : α → α → Bool} {g : Nat} {lb : Array Value} {sf : Nat} {sb : Array Value} {blk off n : Nat} {d : Array α} {w : World}

set_option maxHeartbeats 16000000 in
set_option maxRecDepth 1000000 in
theorem so_partial (L : LaysGg.n31 P ρ) (E : En P enc lt g lb sf sb blk off n d w) (a b : Nat) (hab : a < b) (hb : b ≤ n) :
    Calls P (ρ.f 31) #[.agg #[.func (.func g) #[] lb, .func (.func sf) #[] sb], .int .i64 a, .int .i64 b] w fun e w' => e = .returned (.bool (Sort.partialInsertionSort lt d a b).2) ∧ St enc w blk off (Sort.partialInsertionSort lt d a b).1 w' := by
  have mixed := L.mixed; have t0 := L.t0; have a0 := L.a0; have z0 := L.z0; have v0 := L.v0; have t3 := L.t3; have a3 := L.a3; have z3 := L.z3; have v3 := L.v3; have t4 := L.t4; have a4 := L.a4; have z4 := L.z4; have v4 := L.v4; have t26 := L.t26; have a26 := L.a26; have z26 := L.z26; have v26 := L.v26; have t37 := L.t37; have a37 := L.a37; have z37 := L.z37; have v37 := L.v37; have t44 := L.t44; have a44 := L.a44; have z44 := L.z44; have v44 := L.v44
  have u44 := run_underlying L.t44
  have eg := E.eg
  have hsz := E.hsz
  have S0 := E.box (.func (.func g) #[] lb) (.func (.func sf) #[] sb) (ρ.t 44)
  have LS := Lib.hid (fun (X : Array α) W (S : Sx enc blk off n (.func (.func g) #[] lb) (.func (.func sf) #[] sb) w.heap.size w X W) (j : Nat) (v : Bool) (h1 : 1 ≤ j) (hj : j < n) (hv : lt X[j]! X[j - 1]! = v) => E.lessAt S j (j - 1) (j : Int) ((j : Int) - 1) hj (by omega) rfl (by omega) v hv)
  have SS := Lib.hid (fun (X : Array α) W (S : Sx enc blk off n (.func (.func g) #[] lb) (.func (.func sf) #[] sb) w.heap.size w X W) (j : Nat) (h1 : 1 ≤ j) (hj : j < n) => E.swapAt S j (j - 1) (j : Int) ((j : Int) - 1) hj (by omega) rfl (by omega))
  go_enter L.f31, BodyGg.n31_ntmps ρ
  go_wp2
  go_loopg [7, 8] 5 (fun g1 vi vs wr => ∃ (i s : Nat) (dk : Array α), vi = .int .i64 i ∧ vs = .int .i64 s ∧ s ≤ 5 ∧ 5 - s ≤ g1 ∧ a < i ∧ i ≤ b ∧ Sx enc blk off n (.func (.func g) #[] lb) (.func (.func sf) #[] sb) w.heap.size w dk wr ∧ Hid (partialIns lt a b (5 - s) i dk = partialIns lt a b 5 (a + 1) d))
  case atStart => exact ⟨a + 1, 0, d, by go_num, rfl, by omega, by omega, by omega, by omega, S0, rfl⟩
  case round =>
    clear S0
    obtain ⟨i, s, dk, rfl, rfl, hs5, hg1, hai, hib, S, HO⟩ := hrel
    by_cases hs : s < 5
    · have hsz5 : (s : Int) < 5 := by omega
      go_wp2
      go_loopg [7] (b - i) (fun g2 vi wr2 => ∃ (k : Nat), vi = .int .i64 k ∧ i ≤ k ∧ k ≤ b ∧ b - k ≤ g2 ∧ Sx enc blk off n (.func (.func g) #[] lb) (.func (.func sf) #[] sb) w.heap.size w dk wr2 ∧ Hid (scanSorted lt dk b k = scanSorted lt dk b i))
      case atStart => exact ⟨i, rfl, Nat.le_refl _, hib, Nat.le_refl _, S, rfl⟩
      case round =>
        clear S
        obtain ⟨k, rfl, hik, hkb, hg2, S, HSc⟩ := hrel
        have c0 := S.c0
        by_cases hkb2 : k < b
        · have hkz : (k : Int) < (b : Int) := by omega
          cases hlv : lt dk[k]! dk[k - 1]! with
          | false =>
            have hl := LS.out _ _ S k false (by omega) (by omega) hlv
            go_wp2_with (go_at_fn g; refine hl.mono ?_; rintro e w1 ⟨rfl, S1⟩)
            go_roundg (b - (k + 1))
            case measure => omega
            case rel => exact ⟨k + 1, by go_num, by omega, by omega, Nat.le_refl _, S1, (show Hid _ from by rw [← HSc.out, scanSorted_go lt dk b k hkb2 hlv]; exact rfl)⟩
          | true =>
            have hl := LS.out _ _ S k true (by omega) (by omega) hlv
            have HK : Hid (scanSorted lt dk b i = k) := by show _ = _; rw [← HSc.out, scanSorted_stop lt dk b k (Or.inr hlv)]
            have hkne : ((k : Int) == (b : Int)) = false := beq_eq_false_iff_ne.2 (by omega)
            by_cases h50 : b - a < 50
            · have h50z : (b : Int) - (a : Int) < 50 := by omega
              go_wp2_with (go_at_fn g; refine hl.mono ?_; rintro e w1 ⟨rfl, S1⟩)
              have hv : Sort.partialInsertionSort lt d a b = (dk, false) := by
                unfold Sort.partialInsertionSort
                rw [← HO.out, pi_short lt a b s i dk hs (by rw [HK.out]; omega) h50]
              rw [hv]
              go_ret
              exact ⟨rfl, S1.st⟩
            · have h50z : ¬ ((b : Int) - (a : Int) < 50) := by omega
              by_cases hka : k - a ≥ 2
              · have hkaz : (2 : Int) ≤ (k : Int) - (a : Int) := by omega
                go_wp2_with (go_at_fn g; refine hl.mono ?_; rintro e w1 ⟨rfl, S1⟩; have c10 := S1.c0; have c11 := S1.c1; obtain ⟨w2, hs2, S2⟩ := SS.out _ _ S1 k (by omega) (by omega); have c20 := S2.c0)
                go_loopg [9] (k - 1) (fun g3 vj wr3 => ∃ (j : Nat) (dj : Array α), vj = .int .i64 j ∧ j ≤ k - 1 ∧ j ≤ g3 ∧ Sx enc blk off n (.func (.func g) #[] lb) (.func (.func sf) #[] sb) w.heap.size w dj wr3 ∧ Hid (shiftDown lt j dj = shiftDown lt (k - 1) (swp dk k (k - 1))))
                case atStart => exact ⟨k - 1, swp dk k (k - 1), by congr 1; omega, Nat.le_refl _, Nat.le_refl _, S2, rfl⟩
                case round =>
                  clear S2 c20
                  obtain ⟨j, dj, rfl, hjk, hg3, D, HDn⟩ := hrel
                  have d0 := D.c0
                  by_cases hj1 : 1 ≤ j
                  · have hj1z : (1 : Int) ≤ (j : Int) := by omega
                    cases hlv2 : lt dj[j]! dj[j - 1]! with
                    | true =>
                      have hl2 := LS.out _ _ D j true hj1 (by omega) hlv2
                      go_wp2_with (go_at_fn g; refine hl2.mono ?_; rintro e w3 ⟨rfl, D3⟩; have d30 := D3.c0; have d31 := D3.c1; obtain ⟨w4, hs4, D4⟩ := SS.out _ _ D3 j hj1 (by omega))
                      go_roundg (j - 1)
                      case measure => omega
                      case rel => exact ⟨j - 1, swp dj j (j - 1), by congr 1; omega, by omega, Nat.le_refl _, D4, (show Hid _ from by rw [← HDn.out, shiftDown_go lt j dj hj1 hlv2]; exact rfl)⟩
                    | false =>
                      have hl2 := LS.out _ _ D j false hj1 (by omega) hlv2
                      have HD : Hid (fixDown lt a k (swp dk k (k - 1)) = dj) := by show _ = _; unfold fixDown; rw [if_pos hka, ← HDn.out, shiftDown_stop lt j dj (Or.inr hlv2)]
                      by_cases hbk : b - k ≥ 2
                      · have hbkz : (2 : Int) ≤ (b : Int) - (k : Int) := by omega
                        go_wp2_with (go_at_fn g; refine hl2.mono ?_; rintro e w3 ⟨rfl, D3⟩)
                        go_loopg [10] (b - (k + 1)) (fun g4 vj wr4 => ∃ (ju : Nat) (du : Array α), vj = .int .i64 ju ∧ k + 1 ≤ ju ∧ ju ≤ b ∧ b - ju ≤ g4 ∧ Sx enc blk off n (.func (.func g) #[] lb) (.func (.func sf) #[] sb) w.heap.size w du wr4 ∧ Hid (shiftUp lt b ju du = shiftUp lt b (k + 1) dj))
                        case atStart => exact ⟨k + 1, dj, by go_num, Nat.le_refl _, by omega, Nat.le_refl _, D3, rfl⟩
                        case round =>
                          obtain ⟨ju, du, rfl, hkj, hjb, hg4, U, HU⟩ := hrel
                          have u0 := U.c0
                          by_cases hjb2 : ju < b
                          · have hjz : (ju : Int) < (b : Int) := by omega
                            cases hlv3 : lt du[ju]! du[ju - 1]! with
                            | true =>
                              have hl3 := LS.out _ _ U ju true (by omega) (by omega) hlv3
                              go_wp2_with (go_at_fn g; refine hl3.mono ?_; rintro e w5 ⟨rfl, U5⟩; have u50 := U5.c0; have u51 := U5.c1; obtain ⟨w6, hs6, U6⟩ := SS.out _ _ U5 ju (by omega) (by omega))
                              go_roundg (b - (ju + 1))
                              case measure => omega
                              case rel => exact ⟨ju + 1, swp du ju (ju - 1), by go_num, by omega, by omega, Nat.le_refl _, U6, (show Hid _ from by rw [← HU.out, shiftUp_go lt b ju du hjb2 hlv3]; exact rfl)⟩
                            | false =>
                              have hl3 := LS.out _ _ U ju false (by omega) (by omega) hlv3
                              go_wp2_with (go_at_fn g; refine hl3.mono ?_; rintro e w5 ⟨rfl, U5⟩)
                              go_roundg (5 - (s + 1))
                              case measure => omega
                              case rel => exact ⟨k, s + 1, du, rfl, by go_num, by omega, Nat.le_refl _, by omega, by omega, U5, (show Hid _ from by rw [← HO.out, pi_go lt a b s i k dk hs HK.out (by omega) h50, HD.out, show fixUp lt b k dj = du from by unfold fixUp; rw [if_pos hbk, ← HU.out, shiftUp_stop lt b ju du (Or.inr hlv3)]]; exact rfl)⟩
                          · have hjz : ¬ (ju : Int) < (b : Int) := by omega
                            go_wp2
                            go_roundg (5 - (s + 1))
                            case measure => omega
                            case rel => exact ⟨k, s + 1, du, rfl, by go_num, by omega, Nat.le_refl _, by omega, by omega, U, (show Hid _ from by rw [← HO.out, pi_go lt a b s i k dk hs HK.out (by omega) h50, HD.out, show fixUp lt b k dj = du from by unfold fixUp; rw [if_pos hbk, ← HU.out, shiftUp_stop lt b ju du (Or.inl hjb2)]]; exact rfl)⟩
                      · have hbkz : ¬ (2 : Int) ≤ (b : Int) - (k : Int) := by omega
                        go_wp2_with (go_at_fn g; refine hl2.mono ?_; rintro e w3 ⟨rfl, D3⟩)
                        go_roundg (5 - (s + 1))
                        case measure => omega
                        case rel => exact ⟨k, s + 1, dj, rfl, by go_num, by omega, Nat.le_refl _, by omega, by omega, D3, (show Hid _ from by rw [← HO.out, pi_go lt a b s i k dk hs HK.out (by omega) h50, HD.out, show fixUp lt b k dj = dj from by unfold fixUp; rw [if_neg hbk]]; exact rfl)⟩
                  · have hj1z : ¬ (1 : Int) ≤ (j : Int) := by omega
                    have HD : Hid (fixDown lt a k (swp dk k (k - 1)) = dj) := by show _ = _; unfold fixDown; rw [if_pos hka, ← HDn.out, shiftDown_stop lt j dj (Or.inl (by omega))]
                    by_cases hbk : b - k ≥ 2
                    · have hbkz : (2 : Int) ≤ (b : Int) - (k : Int) := by omega
                      go_wp2
                      go_loopg [10] (b - (k + 1)) (fun g4 vj wr4 => ∃ (ju : Nat) (du : Array α), vj = .int .i64 ju ∧ k + 1 ≤ ju ∧ ju ≤ b ∧ b - ju ≤ g4 ∧ Sx enc blk off n (.func (.func g) #[] lb) (.func (.func sf) #[] sb) w.heap.size w du wr4 ∧ Hid (shiftUp lt b ju du = shiftUp lt b (k + 1) dj))
                      case atStart => exact ⟨k + 1, dj, by go_num, Nat.le_refl _, by omega, Nat.le_refl _, D, rfl⟩
                      case round =>
                        obtain ⟨ju, du, rfl, hkj, hjb, hg4, U, HU⟩ := hrel
                        have u0 := U.c0
                        by_cases hjb2 : ju < b
                        · have hjz : (ju : Int) < (b : Int) := by omega
                          cases hlv3 : lt du[ju]! du[ju - 1]! with
                          | true =>
                            have hl3 := LS.out _ _ U ju true (by omega) (by omega) hlv3
                            go_wp2_with (go_at_fn g; refine hl3.mono ?_; rintro e w5 ⟨rfl, U5⟩; have u50 := U5.c0; have u51 := U5.c1; obtain ⟨w6, hs6, U6⟩ := SS.out _ _ U5 ju (by omega) (by omega))
                            go_roundg (b - (ju + 1))
                            case measure => omega
                            case rel => exact ⟨ju + 1, swp du ju (ju - 1), by go_num, by omega, by omega, Nat.le_refl _, U6, (show Hid _ from by rw [← HU.out, shiftUp_go lt b ju du hjb2 hlv3]; exact rfl)⟩
                          | false =>
                            have hl3 := LS.out _ _ U ju false (by omega) (by omega) hlv3
                            go_wp2_with (go_at_fn g; refine hl3.mono ?_; rintro e w5 ⟨rfl, U5⟩)
                            go_roundg (5 - (s + 1))
                            case measure => omega
                            case rel => exact ⟨k, s + 1, du, rfl, by go_num, by omega, Nat.le_refl _, by omega, by omega, U5, (show Hid _ from by rw [← HO.out, pi_go lt a b s i k dk hs HK.out (by omega) h50, HD.out, show fixUp lt b k dj = du from by unfold fixUp; rw [if_pos hbk, ← HU.out, shiftUp_stop lt b ju du (Or.inr hlv3)]]; exact rfl)⟩
                        · have hjz : ¬ (ju : Int) < (b : Int) := by omega
                          go_wp2
                          go_roundg (5 - (s + 1))
                          case measure => omega
                          case rel => exact ⟨k, s + 1, du, rfl, by go_num, by omega, Nat.le_refl _, by omega, by omega, U, (show Hid _ from by rw [← HO.out, pi_go lt a b s i k dk hs HK.out (by omega) h50, HD.out, show fixUp lt b k dj = du from by unfold fixUp; rw [if_pos hbk, ← HU.out, shiftUp_stop lt b ju du (Or.inl hjb2)]]; exact rfl)⟩
                    · have hbkz : ¬ (2 : Int) ≤ (b : Int) - (k : Int) := by omega
                      go_wp2
                      go_roundg (5 - (s + 1))
                      case measure => omega
                      case rel => exact ⟨k, s + 1, dj, rfl, by go_num, by omega, Nat.le_refl _, by omega, by omega, D, (show Hid _ from by rw [← HO.out, pi_go lt a b s i k dk hs HK.out (by omega) h50, HD.out, show fixUp lt b k dj = dj from by unfold fixUp; rw [if_neg hbk]]; exact rfl)⟩
              · have hkaz : ¬ (2 : Int) ≤ (k : Int) - (a : Int) := by omega
                have HD : Hid (fixDown lt a k (swp dk k (k - 1)) = (swp dk k (k - 1))) := by show _ = _; unfold fixDown; rw [if_neg hka]
                by_cases hbk : b - k ≥ 2
                · have hbkz : (2 : Int) ≤ (b : Int) - (k : Int) := by omega
                  go_wp2_with (go_at_fn g; refine hl.mono ?_; rintro e w1 ⟨rfl, S1⟩; have c10 := S1.c0; have c11 := S1.c1; obtain ⟨w2, hs2, S2⟩ := SS.out _ _ S1 k (by omega) (by omega); have c20 := S2.c0)
                  go_loopg [10] (b - (k + 1)) (fun g4 vj wr4 => ∃ (ju : Nat) (du : Array α), vj = .int .i64 ju ∧ k + 1 ≤ ju ∧ ju ≤ b ∧ b - ju ≤ g4 ∧ Sx enc blk off n (.func (.func g) #[] lb) (.func (.func sf) #[] sb) w.heap.size w du wr4 ∧ Hid (shiftUp lt b ju du = shiftUp lt b (k + 1) (swp dk k (k - 1))))
                  case atStart => exact ⟨k + 1, (swp dk k (k - 1)), by go_num, Nat.le_refl _, by omega, Nat.le_refl _, S2, rfl⟩
                  case round =>
                    obtain ⟨ju, du, rfl, hkj, hjb, hg4, U, HU⟩ := hrel
                    have u0 := U.c0
                    by_cases hjb2 : ju < b
                    · have hjz : (ju : Int) < (b : Int) := by omega
                      cases hlv3 : lt du[ju]! du[ju - 1]! with
                      | true =>
                        have hl3 := LS.out _ _ U ju true (by omega) (by omega) hlv3
                        go_wp2_with (go_at_fn g; refine hl3.mono ?_; rintro e w5 ⟨rfl, U5⟩; have u50 := U5.c0; have u51 := U5.c1; obtain ⟨w6, hs6, U6⟩ := SS.out _ _ U5 ju (by omega) (by omega))
                        go_roundg (b - (ju + 1))
                        case measure => omega
                        case rel => exact ⟨ju + 1, swp du ju (ju - 1), by go_num, by omega, by omega, Nat.le_refl _, U6, (show Hid _ from by rw [← HU.out, shiftUp_go lt b ju du hjb2 hlv3]; exact rfl)⟩
                      | false =>
                        have hl3 := LS.out _ _ U ju false (by omega) (by omega) hlv3
                        go_wp2_with (go_at_fn g; refine hl3.mono ?_; rintro e w5 ⟨rfl, U5⟩)
                        go_roundg (5 - (s + 1))
                        case measure => omega
                        case rel => exact ⟨k, s + 1, du, rfl, by go_num, by omega, Nat.le_refl _, by omega, by omega, U5, (show Hid _ from by rw [← HO.out, pi_go lt a b s i k dk hs HK.out (by omega) h50, HD.out, show fixUp lt b k (swp dk k (k - 1)) = du from by unfold fixUp; rw [if_pos hbk, ← HU.out, shiftUp_stop lt b ju du (Or.inr hlv3)]]; exact rfl)⟩
                    · have hjz : ¬ (ju : Int) < (b : Int) := by omega
                      go_wp2
                      go_roundg (5 - (s + 1))
                      case measure => omega
                      case rel => exact ⟨k, s + 1, du, rfl, by go_num, by omega, Nat.le_refl _, by omega, by omega, U, (show Hid _ from by rw [← HO.out, pi_go lt a b s i k dk hs HK.out (by omega) h50, HD.out, show fixUp lt b k (swp dk k (k - 1)) = du from by unfold fixUp; rw [if_pos hbk, ← HU.out, shiftUp_stop lt b ju du (Or.inl hjb2)]]; exact rfl)⟩
                · have hbkz : ¬ (2 : Int) ≤ (b : Int) - (k : Int) := by omega
                  exfalso; omega
        · obtain rfl : k = b := by omega
          have hkz : ¬ (k : Int) < (k : Int) := by omega
          go_wp2
          have hv : Sort.partialInsertionSort lt d a k = (dk, true) := by
            unfold Sort.partialInsertionSort
            rw [← HO.out, pi_true lt a k s i dk hs (by rw [← HSc.out, scanSorted_stop lt dk k k (Or.inl (by omega))])]
          rw [hv]
          go_ret
          exact ⟨rfl, S.st⟩
    · obtain rfl : s = 5 := by omega
      go_wp2
      have hv : Sort.partialInsertionSort lt d a b = (dk, false) := by
        unfold Sort.partialInsertionSort
        rw [← HO.out, pi_end]
      rw [hv]
      go_ret
      exact ⟨rfl, S.st⟩
end Go.Proofs.YtdhlnagkhkcoiaaDoor
