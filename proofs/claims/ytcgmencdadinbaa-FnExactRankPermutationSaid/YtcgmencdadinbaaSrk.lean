/- RankPermutation: the model. -/
import Derived.Test.YtcgmencdadinbaaRkm
namespace Go.Proofs.Ytcgmencdadinbaa
open Go.RowKit
set_option linter.unusedVariables false

set_option maxHeartbeats 1000000 in
theorem sfact (n : Nat) (hn : n ≤ 12) (w : World) :
    Calls Try.prog 73 #[.int .i64 n] w fun e w' => e = .returned (.int .i64 (fct n : Nat)) ∧ w' = w := by
  go_enter Try.func73, Try.ntmps73
  go_wp2
  go_loop [3, 4] (fun o i => ∃ j : Nat, j ≤ n ∧ (i = .int .i64 ((j : Int) + 1) ∧ 1 ≤ j ∧ o = .int .i64 (fct j : Nat) ∨ n = 0 ∧ i = .int .i64 2 ∧ o = .int .i64 1)) (fun _ i => n + 2 - (intOf i).toNat)
  case atStart =>
    by_cases h : n = 0
    · exact ⟨0, by omega, .inr ⟨h, rfl, rfl⟩⟩
    · exact ⟨1, by omega, .inl ⟨rfl, by omega, rfl⟩⟩
  case round =>
    obtain ⟨j, hj, (⟨rfl, h1, rfl⟩ | ⟨rfl, rfl, rfl⟩)⟩ := hrel
    · by_cases c : j < n
      · have k1 : decide ((j : Int) + 1 ≤ (n : Int)) = true := decide_eq_true (by omega)
        have F := fct12 (n := j + 1) (by omega)
        have F2 : fct (j + 1) = (j + 1) * fct j := rfl
        have HF : Hid ((fct j : Int) * ((j : Int) + 1) = (fct (j + 1) : Nat)) := by unfold Hid; rw [F2, Int.natCast_mul, Int.mul_comm]; rfl
        obtain ⟨q, hq⟩ : ∃ q, fct (j + 1) = q := ⟨_, rfl⟩
        rw [hq] at HF F
        obtain ⟨r, hr⟩ : ∃ r, fct j = r := ⟨_, rfl⟩
        rw [hr] at HF ⊢
        have HQ := Lib.hid hq
        have w1 : wrap64 ((r : Int) * ((j : Int) + 1)) = (q : Int) := by rw [HF.out]; unfold wrap64; omega
        have W1 := Lib.hid w1
        have w3 := IntWalk.i64_in ((j : Int) + 1 + 1) (by omega)
        clear hq hr F2
        go_wp2
        go_round
        case rel => exact ⟨j + 1, by omega, .inl ⟨by go_num, by omega, by rw [HQ.out, W1.out]⟩⟩
        case measure => simp [intOf]; omega
      · have k1 : decide ((j : Int) + 1 ≤ (n : Int)) = false := decide_eq_false (by omega)
        obtain rfl : j = n := by omega
        go_wp2
        go_ret
        exact ⟨rfl, rfl⟩
    · go_wp2
      go_ret
      exact ⟨rfl, rfl⟩

set_option maxRecDepth 100000 in
set_option maxHeartbeats 4000000 in
theorem sRankPermutation (ps : List Int) (hx : SmallL ps) (W : World) (u : Value) (hu : IntsC W u ps) :
    Calls Try.prog 46 #[u] W fun e w' => e = .returned (.tuple #[.int .i64 (RankPermutation_0 ps), .int .i64 (RankPermutation_1 ps)]) ∧ Below W.heap.size W w' := by
  have HX := Lib.hid (sok W u ps hu)
  cases hp : pmB ps with
  | false =>
    have V := Lib.hid (Rank_bad hp)
    rw [hp] at HX
    clear hp hu
    go_enter Try.func46, Try.ntmps46
    go_wp2_with fail
    refine HX.out.mono ?_
    rintro e w1 ⟨rfl, k, rfl⟩
    go_wp2
    go_ret2
    exact ⟨by rw [V.out.1, V.out.2]; rfl, Go.below_drewN (Below.refl _ _) k⟩
  | true =>
    rw [hp] at HX
    obtain ⟨a, cap, rfl, hc⟩ := part2 hu.1
    have HC := Lib.hid hc
    by_cases h12 : ps.length ≤ 12
    · have V := Lib.hid (Rank_ok hp h12)
      have PM := of_pmB hp
      have MS : Hid (∀ i, i ≤ ps.length → 0 ≤ mr ps i ∧ mr ps i ≤ 479001600) := fun i hi => mr_small ps i hi h12
      have LB : Hid (∀ i, i < ps.length → 0 ≤ lesr ps i ∧ lesr ps i ≤ (ps.length : Int) - 1 - i) := fun i hi => lesr_bound ps i hi
      have M1 : Hid (∀ i, i < ps.length → mr ps (i + 1) = mr ps i + lesr ps i * (fct (ps.length - 1 - i) : Nat)) := fun i hi => mr_succ ps i hi
      have M0 : Hid (mr ps 0 = 0) := by unfold Hid mr; rw [hr, Int.zero_mul]
      have ME : Hid (mr ps ps.length = hr ps ps.length) := mr_end ps
      have CL0 : Hid (∀ x, cl x [] = 0) := fun x => rfl
      have CLS : Hid (∀ i t x, i + 1 + t < ps.length → cl x ((ps.drop (i + 1)).take (t + 1)) = cl x ((ps.drop (i + 1)).take t) + (if ps.getD (i + 1 + t) 0 < x then 1 else 0)) := fun i t x h => by
        rw [takeI_getD (by rw [List.length_drop]; omega), cl_snoc]
        have : (ps.drop (i + 1)).getD t 0 = ps.getD (i + 1 + t) 0 := by simp [List.getD]
        rw [this]
      have CLE : Hid (∀ i t, i + 1 + t = ps.length → cl (ps.getD i 0) ((ps.drop (i + 1)).take t) = lesr ps i) := fun i t h => by
        rw [List.take_of_length_le (by rw [List.length_drop]; omega)]; rfl
      have CLB : Hid (∀ x l, l ≤ 13 → ∀ zs : List Int, zs.length ≤ l → 0 ≤ cl x zs ∧ cl x zs ≤ 13) := fun x l hl zs hz => by have := cl_bound x zs; omega
      have FS := Lib.hid (fun (k : Nat) (hk : k ≤ 12) (W : World) => sfact k hk W)
      obtain ⟨m, hm⟩ : ∃ m, ps.length = m := ⟨_, rfl⟩
      rw [hm] at HC HX MS LB M1 ME CLS CLE V h12 ⊢
      have g1 : decide ((12 : Int) < (m : Int)) = false := decide_eq_false (by omega)
      have g1' : decide (12 < m) = false := decide_eq_false (by omega)
      clear hp hu hc hm PM
      go_enter Try.func46, Try.ntmps46
      go_wp2_with fail
      refine HX.out.mono ?_
      rintro e w1 ⟨rfl, kd, rfl⟩
      go_wp2
      go_loopw [5, 6] (fun r i wr => ∃ j : Nat, j ≤ m ∧ i = .int .i64 j ∧ r = .int .i64 (mr ps j) ∧ ∃ k, wr = W.drewN k) (fun _ i _ => m - (intOf i).toNat)
      case atStart => exact ⟨0, by omega, rfl, by rw [M0.out], kd, rfl⟩
      case round =>
        obtain ⟨j, hj, rfl, rfl, k, rfl⟩ := hrel
        by_cases c : j < m
        · have k1 : decide (j < m) = true := by simpa using c
          have k1' : decide ((j : Int) < (m : Int)) = true := decide_eq_true (by omega)
          obtain ⟨g', off, rfl, hg', cj⟩ := HC.out j c
          obtain ⟨x, hx⟩ : ∃ x, ps.getD j 0 = x := ⟨_, rfl⟩
          rw [hx] at cj
          have CE := Lib.hid (CLE.out j (m - 1 - j) (by omega))
          rw [hx] at CE
          have w3 := IntWalk.i64_in ((j : Int) + 1) (by omega)
          have j0 : (0 : Int) ≤ (j : Int) := by omega
          have j1 : (j : Int) < (m : Int) := by omega
          have CS : Hid (∀ t, j + 1 + t < m → cl x ((ps.drop (j + 1)).take (t + 1)) = cl x ((ps.drop (j + 1)).take t) + (if ps.getD (j + 1 + t) 0 < x then 1 else 0)) := fun t ht => CLS.out j t x ht
          clear hx
          go_wp2
          go_loopw [7, 8] (fun l i wr => ∃ t : Nat, j + 1 + t ≤ m ∧ i = .int .i64 ((j : Int) + 1 + (t : Int)) ∧ l = .int .i64 (cl x ((ps.drop (j + 1)).take t)) ∧ ∃ k, wr = W.drewN k) (fun _ i _ => m - (intOf i).toNat)
          case atStart => exact ⟨0, by omega, by go_num, by rw [List.take_zero, CL0.out], k, rfl⟩
          case round =>
            obtain ⟨t, ht, rfl, rfl, k2, rfl⟩ := hrel
            by_cases c2 : j + 1 + t < m
            · have k3 : decide ((j : Int) + 1 + (t : Int) < (m : Int)) = true := decide_eq_true (by omega)
              obtain ⟨s, hs⟩ : ∃ s : Nat, j + 1 + t = s := ⟨_, rfl⟩
              have es : (j : Int) + 1 + (t : Int) = (s : Int) := by omega
              obtain ⟨g2, off2, e2, hg2, ct⟩ := HC.out s (by omega)
              simp only [Option.some.injEq, Addr.mk.injEq, and_true] at e2
              obtain ⟨rfl, rfl⟩ := e2
              have cs := Lib.hid (CS.out t c2)
              rw [hs] at cs
              obtain ⟨y, hy⟩ : ∃ y, ps.getD s 0 = y := ⟨_, rfl⟩
              rw [hy] at cs ct
              obtain ⟨b0, b1⟩ := CLB.out x 13 (Nat.le_refl _) ((ps.drop (j + 1)).take t) (by rw [List.length_take]; omega)
              obtain ⟨L, hL⟩ : ∃ L, cl x ((ps.drop (j + 1)).take t) = L := ⟨_, rfl⟩
              rw [hL] at cs b0 b1 ⊢
              rw [es] at k3 ⊢
              have s0 : (0 : Int) ≤ (s : Int) := by omega
              have s1 : (s : Int) < (m : Int) := by omega
              have w5 := IntWalk.i64_in ((s : Int) + 1) (by omega)
              have w6 := IntWalk.i64_in (L + 1) (by omega)
              have HS2 := Lib.hid es
              have k3' : decide (s < m) = true := decide_eq_true (by omega)
              clear hs hy hL es hg2
              by_cases c3 : y < x
              · have k4 : decide (y < x) = true := by simpa using c3
                rw [if_pos c3] at cs
                go_wp2
                go_quiet (fail)
                go_wp2
                go_roundw
                case rel => exact ⟨t + 1, by have := HS2.out; omega, by have := HS2.out; go_num, by rw [cs.out], _, rfl⟩
                case measure => simp [intOf]; omega
              · have k4 : decide (y < x) = false := by simpa using c3
                rw [if_neg c3, Int.add_zero] at cs
                go_wp2
                go_quiet (fail)
                go_wp2
                go_roundw
                case rel => exact ⟨t + 1, by have := HS2.out; omega, by have := HS2.out; go_num, by rw [cs.out], _, rfl⟩
                case measure => simp [intOf]; omega
            · have k3 : decide ((j : Int) + 1 + (t : Int) < (m : Int)) = false := decide_eq_false (by omega)
              obtain rfl : t = m - 1 - j := by omega
              rw [CE.out]
              obtain ⟨l0, l1⟩ := LB.out j c
              obtain ⟨h0, h1⟩ := MS.out j hj
              obtain ⟨h2, h3⟩ := MS.out (j + 1) (by omega)
              have hs := M1.out j c
              obtain ⟨d, hd⟩ : ∃ d, m - 1 - j = d := ⟨_, rfl⟩
              have FD := Lib.hid (fun W => FS.out d (by omega) W)
              have hd2 : (m : Int) - 1 - (j : Int) = (d : Int) := by omega
              have fp := fct_pos d
              have f12 := fct12 (n := d) (by omega)
              rw [hd] at hs k3
              obtain ⟨f, hf⟩ : ∃ f, fct d = f := ⟨_, rfl⟩
              rw [hf] at hs FD fp f12
              obtain ⟨l, hl⟩ : ∃ l, lesr ps j = l := ⟨_, rfl⟩
              obtain ⟨A, hA⟩ : ∃ A, mr ps j = A := ⟨_, rfl⟩
              obtain ⟨A', hA'⟩ : ∃ A', mr ps (j + 1) = A' := ⟨_, rfl⟩
              rw [hl] at l0 l1 hs ⊢
              rw [hA] at h0 h1 hs ⊢
              rw [hA'] at h2 h3 hs
              obtain ⟨M, hM⟩ : ∃ M, l * (f : Int) = M := ⟨_, rfl⟩
              have M0' : 0 ≤ M := by rw [← hM]; exact Int.mul_nonneg l0 (by omega)
              rw [hM] at hs
              have HA' := Lib.hid hA'
              have e2 : wrap64 (l * (f : Int)) = M := by rw [hM]; unfold wrap64; omega
              have e3 : wrap64 (A + M) = A' := by rw [← hs]; unfold wrap64; omega
              have e4 : wrap64 (A + l * (f : Int)) = A' := by rw [hM]; exact e3
              have HD2 := Lib.hid hd2
              rw [hd]
              clear hd hf hl hA hA' hM hs
              have E2 := Lib.hid e2
              have E3 := Lib.hid e3
              have E4 := Lib.hid e4
              go_wp2_with fail
              refine (FD.out _).mono ?_
              rintro e w' ⟨rfl, rfl⟩
              go_wp2
              go_roundw
              case rel => exact ⟨j + 1, by omega, by go_num, by rw [HA'.out, E3.out], _, rfl⟩
              case measure => simp [intOf]; omega
        · have k1 : decide (j < m) = false := by simpa using c
          have k1' : decide ((j : Int) < (m : Int)) = false := decide_eq_false (by omega)
          obtain rfl : j = m := by omega
          rw [ME.out]
          go_wp2
          go_ret2
          exact ⟨by rw [V.out.1, V.out.2]; rfl, Go.below_drewN (Below.refl _ _) k⟩
    · have V := Lib.hid (Rank_far hp h12)
      obtain ⟨m, hm⟩ : ∃ m, ps.length = m := ⟨_, rfl⟩
      rw [hm] at HX h12 ⊢
      have g1 : decide ((12 : Int) < (m : Int)) = true := decide_eq_true (by omega)
      have g1' : decide (12 < m) = true := decide_eq_true (by omega)
      clear hp hu hc hm HC
      go_enter Try.func46, Try.ntmps46
      go_wp2_with fail
      refine HX.out.mono ?_
      rintro e w1 ⟨rfl, k, rfl⟩
      go_wp2
      go_ret2
      exact ⟨by rw [V.out.1, V.out.2]; rfl, Go.below_drewN (Below.refl _ _) k⟩
end Go.Proofs.Ytcgmencdadinbaa
