/- RankPermutation: the program. -/
import Derived.Test.YtcgmencdadinbaaRkm
import Derived.Test.YtcgmencdadinbaaFnu
namespace Go.Proofs.Ytcgmencdadinbaa
open Go.RowKit
set_option linter.unusedVariables false

theorem Fn.stores_new (W : World) (c : Nat → Int) : (storeCells ⟨W.heap.size, 0, none⟩ (iar 13 c).toList 0).run Try.prog (W.alloc (.cells #[.int .i64 0, .int .i64 0, .int .i64 0, .int .i64 0, .int .i64 0, .int .i64 0, .int .i64 0, .int .i64 0, .int .i64 0, .int .i64 0, .int .i64 0, .int .i64 0, .int .i64 0] 66)) = .ok () (W.alloc (.cells (iar 13 c) 66)) :=
  run_storeCells_new W 66 _ (iar 13 c) (by rw [iar_size]; exact Try.infoFen) (by rw [iar_size]; rfl) (iar_one 13 c)
theorem lt1_uP (p : List Int) : lt1 p.length = uP p 0 := by funext y; unfold lt1 uP; simp

set_option maxRecDepth 100000 in
set_option maxHeartbeats 4000000 in
theorem iRankPermutation (ps : List Int) (hx : SmallL ps) (W : World) (u : Value) (hu : IntsC W u ps) :
    Calls Try.prog 47 #[u] W fun e w' => e = .returned (.tuple #[.int .i64 (RankPermutation_0 ps), .int .i64 (RankPermutation_1 ps)]) ∧ Below W.heap.size W w' := by
  have HX := Lib.hid (iok W u ps hu)
  cases hp : pmB ps with
  | false =>
    have V := Lib.hid (Rank_bad hp)
    rw [hp] at HX
    clear hp hu
    go_enter Try.func47, Try.ntmps47
    go_wp2_with fail
    refine HX.out.mono ?_
    rintro e w1 ⟨rfl, b1⟩
    have B1 := Lib.hid b1
    clear b1
    go_wp2
    go_ret2
    exact ⟨by rw [V.out.1, V.out.2]; rfl, B1.out⟩
  | true =>
    rw [hp] at HX
    obtain ⟨a, cap, rfl, hc⟩ := part2 hu.1
    have HC := Lib.hid hc
    by_cases h12 : ps.length ≤ 12
    · have V := Lib.hid (Rank_ok hp h12)
      have PM := of_pmB hp
      have HU := Lib.hid (fun W : World => iunused ps.length h12 W)
      have HT := Lib.hid (fun W : World => Fn.stores_new W (fw (lt1 ps.length)))
      have LU := Lib.hid (lt1_uP ps)
      have ST : Hid (∀ i x : Nat, i < ps.length → ps.getD i 0 = x → updI (uP ps i) x (uP ps i x + -1) = uP ps (i + 1) ∧ sumU (uP ps i) x = lesr ps i) := fun i x hi hx => ⟨uP_step PM hi hx, less_is PM hi hx⟩
      have RG : Hid (∀ i, i < ps.length → 0 ≤ ps.getD i 0 ∧ ps.getD i 0 ≤ (ps.length : Int) - 1) := fun i hi => by have := PM.2 i hi; unfold okPm at this; exact ⟨this.1, this.2.1⟩
      have HS : Hid (∀ i, i ≤ ps.length → 0 ≤ hr ps i ∧ hr ps i ≤ 479001600) := fun i hi => hr_small ps i hi h12
      have LB : Hid (∀ i, i < ps.length → 0 ≤ lesr ps i ∧ lesr ps i ≤ (ps.length : Int) - 1 - i) := fun i hi => lesr_bound ps i hi
      have H1 : Hid (∀ i, hr ps (i + 1) = hr ps i * ((ps.length : Int) - i) + lesr ps i) := fun i => rfl
      have H0 : Hid (hr ps 0 = 0) := rfl
      obtain ⟨m, hm⟩ : ∃ m, ps.length = m := ⟨_, rfl⟩
      rw [hm] at HC HX HU HT LU ST RG HS LB H1 V h12 ⊢
      have g1 : decide ((12 : Int) < (m : Int)) = false := decide_eq_false (by omega)
      have g1' : decide (12 < m) = false := decide_eq_false (by omega)
      clear hp hu hc hm PM
      go_enter Try.func47, Try.ntmps47
      go_wp2_with fail
      refine HX.out.mono ?_
      rintro e w1 ⟨rfl, b1⟩
      have B1 := Lib.hid b1
      have s1 := b1.size
      clear b1
      go_wp2_with fail
      refine (HU.out w1).mono ?_
      rintro e w2 ⟨rfl, b2⟩
      have B2 := Lib.hid (t_chain B1.out b2)
      have s2 := b2.size
      have ht := HT.out w2
      clear b2
      go_wp2
      obtain ⟨g, hg⟩ : ∃ g, w2.heap.size = g := ⟨_, rfl⟩
      have T0 : Hid (Fn (w2.alloc (.cells (iar 13 (fw (lt1 m))) 66)) g (uP ps 0)) := by
        rw [← LU.out, ← hg]; exact heap_alloc_new _ _
      have BO : Hid (Below W.heap.size W (w2.alloc (.cells (iar 13 (fw (lt1 m))) 66))) := B2.out.alloc B2.out.size _
      have gW : W.heap.size ≤ g := by omega
      rw [hg]
      clear ht hg
      go_loopw [6, 20] (fun r i wr => ∃ j : Nat, j ≤ m ∧ i = .int .i64 j ∧ r = .int .i64 (hr ps j) ∧ Hid (Fn wr g (uP ps j)) ∧ Hid (Below W.heap.size W wr)) (fun _ i _ => m - (intOf i).toNat)
      case atStart => exact ⟨0, by omega, rfl, by rw [H0.out], T0, BO⟩
      case round =>
        obtain ⟨j, hj, rfl, rfl, hF, hBl⟩ := hrel
        by_cases c : j < m
        · have k1 : decide (j < m) = true := by simpa using c
          obtain ⟨g', off, rfl, hg', cj⟩ := HC.out j c
          obtain ⟨x0, x1⟩ := RG.out j c
          obtain ⟨x, hx⟩ : ∃ x : Nat, ps.getD j 0 = x := ⟨(ps.getD j 0).toNat, by omega⟩
          have stj := ST.out j x c hx
          rw [hx] at cj x0 x1
          have cx : wr.cell? ⟨g', off + j, none⟩ = some (.int .i64 x) := by rw [hBl.out.cell (p := ⟨g', off + j, none⟩) hg', cj]
          have LS := Lib.hid (less x (by omega) wr g (uP ps j) (uP_bit ps j) hF.out)
          have CH := Lib.hid (change x (by omega) wr g (uP ps j) (-1) (by omega) (uP_bit ps j) hF.out)
          rw [stj.1] at CH
          rw [stj.2] at LS
          obtain ⟨l0, l1⟩ := LB.out j c
          obtain ⟨h0, h1⟩ := HS.out j hj
          obtain ⟨h2, h3⟩ := HS.out (j + 1) (by omega)
          have hs := H1.out j
          obtain ⟨d, hd⟩ : ∃ d : Nat, (m : Int) - (j : Int) = d := ⟨m - j, by omega⟩
          obtain ⟨A, hA⟩ : ∃ A, hr ps j = A := ⟨_, rfl⟩
          obtain ⟨l, hl⟩ : ∃ l, lesr ps j = l := ⟨_, rfl⟩
          obtain ⟨A', hA'⟩ : ∃ A', hr ps (j + 1) = A' := ⟨_, rfl⟩
          rw [hl] at LS l0 l1
          rw [hA, hl, hA', hd] at hs
          rw [hA] at h0 h1 ⊢
          rw [hA'] at h2 h3
          obtain ⟨M, hM⟩ : ∃ M, A * (d : Int) = M := ⟨_, rfl⟩
          have M0 : 0 ≤ M := by rw [← hM]; exact Int.mul_nonneg h0 (by omega)
          rw [hM] at hs
          have HA' := Lib.hid hA'
          have e1 : wrap64 ((m : Int) - (j : Int)) = (d : Int) := by rw [hd]; unfold wrap64; omega
          have e2 : wrap64 (A * (d : Int)) = M := by rw [hM]; unfold wrap64; omega
          have e3 : wrap64 (M + l) = A' := by rw [← hs]; unfold wrap64; omega
          have j0 : (0 : Int) ≤ (j : Int) := by omega
          have j1 : (j : Int) < (m : Int) := by omega
          have w3 := IntWalk.i64_in ((j : Int) + 1) (by omega)
          clear hx stj hA hl hA' hM hs cj
          go_wp2_with fail
          refine LS.out.mono ?_
          rintro e w' ⟨rfl, rfl⟩
          go_wp2_with fail
          refine CH.out.mono ?_
          rintro e w3 ⟨⟨v, rfl⟩, f3, b3⟩
          have F3 := Lib.hid f3
          have B3 := Lib.hid (hBl.out.trans (b3.mono gW))
          clear f3 b3
          go_wp2
          go_roundw
          case rel => exact ⟨j + 1, by omega, by go_num, by rw [HA'.out], F3, B3⟩
          case measure => simp [intOf]; omega
        · have k1 : decide (j < m) = false := by simpa using c
          obtain rfl : j = m := by omega
          go_wp2
          go_ret2
          exact ⟨by rw [V.out.1, V.out.2]; rfl, hBl.out⟩
    · have V := Lib.hid (Rank_far hp h12)
      obtain ⟨m, hm⟩ : ∃ m, ps.length = m := ⟨_, rfl⟩
      rw [hm] at HX h12 ⊢
      have g1 : decide ((12 : Int) < (m : Int)) = true := decide_eq_true (by omega)
      have g1' : decide (12 < m) = true := decide_eq_true (by omega)
      clear hp hu hc hm HC
      go_enter Try.func47, Try.ntmps47
      go_wp2_with fail
      refine HX.out.mono ?_
      rintro e w1 ⟨rfl, b1⟩
      have B1 := Lib.hid b1
      clear b1
      go_wp2
      go_ret2
      exact ⟨by rw [V.out.1, V.out.2]; rfl, B1.out⟩
end Go.Proofs.Ytcgmencdadinbaa
