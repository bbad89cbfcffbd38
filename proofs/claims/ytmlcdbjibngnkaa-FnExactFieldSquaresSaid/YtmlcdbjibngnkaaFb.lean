/- Polynomials of the program: sums, products, remainders. -/
import Derived.Test.YtmlcdbjibngnkaaFa
import Derived.Test.YtmlcdbjibngnkaaInv
import Derived.StillTailTactics
namespace Go.Proofs.Ytmlcdbjibngnkaa
open Go.RowKit
set_option linter.unusedVariables false

theorem num_top (p d : Nat) (c : Co) (hp : 2 ≤ p) (hc : Rd p d c) (hd : p ^ d ≤ 64) (h12 : d ≤ 12) (k : Nat) (hk : k ≤ 12) : 0 ≤ num p c k (12 - k) ∧ num p c k (12 - k) ≤ 63 := by
  by_cases h : k ≤ 12 - d
  · rw [num_zero _ _ _ _ (fun j hj => (hc j).2.2 (by omega))]; omega
  · have e : k = (d - (12 - k)) + (12 - d) := by omega
    have := num_cut p c (d - (12 - k)) (12 - d) (12 - k) (fun j hj => (hc j).2.2 (by omega))
    rw [← e] at this
    rw [this]
    have b := num_bd p c (by omega) (d - (12 - k)) (12 - k) (fun j => ⟨(hc j).1, (hc j).2.1⟩)
    have q : p ^ (d - (12 - k)) ≤ p ^ d := Nat.pow_le_pow_right (by omega) (by omega)
    omega

/-- The number with the digits of a polynomial. -/
theorem polyNum (p d : Nat) (c : Co) (w : World) (hp : 2 ≤ p) (hp' : p ≤ 64) (hc : Rd p d c) (hd : p ^ d ≤ 64) (h12 : d ≤ 12) :
    Calls Try.prog 96 #[.agg (arr 12 c), .int .i64 p] w fun e w' => e = .returned (.int .i64 (num p c d 0)) ∧ Below w.heap.size w w' := by
  have HT := Lib.hid (num_top p d c hp hc hd h12)
  have HE := Lib.hid (show num p c 12 0 = num p c d 0 by
    have := num_cut p c d (12 - d) 0 (fun j hj => (hc j).2.2 (by omega))
    rwa [show d + (12 - d) = 12 by omega] at this)
  clear hc hd h12
  have A0 : Hid (At (w.alloc (.cells (arr 12 c) 55)) w.heap.size c) := At.new w c
  have B0 : Hid (Below w.heap.size w (w.alloc (.cells (arr 12 c) 55))) := (Below.refl _ _).alloc (Nat.le_refl _) _
  go_enter Try.func96, Try.ntmps96
  go_wp2
  go_loopw [5, 6] (fun u i wr => ∃ k : Nat, k ≤ 12 ∧ u = .int .i64 (num p c k (12 - k)) ∧ i = .int .i64 (11 - (k : Int)) ∧ Hid (At wr w.heap.size c) ∧ Hid (Below w.heap.size w wr)) (fun _ i _ => (intOf i + 1).toNat)
  case atStart => exact ⟨0, by omega, rfl, rfl, A0, B0⟩
  case round =>
    obtain ⟨k, hk, rfl, rfl, a0, hb⟩ := hrel
    obtain ⟨m, hm⟩ : ∃ m, num p c k (12 - k) = m := ⟨_, rfl⟩
    have HM := Lib.hid hm
    have hb0 := HT.out k hk
    rw [hm] at hb0 ⊢
    obtain ⟨m0, m1⟩ := hb0
    clear hm
    by_cases hlt : k < 12
    · obtain ⟨i, hi⟩ : ∃ i : Nat, 11 - k = i := ⟨_, rfl⟩
      have ei : (11 : Int) - (k : Int) = (i : Int) := by omega
      rw [ei]
      have hi1 : (0 : Int) ≤ (i : Int) := by omega
      have hi2 : (i : Int) < 12 := by omega
      obtain ⟨x, hx⟩ : ∃ x, c i = x := ⟨_, rfl⟩
      have hc : wr.cell? ⟨w.heap.size, i, none⟩ = some (.int .i64 x) := by rw [← hx]; exact a0.out.cell i (by omega)
      have N1 := Lib.hid (show num p c (k + 1) (12 - (k + 1)) = m * p + x by
        rw [num, show 12 - (k + 1) = i by omega, show i + 1 = 12 - k by omega, HM.out, hx, Int.mul_comm]; omega)
      have n1 := HT.out (k + 1) (by omega)
      rw [N1.out] at n1
      obtain ⟨n0, n1⟩ := n1
      have p0 : 0 ≤ m * (p : Int) := Int.mul_nonneg m0 (by omega)
      have p1 : m * (p : Int) ≤ 63 * 64 := Int.mul_le_mul m1 (by omega) (by omega) (by omega)
      have K := Lib.hid hk
      have I := Lib.hid hi
      clear hk hi
      go_wp2
      go_roundw
      case rel => exact ⟨k + 1, by have := K.out; omega, by rw [N1.out], by go_num, a0, hb⟩
      case measure => simp only [intOf]; omega
    · obtain rfl : k = 12 := by omega
      have E := Lib.hid (show m = num p c d 0 by rw [← HE.out, ← HM.out])
      go_wp2
      go_ret
      exact ⟨ret_i _ _ E.out, hb.out⟩

/-- A polynomial with the highest coefficient 1. -/
theorem withTop_any (a d p : Nat) (w : World) (hp : 2 ≤ p) (hp' : p ≤ 64) (ha : a < 64) (hd : d < 12) :
    Calls Try.prog 106 #[.int .i64 a, .int .i64 d, .int .i64 p] w fun e w' => e = .returned (.agg (arr 12 (wt p a d))) ∧ Below w.heap.size w w' := by
  have K := Lib.hid (fun W : World => polyOf a p W hp hp' ha)
  have d0 : (0 : Int) ≤ (d : Int) := by omega
  have d1 : (d : Int) < 12 := by omega
  have A0 : Hid (At (w.alloc (.cells #[.int .i64 0, .int .i64 0, .int .i64 0, .int .i64 0, .int .i64 0, .int .i64 0, .int .i64 0, .int .i64 0, .int .i64 0, .int .i64 0, .int .i64 0, .int .i64 0] 55)) w.heap.size (fun _ => 0)) := At.zero (heap_alloc_new _ _)
  have B0 : Hid (Below w.heap.size w (w.alloc (.cells #[.int .i64 0, .int .i64 0, .int .i64 0, .int .i64 0, .int .i64 0, .int .i64 0, .int .i64 0, .int .i64 0, .int .i64 0, .int .i64 0, .int .i64 0, .int .i64 0] 55))) := (Below.refl _ _).alloc (Nat.le_refl _) _
  have S0 := Lib.hid (World.size_alloc (w := w) (o := .cells #[.int .i64 0, .int .i64 0, .int .i64 0, .int .i64 0, .int .i64 0, .int .i64 0, .int .i64 0, .int .i64 0, .int .i64 0, .int .i64 0, .int .i64 0, .int .i64 0] 55))
  have hsn := fun W : World => At.stores_new W (dg p a)
  go_enter Try.func106, Try.ntmps106
  go_upto_region 2 with (go_at_call 93; refine (K.out _).mono ?_; rintro e w1 ⟨rfl, b1⟩; have b2 : Hid (Below w.heap.size w w1) := (B0.out.trans (b1.mono (by rw [S0.out]; omega))); have A1 : Hid (At w1 w.heap.size (fun _ => 0)) := A0.out.below b1 (by rw [S0.out]; omega); have e1 : Hid (w.heap.size + 1 ≤ w1.heap.size) := (by rw [← S0.out]; exact b1.size); clear b1)
  clear hsn
  obtain ⟨g, hg⟩ : ∃ g, w1.heap.size = g := ⟨_, rfl⟩
  obtain ⟨W, hW⟩ : ∃ W, w1.alloc (.cells (arr 12 (dg p a)) 55) = W := ⟨_, rfl⟩
  have A2 : Hid (At W g (dg p a)) := by rw [← hW, ← hg]; exact At.new _ _
  have A3 : Hid (At W w.heap.size (fun _ => 0)) := by rw [← hW]; exact A1.out.alloc _
  have B3 : Hid (Below w.heap.size w W) := by rw [← hW]; exact b2.out.alloc (by have := e1.out; omega) _
  have hgw : w.heap.size < g := by have := e1.out; omega
  rw [hW, hg]
  clear hW hg A0 B0 S0 A1 e1 b2
  have hf := A2.out.frozen d
  obtain ⟨old, hold⟩ : ∃ old, W.cell? ⟨g, d, none⟩ = some old := ⟨_, A2.out.cell d hd⟩
  have A4 : Hid (At (W.setCell ⟨g, d, none⟩ (.int .i64 1)) g (wt p a d)) := A2.out.set d 1
  have A5 : Hid (At (W.setCell ⟨g, d, none⟩ (.int .i64 1)) w.heap.size (fun _ => 0)) := A3.out.other (by omega) _ _
  have A6 : Hid (At ((W.setCell ⟨g, d, none⟩ (.int .i64 1)).setRow w.heap.size (arr 12 (wt p a d))) w.heap.size (wt p a d)) := setRow_heap _ _ _ _ _ _ A5.out
  have B4 : Hid (Below w.heap.size w ((W.setCell ⟨g, d, none⟩ (.int .i64 1)).setRow w.heap.size (arr 12 (wt p a d)))) := below_setRow (B3.out.setCell (Nat.le_of_lt hgw) _) (Nat.le_refl _) _
  go_upto_region 3 with fail
  refine wp_region_list ?_
  refine wpList_load_row rfl 55 (.tmp 7) rfl _ rfl _ _ _ _ A4.out Try.underlying55 rfl (by rw [arr_size]; exact Try.infoPoly) ?_
  refine wpList_store_row rfl 55 (.tmp 6) (.tmp 13) rfl _ (arr 12 (wt p a d)) rfl rfl _ _ A5.out (by rw [arr_size]; exact Try.infoPoly) (by simp) (arr_one _ _) ?_
  go_wp2
  refine bodyPost_ret (v := .agg (arr 12 (wt p a d))) (results_cell_row Try.results106 _ _ _ _ _ _ _ rfl A6.out Try.underlying55 rfl (by rw [arr_size]; exact Try.infoPoly)) rfl ⟨rfl, B4.out⟩

/-- The sum of two polynomials. -/
theorem polyPlus (p : Nat) (a b : Co) (w : World) (hp : 2 ≤ p) (hp' : p ≤ 64) (ha : ∀ i, 0 ≤ a i ∧ a i < p) (hb : ∀ i, 0 ≤ b i ∧ b i < p) :
    Calls Try.prog 101 #[.agg (arr 12 a), .agg (arr 12 b), .int .i64 p] w fun e w' => e = .returned (.agg (arr 12 (fun i => (a i + b i) % p))) ∧ Below w.heap.size w w' := by
  have z1 : ¬ (p : Int) = 0 := by omega
  have HA := Lib.hid ha
  have HB := Lib.hid hb
  have A0 := at3 w a b
  clear ha hb
  go_enter Try.func101, Try.ntmps101
  go_wp2
  go_loopw [8] (fun i wr => ∃ k : Nat, k ≤ 12 ∧ i = .int .i64 k ∧ Hid (At wr w.heap.size (fun i => if i < k then (a i + b i) % p else a i)) ∧ Hid (At wr (w.heap.size + 1) b) ∧ Hid (At wr (w.heap.size + 2) (fun _ => 0)) ∧ Hid (Below w.heap.size w wr)) (fun i _ => 12 - (intOf i).toNat)
  case atStart => exact ⟨0, by omega, rfl, A0.out.1.congr (fun j _ => by rw [if_neg (by omega)]), A0.out.2.1, A0.out.2.2.1, A0.out.2.2.2⟩
  case round =>
    obtain ⟨k, hk, rfl, a0, a1, a2, hB⟩ := hrel
    by_cases hlt : k < 12
    · have i1 : (0 : Int) ≤ (k : Int) := by omega
      have i2 : (k : Int) < 12 := by omega
      obtain ⟨x, hx⟩ : ∃ x, a k = x := ⟨_, rfl⟩
      obtain ⟨y, hy⟩ : ∃ y, b k = y := ⟨_, rfl⟩
      have c0 : wr.cell? ⟨w.heap.size, k, none⟩ = some (.int .i64 x) := by rw [a0.out.cell k hlt, if_neg (by omega), hx]
      have c1 : wr.cell? ⟨w.heap.size + 1, k, none⟩ = some (.int .i64 y) := by rw [a1.out.cell k hlt, hy]
      have f0 := a0.out.frozen k
      obtain ⟨x0, x1⟩ := HA.out k
      obtain ⟨y0, y1⟩ := HB.out k
      rw [hx] at x0 x1
      rw [hy] at y0 y1
      have S0 : Hid (At (wr.setCell ⟨w.heap.size, k, none⟩ (.int .i64 ((x + y) % p))) w.heap.size (fun i => if i < k + 1 then (a i + b i) % p else a i)) := (a0.out.set k _).congr (fun j hj => by
        unfold upd
        by_cases e : j = k
        · subst e; rw [if_pos rfl, if_pos (by omega), hx, hy]
        · rw [if_neg e]
          show (if j < k then (a j + b j) % p else a j) = _
          by_cases h : j < k
          · rw [if_pos h, if_pos (by omega)]
          · rw [if_neg h, if_neg (by omega)])
      have S1 : Hid (At (wr.setCell ⟨w.heap.size, k, none⟩ (.int .i64 ((x + y) % p))) (w.heap.size + 1) b) := a1.out.other (by omega) _ _
      have S2 : Hid (At (wr.setCell ⟨w.heap.size, k, none⟩ (.int .i64 ((x + y) % p))) (w.heap.size + 2) (fun _ => 0)) := a2.out.other (by omega) _ _
      have SB : Hid (Below w.heap.size w (wr.setCell ⟨w.heap.size, k, none⟩ (.int .i64 ((x + y) % p)))) := hB.out.setCell (Nat.le_refl _) _
      clear hx hy
      go_wp2
      go_region
      go_wp2
      go_roundw
      case rel => exact ⟨k + 1, by omega, by go_num, S0, S1, S2, SB.out.drew⟩
      case measure => simp [intOf]; omega
    · obtain rfl : k = 12 := by omega
      have P1 : Hid (At wr w.heap.size (fun i => (a i + b i) % p)) := a0.out.congr (fun j hj => by rw [if_pos hj])
      have P2 : Hid (At (wr.setRow (w.heap.size + 2) (arr 12 (fun i => (a i + b i) % p))) (w.heap.size + 2) (fun i => (a i + b i) % p)) := setRow_heap _ _ _ _ _ _ a2.out
      go_upto_region 6 with fail
      refine wp_region_list ?_
      refine wpList_load_row rfl 55 (.tmp 3) rfl _ rfl _ _ _ _ P1.out Try.underlying55 rfl (by rw [arr_size]; exact Try.infoPoly) ?_
      refine wpList_store_row rfl 55 (.tmp 6) (.tmp 23) rfl _ (arr 12 (fun i => (a i + b i) % p)) rfl rfl _ _ a2.out (by rw [arr_size]; exact Try.infoPoly) (by simp) (arr_one _ _) ?_
      go_wp2
      refine bodyPost_ret (v := .agg (arr 12 (fun i => (a i + b i) % p))) (results_cell_row Try.results101 _ _ _ _ _ _ _ rfl P2.out Try.underlying55 rfl (by rw [arr_size]; exact Try.infoPoly)) rfl ⟨rfl, ?_⟩
      exact below_setRow hB.out (by omega) _
theorem wrapk {n : Int} (h : -9223372036854775808 ≤ n ∧ n ≤ 9223372036854775807) : IntKind.i64.wrap n = n := IntWalk.i64_in _ h
theorem red2 (p : Nat) (hp : 2 ≤ p) (hp' : p ≤ 64) (x y : Int) (x0 : 0 ≤ x) (x1 : x < p) (y0 : 0 ≤ y) (y1 : y < p) :
    Hid (∀ W : World, Calls Try.prog 107 #[.int .i64 (x - y), .int .i64 p] W fun e w' => e = .returned (.int .i64 ((x - y) % p)) ∧ W = w') :=
  fun W => reduce (x - y) p W (by omega) (by omega) (by omega) (by omega)

/-- The difference of two polynomials. -/
theorem polyMinus (p : Nat) (a b : Co) (w : World) (hp : 2 ≤ p) (hp' : p ≤ 64) (ha : ∀ i, 0 ≤ a i ∧ a i < p) (hb : ∀ i, 0 ≤ b i ∧ b i < p) :
    Calls Try.prog 102 #[.agg (arr 12 a), .agg (arr 12 b), .int .i64 p] w fun e w' => e = .returned (.agg (arr 12 (fun i => (a i - b i) % p))) ∧ Below w.heap.size w w' := by
  have z1 : ¬ (p : Int) = 0 := by omega
  have HA := Lib.hid ha
  have HB := Lib.hid hb
  have A0 := at3 w a b
  clear ha hb
  go_enter Try.func102, Try.ntmps102
  go_wp2
  go_loopw [8] (fun i wr => ∃ k : Nat, k ≤ 12 ∧ i = .int .i64 k ∧ Hid (At wr w.heap.size (fun i => if i < k then (a i - b i) % p else a i)) ∧ Hid (At wr (w.heap.size + 1) b) ∧ Hid (At wr (w.heap.size + 2) (fun _ => 0)) ∧ Hid (Below w.heap.size w wr)) (fun i _ => 12 - (intOf i).toNat)
  case atStart => exact ⟨0, by omega, rfl, A0.out.1.congr (fun j _ => by rw [if_neg (by omega)]), A0.out.2.1, A0.out.2.2.1, A0.out.2.2.2⟩
  case round =>
    obtain ⟨k, hk, rfl, a0, a1, a2, hB⟩ := hrel
    by_cases hlt : k < 12
    · have i1 : (0 : Int) ≤ (k : Int) := by omega
      have i2 : (k : Int) < 12 := by omega
      obtain ⟨x, hx⟩ : ∃ x, a k = x := ⟨_, rfl⟩
      obtain ⟨y, hy⟩ : ∃ y, b k = y := ⟨_, rfl⟩
      have c0 : wr.cell? ⟨w.heap.size, k, none⟩ = some (.int .i64 x) := by rw [a0.out.cell k hlt, if_neg (by omega), hx]
      have c1 : wr.cell? ⟨w.heap.size + 1, k, none⟩ = some (.int .i64 y) := by rw [a1.out.cell k hlt, hy]
      have f0 := a0.out.frozen k
      obtain ⟨x0, x1⟩ := HA.out k
      obtain ⟨y0, y1⟩ := HB.out k
      rw [hx] at x0 x1
      rw [hy] at y0 y1
      have S0 : Hid (At (wr.setCell ⟨w.heap.size, k, none⟩ (.int .i64 ((x - y) % p))) w.heap.size (fun i => if i < k + 1 then (a i - b i) % p else a i)) := (a0.out.set k _).congr (fun j hj => by
        unfold upd
        by_cases e : j = k
        · subst e; rw [if_pos rfl, if_pos (by omega), hx, hy]
        · rw [if_neg e]
          show (if j < k then (a j - b j) % p else a j) = _
          by_cases h : j < k
          · rw [if_pos h, if_pos (by omega)]
          · rw [if_neg h, if_neg (by omega)])
      have S1 : Hid (At (wr.setCell ⟨w.heap.size, k, none⟩ (.int .i64 ((x - y) % p))) (w.heap.size + 1) b) := a1.out.other (by omega) _ _
      have S2 : Hid (At (wr.setCell ⟨w.heap.size, k, none⟩ (.int .i64 ((x - y) % p))) (w.heap.size + 2) (fun _ => 0)) := a2.out.other (by omega) _ _
      have SB : Hid (Below w.heap.size w (wr.setCell ⟨w.heap.size, k, none⟩ (.int .i64 ((x - y) % p)))) := hB.out.setCell (Nat.le_refl _) _
      clear hx hy
      go_wp2
      have HR := red2 p hp hp' x y x0 x1 y0 y1
      have hw := wrapk (n := x - y) (by omega)
      go_region_with (go_at_call 107; refine (HR.out _).mono ?_; rintro e w' ⟨rfl, rfl⟩)
      all_goals
        go_wp2
        go_roundw
        case rel => exact ⟨k + 1, by omega, by go_num, S0, S1, S2, SB.out.drew⟩
        case measure => simp [intOf]; omega
    · obtain rfl : k = 12 := by omega
      have P1 : Hid (At wr w.heap.size (fun i => (a i - b i) % p)) := a0.out.congr (fun j hj => by rw [if_pos hj])
      have P2 : Hid (At (wr.setRow (w.heap.size + 2) (arr 12 (fun i => (a i - b i) % p))) (w.heap.size + 2) (fun i => (a i - b i) % p)) := setRow_heap _ _ _ _ _ _ a2.out
      go_upto_region 6 with fail
      refine wp_region_list ?_
      refine wpList_load_row rfl 55 (.tmp 3) rfl _ rfl _ _ _ _ P1.out Try.underlying55 rfl (by rw [arr_size]; exact Try.infoPoly) ?_
      refine wpList_store_row rfl 55 (.tmp 6) (.tmp 23) rfl _ (arr 12 (fun i => (a i - b i) % p)) rfl rfl _ _ a2.out (by rw [arr_size]; exact Try.infoPoly) (by simp) (arr_one _ _) ?_
      go_wp2
      refine bodyPost_ret (v := .agg (arr 12 (fun i => (a i - b i) % p))) (results_cell_row Try.results102 _ _ _ _ _ _ _ rfl P2.out Try.underlying55 rfl (by rw [arr_size]; exact Try.infoPoly)) rfl ⟨rfl, ?_⟩
      exact below_setRow hB.out (by omega) _
end Go.Proofs.Ytmlcdbjibngnkaa
