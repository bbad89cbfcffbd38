/- Polynomials of the program: products. -/
import Derived.Test.YtmlcdbjibngnkaaFb
namespace Go.Proofs.Ytmlcdbjibngnkaa
open Go.RowKit
set_option linter.unusedVariables false

theorem mod2 (p : Nat) (hp : 2 ≤ p) (hp' : p ≤ 64) (x y z : Int) (x0 : 0 ≤ x) (x1 : x < p) (y0 : 0 ≤ y) (y1 : y < p) (z0 : 0 ≤ z) (z1 : z < p) : 0 ≤ x * y ∧ x * y ≤ 4096 ∧ (z + x * y).tmod p = (z + x * y) % p := by
  have h0 : 0 ≤ x * y := Int.mul_nonneg x0 y0
  have h1 : x * y ≤ 64 * 64 := Int.mul_le_mul (by omega) (by omega) y0 (by omega)
  exact ⟨h0, by omega, Int.tmod_eq_emod_of_nonneg (by omega)⟩

set_option maxHeartbeats 1000000 in
/-- The product of two polynomials. -/
theorem polyTimes (p : Nat) (a b : Co) (w : World) (hp : 2 ≤ p) (hp' : p ≤ 64) (ha : ∀ i, 0 ≤ a i ∧ a i < p) (hb : ∀ i, 0 ≤ b i ∧ b i < p) :
    Calls Try.prog 94 #[.agg (arr 12 a), .agg (arr 12 b), .int .i64 p] w fun e w' => e = .returned (.agg (arr 12 (prod p a b 6 6))) ∧ Below w.heap.size w w' := by
  have z1 : ¬ (p : Int) = 0 := by omega
  have HA := Lib.hid ha
  have HB := Lib.hid hb
  have A0 := at4 w a b
  clear ha hb
  go_enter Try.func94, Try.ntmps94
  go_wp2
  go_loopw [10] (fun i wr => ∃ k : Nat, k ≤ 6 ∧ i = .int .i64 k ∧ Hid (At wr w.heap.size a) ∧ Hid (At wr (w.heap.size + 1) b) ∧ Hid (At wr (w.heap.size + 2) (fun _ => 0)) ∧ Hid (At wr (w.heap.size + 3) (prod p a b 6 k)) ∧ Hid (Below w.heap.size w wr)) (fun i _ => 6 - (intOf i).toNat)
  case atStart => exact ⟨0, by omega, rfl, A0.out.1, A0.out.2.1, A0.out.2.2.1, A0.out.2.2.2.1, A0.out.2.2.2.2⟩
  case round =>
    obtain ⟨k, hk, rfl, a0, a1, a2, a3, hB⟩ := hrel
    by_cases hlt : k < 6
    · have i1 : (0 : Int) ≤ (k : Int) := by omega
      have i2 : (k : Int) < 6 := by omega
      obtain ⟨x, hx⟩ : ∃ x, a k = x := ⟨_, rfl⟩
      obtain ⟨x0, x1⟩ := HA.out k
      rw [hx] at x0 x1
      have HX := Lib.hid hx
      clear hx
      have R0 : Hid (Rd p 12 (prod p a b 6 k)) := prod_rd (by omega) 12 k (by omega)
      obtain ⟨wq, rfl⟩ : ∃ wq : World, wq = wr := ⟨_, rfl⟩
      go_wp2
      go_loopw [13] (fun i wr => ∃ j : Nat, j ≤ 6 ∧ i = .int .i64 j ∧ Hid (At wr w.heap.size a) ∧ Hid (At wr (w.heap.size + 1) b) ∧ Hid (At wr (w.heap.size + 2) (fun _ => 0)) ∧ Hid (At wr (w.heap.size + 3) (prow p x b k j (prod p a b 6 k))) ∧ Hid (Below w.heap.size w wr)) (fun i _ => 6 - (intOf i).toNat)
      case atStart => exact ⟨0, by omega, rfl, a0, a1, a2, by rw [prow_zero]; exact a3, hB⟩
      case round =>
        obtain ⟨j, hj, rfl, b0, b1, b2, b3, hB2⟩ := hrel
        by_cases hlj : j < 6
        · have j1 : (0 : Int) ≤ (j : Int) := by omega
          have j2 : (j : Int) < 6 := by omega
          obtain ⟨y, hy⟩ : ∃ y, b j = y := ⟨_, rfl⟩
          obtain ⟨z, hz⟩ : ∃ z, prow p x b k j (prod p a b 6 k) (k + j) = z := ⟨_, rfl⟩
          obtain ⟨y0, y1⟩ := HB.out j
          rw [hy] at y0 y1
          obtain ⟨z0, z2, -⟩ := prow_rd (x := x) (y := b) (i := k) (n := j) (by omega) R0.out (by omega) (k + j)
          rw [hz] at z0 z2
          obtain ⟨m0, m1, m2⟩ := mod2 p hp hp' x y z x0 x1 y0 y1 z0 z2
          obtain ⟨q, hq⟩ : ∃ q : Nat, k + j = q := ⟨_, rfl⟩
          have e1 : (k : Int) + (j : Int) = (q : Int) := by omega
          have k1 : (0 : Int) ≤ (q : Int) := by omega
          have k2 : (q : Int) < 12 := by omega
          have c0 : wr.cell? ⟨w.heap.size, k, none⟩ = some (.int .i64 x) := by rw [b0.out.cell k (by omega), HX.out]
          have c1 : wr.cell? ⟨w.heap.size + 1, j, none⟩ = some (.int .i64 y) := by rw [b1.out.cell j (by omega), hy]
          have c3 : wr.cell? ⟨w.heap.size + 1 + 1 + 1, q, none⟩ = some (.int .i64 z) := by rw [← hz, hq]; exact b3.out.cell q (by omega)
          have f3 : wr.frozen? ⟨w.heap.size + 1 + 1 + 1, q, none⟩ = false := b3.out.frozen q
          have w1 := wrapk (n := x * y) (by omega)
          have w2 := wrapk (n := z + x * y) (by omega)
          have w3 := wrapk (n := (q : Int)) (by omega)
          have S3 : Hid (At (wr.setCell ⟨w.heap.size + 1 + 1 + 1, q, none⟩ (.int .i64 ((z + x * y) % p))) (w.heap.size + 3) (prow p x b k (j + 1) (prod p a b 6 k))) := by
            have := b3.out.set q ((z + x * y) % p)
            rw [prow_succ, hz, hy, hq]
            exact this
          have S0 : Hid (At (wr.setCell ⟨w.heap.size + 1 + 1 + 1, q, none⟩ (.int .i64 ((z + x * y) % p))) w.heap.size a) := b0.out.other (by omega) _ _
          have S1 : Hid (At (wr.setCell ⟨w.heap.size + 1 + 1 + 1, q, none⟩ (.int .i64 ((z + x * y) % p))) (w.heap.size + 1) b) := b1.out.other (by omega) _ _
          have S2 : Hid (At (wr.setCell ⟨w.heap.size + 1 + 1 + 1, q, none⟩ (.int .i64 ((z + x * y) % p))) (w.heap.size + 2) (fun _ => 0)) := b2.out.other (by omega) _ _
          have SB : Hid (Below w.heap.size w (wr.setCell ⟨w.heap.size + 1 + 1 + 1, q, none⟩ (.int .i64 ((z + x * y) % p)))) := hB2.out.setCell (by show w.heap.size ≤ w.heap.size + 1 + 1 + 1; omega) _
          clear hq
          clear hy hz
          go_wp2
          go_region
          go_wp2
          go_roundw
          case rel => exact ⟨j + 1, by omega, by go_num, S0, S1, S2, S3, SB.out.drew⟩
          case measure => simp [intOf]; omega
        · obtain rfl : j = 6 := by omega
          go_wp2
          go_roundw
          case rel => exact ⟨k + 1, by omega, by go_num, b0, b1, b2, by rw [prod, HX.out]; exact b3, hB2⟩
          case measure => simp [intOf]; omega
    · obtain rfl : k = 6 := by omega
      have P2 : Hid (At (wr.setRow (w.heap.size + 2) (arr 12 (prod p a b 6 6))) (w.heap.size + 2) (prod p a b 6 6)) := setRow_heap _ _ _ _ _ _ a2.out
      go_upto_region 11 with fail
      refine wp_region_list ?_
      refine wpList_load_row rfl 55 (.tmp 7) rfl _ rfl _ _ _ _ a3.out Try.underlying55 rfl (by rw [arr_size]; exact Try.infoPoly) ?_
      refine wpList_store_row rfl 55 (.tmp 6) (.tmp 37) rfl _ (arr 12 (prod p a b 6 6)) rfl rfl _ _ a2.out (by rw [arr_size]; exact Try.infoPoly) (by simp) (arr_one _ _) ?_
      go_wp2
      refine bodyPost_ret (v := .agg (arr 12 (prod p a b 6 6))) (results_cell_row Try.results94 _ _ _ _ _ _ _ rfl P2.out Try.underlying55 rfl (by rw [arr_size]; exact Try.infoPoly)) rfl ⟨rfl, ?_⟩
      exact below_setRow hB.out (by omega) _
end Go.Proofs.Ytmlcdbjibngnkaa
