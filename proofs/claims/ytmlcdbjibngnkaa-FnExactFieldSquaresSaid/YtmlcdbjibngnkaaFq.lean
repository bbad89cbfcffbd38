/- Polynomials of the program: remainders. -/
import Derived.Test.YtmlcdbjibngnkaaFt
namespace Go.Proofs.Ytmlcdbjibngnkaa
open Go.RowKit
set_option linter.unusedVariables false

theorem red3 (p : Nat) (hp : 2 ≤ p) (hp' : p ≤ 64) (x y f : Int) (x0 : 0 ≤ x) (x1 : x < p) (y0 : 0 ≤ y) (y1 : y < p) (f0 : 0 ≤ f) (f1 : f < p) :
    Hid (∀ W : World, Calls Try.prog 107 #[.int .i64 (x - f * y), .int .i64 p] W fun e w' => e = .returned (.int .i64 ((x - f * y) % p)) ∧ W = w') := by
  have h0 : 0 ≤ f * y := Int.mul_nonneg f0 y0
  have h1 : f * y ≤ 64 * 64 := Int.mul_le_mul (by omega) (by omega) y0 (by omega)
  exact fun W => reduce (x - f * y) p W (by omega) (by omega) (by omega) (by omega)

set_option maxHeartbeats 1000000 in
/-- The remainder of a polynomial. -/
theorem polyRest (p d : Nat) (c b : Co) (w : World) (hp : 2 ≤ p) (hp' : p ≤ 64) (hd : d ≤ 6) (hc : Rd p 12 c) (hb : ∀ i, 0 ≤ b i ∧ b i < p) :
    Calls Try.prog 95 #[.agg (arr 12 c), .agg (arr 12 b), .int .i64 d, .int .i64 p] w fun e w' => e = .returned (.agg (arr 12 (red p b d (12 - d) c))) ∧ Below w.heap.size w w' := by
  have z1 : ¬ (p : Int) = 0 := by omega
  have HB := Lib.hid hb
  have HC := Lib.hid hc
  have A0 := at3 w c b
  clear hc hb
  go_enter Try.func95, Try.ntmps95
  go_wp2
  go_loopw [9] (fun i wr => ∃ m : Nat, m ≤ 12 - d ∧ i = .int .i64 ((d : Int) + (m : Int) - 1) ∧ ∃ c' : Co, Hid (Rd p 12 c') ∧ Hid (red p b d m c' = red p b d (12 - d) c) ∧ Hid (At wr w.heap.size c') ∧ Hid (At wr (w.heap.size + 1) b) ∧ Hid (At wr (w.heap.size + 2) (fun _ => 0)) ∧ Hid (Below w.heap.size w wr)) (fun i _ => (intOf i + 1 - (d : Int)).toNat)
  case atStart => exact ⟨12 - d, by omega, by go_num, c, HC, rfl, A0.out.1, A0.out.2.1, A0.out.2.2.1, A0.out.2.2.2⟩
  case round =>
    obtain ⟨m, hm, rfl, c', hr, he, a0, a1, a2, hB⟩ := hrel
    by_cases hm0 : m = 0
    · subst hm0
      have E : Hid (c' = red p b d (12 - d) c) := he.out
      have A1 : Hid (At wr w.heap.size (red p b d (12 - d) c)) := by rw [← E.out]; exact a0
      have P2 : Hid (At (wr.setRow (w.heap.size + 2) (arr 12 (red p b d (12 - d) c))) (w.heap.size + 2) (red p b d (12 - d) c)) := setRow_heap _ _ _ _ _ _ a2.out
      clear he E a0
      go_upto_region 10 with fail
      refine wp_region_list ?_
      refine wpList_load_row rfl 55 (.tmp 4) rfl _ rfl _ _ _ _ A1.out Try.underlying55 rfl (by rw [arr_size]; exact Try.infoPoly) ?_
      refine wpList_store_row rfl 55 (.tmp 8) (.tmp 44) rfl _ (arr 12 (red p b d (12 - d) c)) rfl rfl _ _ a2.out (by rw [arr_size]; exact Try.infoPoly) (by simp) (arr_one _ _) ?_
      go_wp2
      refine bodyPost_ret (v := .agg (arr 12 (red p b d (12 - d) c))) (results_cell_row Try.results95 _ _ _ _ _ _ _ rfl P2.out Try.underlying55 rfl (by rw [arr_size]; exact Try.infoPoly)) rfl ⟨rfl, ?_⟩
      exact below_setRow hB.out (by omega) _
    · obtain ⟨n, rfl⟩ : ∃ n, m = n + 1 := ⟨m - 1, by omega⟩
      obtain ⟨t, ht⟩ : ∃ t : Nat, d + n = t := ⟨_, rfl⟩
      have et : (d : Int) + ((n + 1 : Nat) : Int) - 1 = (t : Int) := by omega
      rw [et]
      have t0 : (0 : Int) ≤ (t : Int) := by omega
      have t1 : (t : Int) < 12 := by omega
      have t2 : (d : Int) ≤ (t : Int) := by omega
      obtain ⟨f, hf⟩ : ∃ f, c' t = f := ⟨_, rfl⟩
      obtain ⟨f0, f1, -⟩ := hr.out t
      rw [hf] at f0 f1
      have cf : wr.cell? ⟨w.heap.size, t, none⟩ = some (.int .i64 f) := by rw [a0.out.cell t (by omega), hf]
      have HF := Lib.hid hf
      have HT := Lib.hid ht
      have HM := Lib.hid hm
      have HE : Hid (red p b d n (stp p b d t c') = red p b d (12 - d) c) := by have := he.out; rw [red, ht] at this; exact this
      have HR2 : Hid (Rd p 12 (stp p b d t c')) := stp_rd (by omega) hr.out (by omega)
      clear hf ht hm he et hm0
      obtain ⟨wq, rfl⟩ : ∃ wq : World, wq = wr := ⟨_, rfl⟩
      go_wp2
      go_loopw [11] (fun i wr => ∃ k : Nat, k ≤ d + 1 ∧ i = .int .i64 k ∧ Hid (At wr w.heap.size (stpK p b d t k c')) ∧ Hid (At wr (w.heap.size + 1) b) ∧ Hid (At wr (w.heap.size + 2) (fun _ => 0)) ∧ Hid (Below w.heap.size w wr)) (fun i _ => d + 1 - (intOf i).toNat)
      case atStart => exact ⟨0, by omega, rfl, by rw [stpK_zero]; exact a0, a1, a2, hB⟩
      case round =>
        obtain ⟨k, hk, rfl, b0, b1, b2, hB2⟩ := hrel
        by_cases hlk : k ≤ d
        · have k1 : (0 : Int) ≤ (k : Int) := by omega
          have k2 : (k : Int) < 12 := by omega
          have k3 : (k : Int) ≤ (d : Int) := by omega
          obtain ⟨q, hq⟩ : ∃ q : Nat, t - d + k = q := ⟨_, rfl⟩
          have e1 : (t : Int) - (d : Int) + (k : Int) = (q : Int) := by omega
          have q1 : (0 : Int) ≤ (q : Int) := by omega
          have q2 : (q : Int) < 12 := by omega
          obtain ⟨y, hy⟩ : ∃ y, b k = y := ⟨_, rfl⟩
          obtain ⟨x, hx⟩ : ∃ x, stpK p b d t k c' q = x := ⟨_, rfl⟩
          obtain ⟨y0, y1⟩ := HB.out k
          rw [hy] at y0 y1
          have xb : 0 ≤ x ∧ x < (p : Int) := by
            rw [← hx]
            unfold stpK
            split
            · exact ⟨Int.emod_nonneg _ (by omega), Int.emod_lt_of_pos _ (by omega)⟩
            · exact ⟨(hr.out q).1, (hr.out q).2.1⟩
          obtain ⟨x0, x1⟩ := xb
          have c0 : wr.cell? ⟨w.heap.size, q, none⟩ = some (.int .i64 x) := by rw [b0.out.cell q (by omega), hx]
          have c1 : wr.cell? ⟨w.heap.size + 1, k, none⟩ = some (.int .i64 y) := by rw [b1.out.cell k (by omega), hy]
          have f0' := b0.out.frozen q
          have HR := red3 p hp hp' x y f x0 x1 y0 y1 f0 f1
          have h0 : 0 ≤ f * y := Int.mul_nonneg f0 y0
          have h1 : f * y ≤ 64 * 64 := Int.mul_le_mul (by omega) (by omega) y0 (by omega)
          have w1 := wrapk (n := f * y) (by omega)
          have w2 := wrapk (n := x - f * y) (by omega)
          have S0 : Hid (At (wr.setCell ⟨w.heap.size, q, none⟩ (.int .i64 ((x - f * y) % p))) w.heap.size (stpK p b d t (k + 1) c')) := by
            have := b0.out.set q ((x - f * y) % p)
            rw [stpK_succ p b d t k c' hlk (by omega), hq, hx, hy, HF.out]
            exact this
          have S1 : Hid (At (wr.setCell ⟨w.heap.size, q, none⟩ (.int .i64 ((x - f * y) % p))) (w.heap.size + 1) b) := b1.out.other (by omega) _ _
          have S2 : Hid (At (wr.setCell ⟨w.heap.size, q, none⟩ (.int .i64 ((x - f * y) % p))) (w.heap.size + 2) (fun _ => 0)) := b2.out.other (by omega) _ _
          have SB : Hid (Below w.heap.size w (wr.setCell ⟨w.heap.size, q, none⟩ (.int .i64 ((x - f * y) % p)))) := hB2.out.setCell (Nat.le_refl _) _
          clear hx hy hq cf
          go_wp2
          go_region_with (go_at_call 107; refine (HR.out _).mono ?_; rintro e w' ⟨rfl, rfl⟩)
          all_goals
            go_wp2
            go_roundw
            case rel => exact ⟨k + 1, by omega, by go_num, S0, S1, S2, SB.out.drew⟩
            case measure => simp [intOf]; omega
        · obtain rfl : k = d + 1 := by omega
          have B0 : Hid (At wr w.heap.size (stp p b d t c')) := by rw [← stpK_all]; exact b0
          go_wp2
          go_roundw
          case rel => exact ⟨n, by have := HM.out; omega, by have := HT.out; go_num, stp p b d t c', HR2, HE, B0, b1, b2, hB2⟩
          case measure => simp only [intOf]; have := HT.out; omega
end Go.Proofs.Ytmlcdbjibngnkaa
