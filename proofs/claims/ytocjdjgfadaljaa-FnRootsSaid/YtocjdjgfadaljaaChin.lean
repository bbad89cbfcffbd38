/- SolveChinese of both packages answers the least common solution of two congruences, if there is one. -/
import Derived.Test.YtocjdjgfadaljaaInv
namespace Go.Proofs.Ytocjdjgfadaljaa
open Go.RowKit
set_option linter.unusedVariables false

/-- x is the least number of at least 0 that solves both congruences, 'all' the least common multiple. -/
def ChSol (a m b n x all : Int) : Prop := 0 ≤ x ∧ x < all ∧ all = m / Int.gcd m n * n ∧ x % m = a ∧ x % n = b

theorem gcd_pos' (m n : Int) (hm : 1 ≤ m) : 1 ≤ (Int.gcd m n : Int) ∧ (Int.gcd m n : Int) ≤ m := by
  have d := Int.gcd_dvd_left (a := m) (b := n)
  have p : (Int.gcd m n : Int) ≠ 0 := fun h => by rw [h] at d; obtain ⟨k, hk⟩ := d; rw [Int.zero_mul] at hk; omega
  exact ⟨by omega, Int.le_of_dvd (by omega) d⟩

theorem div_gcd (m n : Int) (hm : 1 ≤ m) (hn : 1 ≤ n) : ∃ M N : Int, m = Int.gcd m n * M ∧ n = Int.gcd m n * N ∧ m / Int.gcd m n = M ∧ n / Int.gcd m n = N ∧ 1 ≤ M ∧ M ≤ m ∧ 1 ≤ N ∧ N ≤ n := by
  obtain ⟨M, h1⟩ := Int.gcd_dvd_left (a := m) (b := n)
  obtain ⟨N, h2⟩ := Int.gcd_dvd_right (a := m) (b := n)
  have ⟨g1, _⟩ := gcd_pos' m n hm
  have p1 : 1 ≤ M := by
    by_cases h : M ≤ 0
    · have := Int.mul_le_mul_of_nonneg_left h (show 0 ≤ (Int.gcd m n : Int) by omega); omega
    · omega
  have p2 : 1 ≤ N := by
    by_cases h : N ≤ 0
    · have := Int.mul_le_mul_of_nonneg_left h (show 0 ≤ (Int.gcd m n : Int) by omega); omega
    · omega
  have l1 : 1 * M ≤ Int.gcd m n * M := Int.mul_le_mul_of_nonneg_right g1 (by omega)
  have l2 : 1 * N ≤ Int.gcd m n * N := Int.mul_le_mul_of_nonneg_right g1 (by omega)
  exact ⟨M, N, h1, h2, by
                          have : (Int.gcd m n : Int) * M / Int.gcd m n = M := Int.mul_ediv_cancel_left _ (by omega)
                          rw [← h1] at this; exact this, by
                          have : (Int.gcd m n : Int) * N / Int.gcd m n = N := Int.mul_ediv_cancel_left _ (by omega)
                          rw [← h2] at this; exact this, p1, by omega, p2, by omega⟩

/-- What both leave modulo m and n decides a number below the least common multiple. -/
theorem ch_unique {a m b n x x' all all' : Int} (hm : 1 ≤ m) (hn : 1 ≤ n) (h : ChSol a m b n x all) (h' : ChSol a m b n x' all') : x = x' ∧ all = all' := by
  obtain ⟨x0, x1, rfl, xa, xb⟩ := h
  obtain ⟨y0, y1, rfl, ya, yb⟩ := h'
  refine ⟨?_, rfl⟩
  obtain ⟨M, N, e1, e2, e3, e4, M0, M1, N0, N1⟩ := div_gcd m n hm hn
  have ⟨g1, _⟩ := gcd_pos' m n hm
  obtain ⟨u, v, hb⟩ := bezout n.toNat m n (by omega) (by omega) (by omega)
  obtain ⟨s, hs⟩ : m ∣ x - x' := Int.dvd_of_emod_eq_zero (by rw [Int.sub_emod, xa, ya]; simp)
  obtain ⟨t, ht⟩ : n ∣ x - x' := Int.dvd_of_emod_eq_zero (by rw [Int.sub_emod, xb, yb]; simp)
  rw [e3] at x1 y1
  generalize hG : (Int.gcd m n : Int) = G at *
  have k : x - x' = M * n * (u * t + v * s) := by
    have : G * (x - x') = G * (M * n * (u * t + v * s)) := by grind
    exact Int.eq_of_mul_eq_mul_left (by omega) this
  have L0 : 0 < M * n := Int.mul_pos (by omega) (by omega)
  generalize u * t + v * s = z at k
  by_cases z0 : z = 0
  · rw [z0] at k; omega
  · by_cases z1 : 1 ≤ z
    · have := Int.mul_le_mul_of_nonneg_left z1 (show 0 ≤ M * n by omega); omega
    · have := Int.mul_le_mul_of_nonneg_left (show z ≤ -1 by omega) (show 0 ≤ M * n by omega); omega

/-- The solution that the program computes. -/
theorem ch_made (a m b n s t q : Int) (ha : IsRes a m) (hb : IsRes b n) (h : m * s + n * t = Int.gcd m n) (hq : b - a = Int.gcd m n * q) :
    ChSol a m b n (a + m * (q * s % (n / Int.gcd m n))) (m / Int.gcd m n * n) := by
  obtain ⟨hm, hm', a0, a1⟩ := ha
  obtain ⟨hn, hn', b0, b1⟩ := hb
  obtain ⟨M, N, e1, e2, e3, e4, M0, M1, N0, N1⟩ := div_gcd m n hm hn
  unfold ChSol
  rw [e3, e4]
  generalize hG : (Int.gcd m n : Int) = G at *
  have p0 := Int.emod_nonneg (q * s) (show N ≠ 0 by omega)
  have p1 := Int.emod_lt_of_pos (q * s) (show 0 < N by omega)
  have e := Int.mul_ediv_add_emod (q * s) N
  generalize q * s % N = r at *
  generalize q * s / N = z at *
  have u0 : 0 ≤ m * r := Int.mul_nonneg (by omega) p0
  have u1 : m * r ≤ m * (N - 1) := Int.mul_le_mul_of_nonneg_left (by omega) (by omega)
  have u2 : m * (N - 1) = M * n - m := by grind
  refine ⟨by omega, by omega, rfl, ?_, ?_⟩
  · rw [Int.add_mul_emod_self_left, Int.emod_eq_of_lt a0 a1]
  · rw [show a + m * r = b + n * (-(q * t) - M * z) by grind, Int.add_mul_emod_self_left, Int.emod_eq_of_lt b0 b1]

theorem ch_no (a m b n x : Int) (h : x % m = a) (k : x % n = b) : (b - a) % Int.gcd m n = 0 := by
  obtain ⟨u, hu⟩ := Int.gcd_dvd_left (a := m) (b := n)
  obtain ⟨v, hv⟩ := Int.gcd_dvd_right (a := m) (b := n)
  have e1 := Int.mul_ediv_add_emod x m
  have e2 := Int.mul_ediv_add_emod x n
  rw [h] at e1
  rw [k] at e2
  generalize hG : (Int.gcd m n : Int) = G at *
  exact Int.emod_eq_zero_of_dvd ⟨u * (x / m) - v * (x / n), by grind⟩

/-- What SolveChinese answers. -/
def chVal (a m b n x all c : Int) : Prop := (¬ (IsRes a m ∧ IsRes b n) ∧ x = 0 ∧ all = 0 ∧ c = 2) ∨ ((IsRes a m ∧ IsRes b n) ∧ ChSol a m b n x all ∧ c = 0) ∨
  ((IsRes a m ∧ IsRes b n) ∧ ¬ (b - a) % Int.gcd m n = 0 ∧ x = 0 ∧ all = 0 ∧ c = 3)

theorem chVal_eq {a m b n x all c x' all' c' : Int} (h : chVal a m b n x all c) (h' : chVal a m b n x' all' c') : x = x' ∧ all = all' ∧ c = c' := by
  rcases h with ⟨h, rfl, rfl, rfl⟩ | ⟨h, hv, rfl⟩ | ⟨h, g, rfl, rfl, rfl⟩ <;> rcases h' with ⟨k, rfl, rfl, rfl⟩ | ⟨k, hw, rfl⟩ | ⟨k, g', rfl, rfl, rfl⟩ <;>
    first | exact ⟨rfl, rfl, rfl⟩ | exact absurd h k | exact absurd k h | exact absurd (ch_no a m b n _ hv.2.2.2.1 hv.2.2.2.2) g' | exact absurd (ch_no a m b n _ hw.2.2.2.1 hw.2.2.2.2) g | skip
  have ⟨e1, e2⟩ := ch_unique h.1.1 h.2.1 hv hw
  exact ⟨e1, e2, rfl⟩

theorem ch_exists (a m b n : Int) (ha : IsRes a m) (hb : IsRes b n) (h : (b - a) % Int.gcd m n = 0) : ∃ x, ChSol a m b n x (m / Int.gcd m n * n) := by
  obtain ⟨s, t, e⟩ := bezout n.toNat m n (by have := ha.1; omega) (by have := hb.1; omega) (by have := hb.1; omega)
  obtain ⟨q, hq⟩ := Int.dvd_of_emod_eq_zero h
  exact ⟨_, ch_made a m b n s t q ha hb e hq⟩

/-- The loop of the model: it looks at a, a + m, .. -/
def ChRel (a m b n all x : Int) : Prop := 0 ≤ x ∧ x % m = a ∧ ∀ y, 0 ≤ y → y < x → y % m = a → y % n ≠ b

theorem ch_step (a m b n all x : Int) (hm : 1 ≤ m) (h : ChRel a m b n all x) (hx : ¬ x % n = b) : ChRel a m b n all (x + m) := by
  obtain ⟨h1, h2, h3⟩ := h
  refine ⟨by omega, by rw [Int.add_emod_right, h2], fun y y0 y1 hy => ?_⟩
  by_cases l : y < x
  · exact h3 y y0 l hy
  · obtain ⟨z, hz⟩ : m ∣ y - x := Int.dvd_of_emod_eq_zero (by rw [Int.sub_emod, hy, h2]; simp)
    have : z = 0 := by
      by_cases z0 : z = 0
      · exact z0
      · by_cases z1 : 1 ≤ z
        · have := Int.mul_le_mul_of_nonneg_left z1 (show 0 ≤ m by omega); omega
        · have := Int.mul_le_mul_of_nonneg_left (show z ≤ -1 by omega) (show 0 ≤ m by omega); omega
    subst this
    obtain rfl : y = x := by omega
    exact hx

theorem all_bd (m n : Int) (hm : 1 ≤ m) (hm' : m ≤ 1000) (hn : 1 ≤ n) (hn' : n ≤ 1000) : 1 ≤ m / Int.gcd m n ∧ m / Int.gcd m n ≤ 1000 ∧ 0 ≤ m / Int.gcd m n * n ∧ m / Int.gcd m n * n ≤ 1000000 := by
  obtain ⟨M, N, e1, e2, e3, e4, M0, M1, N0, N1⟩ := div_gcd m n hm hn
  rw [e3]
  have h1 : M * n ≤ 1000 * n := Int.mul_le_mul_of_nonneg_right (by omega) (by omega)
  exact ⟨M0, by omega, Int.mul_nonneg (by omega) (by omega), by omega⟩

end Go.Proofs.Ytocjdjgfadaljaa
