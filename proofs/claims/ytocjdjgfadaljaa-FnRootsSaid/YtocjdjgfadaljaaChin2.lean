/- SolveChinese of the program. -/
import Derived.Test.YtocjdjgfadaljaaChin
import Derived.Deep.DeepMust
namespace Go.Proofs.Ytocjdjgfadaljaa
open Go.RowKit
set_option linter.unusedVariables false

/-- Euclid's answer for two moduli, under a name. -/
def BezFact (m n G s t : Int) : Prop := (Int.gcd m n : Int) = G ∧ m * s + n * t = G
theorem bezG (m n : Int) (w : World) (h1 : 1 ≤ m) (h2 : m ≤ 1000) (k1 : 1 ≤ n) (k2 : n ≤ 1000) :
    Calls Try.prog 57 #[.int .i64 m, .int .i64 n] w fun e w' => ∃ G s t : Int, e = .returned (.tuple #[.int .i64 G, .int .i64 s, .int .i64 t]) ∧ Hid (BezFact m n G s t) ∧ 1 ≤ G ∧ G ≤ 1000 ∧ -1000 ≤ s ∧ s ≤ 1000 ∧ ∃ k, w' = w.drewN k :=
  (bez 1000 m n w (by omega) (by omega) (by omega) (by omega) (by omega)).mono fun e w' ⟨v, he, ⟨x, y, hv, hb, _, hx⟩, hw⟩ => by
    have ⟨g1, g2⟩ := gcd_pos' m n h1
    have ⟨x0, x1, _⟩ := hx (by omega)
    exact ⟨_, x, y, by rw [he, hv], ⟨rfl, hb⟩, g1, by omega, by omega, by omega, hw⟩

theorem tmod_zero (x g : Int) (hg : 1 ≤ g) : x.tmod g = 0 ↔ x % g = 0 := by
  rw [← Int.dvd_iff_tmod_eq_zero, Int.dvd_iff_emod_eq_zero]

theorem tdiv_exact (x g : Int) (hg : 1 ≤ g) (h : x % g = 0) : x = g * x.tdiv g := by
  have := Int.mul_tdiv_add_tmod x g
  rw [(tmod_zero x g hg).2 h] at this
  omega

theorem tdiv_bd (x g : Int) (hg : 1 ≤ g) (h : x % g = 0) (x0 : -1000 ≤ x) (x1 : x ≤ 1000) : -1000 ≤ x.tdiv g ∧ x.tdiv g ≤ 1000 := by
  have e := tdiv_exact x g hg h
  generalize x.tdiv g = q at *
  by_cases q0 : 0 ≤ q
  · have : 1 * q ≤ g * q := Int.mul_le_mul_of_nonneg_right hg q0
    omega
  · have : g * q ≤ 1 * q := Int.mul_le_mul_of_nonpos_right hg (by omega)
    omega

theorem prod_bd (q s : Int) (q0 : -1000 ≤ q) (q1 : q ≤ 1000) (s0 : -1000 ≤ s) (s1 : s ≤ 1000) : -1000000 ≤ q * s ∧ q * s ≤ 1000000 := by
  have h : (q * s).natAbs ≤ 1000 * 1000 := by
    rw [Int.natAbs_mul]; exact Nat.mul_le_mul (by omega) (by omega)
  omega

theorem ch_end (a m b n G s t q N : Int) (ha : IsRes a m) (hb : IsRes b n) (F : BezFact m n G s t) (hq : (b - a).tdiv G = q) (hz : (b - a) % G = 0) (hN : n / G = N) :
    chVal a m b n (wrap64 (a + wrap64 (m * (q * s % N)))) (wrap64 (m / G * n)) 0 := by
  obtain ⟨hG, hB⟩ := F
  have ⟨g1, g2⟩ := gcd_pos' m n ha.1
  have e := tdiv_exact (b - a) G (by omega) hz
  subst hG
  have S := ch_made a m b n s t q ha hb hB (by rw [← hq]; exact e)
  rw [hN] at S
  have ⟨b1, b2, b3, b4⟩ := all_bd m n ha.1 ha.2.1 hb.1 hb.2.1
  obtain ⟨M, N', e1, e2, e3, e4, M0, M1, N0, N1⟩ := div_gcd m n ha.1 hb.1
  have p0 := Int.emod_nonneg (q * s) (show N ≠ 0 by omega)
  have u0 : 0 ≤ m * (q * s % N) := Int.mul_nonneg (by have := ha.1; omega) p0
  have := S.2.1
  have := ha.2.2.1
  rw [IntWalk.wrap64_in (m * (q * s % N)) (by omega), IntWalk.wrap64_in (a + m * (q * s % N)) (by omega), IntWalk.wrap64_in (m / (Int.gcd m n : Int) * n) (by omega)]
  exact .inr (.inl ⟨⟨ha, hb⟩, S, rfl⟩)

end Go.Proofs.Ytocjdjgfadaljaa
