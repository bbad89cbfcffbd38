/- Residues, and powers of residues: what the functions of both packages answer. -/
import Derived.Test.YtmlcdbjibngnkaaGcd
import Derived.Outline
namespace Go.Proofs.Ytmlcdbjibngnkaa
open Go.RowKit

def IsRes (a m : Int) : Prop := 1 ≤ m ∧ m ≤ 1000 ∧ 0 ≤ a ∧ a < m

theorem pow_mod (a m : Int) (n : Nat) : (a % m) ^ n % m = a ^ n % m := by
  induction n with
  | zero => simp
  | succ n ih => rw [Int.pow_succ, Int.pow_succ, Int.mul_emod, ih, Int.emod_emod, ← Int.mul_emod]

theorem sq_pow (a : Int) (n : Nat) : (a * a) ^ n = a ^ (2 * n) := by
  induction n with
  | zero => simp
  | succ n ih => rw [show 2 * (n + 1) = 2 * n + 1 + 1 by omega, Int.pow_succ, ih, Int.pow_succ, Int.pow_succ]; grind

/-- The loop of repeated squaring: 'out a^e' does not change modulo m. -/
def PwRel (a e m out a' e' : Int) : Prop := 0 ≤ out ∧ out < m ∧ 0 ≤ a' ∧ a' < m ∧ 0 ≤ e' ∧ e' ≤ 1000000 ∧ out * a' ^ e'.toNat % m = a ^ e.toNat % m

theorem pw_start (a e m : Int) (h : IsRes a m) (e0 : 0 ≤ e) (e1 : e ≤ 1000000) : PwRel a e m (1 % m) a e := by
  obtain ⟨h1, h2, h3, h4⟩ := h
  refine ⟨Int.emod_nonneg _ (by omega), Int.emod_lt_of_pos _ (by omega), h3, h4, e0, e1, ?_⟩
  rw [Int.mul_emod, Int.emod_emod, ← Int.mul_emod, Int.one_mul]

theorem pw_odd (a e m out a' e' : Int) (hm : 1 ≤ m) (h : PwRel a e m out a' e') (ho : e' % 2 = 1) : PwRel a e m (out * a' % m) (a' * a' % m) (e' / 2) := by
  obtain ⟨h1, h2, h3, h4, h5, h6, h7⟩ := h
  refine ⟨Int.emod_nonneg _ (by omega), Int.emod_lt_of_pos _ (by omega), Int.emod_nonneg _ (by omega), Int.emod_lt_of_pos _ (by omega), by omega, by omega, ?_⟩
  rw [Int.mul_emod, pow_mod, Int.emod_emod, ← Int.mul_emod, sq_pow, ← h7, show e'.toNat = 2 * (e' / 2).toNat + 1 by omega, Int.pow_succ]
  congr 1
  grind

theorem pw_even (a e m out a' e' : Int) (hm : 1 ≤ m) (h : PwRel a e m out a' e') (ho : ¬ e' % 2 = 1) : PwRel a e m out (a' * a' % m) (e' / 2) := by
  obtain ⟨h1, h2, h3, h4, h5, h6, h7⟩ := h
  refine ⟨h1, h2, Int.emod_nonneg _ (by omega), Int.emod_lt_of_pos _ (by omega), by omega, by omega, ?_⟩
  rw [Int.mul_emod, pow_mod, ← Int.mul_emod, sq_pow, ← h7, show e'.toNat = 2 * (e' / 2).toNat by omega]

theorem pw_end (a e m out a' e' : Int) (h : PwRel a e m out a' e') (he : ¬ 0 < e') : out = a ^ e.toNat % m := by
  obtain ⟨h1, h2, h3, h4, h5, h6, h7⟩ := h
  obtain rfl : e' = 0 := by omega
  rw [← h7]; simp [Int.emod_eq_of_lt h1 h2]

theorem mul_small (a b m : Int) (a0 : 0 ≤ a) (a1 : a < m) (b0 : 0 ≤ b) (b1 : b < m) (hm : m ≤ 1000) : 0 ≤ a * b ∧ a * b ≤ 1000000 := by
  refine ⟨Int.mul_nonneg a0 b0, ?_⟩
  have h1 : a * b ≤ 1000 * b := Int.mul_le_mul_of_nonneg_right (by omega) b0
  omega

end Go.Proofs.Ytmlcdbjibngnkaa
