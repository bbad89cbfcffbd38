/- Residues, and powers of residues: what the functions of both packages answer. -/
import Derived.Test.YtocjdjgfadaljaaGcd
import Derived.Outline
namespace Go.Proofs.Ytocjdjgfadaljaa
open Go.RowKit

def IsRes (a m : Int) : Prop := 1 ≤ m ∧ m ≤ 1000 ∧ 0 ≤ a ∧ a < m

theorem imod_yes (m : Int) (w : World) (h1 : 1 ≤ m) (h2 : m ≤ 1000) :
    Calls Try.prog 39 #[.int .i64 m] w fun e w' => e = .returned (.bool true) ∧ w = w' := by
  go_enter Try.func39, Try.ntmps39
  go_wp2
  go_ret
  exact ⟨rfl, rfl⟩

theorem imod_no (m : Int) (w : World) (h : m < 1 ∨ 1000 < m) :
    Calls Try.prog 39 #[.int .i64 m] w fun e w' => e = .returned (.bool false) ∧ w = w' := by
  by_cases h1 : 1 ≤ m
  · have g2 : decide (m ≤ 1000) = false := by simp; omega
    have g1 : decide (1 ≤ m) = true := by simpa using h1
    clear h h1
    go_enter Try.func39, Try.ntmps39
    go_wp2
    go_ret
    exact ⟨rfl, rfl⟩
  · have g1 : decide (1 ≤ m) = false := by simpa using h1
    clear h h1
    go_enter Try.func39, Try.ntmps39
    go_wp2
    go_ret
    exact ⟨rfl, rfl⟩

theorem ires_yes (a m : Int) (w : World) (h : IsRes a m) :
    Calls Try.prog 40 #[.int .i64 a, .int .i64 m] w fun e w' => e = .returned (.bool true) ∧ w = w' := by
  obtain ⟨h1, h2, h3, h4⟩ := h
  go_enter Try.func40, Try.ntmps40
  go_wp2_with (go_at_call 39; refine (imod_yes _ _ h1 h2).mono ?_; rintro e w' ⟨rfl, rfl⟩)
  go_ret
  exact ⟨rfl, rfl⟩

theorem ires_no (a m : Int) (w : World) (h : ¬ IsRes a m) :
    Calls Try.prog 40 #[.int .i64 a, .int .i64 m] w fun e w' => e = .returned (.bool false) ∧ w = w' := by
  by_cases hm : 1 ≤ m ∧ m ≤ 1000
  · obtain ⟨h1, h2⟩ := hm
    have h5 : a < 0 ∨ m ≤ a := by unfold IsRes at h; omega
    clear h
    by_cases h0 : 0 ≤ a
    · have g1 : decide (0 ≤ a) = true := by simpa using h0
      have g2 : decide (a < m) = false := by simp; omega
      clear h5 h0
      go_enter Try.func40, Try.ntmps40
      go_wp2_with (go_at_call 39; refine (imod_yes _ _ h1 h2).mono ?_; rintro e w' ⟨rfl, rfl⟩)
      go_ret
      exact ⟨rfl, rfl⟩
    · have g1 : decide (0 ≤ a) = false := by simpa using h0
      clear h5 h0
      go_enter Try.func40, Try.ntmps40
      go_wp2_with (go_at_call 39; refine (imod_yes _ _ h1 h2).mono ?_; rintro e w' ⟨rfl, rfl⟩)
      go_ret
      exact ⟨rfl, rfl⟩
  · have h5 := Lib.hid (show m < 1 ∨ 1000 < m by omega)
    clear h hm
    go_enter Try.func40, Try.ntmps40
    go_wp2_with (go_at_call 39; refine (imod_no _ _ h5.out).mono ?_; rintro e w' ⟨rfl, rfl⟩)
    go_ret
    exact ⟨rfl, rfl⟩

/-! ### Powers -/
theorem pow_mod (a m : Int) (n : Nat) : (a % m) ^ n % m = a ^ n % m := by
  induction n with
  | zero => simp
  | succ n ih => rw [Int.pow_succ, Int.pow_succ, Int.mul_emod, ih, Int.emod_emod, ← Int.mul_emod]

theorem sq_pow (a : Int) (n : Nat) : (a * a) ^ n = a ^ (2 * n) := by
  induction n with
  | zero => simp
  | succ n ih => rw [show 2 * (n + 1) = 2 * n + 1 + 1 by omega, Int.pow_succ, ih, Int.pow_succ, Int.pow_succ]; grind

/-- The loop of repeated squaring: 'out a^e' does not change modulo m. -/
def PwRel (a e m out a' e' : Int) : Prop := 0 ≤ out ∧ out < m ∧ 0 ≤ a' ∧ a' < m ∧ 0 ≤ e' ∧ e' ≤ 1000000 ∧ out * a' ^ e'.toNat % m = a ^ e.toNat % m

theorem pw_start (a e m : Int) (h : IsRes a m) (e0 : 0 ≤ e) (e1 : e ≤ 1000000) : PwRel a e m (1 % m) a e := by
  obtain ⟨h1, h2, h3, h4⟩ := h
  refine ⟨Int.emod_nonneg _ (by omega), Int.emod_lt_of_pos _ (by omega), h3, h4, e0, e1, ?_⟩
  rw [Int.mul_emod, Int.emod_emod, ← Int.mul_emod, Int.one_mul]

theorem pw_odd (a e m out a' e' : Int) (hm : 1 ≤ m) (h : PwRel a e m out a' e') (ho : e' % 2 = 1) : PwRel a e m (out * a' % m) (a' * a' % m) (e' / 2) := by
  obtain ⟨h1, h2, h3, h4, h5, h6, h7⟩ := h
  refine ⟨Int.emod_nonneg _ (by omega), Int.emod_lt_of_pos _ (by omega), Int.emod_nonneg _ (by omega), Int.emod_lt_of_pos _ (by omega), by omega, by omega, ?_⟩
  rw [Int.mul_emod, pow_mod, Int.emod_emod, ← Int.mul_emod, sq_pow, ← h7, show e'.toNat = 2 * (e' / 2).toNat + 1 by omega, Int.pow_succ]
  congr 1
  grind

theorem pw_even (a e m out a' e' : Int) (hm : 1 ≤ m) (h : PwRel a e m out a' e') (ho : ¬ e' % 2 = 1) : PwRel a e m out (a' * a' % m) (e' / 2) := by
  obtain ⟨h1, h2, h3, h4, h5, h6, h7⟩ := h
  refine ⟨h1, h2, Int.emod_nonneg _ (by omega), Int.emod_lt_of_pos _ (by omega), by omega, by omega, ?_⟩
  rw [Int.mul_emod, pow_mod, ← Int.mul_emod, sq_pow, ← h7, show e'.toNat = 2 * (e' / 2).toNat by omega]

theorem pw_end (a e m out a' e' : Int) (h : PwRel a e m out a' e') (he : ¬ 0 < e') : out = a ^ e.toNat % m := by
  obtain ⟨h1, h2, h3, h4, h5, h6, h7⟩ := h
  obtain rfl : e' = 0 := by omega
  rw [← h7]; simp [Int.emod_eq_of_lt h1 h2]

theorem mul_small (a b m : Int) (a0 : 0 ≤ a) (a1 : a < m) (b0 : 0 ≤ b) (b1 : b < m) (hm : m ≤ 1000) : 0 ≤ a * b ∧ a * b ≤ 1000000 := by
  refine ⟨Int.mul_nonneg a0 b0, ?_⟩
  have h1 : a * b ≤ 1000 * b := Int.mul_le_mul_of_nonneg_right (by omega) b0
  omega

end Go.Proofs.Ytocjdjgfadaljaa
