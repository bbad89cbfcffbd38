/- InverseMod of both packages answers the inverse of a residue, if there is one. -/
import Derived.Test.YtocjdjgfadaljaaPow
namespace Go.Proofs.Ytocjdjgfadaljaa
open Go.RowKit
set_option linter.unusedVariables false

theorem bezout (k : Nat) : ∀ a b : Int, 0 ≤ a → 0 ≤ b → b ≤ k → ∃ x y : Int, a * x + b * y = Int.gcd a b := by
  induction k with
  | zero => intro a b a0 b0 hk; obtain rfl : b = 0 := by omega
            exact ⟨1, 0, by rw [gcd_zero a a0]; omega⟩
  | succ k ih =>
    intro a b a0 b0 hk
    by_cases hb : b = 0
    · subst hb; exact ⟨1, 0, by rw [gcd_zero a a0]; omega⟩
    · have m0 := Int.emod_nonneg a hb
      have m1 := Int.emod_lt_of_pos a (show 0 < b by omega)
      obtain ⟨x, y, h⟩ := ih b (a % b) b0 m0 (by omega)
      rw [gcd_step] at h
      have e := Int.mul_ediv_add_emod a b
      exact ⟨y, x - a / b * y, by grind⟩

theorem cop_of_inv (a x m : Int) (_ : 1 ≤ m) (h : a * x % m = 1 % m) : Int.gcd a m = 1 := by
  have d1 : (Int.gcd a m : Int) ∣ a := Int.gcd_dvd_left ..
  have d2 : (Int.gcd a m : Int) ∣ m := Int.gcd_dvd_right ..
  have d3 : m ∣ a * x - 1 := Int.dvd_of_emod_eq_zero (by rw [Int.sub_emod, h]; simp)
  have d4 : (Int.gcd a m : Int) ∣ 1 := by
    have := Int.dvd_sub (Int.dvd_mul_of_dvd_left d1 (c := x)) (Int.dvd_trans d2 d3)
    rwa [show a * x - (a * x - 1) = 1 by omega] at this
  have := Int.eq_one_of_dvd_one (by omega) d4
  omega

theorem inv_of_bez (a x y m : Int) (_ : 1 ≤ m) (h : a * x + m * y = 1) : a * (x % m) % m = 1 % m := by
  rw [Int.mul_emod, Int.emod_emod, ← Int.mul_emod, show a * x = 1 + m * (-y) by grind, Int.add_mul_emod_self_left]

theorem inv_of_cop (a m : Int) (a0 : 0 ≤ a) (hm : 1 ≤ m) (h : Int.gcd a m = 1) : ∃ x : Int, 0 ≤ x ∧ x < m ∧ a * x % m = 1 % m := by
  obtain ⟨x, y, e⟩ := bezout m.toNat a m a0 (by omega) (by omega)
  exact ⟨x % m, Int.emod_nonneg _ (by omega), Int.emod_lt_of_pos _ (by omega), inv_of_bez a x y m hm (by rw [e, h]; rfl)⟩

theorem inv_unique (a x y m : Int) (x0 : 0 ≤ x) (x1 : x < m) (y0 : 0 ≤ y) (y1 : y < m) (h : a * x % m = 1 % m) (k : a * y % m = 1 % m) : x = y := by
  have e1 : x * (a * y) % m = x % m := by rw [Int.mul_emod, k, ← Int.mul_emod, Int.mul_one]
  have e2 : y * (a * x) % m = y % m := by rw [Int.mul_emod, h, ← Int.mul_emod, Int.mul_one]
  rw [Int.emod_eq_of_lt x0 x1] at e1
  rw [Int.emod_eq_of_lt y0 y1] at e2
  rw [← e1, ← e2]; congr 1; grind

/-- What InverseMod answers. -/
def invVal (a m v c : Int) : Prop := (¬ IsRes a m ∧ v = 0 ∧ c = 2) ∨ (IsRes a m ∧ Int.gcd a m = 1 ∧ 0 ≤ v ∧ v < m ∧ a * v % m = 1 % m ∧ c = 0) ∨ (IsRes a m ∧ Int.gcd a m ≠ 1 ∧ v = 0 ∧ c = 3)

theorem invVal_eq {a m v c v' c' : Int} (h : invVal a m v c) (h' : invVal a m v' c') : v = v' ∧ c = c' := by
  rcases h with ⟨h, rfl, rfl⟩ | ⟨h, g, v0, v1, hv, rfl⟩ | ⟨h, g, rfl, rfl⟩ <;> rcases h' with ⟨k, rfl, rfl⟩ | ⟨k, g', w0, w1, hw, rfl⟩ | ⟨k, g', rfl, rfl⟩ <;>
    first | exact ⟨rfl, rfl⟩ | exact absurd h k | exact absurd k h | exact absurd g g' | exact absurd g' g | exact ⟨inv_unique a _ _ m v0 v1 w0 w1 hv hw, rfl⟩

theorem mul_small' (a b m : Int) (a0 : 0 ≤ a) (a1 : a ≤ m) (b0 : 0 ≤ b) (b1 : b ≤ m) (hm : m ≤ 1000) : 0 ≤ a * b ∧ a * b ≤ 1000000 := by
  refine ⟨Int.mul_nonneg a0 b0, ?_⟩
  have h1 : a * b ≤ 1000 * b := Int.mul_le_mul_of_nonneg_right (by omega) b0
  omega

theorem red_eq (x m : Int) (hm : 1 ≤ m) : (x.tmod m + m) % m = x % m := by
  have e := Int.mul_tdiv_add_tmod x m
  rw [Int.add_emod_right, show x.tmod m = x + m * (-(x.tdiv m)) by grind, Int.add_mul_emod_self_left]

end Go.Proofs.Ytocjdjgfadaljaa
