/- The greatest common divisors of both packages are those of the integers. -/
import Derived.Test.YtcgmencdadinbaaIn
import Derived.WalkKit
import Derived.Lib.Hide
import Derived.Outline
import Derived.Deep.QuietTactic
import Derived.BigQuiet
import Derived.IntWalk
namespace Go.Proofs.Ytcgmencdadinbaa
open Go.RowKit

theorem gcd_step (p q : Int) : Int.gcd q (p % q) = Int.gcd p q := by
  have e : p % q = p + q * (-(p / q)) := by rw [Int.emod_def]; grind
  rw [e, Int.gcd_add_mul_left_right, Int.gcd_comm]

theorem gcd_zero (p : Int) (hp : 0 ≤ p) : ((Int.gcd p 0 : Nat) : Int) = p := by
  simp; omega

theorem gcd_abs (a b p q : Int) (h1 : p = a ∨ p = -a) (h2 : q = b ∨ q = -b) : Int.gcd p q = Int.gcd a b := by
  rcases h1 with rfl | rfl <;> rcases h2 with rfl | rfl <;> simp

theorem sgcd_any (a b : Int) (w : World) (a0 : -1000000 ≤ a) (a1 : a ≤ 1000000) (b0 : -1000000 ≤ b) (b1 : b ≤ 1000000) :
    Calls Try.prog 71 #[.int .i64 a, .int .i64 b] w fun e w' => e = .returned (.int .i64 (Int.gcd a b)) ∧ w = w' := by
  by_cases ha : a < 0
  all_goals by_cases hb : b < 0
  all_goals
    go_enter Try.func71, Try.ntmps71
    go_wp2
    go_loop [0, 1] (fun x y => ∃ p q : Int, 0 ≤ p ∧ p ≤ 1000000 ∧ 0 ≤ q ∧ q ≤ 1000000 ∧ x = .int .i64 p ∧ y = .int .i64 q ∧ Hid (Int.gcd p q = Int.gcd a b)) (fun _ y => (intOf y).toNat)
    case atStart => exact ⟨_, _, by omega, by omega, by omega, by omega, rfl, rfl, gcd_abs a b _ _ (by omega) (by omega)⟩
    case round =>
      obtain ⟨p, q, p0, p1, q0, q1, rfl, rfl, hg⟩ := hrel
      by_cases hq : 0 < q
      · have m0 := Int.emod_nonneg p (show q ≠ 0 by omega)
        have m1 := Int.emod_lt_of_pos p hq
        go_wp2
        go_round
        case rel => exact ⟨q, p % q, q0, q1, m0, by omega, rfl, rfl, by unfold Hid; rw [gcd_step p q]; exact hg⟩
        case measure => simp [intOf]; omega
      · go_wp2
        go_ret
        obtain rfl : q = 0 := by omega
        exact ⟨ret_i _ _ (by rw [← hg.out, gcd_zero p p0]), rfl⟩

/-- What Euclid's algorithm hands back. -/
def IsBez (a b : Int) (v : Value) : Prop := ∃ x y : Int, v = .tuple #[.int .i64 (Int.gcd a b), .int .i64 x, .int .i64 y] ∧ a * x + b * y = Int.gcd a b ∧
  (b = 0 → x = 1 ∧ y = 0) ∧ (0 < b → -b ≤ x ∧ x ≤ b ∧ -(a + 1) ≤ y ∧ y ≤ a + 1 ∧ (0 < a → -a ≤ y ∧ y ≤ a))

theorem bez_step (a b x y : Int) (a0 : 0 ≤ a) (hb : 0 < b) (h : b * x + (a % b) * y = Int.gcd a b) (h0 : a % b = 0 → x = 1 ∧ y = 0)
    (h1 : 0 < a % b → -(a % b) ≤ x ∧ x ≤ a % b ∧ -b ≤ y ∧ y ≤ b) :
    a * y + b * (x - a / b * y) = Int.gcd a b ∧ -b ≤ y ∧ y ≤ b ∧ -(a + 1) ≤ x - a / b * y ∧ x - a / b * y ≤ a + 1 ∧ (0 < a → -a ≤ x - a / b * y ∧ x - a / b * y ≤ a) := by
  have e := Int.mul_ediv_add_emod a b
  have m0 := Int.emod_nonneg a (show b ≠ 0 by omega)
  have q0 : 0 ≤ a / b := Int.ediv_nonneg a0 (by omega)
  refine ⟨by grind, ?_⟩
  by_cases hm : a % b = 0
  · obtain ⟨rfl, rfl⟩ := h0 hm
    simp
    omega
  · obtain ⟨x0, x1, y0, y1⟩ := h1 (by omega)
    have u1 : a / b * y ≤ a / b * b := Int.mul_le_mul_of_nonneg_left y1 q0
    have u2 : a / b * (-b) ≤ a / b * y := Int.mul_le_mul_of_nonneg_left y0 q0
    have u3 : a / b * b = a - a % b := by rw [Int.mul_comm]; omega
    have u4 : a / b * (-b) = -(a - a % b) := by rw [Int.mul_neg, u3]
    refine ⟨by omega, by omega, by omega, by omega, by omega⟩

theorem base_bez (a : Int) (a0 : 0 ≤ a) : IsBez a 0 (.tuple #[.int .i64 a, .int .i64 1, .int .i64 0]) :=
  ⟨1, 0, by rw [gcd_zero a a0], by rw [gcd_zero a a0]; omega, fun _ => ⟨rfl, rfl⟩, fun h => by omega⟩

theorem bez_end (a b x y : Int) (a0 : 0 ≤ a) (hb : 0 < b) (a1 : a ≤ 1000000) (b1 : b ≤ 1000000)
    (B : Hid (a * y + b * (x - a / b * y) = Int.gcd a b ∧ -b ≤ y ∧ y ≤ b ∧ -(a + 1) ≤ x - a / b * y ∧ x - a / b * y ≤ a + 1 ∧ (0 < a → -a ≤ x - a / b * y ∧ x - a / b * y ≤ a)))
    : IsBez a b (.tuple #[.int .i64 (Int.gcd b (a % b)), .int .i64 y, .int .i64 (wrap64 (x - wrap64 (a / b * y)))]) := by
  obtain ⟨h1, h2, h3, h4, h5, h6⟩ := B.out
  have q0 : 0 ≤ a / b := Int.ediv_nonneg a0 (by omega)
  have q1 : a / b ≤ a := Int.ediv_le_self b a0
  have u1 : a / b * y ≤ a / b * b := Int.mul_le_mul_of_nonneg_left h3 q0
  have u2 : a / b * (-b) ≤ a / b * y := Int.mul_le_mul_of_nonneg_left h2 q0
  have u3 : a / b * b ≤ a := Int.ediv_mul_le a (by omega)
  have u4 : a / b * (-b) = -(a / b * b) := by rw [Int.mul_neg]
  have e1 : wrap64 (a / b * y) = a / b * y := IntWalk.wrap64_in _ (by omega)
  have e2 : wrap64 (x - wrap64 (a / b * y)) = x - a / b * y := by rw [e1]; exact IntWalk.wrap64_in _ (by omega)
  rw [e2, gcd_step]
  exact ⟨y, _, rfl, h1, fun h => by omega, fun _ => ⟨h2, h3, h4, h5, h6⟩⟩

theorem bez (k : Nat) : ∀ (a b : Int) (w : World), b ≤ k → 0 ≤ a → a ≤ 1000000 → 0 ≤ b → b ≤ 1000000 →
    Calls Try.prog 90 #[.int .i64 a, .int .i64 b] w fun e w' => ∃ v, e = .returned v ∧ IsBez a b v ∧ ∃ n, w' = w.drewN n := by
  induction k with
  | zero =>
    intro a b w hk a0 a1 b0 b1
    obtain rfl : b = 0 := by omega
    go_enter Try.func90, Try.ntmps90
    go_wp2_with fail
    go_ret3
    exact ⟨_, rfl, base_bez a a0, 0, rfl⟩
  | succ k ih =>
    intro a b w hk a0 a1 b0 b1
    by_cases hb : b = 0
    · subst hb
      go_enter Try.func90, Try.ntmps90
      go_wp2_with fail
      go_ret3
      exact ⟨_, rfl, base_bez a a0, 0, rfl⟩
    · have hb' : 0 < b := by omega
      have m0 := Int.emod_nonneg a (show b ≠ 0 by omega)
      have m1 := Int.emod_lt_of_pos a hb'
      go_enter Try.func90, Try.ntmps90
      go_wp2_with (go_at_call 90; refine (ih b (a % b) _ (by omega) (by omega) (by omega) (by omega) (by omega)).mono ?_; rintro e w' ⟨v, rfl, ⟨x, y, rfl, h2, h3, h4⟩, n, rfl⟩)
      have B := Lib.hid (bez_step a b x y a0 hb' (by rw [gcd_step] at h2; exact h2) h3 (fun h => by have := h4 h; omega))
      clear h2 h3 h4 m0 m1
      go_quiet (fail)
      all_goals go_wp2
      go_ret3
      exact ⟨_, rfl, bez_end a b x y a0 hb' a1 b1 B, n + nq, World.drewN_drewN _ _ _⟩

/-! ### The two exported functions. -/
def GcdIn (a b : Int) : Prop := -1000000 ≤ a ∧ a ≤ 1000000 ∧ -1000000 ≤ b ∧ b ≤ 1000000
instance (a b : Int) : Decidable (GcdIn a b) := by unfold GcdIn; infer_instance
def gcdOf (a b : Int) : Int := if GcdIn a b then Int.gcd a b else 0

theorem gcdOf_in {a b : Int} (h : GcdIn a b) : gcdOf a b = Int.gcd a b := if_pos h
theorem gcdOf_out {a b : Int} (h : ¬ GcdIn a b) : gcdOf a b = 0 := if_neg h

theorem bez_abs (a b p q : Int) (w : World) (h1 : p = a ∨ p = -a) (h2 : q = b ∨ q = -b) (p0 : 0 ≤ p) (p1 : p ≤ 1000000) (q0 : 0 ≤ q) (q1 : q ≤ 1000000) :
    Calls Try.prog 90 #[.int .i64 p, .int .i64 q] w fun e w' => ∃ x y : Int, e = .returned (.tuple #[.int .i64 (Int.gcd a b), .int .i64 x, .int .i64 y]) ∧ ∃ n, w' = w.drewN n :=
  (bez 1000000 p q w (by omega) p0 p1 q0 q1).mono fun e w' ⟨v, he, ⟨x, y, hv, _, _, _⟩, hw⟩ => ⟨x, y, by rw [he, hv, gcd_abs a b p q h1 h2], hw⟩

theorem igcd (a b : Int) (w : World) :
    Calls Try.prog 72 #[.int .i64 a, .int .i64 b] w fun e w' => e = .returned (.int .i64 (gcdOf a b)) ∧ ∃ n, w' = w.drewN n := by
  by_cases h : GcdIn a b
  · have E := Lib.hid (gcdOf_in h)
    obtain ⟨a0, a1, b0, b1⟩ := h
    go_enter Try.func72, Try.ntmps72
    go_wp2_with fail
    all_goals
      refine (bez_abs a b _ _ _ (by omega) (by omega) (by omega) (by omega) (by omega) (by omega)).mono ?_
      rintro e w' ⟨x, y, rfl, n, rfl⟩
      go_wp2
      go_ret
      exact ⟨ret_i _ _ E.out.symm, n, rfl⟩
  · have E := Lib.hid (gcdOf_out h)
    have h' : a < -1000000 ∨ 1000000 < a ∨ (¬ a < -1000000 ∧ ¬ 1000000 < a ∧ b < -1000000) ∨ (¬ a < -1000000 ∧ ¬ 1000000 < a ∧ 1000000 < b) := by unfold GcdIn at h; omega
    clear h
    rcases h' with h | h | ⟨h1, h2, h⟩ | ⟨h1, h2, h⟩
    all_goals
      go_enter Try.func72, Try.ntmps72
      go_wp2
      go_ret
      exact ⟨ret_i _ _ E.out.symm, 0, rfl⟩

end Go.Proofs.Ytcgmencdadinbaa
