/- Residues, and powers of residues: what the functions of both packages answer. -/
import Derived.Test.YtninajgnmogmeaaGcd
import Derived.Outline
namespace Go.Proofs.Ytninajgnmogmeaa
open Go.RowKit

def IsRes (a m : Int) : Prop := 1 ≤ m ∧ m ≤ 1000 ∧ 0 ≤ a ∧ a < m

theorem smod_yes (m : Int) (w : World) (h1 : 1 ≤ m) (h2 : m ≤ 1000) :
    Calls Try.prog 63 #[.int .i64 m] w fun e w' => e = .returned (.bool true) ∧ w = w' := by
  go_enter Try.func63, Try.ntmps63
  go_wp2_with (go_at_call 53; refine (in_yes _ _ _ _ h1 h2).mono ?_; rintro e w' ⟨rfl, rfl⟩)
  go_ret
  exact ⟨rfl, rfl⟩

theorem smod_no (m : Int) (w : World) (h : m < 1 ∨ 1000 < m) :
    Calls Try.prog 63 #[.int .i64 m] w fun e w' => e = .returned (.bool false) ∧ w = w' := by
  go_enter Try.func63, Try.ntmps63
  go_wp2_with (go_at_call 53; refine (in_no _ _ _ _ h).mono ?_; rintro e w' ⟨rfl, rfl⟩)
  go_ret
  exact ⟨rfl, rfl⟩

theorem sres_yes (a m : Int) (w : World) (h : IsRes a m) :
    Calls Try.prog 52 #[.int .i64 a, .int .i64 m] w fun e w' => e = .returned (.bool true) ∧ w = w' := by
  obtain ⟨h1, h2, h3, h4⟩ := h
  have h5 : a ≤ m - 1 := by omega
  go_enter Try.func52, Try.ntmps52
  go_wp2_with (first | (go_at_call 63; refine (smod_yes _ _ h1 h2).mono ?_; rintro e w' ⟨rfl, rfl⟩) | (go_at_call 53; refine (in_yes _ _ _ _ h3 h5).mono ?_; rintro e w' ⟨rfl, rfl⟩))
  go_ret
  exact ⟨rfl, rfl⟩

theorem sres_no (a m : Int) (w : World) (h : ¬ IsRes a m) :
    Calls Try.prog 52 #[.int .i64 a, .int .i64 m] w fun e w' => e = .returned (.bool false) ∧ w = w' := by
  by_cases hm : 1 ≤ m ∧ m ≤ 1000
  · obtain ⟨h1, h2⟩ := hm
    have h5 := Lib.hid (show a < 0 ∨ m - 1 < a by unfold IsRes at h; omega)
    clear h
    go_enter Try.func52, Try.ntmps52
    go_wp2_with (first | (go_at_call 63; refine (smod_yes _ _ h1 h2).mono ?_; rintro e w' ⟨rfl, rfl⟩) | (go_at_call 53; refine (in_no _ _ _ _ h5.out).mono ?_; rintro e w' ⟨rfl, rfl⟩))
    go_ret
    exact ⟨rfl, rfl⟩
  · have h5 := Lib.hid (show m < 1 ∨ 1000 < m by omega)
    clear h hm
    go_enter Try.func52, Try.ntmps52
    go_wp2_with (go_at_call 63; refine (smod_no _ _ h5.out).mono ?_; rintro e w' ⟨rfl, rfl⟩)
    go_ret
    exact ⟨rfl, rfl⟩

theorem imod_yes (m : Int) (w : World) (h1 : 1 ≤ m) (h2 : m ≤ 1000) :
    Calls Try.prog 61 #[.int .i64 m] w fun e w' => e = .returned (.bool true) ∧ w = w' := by
  go_enter Try.func61, Try.ntmps61
  go_wp2
  go_ret
  exact ⟨rfl, rfl⟩

theorem imod_no (m : Int) (w : World) (h : m < 1 ∨ 1000 < m) :
    Calls Try.prog 61 #[.int .i64 m] w fun e w' => e = .returned (.bool false) ∧ w = w' := by
  by_cases h1 : 1 ≤ m
  · have g2 : decide (m ≤ 1000) = false := by simp; omega
    have g1 : decide (1 ≤ m) = true := by simpa using h1
    clear h h1
    go_enter Try.func61, Try.ntmps61
    go_wp2
    go_ret
    exact ⟨rfl, rfl⟩
  · have g1 : decide (1 ≤ m) = false := by simpa using h1
    clear h h1
    go_enter Try.func61, Try.ntmps61
    go_wp2
    go_ret
    exact ⟨rfl, rfl⟩

theorem ires_yes (a m : Int) (w : World) (h : IsRes a m) :
    Calls Try.prog 55 #[.int .i64 a, .int .i64 m] w fun e w' => e = .returned (.bool true) ∧ w = w' := by
  obtain ⟨h1, h2, h3, h4⟩ := h
  go_enter Try.func55, Try.ntmps55
  go_wp2_with (go_at_call 61; refine (imod_yes _ _ h1 h2).mono ?_; rintro e w' ⟨rfl, rfl⟩)
  go_ret
  exact ⟨rfl, rfl⟩

theorem ires_no (a m : Int) (w : World) (h : ¬ IsRes a m) :
    Calls Try.prog 55 #[.int .i64 a, .int .i64 m] w fun e w' => e = .returned (.bool false) ∧ w = w' := by
  by_cases hm : 1 ≤ m ∧ m ≤ 1000
  · obtain ⟨h1, h2⟩ := hm
    have h5 : a < 0 ∨ m ≤ a := by unfold IsRes at h; omega
    clear h
    by_cases h0 : 0 ≤ a
    · have g1 : decide (0 ≤ a) = true := by simpa using h0
      have g2 : decide (a < m) = false := by simp; omega
      clear h5 h0
      go_enter Try.func55, Try.ntmps55
      go_wp2_with (go_at_call 61; refine (imod_yes _ _ h1 h2).mono ?_; rintro e w' ⟨rfl, rfl⟩)
      go_ret
      exact ⟨rfl, rfl⟩
    · have g1 : decide (0 ≤ a) = false := by simpa using h0
      clear h5 h0
      go_enter Try.func55, Try.ntmps55
      go_wp2_with (go_at_call 61; refine (imod_yes _ _ h1 h2).mono ?_; rintro e w' ⟨rfl, rfl⟩)
      go_ret
      exact ⟨rfl, rfl⟩
  · have h5 := Lib.hid (show m < 1 ∨ 1000 < m by omega)
    clear h hm
    go_enter Try.func55, Try.ntmps55
    go_wp2_with (go_at_call 61; refine (imod_no _ _ h5.out).mono ?_; rintro e w' ⟨rfl, rfl⟩)
    go_ret
    exact ⟨rfl, rfl⟩

/-! ### Powers -/
theorem pow_mod (a m : Int) (n : Nat) : (a % m) ^ n % m = a ^ n % m := by
  induction n with
  | zero => simp
  | succ n ih => rw [Int.pow_succ, Int.pow_succ, Int.mul_emod, ih, Int.emod_emod, ← Int.mul_emod]

theorem sq_pow (a : Int) (n : Nat) : (a * a) ^ n = a ^ (2 * n) := by
  induction n with
  | zero => simp
  | succ n ih => rw [show 2 * (n + 1) = 2 * n + 1 + 1 by omega, Int.pow_succ, ih, Int.pow_succ, Int.pow_succ]; grind

/-- The loop of repeated squaring: 'out a^e' does not change modulo m. -/
def PwRel (a e m out a' e' : Int) : Prop := 0 ≤ out ∧ out < m ∧ 0 ≤ a' ∧ a' < m ∧ 0 ≤ e' ∧ e' ≤ 1000000 ∧ out * a' ^ e'.toNat % m = a ^ e.toNat % m

theorem pw_start (a e m : Int) (h : IsRes a m) (e0 : 0 ≤ e) (e1 : e ≤ 1000000) : PwRel a e m (1 % m) a e := by
  obtain ⟨h1, h2, h3, h4⟩ := h
  refine ⟨Int.emod_nonneg _ (by omega), Int.emod_lt_of_pos _ (by omega), h3, h4, e0, e1, ?_⟩
  rw [Int.mul_emod, Int.emod_emod, ← Int.mul_emod, Int.one_mul]

theorem pw_odd (a e m out a' e' : Int) (hm : 1 ≤ m) (h : PwRel a e m out a' e') (ho : e' % 2 = 1) : PwRel a e m (out * a' % m) (a' * a' % m) (e' / 2) := by
  obtain ⟨h1, h2, h3, h4, h5, h6, h7⟩ := h
  refine ⟨Int.emod_nonneg _ (by omega), Int.emod_lt_of_pos _ (by omega), Int.emod_nonneg _ (by omega), Int.emod_lt_of_pos _ (by omega), by omega, by omega, ?_⟩
  rw [Int.mul_emod, pow_mod, Int.emod_emod, ← Int.mul_emod, sq_pow, ← h7, show e'.toNat = 2 * (e' / 2).toNat + 1 by omega, Int.pow_succ]
  congr 1
  grind

theorem pw_even (a e m out a' e' : Int) (hm : 1 ≤ m) (h : PwRel a e m out a' e') (ho : ¬ e' % 2 = 1) : PwRel a e m out (a' * a' % m) (e' / 2) := by
  obtain ⟨h1, h2, h3, h4, h5, h6, h7⟩ := h
  refine ⟨h1, h2, Int.emod_nonneg _ (by omega), Int.emod_lt_of_pos _ (by omega), by omega, by omega, ?_⟩
  rw [Int.mul_emod, pow_mod, ← Int.mul_emod, sq_pow, ← h7, show e'.toNat = 2 * (e' / 2).toNat by omega]

theorem pw_end (a e m out a' e' : Int) (h : PwRel a e m out a' e') (he : ¬ 0 < e') : out = a ^ e.toNat % m := by
  obtain ⟨h1, h2, h3, h4, h5, h6, h7⟩ := h
  obtain rfl : e' = 0 := by omega
  rw [← h7]; simp [Int.emod_eq_of_lt h1 h2]

theorem mul_small (a b m : Int) (a0 : 0 ≤ a) (a1 : a < m) (b0 : 0 ≤ b) (b1 : b < m) (hm : m ≤ 1000) : 0 ≤ a * b ∧ a * b ≤ 1000000 := by
  refine ⟨Int.mul_nonneg a0 b0, ?_⟩
  have h1 : a * b ≤ 1000 * b := Int.mul_le_mul_of_nonneg_right (by omega) b0
  omega

theorem spow (a e m : Int) (w : World) (h : IsRes a m) (e0 : 0 ≤ e) (e1 : e ≤ 1000000) :
    Calls Try.prog 54 #[.int .i64 a, .int .i64 e, .int .i64 m] w fun e1 w' => e1 = .returned (.int .i64 (a ^ e.toNat % m)) ∧ w = w' := by
  have hs := Lib.hid (pw_start a e m h e0 e1)
  obtain ⟨h1, h2, h3, h4⟩ := h
  have z1 : ¬ m = 0 := by omega
  go_enter Try.func54, Try.ntmps54
  go_wp2
  go_loop [0, 1, 7] (fun x y z => ∃ a' e' out : Int, x = .int .i64 a' ∧ y = .int .i64 e' ∧ z = .int .i64 out ∧ Hid (PwRel a e m out a' e')) (fun _ y _ => (intOf y).toNat)
  case atStart => exact ⟨a, e, _, rfl, rfl, rfl, hs⟩
  case round =>
    obtain ⟨a', e', out, rfl, rfl, rfl, hr⟩ := hrel
    have o0 := hr.out.1
    have o1 := hr.out.2.1
    have p0 := hr.out.2.2.1
    have p1 := hr.out.2.2.2.1
    have q0 := hr.out.2.2.2.2.1
    have q1 := hr.out.2.2.2.2.2.1
    by_cases he : 0 < e'
    · have ⟨u0, u1⟩ := mul_small out a' m o0 o1 p0 p1 h2
      have ⟨v0, v1⟩ := mul_small a' a' m p0 p1 p0 p1 h2
      by_cases ho : e' % 2 = 1
      · have hn := Lib.hid (pw_odd a e m out a' e' h1 hr.out ho)
        go_wp2
        go_round
        case rel => exact ⟨_, _, _, rfl, rfl, rfl, hn⟩
        case measure => simp [intOf]; omega
      · have hn := Lib.hid (pw_even a e m out a' e' h1 hr.out ho)
        go_wp2
        go_round
        case rel => exact ⟨_, _, _, rfl, rfl, rfl, hn⟩
        case measure => simp [intOf]; omega
    · have hn := Lib.hid (pw_end a e m out a' e' hr.out he)
      go_wp2
      go_ret
      exact ⟨ret_i _ _ hn.out, rfl⟩
end Go.Proofs.Ytninajgnmogmeaa
