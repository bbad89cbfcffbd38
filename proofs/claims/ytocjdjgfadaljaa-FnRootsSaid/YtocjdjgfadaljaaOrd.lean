/- OrderMod of both packages answers the multiplicative order of a residue. -/
import Derived.Test.YtocjdjgfadaljaaInv
namespace Go.Proofs.Ytocjdjgfadaljaa
open Go.RowKit
set_option linter.unusedVariables false

theorem php (m : Nat) : ∀ f : Nat → Nat, (∀ i, i ≤ m → f i < m) → ∃ i j, i < j ∧ j ≤ m ∧ f i = f j := by
  induction m with
  | zero => intro f h; exact absurd (h 0 (Nat.le_refl _)) (by omega)
  | succ m ih =>
    intro f h
    by_cases hx : ∃ i, i ≤ m ∧ f i = f (m + 1)
    · obtain ⟨i, hi, e⟩ := hx
      exact ⟨i, m + 1, by omega, Nat.le_refl _, e⟩
    · have hn : ∀ i, i ≤ m → f i ≠ f (m + 1) := fun i hi e => hx ⟨i, hi, e⟩
      obtain ⟨i, j, h1, h2, h3⟩ := ih (fun i => if f i = m then f (m + 1) else f i) (fun i hi => by
        have a1 := h i (by omega)
        have a2 := h (m + 1) (Nat.le_refl _)
        have a3 := hn i hi
        show (if f i = m then f (m + 1) else f i) < m
        split <;> omega)
      refine ⟨i, j, h1, by omega, ?_⟩
      have a3 := hn i (by omega)
      have a4 := hn j (by omega)
      change (if f i = m then f (m + 1) else f i) = (if f j = m then f (m + 1) else f j) at h3
      split at h3 <;> split at h3 <;> omega

def IsOrd (a m e : Int) : Prop := 1 ≤ e ∧ e ≤ m ∧ a ^ e.toNat % m = 1 % m ∧ ∀ k : Nat, 1 ≤ k → (k : Int) < e → a ^ k % m ≠ 1 % m

theorem IsOrd_unique {a m e e' : Int} (h : IsOrd a m e) (h' : IsOrd a m e') : e = e' := by
  obtain ⟨h1, _, h2, h3⟩ := h
  obtain ⟨k1, _, k2, k3⟩ := h'
  by_cases l : e < e'
  · exact absurd h2 (k3 e.toNat (by omega) (by omega))
  · by_cases l' : e' < e
    · exact absurd k2 (h3 e'.toNat (by omega) (by omega))
    · omega

/-- Some power of a residue that is coprime to the modulus is 1. -/
theorem pow_one_exists (a m : Int) (a0 : 0 ≤ a) (hm : 1 ≤ m) (g : Int.gcd a m = 1) : ∃ e : Nat, 1 ≤ e ∧ (e : Int) ≤ m ∧ a ^ e % m = 1 % m := by
  obtain ⟨x, x0, x1, hx⟩ := inv_of_cop a m a0 hm g
  obtain ⟨i, j, h1, h2, h3⟩ := php m.toNat (fun i => (a ^ i % m).toNat) (fun i _ => by
    have := Int.emod_nonneg (a ^ i) (show m ≠ 0 by omega)
    have := Int.emod_lt_of_pos (a ^ i) (show 0 < m by omega)
    show (a ^ i % m).toNat < m.toNat
    omega)
  have e1 : a ^ i % m = a ^ j % m := by
    have := Int.emod_nonneg (a ^ i) (show m ≠ 0 by omega)
    have := Int.emod_nonneg (a ^ j) (show m ≠ 0 by omega)
    change (a ^ i % m).toNat = (a ^ j % m).toNat at h3
    omega
  have k1 : ∀ n : Nat, a ^ n * x ^ n % m = 1 % m := fun n => by
    induction n with
    | zero => simp
    | succ n ih =>
      rw [show a ^ (n + 1) * x ^ (n + 1) = (a ^ n * x ^ n) * (a * x) by rw [Int.pow_succ, Int.pow_succ]; grind, Int.mul_emod, ih, hx, ← Int.mul_emod, Int.mul_one]
  refine ⟨j - i, by omega, by omega, ?_⟩
  have e2 : a ^ j * x ^ i % m = a ^ (j - i) % m := by
    rw [show a ^ j = a ^ (j - i) * a ^ i by rw [← Int.pow_add]; congr 1; omega, Int.mul_assoc, Int.mul_emod, k1, ← Int.mul_emod, Int.mul_one]
  rw [← e2, Int.mul_emod, ← e1, ← Int.mul_emod, k1]

/-- The loop that looks for the order. -/
def OrdRel (a m k x : Int) : Prop := 1 ≤ k ∧ k ≤ m ∧ 0 ≤ x ∧ x < m ∧ x = a ^ k.toNat % m ∧ ∀ j : Nat, 1 ≤ j → (j : Int) < k → a ^ j % m ≠ 1 % m

theorem pow1 (a : Int) : a ^ 1 = a := by rw [show (1 : Nat) = 0 + 1 from rfl, Int.pow_succ, Int.pow_zero, Int.one_mul]

theorem ord_start (a m : Int) (h : IsRes a m) : OrdRel a m 1 a := by
  obtain ⟨h1, h2, h3, h4⟩ := h
  refine ⟨by omega, by omega, h3, h4, by rw [show a ^ (1 : Int).toNat = a from pow1 a, Int.emod_eq_of_lt h3 h4], fun j j1 j2 => by omega⟩

theorem ord_step (a m k x : Int) (a0 : 0 ≤ a) (hm : 1 ≤ m) (g : Int.gcd a m = 1) (h : OrdRel a m k x) (hx : ¬ x = 1 % m) : OrdRel a m (k + 1) (x * a % m) := by
  obtain ⟨h1, h2, h3, h4, h5, h6⟩ := h
  have hne : ∀ j : Nat, 1 ≤ j → (j : Int) < k + 1 → a ^ j % m ≠ 1 % m := fun j j1 j2 => by
    by_cases e : j = k.toNat
    · rw [e, ← h5]; exact hx
    · exact h6 j j1 (by omega)
  obtain ⟨e, e1, e2, e3⟩ := pow_one_exists a m a0 hm g
  have : k + 1 ≤ e := by
    by_cases l : (e : Int) < k + 1
    · exact absurd e3 (hne e e1 l)
    · omega
  refine ⟨by omega, by omega, Int.emod_nonneg _ (by omega), Int.emod_lt_of_pos _ (by omega), ?_, hne⟩
  rw [h5, show (k + 1).toNat = k.toNat + 1 by omega, Int.pow_succ, Int.mul_emod, Int.emod_emod, ← Int.mul_emod]

theorem ord_end (a m k x : Int) (h : OrdRel a m k x) (hx : x = 1 % m) : IsOrd a m k := by
  obtain ⟨h1, h2, h3, h4, h5, h6⟩ := h
  exact ⟨h1, h2, by rw [← h5]; exact hx, h6⟩

/-- What l02Order answers for a residue. -/
def ordRes (a m v : Int) : Prop := (Int.gcd a m = 1 ∧ IsOrd a m v) ∨ (Int.gcd a m ≠ 1 ∧ v = 0)

/-- What OrderMod answers. -/
def ordVal (a m v c : Int) : Prop := (¬ IsRes a m ∧ v = 0 ∧ c = 2) ∨ (IsRes a m ∧ Int.gcd a m = 1 ∧ IsOrd a m v ∧ c = 0) ∨ (IsRes a m ∧ Int.gcd a m ≠ 1 ∧ v = 0 ∧ c = 3)

theorem ordVal_eq {a m v c v' c' : Int} (h : ordVal a m v c) (h' : ordVal a m v' c') : v = v' ∧ c = c' := by
  rcases h with ⟨h, rfl, rfl⟩ | ⟨h, g, hv, rfl⟩ | ⟨h, g, rfl, rfl⟩ <;> rcases h' with ⟨k, rfl, rfl⟩ | ⟨k, g', hw, rfl⟩ | ⟨k, g', rfl, rfl⟩ <;>
    first | exact ⟨rfl, rfl⟩ | exact absurd h k | exact absurd k h | exact absurd g g' | exact absurd g' g | exact ⟨IsOrd_unique hv hw, rfl⟩

theorem iord (a m : Int) (w : World) :
    Calls Try.prog 13 #[.int .i64 a, .int .i64 m] w fun r w' => ∃ v c : Int, r = .returned (.tuple #[.int .i64 v, .int .i64 c]) ∧ ordVal a m v c ∧ ∃ n, w' = w.drewN n := by
  by_cases h : IsRes a m
  · have H := Lib.hid h
    have S := Lib.hid (ord_start a m h)
    obtain ⟨h1, h2, h3, h4⟩ := h
    have z1 : ¬ m = 0 := by omega
    have E := Lib.hid (gcdOf_in (show GcdIn a m by unfold GcdIn; omega))
    by_cases hg : Int.gcd a m = 1
    · have hT : (gcdOf a m != 1) = false := by rw [E.out]; simp [hg]
      have G := Lib.hid hg
      clear hg
      go_enter Try.func13, Try.ntmps13
      go_wp2_with (first | (go_at_call 40; refine (ires_yes _ _ _ H.out).mono ?_; rintro e w' ⟨rfl, rfl⟩) | (go_at_call 41; refine (igcd a m _).mono ?_; rintro e w' ⟨rfl, n, rfl⟩))
      go_loop [7, 8] (fun u v => ∃ k x : Int, u = .int .i64 k ∧ v = .int .i64 x ∧ Hid (OrdRel a m k x)) (fun u _ => (m - intOf u).toNat)
      case atStart => exact ⟨1, a, rfl, rfl, S⟩
      case round =>
        obtain ⟨k, x, rfl, rfl, hr⟩ := hrel
        have k0 := hr.out.1
        have k1 := hr.out.2.1
        have x0 := hr.out.2.2.1
        have x1 := hr.out.2.2.2.1
        have ⟨u0, u1⟩ := mul_small x a m x0 x1 h3 h4 h2
        by_cases ht : x = 1 % m
        · have hT' : (x != 1 % m) = false := by simpa using ht
          have V := Lib.hid (show ordVal a m k 0 from .inr (.inl ⟨H.out, G.out, ord_end a m k x hr.out ht, rfl⟩))
          clear ht
          go_wp2
          go_ret2
          exact ⟨_, _, rfl, V.out, _, rfl⟩
        · have hT' : (x != 1 % m) = true := by simpa using ht
          have V := Lib.hid (ord_step a m k x h3 h1 G.out hr.out ht)
          have k2 := V.out.2.1
          clear ht
          go_wp2
          go_round
          case rel => exact ⟨_, _, rfl, rfl, V⟩
          case measure => simp [intOf]; omega
    · have hT : (gcdOf a m != 1) = true := by rw [E.out]; simp; omega
      have V := Lib.hid (show ordVal a m 0 3 from .inr (.inr ⟨H.out, hg, rfl, rfl⟩))
      clear hg
      go_enter Try.func13, Try.ntmps13
      go_wp2_with (first | (go_at_call 40; refine (ires_yes _ _ _ H.out).mono ?_; rintro e w' ⟨rfl, rfl⟩) | (go_at_call 41; refine (igcd a m _).mono ?_; rintro e w' ⟨rfl, n, rfl⟩))
      go_ret2
      exact ⟨_, _, rfl, V.out, _, rfl⟩
  · have V := Lib.hid (show ordVal a m _ _ from .inl ⟨h, rfl, rfl⟩)
    have H := Lib.hid h
    clear h
    go_enter Try.func13, Try.ntmps13
    go_wp2_with (go_at_call 40; refine (ires_no _ _ _ H.out).mono ?_; rintro e w' ⟨rfl, rfl⟩)
    go_ret2
    exact ⟨_, _, rfl, V.out, 0, rfl⟩

end Go.Proofs.Ytocjdjgfadaljaa
