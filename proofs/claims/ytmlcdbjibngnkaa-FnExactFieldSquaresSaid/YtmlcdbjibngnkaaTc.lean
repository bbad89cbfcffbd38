/- Products of polynomials: associativity behind the remainder. Mathematics alone. -/
import Derived.Test.YtmlcdbjibngnkaaTb
namespace Go.Proofs.Ytmlcdbjibngnkaa
open Go.RowKit
set_option linter.unusedVariables false

def sh (x : Co) : Co := fun i => x (i + 1)
/-- The product of two sequences. -/
def conv : Co → Co → Co
  | x, y, 0 => x 0 * y 0
  | x, y, m + 1 => x 0 * y (m + 1) + conv (sh x) y m
theorem conv_add (y : Co) : ∀ (m : Nat) (x x' : Co), conv (fun i => x i + x' i) y m = conv x y m + conv x' y m
  | 0, x, x' => by simp [conv, Int.add_mul]
  | m + 1, x, x' => by
    have := conv_add y m (sh x) (sh x')
    simp only [conv]
    rw [show sh (fun i => x i + x' i) = fun i => sh x i + sh x' i from rfl, this, Int.add_mul]
    omega
theorem conv_smul (y : Co) (c : Int) : ∀ (m : Nat) (x : Co), conv (fun i => c * x i) y m = c * conv x y m
  | 0, x => by simp [conv, Int.mul_assoc]
  | m + 1, x => by
    have := conv_smul y c m (sh x)
    simp only [conv]
    rw [show sh (fun i => c * x i) = fun i => c * sh x i from rfl, this, Int.mul_add, Int.mul_assoc]
theorem conv_assoc (y z : Co) : ∀ (m : Nat) (x : Co), conv (conv x y) z m = conv x (conv y z) m
  | 0, x => by simp [conv, Int.mul_assoc]
  | m + 1, x => by
    have e : sh (conv x y) = fun i => x 0 * sh y i + conv (sh x) y i := by funext i; rfl
    rw [conv, e, conv_add, conv_smul z (x 0) m (sh y), conv_assoc y z m (sh x)]
    show x 0 * y 0 * z (m + 1) + (x 0 * conv (sh y) z m + conv (sh x) (conv y z) m) = x 0 * (y 0 * z (m + 1) + conv (sh y) z m) + conv (sh x) (conv y z) m
    rw [Int.mul_add, Int.mul_assoc]; omega
theorem conv_last : ∀ (m : Nat) (x y : Co), conv x y (m + 1) = x (m + 1) * y 0 + conv x (sh y) m
  | 0, x, y => by simp only [conv, sh]; omega
  | m + 1, x, y => by
    have := conv_last m (sh x) y
    rw [conv, this]
    show x 0 * y (m + 1 + 1) + (x (m + 1 + 1) * y 0 + conv (sh x) (sh y) m) = x (m + 1 + 1) * y 0 + (x 0 * y (m + 1 + 1) + conv (sh x) (sh y) m)
    omega
theorem conv_comm : ∀ (m : Nat) (x y : Co), conv x y m = conv y x m
  | 0, x, y => by simp only [conv]; rw [Int.mul_comm]
  | m + 1, x, y => by
    rw [conv_last m y x, conv, conv_comm m (sh x) y, Int.mul_comm]
theorem conv_comm' (x y : Co) : conv x y = conv y x := by funext m; exact conv_comm m x y
theorem conv_assoc' (x y z : Co) : conv (conv x y) z = conv x (conv y z) := by funext m; exact conv_assoc y z m x
theorem conv_zero : ∀ (m : Nat) (x y : Co), (∀ t, t ≤ m → x t * y (m - t) = 0) → conv x y m = 0
  | 0, x, y, h => h 0 (Nat.le_refl _)
  | m + 1, x, y, h => by
    have h0 := h 0 (by omega)
    rw [Nat.sub_zero] at h0
    rw [conv, h0, conv_zero m (sh x) y (fun t ht => by
      have := h (t + 1) (by omega)
      rwa [show m + 1 - (t + 1) = m - t by omega] at this)]
    rfl
theorem conv_fin {x y : Co} {N M : Nat} (hx : ∀ i, N ≤ i → x i = 0) (hy : ∀ i, M ≤ i → y i = 0) (i : Nat) (h : N + M ≤ i) : conv x y i = 0 :=
  conv_zero i x y fun t ht => by
    by_cases c : N ≤ t
    · rw [hx t c]; simp
    · rw [hy (i - t) (by omega)]; simp
/-- The highest place. -/
theorem conv_top (y : Co) (k : Nat) (hy : ∀ i, k < i → y i = 0) : ∀ (n : Nat) (x : Co), (∀ i, n < i → x i = 0) → conv x y (n + k) = x n * y k
  | 0, x, h => by
    rw [Nat.zero_add]
    cases k with
    | zero => rfl
    | succ k =>
      rw [conv, conv_zero k (sh x) y (fun t _ => by rw [show sh x t = 0 from h (t + 1) (by omega)]; simp)]
      omega
  | n + 1, x, h => by
    rw [show n + 1 + k = (n + k) + 1 by omega, conv, conv_top y k hy n (sh x) (fun i hi => h (i + 1) (by omega)), hy (n + k + 1) (by omega)]
    simp [sh]
/-- One place alone. -/
def at1 (j : Nat) (c : Int) : Co := fun i => if i = j then c else 0
theorem conv_at (y : Co) (c : Int) : ∀ (m j : Nat), conv (at1 j c) y m = if j ≤ m then c * y (m - j) else 0
  | 0, 0 => by simp [conv, at1]
  | 0, j + 1 => by simp [conv, at1]
  | m + 1, 0 => by
    rw [conv, conv_zero m (sh (at1 0 c)) y (fun t _ => by simp [sh, at1])]
    simp [at1]
  | m + 1, j + 1 => by
    have e : sh (at1 (j + 1) c) = at1 j c := by funext i; simp [sh, at1]
    rw [conv, e, conv_at y c m j, show at1 (j + 1) c 0 = 0 from by simp [at1]]
    simp only [Int.zero_mul, Int.zero_add, Nat.add_le_add_iff_right, Nat.add_sub_add_right]

/-- The table's sum is the product. -/
theorem cv_conv (y : Co) (n : Nat) (hy : ∀ i, n ≤ i → y i = 0) : ∀ (i m : Nat) (x : Co), (∀ j, i ≤ j → x j = 0) → cv x y n m i = conv x y m
  | 0, m, x, hx => by
    rw [conv_zero m x y (fun t _ => by rw [hx t (by omega)]; simp)]; rfl
  | i + 1, m, x, hx => by
    rw [cv_shift]
    have e : (if m < n then x 0 * y m else 0) = x 0 * y m := by
      split
      · rfl
      · rw [hy m (by omega)]; simp
    rw [e]
    cases m with
    | zero => simp [conv]
    | succ m =>
      rw [if_pos (by omega), Nat.add_sub_cancel, conv]
      have := cv_conv y n hy i m (fun j => x (j + 1)) (fun j hj => hx (j + 1) (by omega))
      rw [this]; rfl

/-- Two polynomials that are congruent modulo p and f. -/
def Cg (p : Int) (f u v : Co) : Prop := ∃ q N, (∀ i, N ≤ i → q i = 0) ∧ ∀ i, p ∣ u i - v i - conv q f i
theorem Cg.mod {p : Int} {f u v : Co} (h : ∀ i, u i % p = v i % p) : Cg p f u v :=
  ⟨fun _ => 0, 0, fun _ _ => rfl, fun i => by
    rw [conv_zero i _ f (fun _ _ => by simp), Int.sub_zero]
    exact Int.dvd_of_emod_eq_zero (Int.emod_eq_emod_iff_emod_sub_eq_zero.1 (h i))⟩
theorem Cg.trans {p : Int} {f u v t : Co} (h1 : Cg p f u v) (h2 : Cg p f v t) : Cg p f u t := by
  obtain ⟨q, N, a, b⟩ := h1
  obtain ⟨q', N', a', b'⟩ := h2
  refine ⟨fun i => q i + q' i, N + N', fun i hi => ?_, fun i => ?_⟩
  · have h1 := a i (by omega)
    have h2 := a' i (by omega)
    show q i + q' i = 0
    rw [h1, h2]; rfl
  · rw [conv_add]
    have := Int.dvd_add (b i) (b' i)
    rwa [show u i - v i - conv q f i + (v i - t i - conv q' f i) = u i - t i - (conv q f i + conv q' f i) by omega] at this
theorem Cg.symm {p : Int} {f u v : Co} (h1 : Cg p f u v) : Cg p f v u := by
  obtain ⟨q, N, a, b⟩ := h1
  refine ⟨fun i => -1 * q i, N, fun i hi => ?_, fun i => ?_⟩
  · have h1 := a i hi
    show -1 * q i = 0
    rw [h1]; rfl
  · rw [conv_smul]
    have := Int.dvd_neg.2 (b i)
    rwa [show -(u i - v i - conv q f i) = v i - u i - -1 * conv q f i by omega] at this
theorem Cg.mul {p : Int} {f u v z : Co} {M : Nat} (hz : ∀ i, M ≤ i → z i = 0) (h1 : Cg p f u v) : Cg p f (conv u z) (conv v z) := by
  obtain ⟨q, N, a, b⟩ := h1
  refine ⟨conv q z, N + M, fun i hi => conv_fin a hz i hi, fun i => ?_⟩
  have e : conv (conv q z) f = conv (conv q f) z := by rw [conv_assoc', conv_comm' z f, ← conv_assoc']
  rw [e]
  have key : conv u z i - conv v z i - conv (conv q f) z i = conv (fun j => u j - v j - conv q f j) z i := by
    have e1 : (fun j => u j - v j - conv q f j) = fun j => (fun j => u j + (fun j => -1 * v j) j) j + (fun j => -1 * conv q f j) j := by
      funext j
      show u j - v j - conv q f j = u j + -1 * v j + -1 * conv q f j
      omega
    rw [e1, conv_add, conv_add, conv_smul, conv_smul]; omega
  rw [key]
  have dv : ∀ (m : Nat) (x : Co), (∀ j, p ∣ x j) → p ∣ conv x z m := by
    intro m
    induction m with
    | zero => intro x hx; rw [conv]; exact Int.dvd_mul_of_dvd_left (hx 0)
    | succ m ih =>
      intro x hx
      rw [conv]
      exact Int.dvd_add (Int.dvd_mul_of_dvd_left (hx 0)) (ih (sh x) (fun j => hx (j + 1)))
  exact dv i _ b
theorem Cg.mul' {p : Int} {f u v z : Co} {M : Nat} (hz : ∀ i, M ≤ i → z i = 0) (h1 : Cg p f u v) : Cg p f (conv z u) (conv z v) := by
  rw [conv_comm' z u, conv_comm' z v]; exact h1.mul hz
/-- Reduced polynomials are congruent only if they are equal. -/
theorem Cg.eq {p : Int} {f u v : Co} {k : Nat} (hp : 0 < p) (hf : ∀ i, k < i → f i = 0) (hf1 : f k = 1) (hu : Rd p k u) (hv : Rd p k v) (h : Cg p f u v) : u = v := by
  obtain ⟨q, N, a, b⟩ := h
  have key : ∀ (N : Nat) (q : Co), (∀ i, N ≤ i → q i = 0) → (∀ i, p ∣ u i - v i - conv q f i) → ∀ i, p ∣ u i - v i := by
    intro N
    induction N with
    | zero =>
      intro q a b i
      have := b i
      rwa [conv_zero i q f (fun t _ => by rw [a t (by omega)]; simp), Int.sub_zero] at this
    | succ N ih =>
      intro q a b
      have hN : p ∣ q N := by
        have h1 := b (N + k)
        rw [conv_top f k hf N q (fun i hi => a i (by omega)), hf1, (hu _).2.2 (by omega), (hv _).2.2 (by omega)] at h1
        have h2 := Int.dvd_neg.2 h1
        rwa [show -((0 : Int) - 0 - q N * 1) = q N by omega] at h2
      refine ih (fun i => q i + at1 N (-1 * q N) i) (fun i hi => ?_) (fun i => ?_)
      · show q i + at1 N (-1 * q N) i = 0
        unfold at1
        by_cases e : i = N
        · rw [if_pos e, e]; omega
        · rw [if_neg e, a i (by omega)]; rfl
      · rw [conv_add, conv_at]
        have h1 := b i
        split
        · have h2 : p ∣ -1 * q N * f (i - N) := Int.dvd_mul_of_dvd_left (Int.dvd_mul_of_dvd_right hN)
          have h3 := Int.dvd_sub h1 h2
          rwa [show u i - v i - conv q f i - -1 * q N * f (i - N) = u i - v i - (conv q f i + -1 * q N * f (i - N)) by omega] at h3
        · rw [Int.add_zero]; exact h1
  funext i
  have h1 := Int.emod_eq_zero_of_dvd (key N q a b i)
  have h2 := hu i
  have h3 := hv i
  have h4 : u i % p = v i % p := Int.emod_eq_emod_iff_emod_sub_eq_zero.2 h1
  rwa [hu.mod i, hv.mod i] at h4
theorem Cg.stp (p : Int) (f c : Co) (k top : Nat) (hp : 0 < p) (hf : ∀ i, k < i → f i = 0) (ht : k ≤ top) : Cg p f c (stp p f k top c) := by
  refine ⟨at1 (top - k) (c top), top - k + 1, fun i hi => by unfold at1; rw [if_neg (by omega)], fun i => ?_⟩
  rw [conv_at]
  unfold Go.Proofs.Ytmlcdbjibngnkaa.stp
  by_cases h1 : top - k ≤ i
  · rw [if_pos h1]
    by_cases h2 : i ≤ top
    · rw [if_pos (show top ≤ i + k ∧ i ≤ top by omega), show i + k - top = i - (top - k) by omega]
      have e := Int.emod_add_mul_ediv (c i - c top * f (i - (top - k))) p
      rw [show c i - (c i - c top * f (i - (top - k))) % p - c top * f (i - (top - k)) = p * ((c i - c top * f (i - (top - k))) / p) by omega]
      exact Int.dvd_mul_right _ _
    · rw [if_neg (by omega), hf (i - (top - k)) (by omega)]
      simp
  · rw [if_neg h1, if_neg (by omega)]
    simp
theorem Cg.red (p : Int) (f : Co) (k : Nat) (hp : 0 < p) (hf : ∀ i, k < i → f i = 0) : ∀ (m : Nat) (c : Co), Cg p f c (red p f k m c)
  | 0, c => Cg.mod fun _ => rfl
  | m + 1, c => (Cg.stp p f c k (k + m) hp hf (by omega)).trans (Cg.red p f k hp hf m _)
end Go.Proofs.Ytmlcdbjibngnkaa
