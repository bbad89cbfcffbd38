/- Ranks of permutations: the numbers. -/
import Derived.Test.YtkonddifmonkcaaCyc
import Derived.Test.YtkonddifmonkcaaFn
namespace Go.Proofs.Ytkonddifmonkcaa
open Go.RowKit
set_option linter.unusedVariables false

def cl (x : Int) : List Int → Int
  | [] => 0
  | y :: l => (if y < x then 1 else 0) + cl x l
theorem cl_snoc (x y : Int) : ∀ l, cl x (l ++ [y]) = cl x l + (if y < x then 1 else 0)
  | [] => by simp [cl]
  | z :: l => by rw [List.cons_append, cl, cl_snoc x y l, cl]; omega
theorem cl_bound (x : Int) : ∀ l, 0 ≤ cl x l ∧ cl x l ≤ l.length
  | [] => by simp [cl]
  | z :: l => by have := cl_bound x l; rw [cl, List.length_cons]; split <;> omega
def fct : Nat → Nat
  | 0 => 1
  | n + 1 => (n + 1) * fct n
theorem fct_pos : ∀ n, 1 ≤ fct n
  | 0 => Nat.le_refl _
  | n + 1 => Nat.mul_pos (Nat.succ_pos n) (fct_pos n)
theorem fct_mono : ∀ n d, fct n ≤ fct (n + d)
  | n, 0 => Nat.le_refl _
  | n, d + 1 => Nat.le_trans (fct_mono n d) (by rw [← Nat.add_assoc, fct]; exact Nat.le_mul_of_pos_left _ (by omega))
theorem fct12 {n : Nat} (h : n ≤ 12) : fct n ≤ 479001600 := by
  have := fct_mono n (12 - n)
  rw [show n + (12 - n) = 12 by omega] at this
  exact Nat.le_trans this (by decide)
/-- How many of the later numbers are less. -/
def lesr (p : List Int) (i : Nat) : Int := cl (p.getD i 0) (p.drop (i + 1))
/-- The rank of the first i places. -/
def hr (p : List Int) : Nat → Int
  | 0 => 0
  | i + 1 => hr p i * ((p.length : Int) - i) + lesr p i
theorem lesr_bound (p : List Int) (i : Nat) (h : i < p.length) : 0 ≤ lesr p i ∧ lesr p i ≤ (p.length : Int) - 1 - i := by
  have := cl_bound (p.getD i 0) (p.drop (i + 1))
  rw [List.length_drop] at this
  unfold lesr
  omega
theorem hr_bound (p : List Int) : ∀ i, i ≤ p.length → 0 ≤ hr p i ∧ (hr p i + 1) * (fct (p.length - i) : Nat) ≤ (fct p.length : Nat)
  | 0, _ => by simp [hr]
  | i + 1, h => by
    obtain ⟨h1, h2⟩ := hr_bound p i (by omega)
    obtain ⟨l1, l2⟩ := lesr_bound p i (by omega)
    obtain ⟨d, hd⟩ : ∃ d, p.length - i = d + 1 := ⟨p.length - i - 1, by omega⟩
    have hd2 : p.length - (i + 1) = d := by omega
    have hd3 : (p.length : Int) - i = (d : Int) + 1 := by omega
    rw [hd, fct] at h2
    rw [hr, hd2, hd3]
    have m0 : 0 ≤ hr p i * ((d : Int) + 1) := Int.mul_nonneg h1 (by omega)
    refine ⟨by omega, Int.le_trans ?_ h2⟩
    have e : hr p i * ((d : Int) + 1) + lesr p i + 1 ≤ (hr p i + 1) * ((d : Int) + 1) := by
      rw [Int.add_mul, Int.one_mul]; omega
    have f0 : (0 : Int) ≤ (fct d : Nat) := by omega
    have := Int.mul_le_mul_of_nonneg_right e f0
    refine Int.le_trans this (Int.le_of_eq ?_)
    rw [Int.natCast_mul, Int.mul_assoc]
    congr 1
theorem hr_small (p : List Int) (i : Nat) (h : i ≤ p.length) (hl : p.length ≤ 12) : 0 ≤ hr p i ∧ hr p i ≤ 479001600 := by
  obtain ⟨h1, h2⟩ := hr_bound p i h
  refine ⟨h1, ?_⟩
  have f1 := fct_pos (p.length - i)
  have f2 := fct12 hl
  have : (hr p i + 1) * 1 ≤ (hr p i + 1) * (fct (p.length - i) : Nat) := Int.mul_le_mul_of_nonneg_left (by omega) (by omega)
  omega
/-- As the model adds it up. -/
def mr (p : List Int) (i : Nat) : Int := hr p i * (fct (p.length - i) : Nat)
theorem mr_succ (p : List Int) (i : Nat) (h : i < p.length) : mr p (i + 1) = mr p i + lesr p i * (fct (p.length - 1 - i) : Nat) := by
  obtain ⟨d, hd⟩ : ∃ d, p.length - i = d + 1 := ⟨p.length - i - 1, by omega⟩
  have hd2 : p.length - (i + 1) = d := by omega
  have hd3 : (p.length : Int) - i = (d : Int) + 1 := by omega
  have hd4 : p.length - 1 - i = d := by omega
  unfold mr
  rw [hd2, hd, hd4, hr, hd3, fct, Int.add_mul, Int.natCast_mul, Int.mul_assoc]
  congr 1
theorem mr_small (p : List Int) (i : Nat) (h : i ≤ p.length) (hl : p.length ≤ 12) : 0 ≤ mr p i ∧ mr p i ≤ 479001600 := by
  obtain ⟨h1, h2⟩ := hr_bound p i h
  have f2 := fct12 hl
  have f0 : (0 : Int) ≤ (fct (p.length - i) : Nat) := by omega
  have := Int.mul_nonneg h1 f0
  rw [Int.add_mul, Int.one_mul] at h2
  unfold mr
  omega
theorem mr_end (p : List Int) : mr p p.length = hr p p.length := by unfold mr; rw [Nat.sub_self, fct]; simp
/-- Every number is in a permutation. -/
theorem seen_take {p : List Int} (h : IsPm p) : ∀ i, i ≤ p.length → SeenOk p.length (p.take i)
  | 0, _ => by rw [List.take_zero]; exact SeenOk.nil _
  | i + 1, hi => by
    have ih := seen_take h i (by omega)
    have ok := h.2 i (by omega)
    unfold okPm at ok
    rw [takeI_getD (by omega)]
    obtain ⟨y, hy⟩ : ∃ y : Nat, p.getD i 0 = y := ⟨(p.getD i 0).toNat, by omega⟩
    rw [hy] at ok ⊢
    exact ih.push (by omega) ok.2.2
theorem un_zero : ∀ (n : Nat) (S : List Int), un n S = 0 → ∀ y, y < n → ((y : Nat) : Int) ∈ S
  | 0, _, _, y, hy => by omega
  | n + 1, S, h, y, hy => by
    rw [un] at h
    by_cases e : y = n
    · subst e
      by_cases c : (y : Int) ∈ S
      · exact c
      · rw [if_neg c] at h; omega
    · exact un_zero n S (by omega) y (by omega)
theorem pm_all {p : List Int} (h : IsPm p) (y : Nat) (hy : y < p.length) : (y : Int) ∈ p := by
  have := seen_take h p.length (Nat.le_refl _)
  rw [List.take_length] at this
  exact un_zero p.length p (by have := this.1; omega) y hy
/-- What is not used yet. -/
def uP (p : List Int) (i : Nat) : Nat → Int := fun y => if y < p.length ∧ ((y : Nat) : Int) ∉ p.take i then 1 else 0
theorem uP_bit (p : List Int) (i : Nat) : Bit (uP p i) := fun y => by unfold uP; split <;> omega
theorem uP_step {p : List Int} (h : IsPm p) {i x : Nat} (hi : i < p.length) (hx : p.getD i 0 = x) : updI (uP p i) x (uP p i x + -1) = uP p (i + 1) := by
  have ok := h.2 i hi
  unfold okPm at ok
  rw [hx] at ok
  funext y
  unfold updI uP
  rw [takeI_getD hi, hx]
  by_cases e : y = x
  · subst e
    rw [if_pos rfl, if_pos ⟨by omega, ok.2.2⟩, if_neg (by simp)]; rfl
  · rw [if_neg e]
    have : (((y : Nat) : Int) ∈ p.take i ++ [(x : Int)]) ↔ ((y : Nat) : Int) ∈ p.take i := by
      rw [List.mem_append, List.mem_singleton]
      constructor
      · rintro (k | k)
        · exact k
        · omega
      · exact .inl
    simp only [this]
theorem sumU_upd (u : Nat → Int) (t : Nat) (d : Int) : ∀ x, sumU (updI u t (u t + d)) x = sumU u x + (if t < x then d else 0)
  | 0 => by simp [sumU]
  | x + 1 => by
    rw [sumU, sumU_upd u t d x, sumU]
    by_cases e : x = t
    · subst e; rw [updI_same, if_neg (Nat.lt_irrefl _), if_pos (Nat.lt_succ_self _)]; omega
    · rw [updI_ne _ _ _ _ e]
      by_cases c : t < x
      · rw [if_pos c, if_pos (by omega)]; omega
      · rw [if_neg c, if_neg (by omega)]; omega
theorem sumU_zero (u : Nat → Int) : ∀ x, (∀ y, y < x → u y = 0) → sumU u x = 0
  | 0, _ => rfl
  | x + 1, h => by rw [sumU, sumU_zero u x (fun y hy => h y (by omega)), h x (by omega)]; rfl
theorem sumU_cl {p : List Int} (h : IsPm p) (x : Nat) (hx : x ≤ p.length) : ∀ d i, i + d = p.length → sumU (uP p i) x = cl x (p.drop i)
  | 0, i, e => by
    rw [List.drop_of_length_le (by omega)]
    refine sumU_zero _ _ (fun y hy => ?_)
    unfold uP
    rw [if_neg]
    rintro ⟨_, k⟩
    exact k (by rw [show i = p.length by omega, List.take_length]; exact pm_all h y (by omega))
  | d + 1, i, e => by
    have ok := h.2 i (by omega)
    unfold okPm at ok
    obtain ⟨t, ht⟩ : ∃ t : Nat, p.getD i 0 = t := ⟨(p.getD i 0).toNat, by omega⟩
    have ih := sumU_cl h x hx d (i + 1) (by omega)
    rw [← uP_step h (by omega) ht, sumU_upd] at ih
    have dr : p.drop i = p.getD i 0 :: p.drop (i + 1) := by
      rw [List.drop_eq_getElem_cons (by omega), List.getD_eq_getElem?_getD, List.getElem?_eq_getElem (by omega)]; rfl
    rw [dr, cl, ht, ← ih]
    by_cases c : t < x
    · rw [if_pos c, if_pos (by omega)]; omega
    · rw [if_neg c, if_neg (by omega)]; omega
theorem less_is {p : List Int} (h : IsPm p) {i x : Nat} (hi : i < p.length) (hx : p.getD i 0 = x) : sumU (uP p i) x = lesr p i := by
  have ok := h.2 i hi
  unfold okPm at ok
  rw [sumU_cl h x (by omega) (p.length - i) i (by omega)]
  have dr : p.drop i = p.getD i 0 :: p.drop (i + 1) := by
    rw [List.drop_eq_getElem_cons hi, List.getD_eq_getElem?_getD, List.getElem?_eq_getElem hi]; rfl
  rw [dr, cl, hx, if_neg (by omega)]
  unfold lesr
  rw [hx]; omega
noncomputable def RankPermutation_0 (xs : List Int) : Int := if pmB xs = true then (if xs.length ≤ 12 then hr xs xs.length else 0) else 0
noncomputable def RankPermutation_1 (xs : List Int) : Int := if pmB xs = true then (if xs.length ≤ 12 then 0 else 2) else 1
theorem Rank_bad {xs : List Int} (h : pmB xs = false) : RankPermutation_0 xs = 0 ∧ RankPermutation_1 xs = 1 := by
  have e : ¬ pmB xs = true := by simp [h]
  unfold RankPermutation_0 RankPermutation_1; rw [if_neg e, if_neg e]; exact ⟨rfl, rfl⟩
theorem Rank_far {xs : List Int} (h : pmB xs = true) (k : ¬ xs.length ≤ 12) : RankPermutation_0 xs = 0 ∧ RankPermutation_1 xs = 2 := by
  unfold RankPermutation_0 RankPermutation_1; rw [if_pos h, if_pos h, if_neg k, if_neg k]; exact ⟨rfl, rfl⟩
theorem Rank_ok {xs : List Int} (h : pmB xs = true) (k : xs.length ≤ 12) : RankPermutation_0 xs = hr xs xs.length ∧ RankPermutation_1 xs = 0 := by
  unfold RankPermutation_0 RankPermutation_1; rw [if_pos h, if_pos h, if_pos k, if_pos k]; exact ⟨rfl, rfl⟩
end Go.Proofs.Ytkonddifmonkcaa
