/- Prime factors, without the program. -/
namespace Go.Proofs.Ytocjdjgfadaljaa
set_option linter.unusedVariables false

/-- d is the least divisor of n from 2 on. -/
def IsMin (n d : Nat) : Prop := 2 ≤ d ∧ d ∣ n ∧ ∀ e, 2 ≤ e → e < d → ¬ e ∣ n
inductive Fac : Nat → List Nat → Prop
  | one : Fac 1 []
  | step {n d : Nat} {xs : List Nat} : 1 ≤ n → IsMin n d → Fac (n / d) xs → Fac n (d :: xs)

theorem IsMin.uniq {n d d' : Nat} (h : IsMin n d) (h' : IsMin n d') : d = d' := by
  obtain ⟨h1, h2, h3⟩ := h
  obtain ⟨k1, k2, k3⟩ := h'
  by_cases l : d < d'
  · exact absurd h2 (k3 d h1 l)
  · by_cases l' : d' < d
    · exact absurd k2 (h3 d' k1 l')
    · omega

theorem not_min_one {d : Nat} (h : IsMin 1 d) : False := by
  have := Nat.le_of_dvd (by omega) h.2.1
  have := h.1
  omega

theorem Fac.det {n : Nat} {xs ys : List Nat} (h : Fac n xs) (h' : Fac n ys) : xs = ys := by
  induction h generalizing ys with
  | one =>
    cases h' with
    | one => rfl
    | step _ k _ => exact (not_min_one k).elim
  | step h1 h2 _ ih =>
    cases h' with
    | one => exact (not_min_one h2).elim
    | step k1 k2 k3 =>
      obtain rfl := h2.uniq k2
      rw [ih k3]

theorem div_pos' {n d : Nat} (h1 : 1 ≤ n) (h2 : 2 ≤ d) (h3 : d ∣ n) : 1 ≤ n / d ∧ n / d + 1 ≤ n ∧ n = d * (n / d) := by
  obtain ⟨k, rfl⟩ := h3
  rw [Nat.mul_div_cancel_left _ (by omega)]
  have k1 : 1 ≤ k := by
    by_cases h : k = 0
    · subst h; simp at h1
    · omega
  have : 2 * k ≤ d * k := Nat.mul_le_mul_right k h2
  exact ⟨k1, by omega, rfl⟩

/-- What has been collected, and what is left. -/
def Left (n r : Nat) (out : List Nat) : Prop := 1 ≤ r ∧ out.length + r ≤ n ∧ ∀ ys, Fac r ys → Fac n (out ++ ys)
theorem left_start (n : Nat) (h : 1 ≤ n) : Left n n [] := ⟨h, by simp, fun ys h => h⟩
theorem left_step {n r d : Nat} {out : List Nat} (h : Left n r out) (hd : IsMin r d) : Left n (r / d) (out ++ [d]) := by
  obtain ⟨h1, h2, h3⟩ := h
  have ⟨a1, a2, a3⟩ := div_pos' h1 hd.1 hd.2.1
  refine ⟨a1, by simp; omega, fun ys hy => ?_⟩
  rw [List.append_assoc]
  exact h3 _ (.step h1 hd hy)
theorem left_one {n : Nat} {out : List Nat} (h : Left n 1 out) : Fac n out := by
  have := h.2.2 [] .one
  rwa [List.append_nil] at this
theorem left_prime {n r : Nat} {out : List Nat} (h : Left n r out) (hr : IsMin r r) : Fac n (out ++ [r]) := by
  refine h.2.2 [r] (.step h.1 hr ?_)
  rw [Nat.div_self (by have := h.1; omega)]
  exact .one

/-- No divisor from 2 to d - 1. -/
def NoDiv (r d : Nat) : Prop := ∀ e, 2 ≤ e → e < d → ¬ e ∣ r
theorem NoDiv.min {r d : Nat} (h : NoDiv r d) (h2 : 2 ≤ d) (hd : d ∣ r) : IsMin r d := ⟨h2, hd, h⟩
theorem NoDiv.div {r d e : Nat} (h : NoDiv r d) (he : e ∣ r) : NoDiv (r / e) d := by
  intro f f1 f2 hf
  exact h f f1 f2 (Nat.dvd_trans hf (Nat.div_dvd_of_dvd he))
theorem NoDiv.succ {r d : Nat} (h : NoDiv r d) (hd : ¬ d ∣ r) : NoDiv r (d + 1) := by
  intro f f1 f2 hf
  by_cases e : f = d
  · subst e; exact hd hf
  · exact h f f1 (by omega) hf
/-- Of two factors one is at most the square root. -/
theorem NoDiv.prime {r d : Nat} (h : NoDiv r d) (h1 : 1 < r) (hd : r < d * d) : IsMin r r := by
  refine ⟨h1, Nat.dvd_refl r, fun e e1 e2 he => ?_⟩
  obtain ⟨f, rfl⟩ := he
  by_cases l : e < d
  · exact h e e1 l ⟨f, rfl⟩
  · by_cases l' : f < d
    · have : 2 ≤ f := by
        by_cases z : f = 0
        · subst z; simp at h1
        · by_cases z1 : f = 1
          · subst z1; simp at e2
          · omega
      exact h f this l' ⟨e, Nat.mul_comm _ _⟩
    · have : d * d ≤ e * f := Nat.mul_le_mul (by omega) (by omega)
      omega

/-! ### Primes -/
def Pr (p : Nat) : Prop := IsMin p p
theorem pr_divisor (m : Nat) : 2 ≤ m → ∃ q, Pr q ∧ q ∣ m ∧ q ≤ m := by
  induction m using Nat.strongRecOn with
  | _ m ih =>
    intro h
    by_cases hc : ∃ e, 2 ≤ e ∧ e < m ∧ e ∣ m
    · obtain ⟨e, e1, e2, e3⟩ := hc
      obtain ⟨q, q1, q2, q3⟩ := ih e e2 e1
      exact ⟨q, q1, Nat.dvd_trans q2 e3, by omega⟩
    · exact ⟨m, ⟨h, Nat.dvd_refl m, fun e e1 e2 e3 => hc ⟨e, e1, e2, e3⟩⟩, Nat.dvd_refl m, Nat.le_refl m⟩

/-- A number that is not prime has a prime divisor of at most its square root. -/
theorem not_pr_divisor (m : Nat) (h : 2 ≤ m) (hn : ¬ Pr m) : ∃ q, Pr q ∧ q ∣ m ∧ q < m ∧ q * q ≤ m := by
  have hc : ∃ e, 2 ≤ e ∧ e < m ∧ e ∣ m := Classical.byContradiction fun hc => hn ⟨h, Nat.dvd_refl m, fun e e1 e2 e3 => hc ⟨e, e1, e2, e3⟩⟩
  obtain ⟨e, e1, e2, ⟨f, hf⟩⟩ := hc
  have f2 : 2 ≤ f := by
    by_cases z : f = 0
    · subst z; omega
    · by_cases z1 : f = 1
      · subst z1; omega
      · omega
  have f3 : f < m := by
    have : 2 * f ≤ e * f := Nat.mul_le_mul_right f e1
    omega
  by_cases l : e ≤ f
  · obtain ⟨q, q1, q2, q3⟩ := pr_divisor e e1
    have : q * q ≤ e * f := Nat.mul_le_mul q3 (by omega)
    exact ⟨q, q1, Nat.dvd_trans q2 ⟨f, hf⟩, by omega, by omega⟩
  · obtain ⟨q, q1, q2, q3⟩ := pr_divisor f f2
    have : q * q ≤ e * f := Nat.mul_le_mul (by omega) q3
    exact ⟨q, q1, Nat.dvd_trans q2 ⟨e, by rw [hf, Nat.mul_comm]⟩, by omega, by omega⟩

/-- No prime below d divides: nothing below d divides. -/
theorem noDiv_of_pr {r d : Nat} (h : ∀ q, Pr q → q < d → ¬ q ∣ r) : NoDiv r d := by
  intro e e1 e2 he
  obtain ⟨q, q1, q2, q3⟩ := pr_divisor e e1
  exact h q q1 (by omega) (Nat.dvd_trans q2 he)

noncomputable def prB (p : Nat) : Bool := @decide (Pr p) (Classical.propDecidable _)
theorem prB_true {p : Nat} : prB p = true ↔ Pr p := ⟨@of_decide_eq_true _ (Classical.propDecidable _), @decide_eq_true _ (Classical.propDecidable _)⟩
theorem prB_false {p : Nat} (h : ¬ Pr p) : prB p = false := @decide_eq_false _ (Classical.propDecidable _) h
/-- The primes below d. -/
noncomputable def prs (d : Nat) : List Nat := (List.range d).filter prB
theorem prs_yes {p : Nat} (h : Pr p) : prs (p + 1) = prs p ++ [p] := by simp [prs, List.range_succ, List.filter_append, prB_true.2 h]
theorem prs_no {p : Nat} (h : ¬ Pr p) : prs (p + 1) = prs p := by simp [prs, List.range_succ, List.filter_append, prB_false h]
theorem prs_mem {d q : Nat} : q ∈ prs d ↔ q < d ∧ Pr q := by simp [prs, prB_true]
theorem prs_sorted (d : Nat) : ∀ i j (hi : i < (prs d).length) (hj : j < (prs d).length), i < j → (prs d)[i] < (prs d)[j] :=
  List.pairwise_iff_getElem.1 (List.Pairwise.filter _ List.pairwise_lt_range)
theorem prs_length (d : Nat) : (prs d).length ≤ d := Nat.le_trans (List.length_filter_le _ _) (by simp)

/-- The next prime of the list: all smaller primes stand before it. -/
theorem prs_before {d j q : Nat} (hj : j < (prs d).length) (hq : Pr q) (hlt : q < (prs d)[j]) : ∃ i, ∃ h : i < (prs d).length, i < j ∧ (prs d)[i] = q := by
  have hm : (prs d)[j] < d := (prs_mem.1 (List.getElem_mem hj)).1
  obtain ⟨i, hi, e⟩ := List.getElem_of_mem (prs_mem.2 ⟨(by omega : q < d), hq⟩)
  refine ⟨i, hi, ?_, e⟩
  by_cases l : i < j
  · exact l
  · by_cases e' : i = j
    · subst e'; omega
    · have := prs_sorted d j i hj hi (by omega); omega
end Go.Proofs.Ytocjdjgfadaljaa
