/- Each field has a primitive element: what follows. Mathematics alone. -/
import Derived.Test.YtmlcdbjibngnkaaTg
namespace Go.Proofs.Ytmlcdbjibngnkaa
open Go.RowKit
set_option linter.unusedVariables false

theorem php_t (m : Nat) : ∀ f : Nat → Nat, (∀ i, i ≤ m → f i < m) → ∃ i j, i < j ∧ j ≤ m ∧ f i = f j := by
  induction m with
  | zero => intro f h; exact absurd (h 0 (Nat.le_refl _)) (by omega)
  | succ m ih =>
    intro f h
    by_cases hx : ∃ i, i ≤ m ∧ f i = f (m + 1)
    · obtain ⟨i, hi, e⟩ := hx
      exact ⟨i, m + 1, by omega, Nat.le_refl _, e⟩
    · have hn : ∀ i, i ≤ m → f i ≠ f (m + 1) := fun i hi e => hx ⟨i, hi, e⟩
      obtain ⟨i, j, h1, h2, h3⟩ := ih (fun i => if f i = m then f (m + 1) else f i) (fun i hi => by
        have a1 := h i (by omega)
        have a2 := h (m + 1) (Nat.le_refl _)
        have a3 := hn i hi
        show (if f i = m then f (m + 1) else f i) < m
        split <;> omega)
      refine ⟨i, j, h1, by omega, ?_⟩
      have a3 := hn i (by omega)
      have a4 := hn j (by omega)
      change (if f i = m then f (m + 1) else f i) = (if f j = m then f (m + 1) else f j) at h3
      split at h3 <;> split at h3 <;> omega

def IsOrd (a m e : Int) : Prop := 1 ≤ e ∧ e ≤ m ∧ a ^ e.toNat % m = 1 % m ∧ ∀ k : Nat, 1 ≤ k → (k : Int) < e → a ^ k % m ≠ 1 % m


/-- A primitive element. -/
structure Rt (p k : Nat) (f : Co) (g : Nat) : Prop where
  g1 : 1 ≤ g
  g2 : g < p ^ k
  per : pw p k f g (p ^ k - 1) = 1
  sur : ∀ y, 1 ≤ y → y < p ^ k → ∃ i, i < p ^ k - 1 ∧ pw p k f g i = y
theorem memB_iff (y : Nat) : ∀ l, memB y l = true → y ∈ l
  | [], h => by simp [memB] at h
  | x :: l, h => by
    rw [memB, Bool.or_eq_true] at h
    rcases h with h | h
    · rw [Nat.eq_of_beq_eq_true h]; exact List.mem_cons_self ..
    · exact List.mem_cons_of_mem _ (memB_iff y l h)
variable {p k : Nat} {f : Co}
theorem pws_mem (h : Fp p k f) (br : List Nat) (hl : br.length = k) (hb : ∀ j, j < k → ((br.getD j 0 : Nat) : Int) = f (k - 1 - j)) (g : Nat) (hg : g < p ^ k) (y : Nat) : ∀ n i, y ∈ pws p k br g n (pw p k f g i) → ∃ j, j < n ∧ pw p k f g (i + j) = y
  | 0, i, hm => by simp [pws] at hm
  | n + 1, i, hm => by
    rw [pws, force_eq, mulN_fm h br hl hb _ _ (pw_lt h g i) hg, List.mem_cons] at hm
    rcases hm with rfl | hm
    · exact ⟨0, by omega, rfl⟩
    · obtain ⟨j, hj, e⟩ := pws_mem h br hl hb g hg y n (i + 1) hm
      exact ⟨j + 1, by omega, by rw [← e, show i + (j + 1) = i + 1 + j by omega]⟩
theorem pwl_pw (h : Fp p k f) (br : List Nat) (hl : br.length = k) (hb : ∀ j, j < k → ((br.getD j 0 : Nat) : Int) = f (k - 1 - j)) (g : Nat) (hg : g < p ^ k) : ∀ n i, pwl p k br g n (pw p k f g i) = pw p k f g (i + n)
  | 0, i => rfl
  | n + 1, i => by
    rw [pwl, force_eq, mulN_fm h br hl hb _ _ (pw_lt h g i) hg, show fm p k f (pw p k f g i) g = pw p k f g (i + 1) from rfl, pwl_pw h br hl hb g hg n (i + 1), show i + 1 + n = i + (n + 1) by omega]
theorem rootB_rt (h : Fp p k f) (br : List Nat) (hl : br.length = k) (hb : ∀ j, j < k → ((br.getD j 0 : Nat) : Int) = f (k - 1 - j)) (hr : rootB p k br = true) : ∃ g, Rt p k f g := by
  obtain ⟨g, hg, e⟩ := anyB_iff _ _ hr
  rw [Bool.and_eq_true, Bool.and_eq_true] at e
  obtain ⟨e1, e2, e3⟩ := e
  have e4 := Nat.eq_of_beq_eq_true e2
  have e5 := pwl_pw h br hl hb g hg (p ^ k - 1) 0
  rw [show pw p k f g 0 = 1 from rfl, e4, Nat.zero_add] at e5
  refine ⟨g, Nat.le_of_ble_eq_true e1, hg, e5.symm, fun y y1 y2 => ?_⟩
  have e6 := memB_iff _ _ (allB_iff _ _ e3 (y - 1) (by omega))
  rw [show y - 1 + 1 = y by omega] at e6
  obtain ⟨j, hj, e7⟩ := pws_mem h br hl hb g hg y (p ^ k - 1) 0 e6
  rw [Nat.zero_add] at e7
  exact ⟨j, hj, e7⟩
theorem not_divB {p : Nat} (h : Pr p) : divB p = false := by
  cases hd : divB p with
  | false => rfl
  | true =>
    obtain ⟨d, h1, h2⟩ := anyB_iff _ _ hd
    rw [Bool.and_eq_true] at h2
    have h3 := Nat.le_of_ble_eq_true h2.1
    have h4 := Nat.eq_of_beq_eq_true h2.2
    exact absurd (Nat.dvd_of_mod_eq_zero h4) (h.2.2 d h3 h1)
theorem mulN_deg1 (p : Nat) (br br' : List Nat) (a b : Nat) : mulN p 1 br a b = mulN p 1 br' a b := rfl
theorem pws_deg1 (p : Nat) (br br' : List Nat) (g : Nat) : ∀ n a, pws p 1 br g n a = pws p 1 br' g n a
  | 0, _ => rfl
  | n + 1, a => by rw [pws, pws, force_eq, force_eq, mulN_deg1 p br br', pws_deg1 p br br' g n]
theorem pwl_deg1 (p : Nat) (br br' : List Nat) (g : Nat) : ∀ n a, pwl p 1 br g n a = pwl p 1 br' g n a
  | 0, _ => rfl
  | n + 1, a => by rw [pwl, pwl, force_eq, force_eq, mulN_deg1 p br br', pwl_deg1 p br br' g n]
theorem rootB_deg1 (p : Nat) (br br' : List Nat) : rootB p 1 br = rootB p 1 br' := by
  unfold rootB
  congr 1
  funext g
  rw [pws_deg1 p br br', pwl_deg1 p br br']
theorem FOk.tab {p k : Nat} {xs : List Int} (h : FOk p k xs) (n : Nat) (hn : n < p ^ k) : k = 1 ∨ tabB p k n = true := by
  have hb := h.bd
  obtain ⟨h1, h2, h3, -⟩ := h
  have hpr := (isPr_nat p (by omega) (by omega)).1 h1
  by_cases e : k = 1
  · exact .inl e
  · have h4 : p ^ 2 ≤ p ^ k := Nat.pow_le_pow_right (by omega) (by omega)
    have h5 : p ≤ 8 := by
      by_cases c : p ≤ 8
      · exact c
      · have : 9 * 9 ≤ p * p := Nat.mul_le_mul (by omega) (by omega)
        rw [Nat.pow_two] at h4
        omega
    have hk : ∀ m, k = m ∨ k < m ∨ m < k := fun m => by omega
    have hd : ∀ d, 2 ≤ d → d < p → p % d ≠ 0 := fun d d1 d2 e => hpr.2.2 d d1 d2 (Nat.dvd_of_mod_eq_zero e)
    have cs : p = 2 ∨ p = 3 ∨ p = 5 ∨ p = 7 := by
      have := hd 2
      omega
    refine .inr ?_
    rcases cs with rfl | rfl | rfl | rfl
    · have := allB_iff _ _ tab_2 k (by omega)
      rw [Bool.or_eq_true] at this
      rcases this with t | t
      · have := Nat.le_of_ble_eq_true t; omega
      · exact allB_iff _ _ t n hn
    · have h6 : k < 4 := by
        by_cases c : k < 4
        · exact c
        · have : 3 ^ 4 ≤ 3 ^ k := Nat.pow_le_pow_right (by omega) (by omega)
          omega
      have := allB_iff _ _ tab_3 k h6
      rw [Bool.or_eq_true] at this
      rcases this with t | t
      · have := Nat.le_of_ble_eq_true t; omega
      · exact allB_iff _ _ t n hn
    · have h6 : k = 2 := by
        by_cases c : k < 3
        · omega
        · have : 5 ^ 3 ≤ 5 ^ k := Nat.pow_le_pow_right (by omega) (by omega)
          omega
      subst h6
      exact allB_iff _ _ tab_5 n hn
    · have h6 : k = 2 := by
        by_cases c : k < 3
        · omega
        · have : 7 ^ 3 ≤ 7 ^ k := Nat.pow_le_pow_right (by omega) (by omega)
          omega
      subst h6
      exact allB_iff _ _ tab_7 n hn
theorem has_root {p k : Nat} {xs : List Int} (h : FOk p k xs) : ∃ g, Rt p k (cofs xs) g := by
  have hF := Fp.of h
  have hb := h.bd
  obtain ⟨n, hn, e⟩ := low_digits h
  have hrev : ∀ j, j < k → (((dgL p k n).reverse.getD j 0 : Nat) : Int) = cofs xs (k - 1 - j) := fun j hj => by
    rw [rev_getD _ _ (by rw [dgL_len]; exact hj), dgL_len]
    exact e _ (by omega)
  have hi := irrL_mk h n e
  rcases h.tab n hn with rfl | t
  · have t1 := allB_iff _ _ tab_1 p (by omega)
    have hd := not_divB ((isPr_nat p (by omega) (by omega)).1 h.1)
    rw [hd, Bool.or_false, Bool.or_eq_true] at t1
    rcases t1 with t1 | t1
    · have := Nat.le_of_ble_eq_true t1; omega
    · unfold tabB at t1
      have i1 : irrL p 1 (dgL p 1 0).reverse = true := rfl
      rw [i1, Bool.not_true, Bool.false_or, rootB_deg1 p _ (dgL p 1 n).reverse] at t1
      have t2 : rootB p 1 (dgL p 1 n).reverse = true := t1
      exact rootB_rt hF _ (by rw [List.length_reverse, dgL_len]) hrev t2
  · unfold tabB at t
    rw [hi] at t
    exact rootB_rt hF _ (by rw [List.length_reverse, dgL_len]) hrev t

namespace Rt
variable {g : Nat}
theorem inj (h : Fp p k f) (r : Rt p k f g) (i j : Nat) (hi : i < p ^ k - 1) (hj : j < p ^ k - 1) (e : pw p k f g i = pw p k f g j) : i = j := by
  have key : ∀ i j, i < j → j < p ^ k - 1 → pw p k f g i = pw p k f g j → False := by
    intro i j hij hj e
    obtain ⟨L, hL⟩ : ∃ L : Nat → Nat, ∀ t, t < p ^ k - 1 → L t < p ^ k - 1 ∧ pw p k f g (L t) = t + 1 :=
      ⟨fun t => if h : t < p ^ k - 1 then Classical.choose (r.sur (t + 1) (by omega) (by omega)) else 0, fun t ht => by
        simp only [dif_pos ht]
        exact Classical.choose_spec (r.sur (t + 1) (by omega) (by omega))⟩
    let a : Nat → Nat := fun t => if L t = j then i else L t
    let b : Nat → Nat := fun t => if j < a t then a t - 1 else a t
    have ha : ∀ t, t < p ^ k - 1 → a t < p ^ k - 1 ∧ a t ≠ j ∧ pw p k f g (a t) = t + 1 := fun t ht => by
      have := hL t ht
      show (if L t = j then i else L t) < _ ∧ (if L t = j then i else L t) ≠ j ∧ pw p k f g (if L t = j then i else L t) = t + 1
      split
      · rename_i c
        rw [e, ← c]
        exact ⟨by omega, by omega, this.2⟩
      · rename_i c
        exact ⟨this.1, c, this.2⟩
    obtain ⟨s, t, h1, h2, h3⟩ := php_t (p ^ k - 1 - 1) b (fun t ht => by
      have := ha t (by omega)
      show (if j < a t then a t - 1 else a t) < _
      split <;> omega)
    have hs := ha s (by omega)
    have ht := ha t (by omega)
    have h4 : a s = a t := by
      have h3' : (if j < a s then a s - 1 else a s) = (if j < a t then a t - 1 else a t) := h3
      split at h3' <;> split at h3' <;> omega
    rw [h4, ht.2.2] at hs
    omega
  rcases Nat.lt_trichotomy i j with c | c | c
  · exact (key i j c hj e).elim
  · exact c
  · exact (key j i c hi e.symm).elim
theorem pos (h : Fp p k f) (r : Rt p k f g) (i : Nat) : 1 ≤ pw p k f g i := by
  have hq := q_big h
  by_cases c : pw p k f g i = 0
  · have e1 : pw p k f g (i + ((p ^ k - 1) * (i + 1) - i)) = 0 := by rw [pw_add h g r.g2, c, fm_zero h _ (pw_lt h g _)]
    have h1 : 1 * (i + 1) ≤ (p ^ k - 1) * (i + 1) := Nat.mul_le_mul_right _ (by omega)
    rw [show i + ((p ^ k - 1) * (i + 1) - i) = (p ^ k - 1) * (i + 1) by omega, pw_mul h g r.g2, r.per] at e1
    have e2 : ∀ n, pw p k f 1 n = 1 := fun n => by
      induction n with
      | zero => rfl
      | succ n ih => rw [pw, ih]; exact fm_one h 1 hq
    rw [e2] at e1
    omega
  · omega
theorem one (h : Fp p k f) : ∀ n, pw p k f 1 n = 1
  | 0 => rfl
  | n + 1 => by rw [pw, one h n]; exact fm_one h 1 (q_big h)
/-- Fermat. -/
theorem fermat (h : Fp p k f) (r : Rt p k f g) (a : Nat) (h1 : 1 ≤ a) (h2 : a < p ^ k) : pw p k f a (p ^ k - 1) = 1 := by
  obtain ⟨i, hi, rfl⟩ := r.sur a h1 h2
  rw [← pw_mul h g r.g2, Nat.mul_comm, pw_mul h g r.g2, r.per, one h]
theorem pos' (h : Fp p k f) (r : Rt p k f g) (a : Nat) (h1 : 1 ≤ a) (h2 : a < p ^ k) (n : Nat) : 1 ≤ pw p k f a n := by
  obtain ⟨i, hi, rfl⟩ := r.sur a h1 h2
  rw [← pw_mul h g r.g2]
  exact r.pos h _
end Rt
end Go.Proofs.Ytmlcdbjibngnkaa
