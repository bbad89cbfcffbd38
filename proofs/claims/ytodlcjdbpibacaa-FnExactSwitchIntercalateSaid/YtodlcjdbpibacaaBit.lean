/- Bits of numbers, and sets as rising lists. Mathematics alone. -/
import Derived.Test.YtodlcjdbpibacaaPut
import Derived.Test.YtodlcjdbpibacaaSet2
namespace Go.Proofs.Ytodlcjdbpibacaa
open Go.RowKit
set_option linter.unusedVariables false

/-! ### Lists of the numbers below q that pass a test -/
def updC (c : Nat → Bool) (i : Nat) (v : Bool) : Nat → Bool := fun j => if j = i then v else c j
def fls (q : Nat) (P : Nat → Bool) : List Int := ((List.range q).filter P).map (fun n : Nat => (n : Int))
theorem fls_succ (q : Nat) (P : Nat → Bool) : fls (q + 1) P = fls q P ++ if P q then [(q : Int)] else [] := by
  unfold fls
  rw [List.range_succ, List.filter_append, List.map_append]
  congr 1
  by_cases h : P q = true
  · rw [if_pos h, List.filter_cons_of_pos h]; rfl
  · rw [if_neg h, List.filter_cons_of_neg h]; rfl
theorem fls_congr (q : Nat) (P R : Nat → Bool) (h : ∀ n, n < q → P n = R n) : fls q P = fls q R := by
  unfold fls
  congr 1
  exact List.filter_congr (fun n hn => by rw [h n (List.mem_range.1 hn)])
theorem fls_len (q : Nat) (P : Nat → Bool) : (fls q P).length ≤ q := by
  unfold fls
  rw [List.length_map]
  exact Nat.le_trans (List.length_filter_le _ _) (by simp)
theorem fls_mem (q : Nat) (P : Nat → Bool) (z : Int) : z ∈ fls q P ↔ ∃ n : Nat, n < q ∧ P n = true ∧ z = n := by
  unfold fls
  simp only [List.mem_map, List.mem_filter, List.mem_range]
  constructor
  · rintro ⟨n, ⟨h1, h2⟩, h3⟩; exact ⟨n, h1, h2, h3.symm⟩
  · rintro ⟨n, h1, h2, h3⟩; exact ⟨n, ⟨h1, h2⟩, h3.symm⟩
theorem fls_sorted (P : Nat → Bool) : ∀ q, (fls q P).Pairwise (· < ·)
  | 0 => List.Pairwise.nil
  | q + 1 => by
    rw [fls_succ]
    refine List.pairwise_append.2 ⟨fls_sorted P q, ?_, fun a ha b hb => ?_⟩
    · split
      · exact List.pairwise_singleton _ _
      · exact List.Pairwise.nil
    · obtain ⟨n, h1, -, rfl⟩ := (fls_mem q P a).1 ha
      split at hb
      · simp at hb; omega
      · simp at hb
/-- Rising lists with the same members are the same. -/
theorem sorted_ext : ∀ xs ys : List Int, xs.Pairwise (· < ·) → ys.Pairwise (· < ·) → (∀ z, z ∈ xs ↔ z ∈ ys) → xs = ys
  | [], [], _, _, _ => rfl
  | [], y :: ys, _, _, h => by have := (h y).2 (List.mem_cons_self ..); simp at this
  | x :: xs, [], _, _, h => by have := (h x).1 (List.mem_cons_self ..); simp at this
  | x :: xs, y :: ys, hx, hy, h => by
    rw [List.pairwise_cons] at hx hy
    have e : x = y := by
      rcases List.mem_cons.1 ((h x).1 (List.mem_cons_self ..)) with e | e
      · exact e
      · rcases List.mem_cons.1 ((h y).2 (List.mem_cons_self ..)) with e' | e'
        · exact e'.symm
        · have a := hy.1 x e; have b := hx.1 y e'; omega
    subst e
    have := sorted_ext xs ys hx.2 hy.2 (fun z => by
      constructor
      · intro hz
        rcases List.mem_cons.1 ((h z).1 (List.mem_cons_of_mem _ hz)) with e | e
        · have := hx.1 z hz; omega
        · exact e
      · intro hz
        rcases List.mem_cons.1 ((h z).2 (List.mem_cons_of_mem _ hz)) with e | e
        · have := hy.1 z hz; omega
        · exact e)
    rw [this]
theorem rises_sorted {lo hi : Int} {xs : List Int} (h : Rises lo hi xs) : xs.Pairwise (· < ·) := by
  rw [List.pairwise_iff_getElem]
  have key : ∀ d i, ∀ hj : i + d + 1 < xs.length, xs[i]'(by omega) < xs[i + d + 1] := by
    intro d
    induction d with
    | zero =>
      intro i hj
      have := (h (i + 1) (by omega)).2.2 (by omega)
      rw [Nat.add_sub_cancel] at this
      rw [List.getD_eq_getElem?_getD, List.getD_eq_getElem?_getD, List.getElem?_eq_getElem (by omega : i < xs.length), List.getElem?_eq_getElem (by omega : i + 1 < xs.length)] at this
      exact this
    | succ d ih =>
      intro i hj
      have a := ih i (by omega)
      have b := (h (i + d + 1 + 1) (by omega)).2.2 (by omega)
      rw [Nat.add_sub_cancel] at b
      rw [List.getD_eq_getElem?_getD, List.getD_eq_getElem?_getD, List.getElem?_eq_getElem (by omega : i + d + 1 < xs.length), List.getElem?_eq_getElem (by omega : i + d + 1 + 1 < xs.length)] at b
      have b' : xs[i + d + 1]'(by omega) < xs[i + d + 1 + 1]'(by omega) := b
      have e : i + (d + 1) + 1 = i + d + 1 + 1 := by omega
      simp only [e]
      omega
  intro i j hi hj hij
  have := key (j - i - 1) i (by omega)
  have e : i + (j - i - 1) + 1 = j := by omega
  simp only [e] at this
  exact this
theorem rises_mem {lo hi : Int} {xs : List Int} (h : Rises lo hi xs) : ∀ z ∈ xs, lo ≤ z ∧ z ≤ hi := by
  intro z hz
  obtain ⟨i, hi', rfl⟩ := List.getElem_of_mem hz
  have := h i hi'
  rw [okAt, List.getD_eq_getElem?_getD, List.getElem?_eq_getElem hi'] at this
  exact ⟨this.1, this.2.1⟩
/-- A set is the list of its numbers. -/
theorem set_fls {xs : List Int} (h : Rises 0 31 xs) : xs = fls 32 (fun n => decide ((n : Int) ∈ xs)) := by
  refine sorted_ext _ _ (rises_sorted h) (fls_sorted _ _) fun z => ?_
  rw [fls_mem]
  constructor
  · intro hz
    have := rises_mem h z hz
    exact ⟨z.toNat, by omega, by rw [decide_eq_true_eq, show ((z.toNat : Nat) : Int) = z by omega]; exact hz, by omega⟩
  · rintro ⟨n, h1, h2, rfl⟩
    exact of_decide_eq_true h2
theorem put_fls (n : Nat) (P : Nat → Bool) (q : Nat) (h : n < q) : put (fls q P) n = fls q (updC P n true) := by
  have key : ∀ (xs : List Int) (n : Int), xs.Pairwise (· < ·) → (put xs n).Pairwise (· < ·) ∧ ∀ z, z ∈ put xs n ↔ z = n ∨ z ∈ xs := by
    intro xs n
    induction xs with
    | nil => intro _; exact ⟨List.pairwise_singleton _ _, fun z => by simp [put]⟩
    | cons x xs ih =>
      intro hs
      rw [List.pairwise_cons] at hs
      obtain ⟨i1, i2⟩ := ih hs.2
      rw [put]
      split
      · rename_i c
        refine ⟨List.pairwise_cons.2 ⟨fun z hz => ?_, i1⟩, fun z => ?_⟩
        · rcases (i2 z).1 hz with e | e
          · omega
          · exact hs.1 z e
        · rw [List.mem_cons, i2, List.mem_cons]
          constructor
          · rintro (h | h | h) <;> simp [h]
          · rintro (h | h | h) <;> simp [h]
      · split
        · rename_i c1 c2
          refine ⟨List.pairwise_cons.2 ⟨hs.1, hs.2⟩, fun z => ?_⟩
          rw [List.mem_cons]
          constructor
          · intro h; exact .inr h
          · rintro (h | h)
            · exact .inl (by omega)
            · exact h
        · rename_i c1 c2
          refine ⟨List.pairwise_cons.2 ⟨fun z hz => ?_, List.pairwise_cons.2 ⟨hs.1, hs.2⟩⟩, fun z => by rw [List.mem_cons]⟩
          rcases List.mem_cons.1 hz with e | e
          · omega
          · have := hs.1 z e; omega
  obtain ⟨a, b⟩ := key (fls q P) n (fls_sorted P q)
  refine sorted_ext _ _ a (fls_sorted _ _) fun z => ?_
  rw [b, fls_mem, fls_mem]
  constructor
  · rintro (rfl | ⟨m, h1, h2, rfl⟩)
    · exact ⟨n, h, by unfold updC; rw [if_pos rfl], rfl⟩
    · exact ⟨m, h1, by unfold updC; split <;> simp [h2], rfl⟩
  · rintro ⟨m, h1, h2, rfl⟩
    unfold updC at h2
    by_cases e : m = n
    · exact .inl (by rw [e])
    · rw [if_neg e] at h2
      exact .inr ⟨m, h1, h2, rfl⟩

/-! ### The lowest bit -/
theorem low_div {x b : Nat} (hb : x.testBit b = true) (hl : ∀ i, i < b → x.testBit i = false) : x = 2 ^ b * (x / 2 ^ b) ∧ (x / 2 ^ b) % 2 = 1 := by
  have h0 : x % 2 ^ b = 0 := by
    apply Nat.eq_of_testBit_eq
    intro i
    rw [Nat.testBit_mod_two_pow, Nat.zero_testBit]
    by_cases c : i < b
    · rw [hl i c]; simp
    · simp [c]
  refine ⟨by have := Nat.div_add_mod x (2 ^ b); omega, ?_⟩
  have := Nat.testBit_div_two_pow (x := x) (n := b) (i := 0)
  rw [Nat.zero_add, hb] at this
  simpa [Nat.testBit_zero] using this
theorem pred_bits {x b : Nat} (hb : x.testBit b = true) (hl : ∀ i, i < b → x.testBit i = false) : (x - 1).testBit b = false ∧ ∀ i, b < i → (x - 1).testBit i = x.testBit i := by
  obtain ⟨h1, h2⟩ := low_div hb hl
  obtain ⟨q, hq⟩ : ∃ q, x / 2 ^ b = q := ⟨_, rfl⟩
  rw [hq] at h1 h2
  have hp : 0 < 2 ^ b := Nat.two_pow_pos b
  have e : (x - 1) / 2 ^ b = q - 1 := by
    have : x - 1 = 2 ^ b - 1 + 2 ^ b * (q - 1) := by
      have e1 : 2 ^ b * q = 2 ^ b * (q - 1) + 2 ^ b := by
        rw [← Nat.mul_succ]; congr 1; omega
      omega
    rw [this, Nat.add_mul_div_left _ _ hp, Nat.div_eq_of_lt (by omega), Nat.zero_add]
  have hb1 : ∀ i, (x - 1).testBit (i + b) = (q - 1).testBit i := fun i => by rw [← e, Nat.testBit_div_two_pow]
  have hb2 : ∀ i, x.testBit (i + b) = q.testBit i := fun i => by rw [← hq, Nat.testBit_div_two_pow]
  refine ⟨?_, fun i hi => ?_⟩
  · have := hb1 0
    rw [Nat.zero_add] at this
    rw [this, Nat.testBit_zero]
    simp; omega
  · obtain ⟨d, rfl⟩ : ∃ d, i = (d + 1) + b := ⟨i - b - 1, by omega⟩
    rw [hb1, hb2, Nat.testBit_succ, Nat.testBit_succ]
    congr 1; omega
theorem low_and {x b : Nat} (hx : x < 2 ^ 32) (hb : x.testBit b = true) (hl : ∀ i, i < b → x.testBit i = false) : x &&& (2 ^ 32 - x) = 2 ^ b := by
  obtain ⟨p1, p2⟩ := pred_bits hb hl
  have hb32 : b < 32 := by
    have := Nat.ge_two_pow_of_testBit hb
    exact (Nat.pow_lt_pow_iff_right (by omega : 1 < 2)).1 (by omega)
  have h0 : 1 ≤ x := by
    have := Nat.ge_two_pow_of_testBit hb
    have := Nat.two_pow_pos b
    omega
  apply Nat.eq_of_testBit_eq
  intro i
  rw [Nat.testBit_and, Nat.testBit_two_pow, show 2 ^ 32 - x = 2 ^ 32 - ((x - 1) + 1) by omega, Nat.testBit_two_pow_sub_succ (by omega)]
  rcases Nat.lt_trichotomy i b with c | c | c
  · rw [hl i c, Bool.false_and, decide_eq_false (by omega : ¬ b = i)]
  · subst c
    rw [hb, p1, decide_eq_true hb32, decide_eq_true rfl]; rfl
  · rw [p2 i c, decide_eq_false (by omega : ¬ b = i)]
    cases x.testBit i <;> simp
/-- The lowest bit of a number that is not zero. -/
theorem low_ex {x : Nat} (h : x ≠ 0) : ∃ b, x.testBit b = true ∧ ∀ i, i < b → x.testBit i = false := by
  obtain ⟨n, hn⟩ := Nat.exists_testBit_of_ne_zero h
  have key : ∀ n, x.testBit n = true → ∃ b, x.testBit b = true ∧ ∀ i, i < b → x.testBit i = false := by
    intro n
    induction n using Nat.strongRecOn with
    | _ n ih =>
      intro hn
      by_cases c : ∃ i, i < n ∧ x.testBit i = true
      · obtain ⟨i, h1, h2⟩ := c
        exact ih i h1 h2
      · refine ⟨n, hn, fun i hi => ?_⟩
        cases e : x.testBit i with
        | false => rfl
        | true => exact absurd ⟨i, hi, e⟩ c
  exact key n hn
theorem bit_lt {x b : Nat} (hx : x < 2 ^ 32) (hb : x.testBit b = true) : b < 32 := by
  have := Nat.ge_two_pow_of_testBit hb
  exact (Nat.pow_lt_pow_iff_right (by omega : 1 < 2)).1 (by omega)
theorem bits_ext {x : Nat} (h : ∀ i, x.testBit i = false) : x = 0 := by
  apply Nat.eq_of_testBit_eq
  intro i
  rw [h i, Nat.zero_testBit]
end Go.Proofs.Ytodlcjdbpibacaa
