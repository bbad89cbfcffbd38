/- l00Put: a number is put into a list. -/
import Derived.Test.YtodlcjdbpibacaaArg
namespace Go.Proofs.Ytodlcjdbpibacaa
open Go.RowKit
set_option linter.unusedVariables false

def put : List Int → Int → List Int
  | [], n => [n]
  | x :: xs, n => if x < n then x :: put xs n else if x = n then x :: xs else n :: x :: xs
theorem put_last : ∀ (xs : List Int) (n : Int), (∀ x ∈ xs, x < n) → put xs n = xs ++ [n]
  | [], n, _ => rfl
  | x :: xs, n, h => by
    rw [put, if_pos (h x (List.mem_cons_self ..)), put_last xs n (fun y hy => h y (List.mem_cons_of_mem _ hy))]; rfl
theorem put_snoc : ∀ (xs : List Int) (m n : Int), n < m → put (xs ++ [m]) n = put xs n ++ [m]
  | [], m, n, h => by
    have e : put [m] n = if m < n then m :: put [] n else if m = n then [m] else [n, m] := rfl
    show put [m] n = [n] ++ [m]
    rw [e, if_neg (by omega), if_neg (by omega)]; rfl
  | x :: xs, m, n, h => by
    show put (x :: (xs ++ [m])) n = put (x :: xs) n ++ [m]
    rw [put, put]
    split
    · rw [put_snoc xs m n h]; rfl
    · split <;> rfl
theorem put_len : ∀ (xs : List Int) (n : Int), (put xs n).length ≤ xs.length + 1
  | [], n => Nat.le_refl _
  | x :: xs, n => by
    have := put_len xs n
    rw [put]
    split
    · simp only [List.length_cons]; omega
    · split <;> simp only [List.length_cons] <;> omega
theorem put_at : ∀ (xs : List Int) (n : Int) (i : Nat), i < xs.length → (∀ t, t < i → xs.getD t 0 < n) → ¬ xs.getD i 0 < n →
    put xs n = if xs.getD i 0 = n then xs else xs.take i ++ [n] ++ xs.drop i
  | [], n, i, h, _, _ => by simp at h
  | x :: xs, n, 0, h, hb, hx => by
    have hx' : ¬ x < n := hx
    rw [put, if_neg hx']
    show (if x = n then x :: xs else n :: x :: xs) = if x = n then x :: xs else [] ++ [n] ++ (x :: xs)
    rfl
  | x :: xs, n, i + 1, h, hb, hx => by
    have h0 : x < n := hb 0 (by omega)
    have ih := put_at xs n i (by simp at h; omega) (fun t ht => hb (t + 1) (by omega)) hx
    rw [put, if_pos h0, ih]
    show (x :: if xs.getD i 0 = n then xs else xs.take i ++ [n] ++ xs.drop i) = if xs.getD i 0 = n then x :: xs else (x :: xs.take i) ++ [n] ++ xs.drop i
    split <;> rfl

def PutSt (xs : List Int) (n : Int) (i : Nat) (dn : Bool) (ys : List Int) : Prop :=
  (dn = false → ys = xs.take i ∧ ∀ t, t < i → xs.getD t 0 < n) ∧ (dn = true → ys ++ xs.drop i = put xs n) ∧ ys.length ≤ i + 1
theorem drop_getD {xs : List Int} {i : Nat} (h : i < xs.length) : xs.drop i = xs.getD i 0 :: xs.drop (i + 1) := by
  rw [List.drop_eq_getElem_cons h, List.getD_eq_getElem?_getD, List.getElem?_eq_getElem h]; rfl
theorem take_getD {xs : List Int} {i : Nat} (h : i < xs.length) : xs.take (i + 1) = xs.take i ++ [xs.getD i 0] := by
  rw [List.take_succ_eq_append_getElem h, List.getD_eq_getElem?_getD, List.getElem?_eq_getElem h]; rfl
theorem put_go {xs ys : List Int} {n : Int} {i : Nat} (h : PutSt xs n i true ys) (hi : i < xs.length) : PutSt xs n (i + 1) true (ys ++ [xs.getD i 0]) := by
  refine ⟨fun e => (by cases e), fun _ => ?_, by rw [List.length_append]; have := h.2.2; simp; omega⟩
  rw [List.append_assoc, List.singleton_append, ← drop_getD hi]; exact h.2.1 rfl
theorem put_less {xs ys : List Int} {n : Int} {i : Nat} (h : PutSt xs n i false ys) (hi : i < xs.length) (hx : xs.getD i 0 < n) : PutSt xs n (i + 1) false (ys ++ [xs.getD i 0]) := by
  obtain ⟨e, hb⟩ := h.1 rfl
  refine ⟨fun _ => ⟨by rw [e, take_getD hi], fun t ht => ?_⟩, fun e => (by cases e), by rw [List.length_append]; have := h.2.2; simp; omega⟩
  by_cases c : t = i
  · rw [c]; exact hx
  · exact hb t (by omega)
theorem put_eq {xs ys : List Int} {n : Int} {i : Nat} (h : PutSt xs n i false ys) (hi : i < xs.length) (hx : xs.getD i 0 = n) : PutSt xs n (i + 1) true (ys ++ [xs.getD i 0]) := by
  obtain ⟨e, hb⟩ := h.1 rfl
  refine ⟨fun e => (by cases e), fun _ => ?_, by rw [List.length_append]; have := h.2.2; simp; omega⟩
  rw [put_at xs n i hi hb (by omega), if_pos hx, e, List.append_assoc, List.singleton_append, ← drop_getD hi, List.take_append_drop]
theorem put_more {xs ys : List Int} {n : Int} {i : Nat} (h : PutSt xs n i false ys) (hi : i < xs.length) (hx : n < xs.getD i 0) : PutSt xs n (i + 1) true (ys ++ [n] ++ [xs.getD i 0]) := by
  obtain ⟨e, hb⟩ := h.1 rfl
  refine ⟨fun e => (by cases e), fun _ => ?_, ?_⟩
  · rw [put_at xs n i hi hb (by omega), if_neg (by omega), e, List.append_assoc (_ ++ [n]), List.singleton_append, ← drop_getD hi]
  · rw [e]; simp only [List.length_append, List.length_take, List.length_cons, List.length_nil]; omega
theorem put_end {xs ys : List Int} {n : Int} (h : PutSt xs n xs.length false ys) : ys ++ [n] = put xs n := by
  obtain ⟨e, hb⟩ := h.1 rfl
  rw [e, List.take_length, put_last]
  intro x hx
  obtain ⟨i, hi, rfl⟩ := List.getElem_of_mem hx
  have := hb i hi
  rwa [List.getD_eq_getElem?_getD, List.getElem?_eq_getElem hi] at this
theorem put_end' {xs ys : List Int} {n : Int} (h : PutSt xs n xs.length true ys) : ys = put xs n := by
  have := h.2.1 rfl
  rwa [List.drop_length, List.append_nil] at this

end Go.Proofs.Ytodlcjdbpibacaa
