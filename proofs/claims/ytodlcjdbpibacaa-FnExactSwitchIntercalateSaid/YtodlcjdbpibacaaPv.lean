/- Permutations: what the functions answer. -/
import Derived.Test.YtodlcjdbpibacaaPm
namespace Go.Proofs.Ytodlcjdbpibacaa
open Go.RowKit
set_option linter.unusedVariables false

noncomputable def ValidPermutation_0 (xs : List Int) : Bool := pmB xs
def IdentityPermutation_0 (n : Int) : List Int := if 0 ≤ n ∧ n ≤ 32 then oneL n.toNat else []
def IdentityPermutation_1 (n : Int) : Int := if 0 ≤ n ∧ n ≤ 32 then 0 else 2
theorem Identity_in {n : Int} (h : 0 ≤ n ∧ n ≤ 32) : IdentityPermutation_0 n = oneL n.toNat ∧ IdentityPermutation_1 n = 0 := by unfold IdentityPermutation_0 IdentityPermutation_1; rw [if_pos h, if_pos h]; exact ⟨rfl, rfl⟩
theorem Identity_out {n : Int} (h : ¬ (0 ≤ n ∧ n ≤ 32)) : IdentityPermutation_0 n = [] ∧ IdentityPermutation_1 n = 2 := by unfold IdentityPermutation_0 IdentityPermutation_1; rw [if_neg h, if_neg h]; exact ⟨rfl, rfl⟩
theorem lenIdentityPermutation_0 (n : Int) (hn : I64 n) : (IdentityPermutation_0 n).length ≤ 1000000 := by
  unfold IdentityPermutation_0
  split
  · rw [oneL_length]; omega
  · simp
noncomputable def Compose_0 (xs ys : List Int) : List Int := if (pmB xs && pmB ys) = true then (if xs.length = ys.length then tms xs ys else []) else []
noncomputable def Compose_1 (xs ys : List Int) : Int := if (pmB xs && pmB ys) = true then (if xs.length = ys.length then 0 else 2) else 1
theorem Compose_bad {xs ys : List Int} (h : pmB xs = false ∨ pmB ys = false) : Compose_0 xs ys = [] ∧ Compose_1 xs ys = 1 := by
  have e : ¬ (pmB xs && pmB ys) = true := by rcases h with h | h <;> simp [h]
  unfold Compose_0 Compose_1; rw [if_neg e, if_neg e]; exact ⟨rfl, rfl⟩
theorem Compose_ne {xs ys : List Int} (h1 : pmB xs = true) (h2 : pmB ys = true) (h : ¬ xs.length = ys.length) : Compose_0 xs ys = [] ∧ Compose_1 xs ys = 2 := by
  have e : (pmB xs && pmB ys) = true := by simp [h1, h2]
  unfold Compose_0 Compose_1; rw [if_pos e, if_pos e, if_neg h, if_neg h]; exact ⟨rfl, rfl⟩
theorem Compose_ok {xs ys : List Int} (h1 : pmB xs = true) (h2 : pmB ys = true) (h : xs.length = ys.length) : Compose_0 xs ys = tms xs ys ∧ Compose_1 xs ys = 0 := by
  have e : (pmB xs && pmB ys) = true := by simp [h1, h2]
  unfold Compose_0 Compose_1; rw [if_pos e, if_pos e, if_pos h, if_pos h]; exact ⟨rfl, rfl⟩
theorem lenCompose_0 (xs ys : List Int) (hx : SmallL xs) (hy : SmallL ys) : (Compose_0 xs ys).length ≤ 1000000 := by
  unfold Compose_0
  split
  · rename_i h
    simp only [Bool.and_eq_true] at h
    split
    · rw [tms_length]; have := (of_pmB h.1).1; omega
    · simp
  · simp
noncomputable def InvertPermutation_0 (xs : List Int) : List Int := if pmB xs = true then bck xs else []
noncomputable def InvertPermutation_1 (xs : List Int) : Int := if pmB xs = true then 0 else 1
theorem Invert_bad {xs : List Int} (h : pmB xs = false) : InvertPermutation_0 xs = [] ∧ InvertPermutation_1 xs = 1 := by
  have e : ¬ pmB xs = true := by simp [h]
  unfold InvertPermutation_0 InvertPermutation_1; rw [if_neg e, if_neg e]; exact ⟨rfl, rfl⟩
theorem Invert_ok {xs : List Int} (h : pmB xs = true) : InvertPermutation_0 xs = bck xs ∧ InvertPermutation_1 xs = 0 := by
  unfold InvertPermutation_0 InvertPermutation_1; rw [if_pos h, if_pos h]; exact ⟨rfl, rfl⟩
theorem lenInvertPermutation_0 (xs : List Int) (hx : SmallL xs) : (InvertPermutation_0 xs).length ≤ 1000000 := by
  unfold InvertPermutation_0
  split
  · rename_i h; rw [bck_length]; have := (of_pmB h).1; omega
  · simp
end Go.Proofs.Ytodlcjdbpibacaa
