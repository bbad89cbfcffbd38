/- Transversals: the numbers. -/
import Derived.Test.YtkonddifmonkcaaSyc
import Derived.Test.YtkonddifmonkcaaRds
namespace Go.Proofs.Ytkonddifmonkcaa
open Go.RowKit Go.Shelf
set_option linter.unusedVariables false

/-- The symbols of the first rows in given columns. -/
def symsL (xss : List (List Int)) (cs : List Int) (x : Nat) : List Int := (List.range x).map fun k => cellF xss k (cs.getD k 0).toNat
theorem symsL_length (xss : List (List Int)) (cs : List Int) (x : Nat) : (symsL xss cs x).length = x := by simp [symsL]
theorem symsL_succ (xss : List (List Int)) (cs : List Int) (x : Nat) : symsL xss cs (x + 1) = symsL xss cs x ++ [cellF xss x (cs.getD x 0).toNat] := by simp [symsL, List.range_succ]
theorem symsL_getD {xss : List (List Int)} {cs : List Int} {x k : Nat} (h : k < x) : (symsL xss cs x).getD k 0 = cellF xss k (cs.getD k 0).toNat := by simp [symsL, List.getD, h]
noncomputable def IsTransversal_0 (xss : List (List Int)) (cs : List Int) : Bool := sqB xss && (rpB xss.length cs && pmB (symsL xss cs xss.length))
/-- A list of numbers below n that has them all is a permutation, and the other way round. -/
theorem pm_of_all {r : List Int} {n : Nat} (hl : r.length = n) (h32 : n ≤ 32) (hr : ∀ i, i < n → 0 ≤ r.getD i 0 ∧ r.getD i 0 < n) (hall : ∀ i : Nat, i < n → (i : Int) ∈ r) : pmB r = true := by
  have key : ∀ a b : Nat, a < b → b < n → r.getD a 0 ≠ r.getD b 0 := by
    intro a b hab hb e
    have sub : (List.range n).map (fun i : Nat => (i : Int)) ⊆ r.take b ++ r.drop (b + 1) := by
      intro z hz
      obtain ⟨i, hi, rfl⟩ := List.mem_map.1 hz
      obtain ⟨p, hp, ep⟩ := List.getElem_of_mem (hall i (List.mem_range.1 hi))
      have at_ : ∀ q, q < b → r.getD q 0 ∈ r.take b ++ r.drop (b + 1) := fun q hq => by
        refine List.mem_append_left _ ?_
        have ht : q < (r.take b).length := by rw [List.length_take]; omega
        have : (r.take b)[q] = r.getD q 0 := by simp [List.getD, List.getElem?_eq_getElem (show q < r.length by omega)]
        rw [← this]
        exact List.getElem_mem ht
      have gp : r.getD p 0 = (i : Int) := by rw [← ep]; simp [List.getD, List.getElem?_eq_getElem hp]
      rcases Nat.lt_trichotomy p b with c | c | c
      · rw [← gp]; exact at_ p c
      · rw [← gp, c, ← e]; exact at_ a hab
      · refine List.mem_append_right _ ?_
        have ht : p - (b + 1) < (r.drop (b + 1)).length := by rw [List.length_drop]; omega
        have : (r.drop (b + 1))[p - (b + 1)] = r[p] := by
          rw [List.getElem_drop]
          congr 1
          omega
        rw [← ep, ← this]
        exact List.getElem_mem ht
    have nd : ((List.range n).map (fun i : Nat => (i : Int))).Nodup := by
      rw [List.nodup_iff_pairwise_ne, List.pairwise_map]
      exact (List.nodup_iff_pairwise_ne.1 List.nodup_range).imp (fun h k => h (by omega))
    have := nd.length_le_of_subset sub
    rw [List.length_map, List.length_range, List.length_append, List.length_take, List.length_drop] at this
    omega
  refine pmB_true ⟨by omega, fun i hi => ⟨(hr i (by omega)).1, by have := (hr i (by omega)).2; omega, fun hm => ?_⟩⟩
  obtain ⟨p, hp, ep⟩ := List.getElem_of_mem hm
  rw [List.length_take] at hp
  have : r.getD p 0 = r.getD i 0 := by
    rw [← ep]
    simp [List.getD, List.getElem?_eq_getElem (show p < r.length by omega)]
  exact key p i (by omega) (by omega) this
/-- What bits say of a list. -/
def BitsOf (xs : List Int) (s : Nat) : Prop := s < 4294967296 ∧ ∀ n : Nat, s.testBit n = decide ((n : Int) ∈ xs)
theorem BitsOf.nil : BitsOf [] 0 := ⟨by omega, fun n => by simp⟩
theorem BitsOf.snoc {xs : List Int} {s z t : Nat} (h : BitsOf xs s) (hz : z < 4294967296) (e : ∀ i, z.testBit i = (s.testBit i || (2 ^ t).testBit i)) : BitsOf (xs ++ [(t : Int)]) z := by
  refine ⟨hz, fun n => ?_⟩
  rw [e, h.2, Nat.testBit_two_pow]
  by_cases c : t = n
  · subst c; simp
  · have : ¬ (n : Int) = t := by omega
    simp [c, this]
theorem bits_full {r : List Int} {n s : Nat} (hl : r.length = n) (h32 : n ≤ 10) (hr : ∀ i, i < n → 0 ≤ r.getD i 0 ∧ r.getD i 0 < n) (h : BitsOf r s) : (s == 2 ^ n - 1) = pmB r := by
  have bf : ∀ i, (2 ^ n - 1).testBit i = decide (i < n) := fun i => Nat.testBit_two_pow_sub_one n i
  cases hp : pmB r with
  | true =>
    have : s = 2 ^ n - 1 := Nat.eq_of_testBit_eq fun i => by
      rw [h.2, bf]
      by_cases c : i < n
      · obtain ⟨p, hp', e⟩ := pm_surj hl hp (s := (i : Int)) (by omega) (by omega)
        rw [decide_eq_true c]
        refine decide_eq_true ?_
        rw [← e]
        have : r.getD p 0 = r[p]'(by omega) := by simp [List.getD, List.getElem?_eq_getElem (show p < r.length by omega)]
        rw [this]
        exact List.getElem_mem _
      · rw [decide_eq_false c]
        refine decide_eq_false fun hm => ?_
        obtain ⟨p, hp', e⟩ := List.getElem_of_mem hm
        have := hr p (by omega)
        have e2 : r.getD p 0 = r[p]'(by omega) := by simp [List.getD, List.getElem?_eq_getElem (show p < r.length by omega)]
        rw [e2, e] at this
        omega
    rw [this]; simp
  | false =>
    have : ¬ s = 2 ^ n - 1 := fun e => by
      have := pm_of_all hl (by omega) hr (fun i hi => by
        have := h.2 i
        rw [e, bf, decide_eq_true hi] at this
        exact of_decide_eq_true this.symm)
      rw [this] at hp; cases hp
    simp [this]
end Go.Proofs.Ytkonddifmonkcaa
