/- Permutations: the model's tests and products. -/
import Derived.Test.YtdhlnagkhkcoiaaDoorLim
import Derived.Test.YtdhlnagkhkcoiaaDoorHas
namespace Go.Proofs.YtdhlnagkhkcoiaaDoor
open Go.RowKit
set_option linter.unusedVariables false

/-- A permutation, as the model tests it. -/
def okPm (xs : List Int) (i : Nat) : Prop := 0 ≤ xs.getD i 0 ∧ xs.getD i 0 ≤ (xs.length : Int) - 1 ∧ xs.getD i 0 ∉ xs.take i
def IsPm (xs : List Int) : Prop := xs.length ≤ 32 ∧ ∀ i, i < xs.length → okPm xs i
noncomputable def pmB (xs : List Int) : Bool := @decide (IsPm xs) (Classical.propDecidable _)
theorem pmB_true {xs : List Int} (h : IsPm xs) : pmB xs = true := @decide_eq_true _ (Classical.propDecidable _) h
theorem pmB_false {xs : List Int} (h : ¬ IsPm xs) : pmB xs = false := @decide_eq_false _ (Classical.propDecidable _) h
theorem of_pmB {xs : List Int} (h : pmB xs = true) : IsPm xs := @of_decide_eq_true _ (Classical.propDecidable _) h
theorem not_pmB {xs : List Int} (h : pmB xs = false) : ¬ IsPm xs := fun k => by rw [pmB_true k] at h; cases h
theorem prefix_at {w : World} {g off cap j : Nat} {xs : List Int} (hc : ∀ j, j < xs.length → w.cell? ⟨g, off + j, none⟩ = some (.int .i64 (xs.getD j 0))) (hj : j ≤ xs.length) (hl : xs.length ≤ 9223372036854775807) :
    IntsAt w (.slice (some ⟨g, off, none⟩) j cap) (xs.take j) := by
  have e : (xs.take j).length = j := by rw [List.length_take]; omega
  refine ⟨by omega, .inr ⟨g, off, cap, by rw [e], fun k hk => ?_⟩⟩
  rw [e] at hk
  rw [hc k (by omega)]
  simp [List.getD, hk]

/-- The identity. -/
def oneL (n : Nat) : List Int := (List.range n).map fun i : Nat => (i : Int)
theorem oneL_length (n : Nat) : (oneL n).length = n := by simp [oneL]
theorem oneL_succ (n : Nat) : oneL (n + 1) = oneL n ++ [(n : Int)] := by simp [oneL, List.range_succ]
theorem oneL_getD (n i : Nat) (h : i < n) : (oneL n).getD i 0 = i := by simp [oneL, List.getD, h]
/-- First p, then q. -/
def tms (ps qs : List Int) : List Int := ps.map fun x => qs.getD x.toNat 0
theorem tms_length (ps qs : List Int) : (tms ps qs).length = ps.length := by simp [tms]
theorem tms_take {ps qs : List Int} {j : Nat} (h : j < ps.length) : tms (ps.take (j + 1)) qs = tms (ps.take j) qs ++ [qs.getD (ps.getD j 0).toNat 0] := by
  unfold tms; rw [takeI_getD h]; simp
theorem part2 {w : World} {v : Value} {xs : List Int} (hv : IntsAt w v xs) : ∃ a cap, v = .slice a xs.length cap ∧ ∀ j, j < xs.length → ∃ g off, a = some ⟨g, off, none⟩ ∧ g < w.heap.size ∧ w.cell? ⟨g, off + j, none⟩ = some (.int .i64 (xs.getD j 0)) := by
  obtain ⟨_, ⟨rfl, a, cap, rfl⟩ | ⟨g, off, cap, rfl, hc⟩⟩ := hv
  · exact ⟨a, cap, rfl, fun j hj => by simp at hj⟩
  · exact ⟨_, cap, rfl, fun j hj => ⟨g, off, rfl, World.block_lt_of_cell? w _ (hc j hj), hc j hj⟩⟩
/-- The inverse, as it is written. -/
def bk (ps : List Int) : Nat → List Int
  | 0 => List.replicate ps.length 0
  | j + 1 => (bk ps j).set (ps.getD j 0).toNat j
theorem bk_length (ps : List Int) : ∀ j, (bk ps j).length = ps.length
  | 0 => by simp [bk]
  | j + 1 => by rw [bk, List.length_set, bk_length ps j]
def bck (ps : List Int) : List Int := bk ps ps.length
theorem bck_length (ps : List Int) : (bck ps).length = ps.length := bk_length _ _
end Go.Proofs.YtdhlnagkhkcoiaaDoor
