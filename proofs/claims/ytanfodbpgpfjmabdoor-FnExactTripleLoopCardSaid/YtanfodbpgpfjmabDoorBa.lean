/- Arrays of bools of the call's own, in a block of whatever type. -/
import Derived.Test.YtanfodbpgpfjmabDoorLim
namespace Go.Proofs.YtanfodbpgpfjmabDoor
open Go.RowKit
set_option linter.unusedVariables false

def bar (n : Nat) (c : Nat → Bool) : Array Value := ((List.range n).map (fun i => Value.bool (c i))).toArray
theorem bar_get (n : Nat) (c : Nat → Bool) (i : Nat) (h : i < n) : (bar n c)[i]? = some (.bool (c i)) := by simp [bar, h]
def updB (c : Nat → Bool) (i : Nat) (v : Bool) : Nat → Bool := fun j => if j = i then v else c j
theorem bar_set (n : Nat) (c : Nat → Bool) (i : Nat) (v : Bool) : (bar n c).setIfInBounds i (.bool v) = bar n (updB c i v) := by
  apply Array.ext_getElem?
  intro j
  rw [Array.getElem?_setIfInBounds]
  by_cases hj : j < n
  · rw [bar_get n (updB c i v) j hj]
    by_cases e : i = j
    · subst e
      have hs : i < (bar n c).size := by simp [bar, hj]
      rw [if_pos rfl, if_pos hs]; unfold updB; rw [if_pos rfl]
    · rw [if_neg e, bar_get n c j hj]
      unfold updB
      rw [if_neg (fun h => e h.symm)]
  · have h1 : (bar n c).size = n := by simp [bar]
    have h2 : (bar n (updB c i v)).size = n := by simp [bar]
    rw [Array.getElem?_eq_none (by omega : (bar n (updB c i v)).size ≤ j)]
    split
    · rw [if_neg (by omega)]
    · exact Array.getElem?_eq_none (by omega)
/-- Block g is an array of q bools, of the type T. -/
def Ba (w : World) (T : TypeId) (g q : Nat) (c : Nat → Bool) : Prop := w.heap[g]? = some (.cells (bar q c) T (0, 0))
theorem Ba.cell {w : World} {T : TypeId} {g q : Nat} {c : Nat → Bool} (h : Ba w T g q c) (i : Nat) (hi : i < q) : w.cell? ⟨g, i, none⟩ = some (.bool (c i)) := by
  rw [cell_of_row w g i _ _ _ h, bar_get q c i hi]
theorem Ba.frozen {w : World} {T : TypeId} {g q : Nat} {c : Nat → Bool} (h : Ba w T g q c) (i : Nat) : w.frozen? ⟨g, i, none⟩ = false := frozen_of_row w g i _ _ h
theorem Ba.set {w : World} {T : TypeId} {g q : Nat} {c : Nat → Bool} (h : Ba w T g q c) (i : Nat) (v : Bool) : Ba (w.setCell ⟨g, i, none⟩ (.bool v)) T g q (updB c i v) := by
  unfold Ba
  rw [heap_setCell_same w g i _ _ _ h, bar_set]
theorem Ba.lt {w : World} {T : TypeId} {g q : Nat} {c : Nat → Bool} (h : Ba w T g q c) : g < w.heap.size := by
  unfold Ba at h; exact (Array.getElem?_eq_some_iff.1 h).1
theorem Ba.below {w w' : World} {T : TypeId} {g q : Nat} {c : Nat → Bool} {B : Nat} (h : Ba w T g q c) (hb : Below B w w') (hg : g < B) : Ba w' T g q c := (hb.block g hg).trans h
theorem Ba.drewN {w : World} {T : TypeId} {g q : Nat} {c : Nat → Bool} (h : Ba w T g q c) (n : Nat) : Ba (w.drewN n) T g q c := h
theorem Ba.congr {w : World} {T : TypeId} {g q : Nat} {c d : Nat → Bool} (h : Ba w T g q c) (e : ∀ i, i < q → c i = d i) : Ba w T g q d := by
  have : bar q c = bar q d := by
    apply Array.ext_getElem?
    intro j
    by_cases hj : j < q
    · rw [bar_get q c j hj, bar_get q d j hj, e j hj]
    · rw [Array.getElem?_eq_none (by simp [bar]; omega), Array.getElem?_eq_none (by simp [bar]; omega)]
  unfold Ba at h ⊢
  rw [← this]; exact h
/-- Which numbers occur in a list. -/
def inL (xs : List Int) : Nat → Bool := fun i => decide ((i : Int) ∈ xs)
theorem inL_snoc {xs : List Int} {x : Int} {t : Nat} (e : x = t) : updB (inL xs) t true = inL (xs ++ [x]) := by
  funext i
  unfold updB inL
  by_cases h : i = t
  · subst h; simp [e]
  · rw [if_neg h]
    have : ¬ (i : Int) = x := by omega
    simp [this]
theorem inL_nil : inL [] = fun _ => false := by funext i; simp [inL]
end Go.Proofs.YtanfodbpgpfjmabDoor
