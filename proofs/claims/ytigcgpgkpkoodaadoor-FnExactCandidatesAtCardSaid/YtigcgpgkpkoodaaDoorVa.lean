/- Blocks of values of the call's own, told by a function. -/
import Derived.Test.YtigcgpgkpkoodaaDoorIa
namespace Go.Proofs.YtigcgpgkpkoodaaDoor
open Go.RowKit
set_option linter.unusedVariables false

def var (n : Nat) (V : Nat → Value) : Array Value := ((List.range n).map V).toArray
theorem var_get (n : Nat) (V : Nat → Value) (i : Nat) (h : i < n) : (var n V)[i]? = some (V i) := by simp [var, h]
theorem var_size (n : Nat) (V : Nat → Value) : (var n V).size = n := by simp [var]
theorem var_one {n : Nat} {V : Nat → Value} (h : ∀ i, i < n → (V i).oneCell' = true) : (var n V).all (·.oneCell') = true := by
  rw [Array.all_eq_true_iff_forall_mem]
  intro v hv
  unfold var at hv
  simp at hv
  obtain ⟨x, hx, rfl⟩ := hv
  exact h x hx
def updV (V : Nat → Value) (i : Nat) (v : Value) : Nat → Value := fun j => if j = i then v else V j
theorem var_set (n : Nat) (V : Nat → Value) (i : Nat) (v : Value) : (var n V).setIfInBounds i v = var n (updV V i v) := by
  apply Array.ext_getElem?
  intro j
  rw [Array.getElem?_setIfInBounds]
  by_cases hj : j < n
  · rw [var_get n (updV V i v) j hj]
    by_cases e : i = j
    · subst e
      have hs : i < (var n V).size := by rw [var_size]; exact hj
      rw [if_pos rfl, if_pos hs]; unfold updV; rw [if_pos rfl]
    · rw [if_neg e, var_get n V j hj]; unfold updV; rw [if_neg (fun h => e h.symm)]
  · have h1 := var_size n V
    have h2 := var_size n (updV V i v)
    rw [Array.getElem?_eq_none (by omega : (var n (updV V i v)).size ≤ j)]
    split
    · rw [if_neg (by omega)]
    · exact Array.getElem?_eq_none (by omega)
theorem var_congr {n : Nat} {V U : Nat → Value} (e : ∀ i, i < n → V i = U i) : var n V = var n U := by
  unfold var
  congr 1
  apply List.map_congr_left
  intro i hi
  rw [e i (List.mem_range.1 hi)]
def Va (w : World) (T : TypeId) (g q : Nat) (V : Nat → Value) : Prop := w.heap[g]? = some (.cells (var q V) T (0, 0))
section
variable {w w' : World} {T : TypeId} {g q : Nat} {V U : Nat → Value}
theorem Va.cell (h : Va w T g q V) (i : Nat) (hi : i < q) : w.cell? ⟨g, i, none⟩ = some (V i) := by
  rw [cell_of_row w g i _ _ _ h, var_get q V i hi]
theorem Va.frozen (h : Va w T g q V) (i : Nat) : w.frozen? ⟨g, i, none⟩ = false := frozen_of_row w g i _ _ h
theorem Va.set (h : Va w T g q V) (i : Nat) (v : Value) : Va (w.setCell ⟨g, i, none⟩ v) T g q (updV V i v) := by
  unfold Va
  rw [heap_setCell_same w g i _ _ _ h, var_set]
theorem Va.lt (h : Va w T g q V) : g < w.heap.size := by
  unfold Va at h; exact (Array.getElem?_eq_some_iff.1 h).1
theorem Va.below {B : Nat} (h : Va w T g q V) (hb : Below B w w') (hg : g < B) : Va w' T g q V := (hb.block g hg).trans h
theorem Va.congr (h : Va w T g q V) (e : ∀ i, i < q → V i = U i) : Va w T g q U := by
  unfold Va at h ⊢
  rw [← var_congr e]; exact h
theorem Va.stores (h : Va w T g q V) (hi : (Tryd.prog.info? T).map (·.size) = some q) (h1 : ∀ i, i < q → (U i).oneCell' = true) : (storeCells ⟨g, 0, none⟩ (var q U).toList 0).run Tryd.prog w = .ok () (w.setRow g (var q U)) := by
  have := run_storeVar_row (P := Tryd.prog) w g T T (var q V) (var q U) h (by rw [var_size]; exact hi) (by rw [var_size, var_size]) (var_one h1)
  cases hq : Tryd.prog.info? T with
  | none => simp [hq] at hi
  | some i =>
    have hs : i.size = q := by simpa [hq] using hi
    simpa [storeVar, sizeOf, typeInfo, hq, Value.cells, hs, var_size] using this
theorem Va.row (h : Va w T g q V) : Va (w.setRow g (var q U)) T g q U := setRow_heap _ _ _ _ _ _ h
end
end Go.Proofs.YtigcgpgkpkoodaaDoor
