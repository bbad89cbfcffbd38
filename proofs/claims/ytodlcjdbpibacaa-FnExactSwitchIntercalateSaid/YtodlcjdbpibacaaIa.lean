/- Arrays of integers of the call's own, in a block of whatever type; rows that are made and filled. -/
import Derived.Test.YtodlcjdbpibacaaLim
import Derived.Deep.WholeRow
namespace Go.Proofs.Ytodlcjdbpibacaa
open Go.RowKit
set_option linter.unusedVariables false

def iar (n : Nat) (c : Nat → Int) : Array Value := ((List.range n).map (fun i => Value.int .i64 (c i))).toArray
theorem iar_get (n : Nat) (c : Nat → Int) (i : Nat) (h : i < n) : (iar n c)[i]? = some (.int .i64 (c i)) := by simp [iar, h]
theorem iar_size (n : Nat) (c : Nat → Int) : (iar n c).size = n := by simp [iar]
theorem iar_one (n : Nat) (c : Nat → Int) : (iar n c).all (·.oneCell') = true := by
  rw [Array.all_eq_true_iff_forall_mem]
  intro v hv
  unfold iar at hv
  simp at hv
  obtain ⟨x, _, rfl⟩ := hv
  rfl
theorem below_row {B : Nat} {a w : World} (h : Below B a w) {g : Nat} (hg : B ≤ g) (cs : Array Value) : Below B a (w.setRow g cs) :=
  ⟨h.os, h.tape, h.output, by rw [size_setRow]; exact h.size, fun k hk => (setRow_other w g k cs (by omega)).trans (h.block k hk)⟩
def updI (c : Nat → Int) (i : Nat) (v : Int) : Nat → Int := fun j => if j = i then v else c j
theorem updI_same (c : Nat → Int) (i : Nat) (v : Int) : updI c i v i = v := by unfold updI; rw [if_pos rfl]
theorem updI_ne (c : Nat → Int) (i j : Nat) (v : Int) (h : j ≠ i) : updI c i v j = c j := by unfold updI; rw [if_neg h]
theorem iar_set (n : Nat) (c : Nat → Int) (i : Nat) (v : Int) : (iar n c).setIfInBounds i (.int .i64 v) = iar n (updI c i v) := by
  apply Array.ext_getElem?
  intro j
  rw [Array.getElem?_setIfInBounds]
  by_cases hj : j < n
  · rw [iar_get n (updI c i v) j hj]
    by_cases e : i = j
    · subst e
      have hs : i < (iar n c).size := by rw [iar_size]; exact hj
      rw [if_pos rfl, if_pos hs, updI_same]
    · rw [if_neg e, iar_get n c j hj, updI_ne _ _ _ _ (fun h => e h.symm)]
  · have h1 := iar_size n c
    have h2 := iar_size n (updI c i v)
    rw [Array.getElem?_eq_none (by omega : (iar n (updI c i v)).size ≤ j)]
    split
    · rw [if_neg (by omega)]
    · exact Array.getElem?_eq_none (by omega)
theorem iar_congr {n : Nat} {c d : Nat → Int} (e : ∀ i, i < n → c i = d i) : iar n c = iar n d := by
  unfold iar
  congr 1
  apply List.map_congr_left
  intro i hi
  rw [e i (List.mem_range.1 hi)]
/-- Block g is an array of q integers, of the type T. -/
def Ia (w : World) (T : TypeId) (g q : Nat) (c : Nat → Int) : Prop := w.heap[g]? = some (.cells (iar q c) T (0, 0))
section
variable {w w' : World} {T : TypeId} {g q : Nat} {c d : Nat → Int}
theorem Ia.cell (h : Ia w T g q c) (i : Nat) (hi : i < q) : w.cell? ⟨g, i, none⟩ = some (.int .i64 (c i)) := by
  rw [cell_of_row w g i _ _ _ h, iar_get q c i hi]
theorem Ia.frozen (h : Ia w T g q c) (i : Nat) : w.frozen? ⟨g, i, none⟩ = false := frozen_of_row w g i _ _ h
theorem Ia.set (h : Ia w T g q c) (i : Nat) (v : Int) : Ia (w.setCell ⟨g, i, none⟩ (.int .i64 v)) T g q (updI c i v) := by
  unfold Ia
  rw [heap_setCell_same w g i _ _ _ h, iar_set]
theorem Ia.lt (h : Ia w T g q c) : g < w.heap.size := by
  unfold Ia at h; exact (Array.getElem?_eq_some_iff.1 h).1
theorem Ia.below {B : Nat} (h : Ia w T g q c) (hb : Below B w w') (hg : g < B) : Ia w' T g q c := (hb.block g hg).trans h
theorem Ia.drewN (h : Ia w T g q c) (n : Nat) : Ia (w.drewN n) T g q c := h
theorem Ia.congr (h : Ia w T g q c) (e : ∀ i, i < q → c i = d i) : Ia w T g q d := by
  unfold Ia at h ⊢
  rw [← iar_congr e]; exact h
end
/-- Such a block as a slice. -/
theorem Ia.ints {w : World} {g q B : Nat} {c : Nat → Int} (h : Ia w 2 g q c) (hB : B ≤ g) (hq : q ≤ maxLen) : Ints w B (.slice (some ⟨g, 0, none⟩) q q) ((List.range q).map c) := by
  unfold Ints
  rw [List.length_map, List.length_range, List.map_map]
  refine ⟨by simp, .inr ⟨g, q, iar q c, rfl, hB, h, Nat.le_refl _, hq, by rw [iar_size, Nat.mul_one], ?_⟩⟩
  rw [Nat.mul_one, List.take_of_length_le (by rw [Array.length_toList, iar_size]; exact Nat.le_refl _)]
  simp [iar, Function.comp_def]
/-- What make lays. -/
theorem made_iar (n : Nat) : madeCells #[.int .i64 0] n = iar n (fun _ => 0) := by
  apply Array.toList_inj.1
  rw [toList_madeCells_one]
  unfold iar
  rw [List.map_const', List.length_range]
theorem made_ia (w : World) (T : TypeId) (n : Nat) : Ia (w.alloc (.cells (madeCells #[.int .i64 0] n) T)) T w.heap.size n (fun _ => 0) := by
  unfold Ia
  rw [heap_alloc_new, made_iar]
/-- A list by its members. -/
theorem list_of_fn {xs : List Int} {n : Nat} {c : Nat → Int} (hl : xs.length = n) (h : ∀ i, i < n → xs.getD i 0 = c i) : (List.range n).map c = xs := by
  apply List.ext_getElem (by simp [hl])
  intro i h1 h2
  rw [List.getElem_map, List.getElem_range, ← h i (by omega), List.getD_eq_getElem?_getD, List.getElem?_eq_getElem h2, Option.getD_some]
end Go.Proofs.Ytodlcjdbpibacaa
