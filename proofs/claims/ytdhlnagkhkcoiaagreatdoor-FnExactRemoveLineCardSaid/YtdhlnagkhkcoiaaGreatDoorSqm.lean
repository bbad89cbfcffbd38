/- Latin squares: the model's test and grids. -/
import Derived.Test.YtdhlnagkhkcoiaaGreatDoorGrd
import Derived.Test.YtdhlnagkhkcoiaaGreatDoorPn
namespace Go.Proofs.YtdhlnagkhkcoiaaGreatDoor
open Go.RowKit
set_option linter.unusedVariables false

/-- A column. -/
def colL (xss : List (List Int)) (y : Nat) : List Int := xss.map fun r => r.getD y 0
theorem colL_length (xss : List (List Int)) (y : Nat) : (colL xss y).length = xss.length := by simp [colL]
theorem colL_getD {xss : List (List Int)} {x y : Nat} (h : x < xss.length) : (colL xss y).getD x 0 = (xss.getD x []).getD y 0 := by simp [colL, List.getD, h]
theorem colL_take {xss : List (List Int)} {x y : Nat} (h : x < xss.length) : (colL xss y).take (x + 1) = (colL xss y).take x ++ [(xss.getD x []).getD y 0] := by
  have := takeI_getD (xs := colL xss y) (j := x) (by rw [colL_length]; exact h)
  rw [this, colL_getD h]
/-- A Latin square. -/
def rowOk (xss : List (List Int)) (x : Nat) : Prop := (xss.getD x []).length = xss.length ∧ pmB (xss.getD x []) = true
structure IsSq (xss : List (List Int)) : Prop where
  lo : 1 ≤ xss.length
  hi : xss.length ≤ 10
  row : ∀ x, x < xss.length → rowOk xss x
  col : ∀ y, y < xss.length → pmB (colL xss y) = true
noncomputable def sqB (xss : List (List Int)) : Bool := @decide (IsSq xss) (Classical.propDecidable _)
theorem sqB_true {xss : List (List Int)} (h : IsSq xss) : sqB xss = true := @decide_eq_true _ (Classical.propDecidable _) h
theorem sqB_false {xss : List (List Int)} (h : ¬ IsSq xss) : sqB xss = false := @decide_eq_false _ (Classical.propDecidable _) h
theorem of_sqB {xss : List (List Int)} (h : sqB xss = true) : IsSq xss := @of_decide_eq_true _ (Classical.propDecidable _) h

theorem RowsAt.cellsOf {w : World} {v : Value} {xss : List (List Int)} (h : RowsAt w v xss) : ∃ a cap, v = .slice a xss.length cap ∧ xss.length ≤ cap ∧ ∀ j, j < xss.length → ∃ g off u, a = some ⟨g, off, none⟩ ∧ g < w.heap.size ∧ w.cell? ⟨g, off + j, none⟩ = some u ∧ IntsC w u (xss.getD j []) := by
  obtain ⟨_, a, cap, e, hk, hc⟩ := h
  refine ⟨a, cap, e, hk, fun j hj => ?_⟩
  obtain ⟨g, off, u, h1, h2, h3⟩ := hc j hj
  exact ⟨g, off, u, h1, World.block_lt_of_cell? w _ h2, h2, h3⟩
/-- What a cell of rows reads as. -/
theorem RowsAt.at2 {w : World} {v : Value} {xss : List (List Int)} (h : RowsAt w v xss) {x y : Nat} (hx : x < xss.length) (hy : y < (xss.getD x []).length) :
    ∃ g off g2 off2 l2 c2 cap, v = .slice (some ⟨g, off, none⟩) xss.length cap ∧ w.cell? ⟨g, off + x, none⟩ = some (.slice (some ⟨g2, off2, none⟩) l2 c2) ∧ l2 = (xss.getD x []).length ∧ w.cell? ⟨g2, off2 + y, none⟩ = some (.int .i64 ((xss.getD x []).getD y 0)) := by
  obtain ⟨_, a, cap, e, hk, hc⟩ := h
  obtain ⟨g, off, u, h1, h2, h3⟩ := hc x hx
  subst h1
  obtain ⟨a2, c2, e2, _, _, h4⟩ := h3.part
  obtain ⟨g2, off2, h5, _, h6⟩ := h4 y hy
  subst h5
  exact ⟨g, off, g2, off2, _, c2, cap, e, by rw [h2, e2], rfl, h6⟩

end Go.Proofs.YtdhlnagkhkcoiaaGreatDoor
