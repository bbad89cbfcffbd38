/- Squares by their cells: what is filled, what is moved. -/
import Derived.Test.YtodlcjdbpibacaaSqm
namespace Go.Proofs.Ytodlcjdbpibacaa
open Go.RowKit
set_option linter.unusedVariables false

/-- The cells that were filled ahead of row x, column y. -/
def fillF (n : Nat) (f : Nat → Nat → Int) (x y : Nat) : Nat → Nat → Int := fun a b => if b < n ∧ (a < x ∨ a = x ∧ b < y) then f a b else 0
theorem fillF_zero (n : Nat) (f : Nat → Nat → Int) : fillF n f 0 0 = fun _ _ => 0 := by
  funext a b
  unfold fillF
  rw [if_neg (by omega)]
theorem fillF_step {n x y : Nat} (f : Nat → Nat → Int) (h : y < n) : upd2 (fillF n f x y) x y (f x y) = fillF n f x (y + 1) := by
  funext a b
  unfold upd2 fillF
  by_cases e : a = x ∧ b = y
  · rw [if_pos e, if_pos (by omega), e.1, e.2]
  · rw [if_neg e]
    by_cases c : b < n ∧ (a < x ∨ a = x ∧ b < y)
    · rw [if_pos c, if_pos (by omega)]
    · rw [if_neg c, if_neg (by omega)]
theorem fillF_row (n : Nat) (f : Nat → Nat → Int) (x : Nat) : fillF n f x n = fillF n f (x + 1) 0 := by
  funext a b
  unfold fillF
  by_cases c : b < n ∧ (a < x ∨ a = x ∧ b < n)
  · rw [if_pos c, if_pos (by omega)]
  · rw [if_neg c, if_neg (by omega)]
/-- A square of order n with the symbols f, and 0 beyond. -/
def sqF (n : Nat) (f : Nat → Nat → Int) : Nat → Nat → Int := fun a b => if a < n ∧ b < n then f a b else 0
theorem fillF_all (n : Nat) (f : Nat → Nat → Int) : fillF n f n 0 = sqF n f := by
  funext a b
  unfold fillF sqF
  by_cases c : a < n ∧ b < n
  · rw [if_pos c, if_pos (by omega)]
  · rw [if_neg c, if_neg (by omega)]
theorem sqF_in {n a b : Nat} (f : Nat → Nat → Int) (ha : a < n) (hb : b < n) : sqF n f a b = f a b := by unfold sqF; rw [if_pos ⟨ha, hb⟩]
theorem gridL_sqF (n : Nat) (f : Nat → Nat → Int) : gridL n n (sqF n f) = gridL n n f := gridL_congr fun x y hx hy => sqF_in f hx hy
/-- The cells that were moved ahead of row x, column y. -/
def rowSt (mv : Nat → Nat → Nat × Nat × Int) (x : Nat) (f : Nat → Nat → Int) : Nat → Nat → Nat → Int
  | 0 => f
  | y + 1 => upd2 (rowSt mv x f y) (mv x y).1 (mv x y).2.1 (mv x y).2.2
def movSt (n : Nat) (mv : Nat → Nat → Nat × Nat × Int) : Nat → Nat → Nat → Int
  | 0 => fun _ _ => 0
  | x + 1 => rowSt mv x (movSt n mv x) n
/-- A square as rows. -/
def cellF (xss : List (List Int)) : Nat → Nat → Int := fun x y => (xss.getD x []).getD y 0
theorem gridL_cellF {xss : List (List Int)} (h : ∀ x, x < xss.length → (xss.getD x []).length = xss.length) : gridL xss.length xss.length (cellF xss) = xss := by
  apply List.ext_getElem?
  intro i
  by_cases hi : i < xss.length
  · have e := h i hi
    have g : xss[i]? = some (xss.getD i []) := by simp [List.getD, List.getElem?_eq_getElem hi]
    rw [g]
    have g2 : (gridL xss.length xss.length (cellF xss))[i]? = some ((List.range xss.length).map (cellF xss i)) := by simp [gridL, hi]
    rw [g2]
    congr 1
    have : (List.range xss.length).map (cellF xss i) = (List.range (xss.getD i []).length).map (fun y => (xss.getD i []).getD y 0) := by rw [e]; rfl
    rw [this]
    apply List.ext_getElem?
    intro k
    by_cases hk : k < (xss.getD i []).length
    · rw [List.getElem?_map, List.getElem?_range hk]
      simp only [Option.map_some]
      rw [List.getD, List.getElem?_eq_getElem hk]; rfl
    · rw [List.getElem?_eq_none (by simpa using hk), List.getElem?_eq_none (by omega)]
  · rw [List.getElem?_eq_none (by rw [gridL_length]; omega), List.getElem?_eq_none (by omega)]
theorem colL_grid {xss : List (List Int)} {y : Nat} : (List.range xss.length).map (fun x => cellF xss x y) = colL xss y := by
  apply List.ext_getElem?
  intro k
  by_cases hk : k < xss.length
  · simp [colL, cellF, hk, List.getD]
  · rw [List.getElem?_eq_none (by simpa using hk), List.getElem?_eq_none (by rw [colL_length]; omega)]
/-- The numbers of a row of a square. -/
theorem IsSq.cell {xss : List (List Int)} (h : IsSq xss) {x y : Nat} (hx : x < xss.length) (hy : y < xss.length) : 0 ≤ cellF xss x y ∧ cellF xss x y < xss.length := by
  obtain ⟨h1, h2⟩ := h.row x hx
  have := (of_pmB h2).2 y (by omega)
  unfold okPm at this
  unfold cellF
  omega
/-- A number put into a grid. -/
theorem gridSet {w : World} {B L n m x y : Nat} {v : Value} {f : Nat → Nat → Int} (h : RowsL w B L v (gridL n m f)) (hx : x < n) (hy : y < m) :
    ∃ g0 c0 g c, v = .slice (some ⟨g0, 0, none⟩) n c0 ∧ w.cell? ⟨g0, x, none⟩ = some (.slice (some ⟨g, 0, none⟩) m c) ∧ w.cell? ⟨g, y, none⟩ = some (.int .i64 (f x y)) ∧ w.frozen? ⟨g, y, none⟩ = false ∧ B ≤ g ∧ g < L ∧
      ∀ z : Int, RowsL (w.setCell ⟨g, y, none⟩ (.int .i64 z)) B L v (gridL n m (upd2 f x y z)) := by
  have e1 : ((gridL n m f).getD x []).length = m := by rw [gridL_getD f hx, rowf_length]
  obtain ⟨g0, c0, g, c, h1, h2, h3, h4, h5, h6, h7⟩ := RowsL.set h (x := x) (y := y) (by rw [gridL_length]; exact hx) (by rw [e1]; exact hy)
  rw [gridL_length] at h1
  rw [e1] at h2
  rw [gridL_getD f hx, rowf_getD _ hy] at h3
  exact ⟨g0, c0, g, c, h1, h2, h3, h4, h5, h6, fun z => by have := h7 z; rwa [gridL_set f hx hy] at this⟩
theorem RowsL.parts {w : World} {B L n m : Nat} {v : Value} {f : Nat → Nat → Int} (h : RowsL w B L v (gridL n m f)) (hn : 1 ≤ n) : ∃ g0 c0, v = .slice (some ⟨g0, 0, none⟩) n c0 := by
  obtain ⟨us, hus, ho, _⟩ := h
  rw [gridL_length] at ho
  obtain ⟨_, ⟨rfl, h2⟩ | ⟨g, cap, cur, rfl, _⟩⟩ := ho
  · omega
  · exact ⟨g, cap, rfl⟩
end Go.Proofs.Ytodlcjdbpibacaa
