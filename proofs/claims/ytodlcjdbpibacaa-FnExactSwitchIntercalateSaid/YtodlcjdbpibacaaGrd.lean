/- Grids: rows of equal length of the call's own, and a number put into one of them. -/
import Derived.Test.YtodlcjdbpibacaaRowk
import Derived.Test.YtodlcjdbpibacaaPm
namespace Go.Proofs.Ytodlcjdbpibacaa
open Go.RowKit
set_option linter.unusedVariables false

/-- The rows of numbers f x y. -/
def gridL (n m : Nat) (f : Nat → Nat → Int) : List (List Int) := (List.range n).map fun x => (List.range m).map fun y => f x y
theorem gridL_length (n m : Nat) (f : Nat → Nat → Int) : (gridL n m f).length = n := by simp [gridL]
theorem gridL_getD {n m x : Nat} (f : Nat → Nat → Int) (h : x < n) : (gridL n m f).getD x [] = (List.range m).map (f x) := by simp [gridL, List.getD, h]
theorem rowf_length (m : Nat) (g : Nat → Int) : ((List.range m).map g).length = m := by simp
theorem rowf_getD {m y : Nat} (g : Nat → Int) (h : y < m) : ((List.range m).map g).getD y 0 = g y := by simp [List.getD, h]
theorem gridL_congr {n m : Nat} {f g : Nat → Nat → Int} (h : ∀ x y, x < n → y < m → f x y = g x y) : gridL n m f = gridL n m g := by
  unfold gridL
  refine List.map_congr_left fun x hx => List.map_congr_left fun y hy => h x y (by simpa using hx) (by simpa using hy)
theorem gridL_succ (n m : Nat) (f : Nat → Nat → Int) : gridL (n + 1) m f = gridL n m f ++ [(List.range m).map (f n)] := by simp [gridL, List.range_succ]
theorem tot_gridL (n m : Nat) (f : Nat → Nat → Int) : tot (gridL n m f) = n * m := by
  induction n with
  | zero => simp [gridL, tot]
  | succ n ih => rw [gridL_succ, tot_append, ih, tot_cons, tot_nil, rowf_length, Nat.succ_mul]; omega
/-- One number turned. -/
def upd2 (f : Nat → Nat → Int) (x y : Nat) (v : Int) : Nat → Nat → Int := fun a b => if a = x ∧ b = y then v else f a b
theorem rowf_set {m y : Nat} (g : Nat → Int) (h : y < m) (v : Int) : ((List.range m).map g).set y v = (List.range m).map (fun b => if b = y then v else g b) := by
  apply List.ext_getElem?
  intro i
  rw [List.getElem?_set]
  by_cases e : y = i
  · subst e
    simp [h]
  · rw [if_neg e]
    by_cases hi : i < m
    · simp [hi, show ¬ i = y from fun k => e k.symm]
    · simp [hi]
theorem gridL_set {n m x y : Nat} (f : Nat → Nat → Int) (hx : x < n) (hy : y < m) (v : Int) : (gridL n m f).set x (((gridL n m f).getD x []).set y v) = gridL n m (upd2 f x y v) := by
  rw [gridL_getD f hx, rowf_set _ hy]
  unfold gridL
  apply List.ext_getElem?
  intro i
  rw [List.getElem?_set]
  by_cases e : x = i
  · subst e
    simp [hx, upd2]
  · rw [if_neg e]
    by_cases hi : i < n
    · simp [hi, upd2, show ¬ i = x from fun k => e k.symm]
    · simp [hi]
theorem ownsRow.ne_ints {w : World} {B B' s : Nat} {v u : Value} {n m : Nat} {us vs : List Value} (h : w.ownsRow B 23 1 v n us) (hu : w.ownsRow B' 2 1 u m vs) (hs : u.ownBlock = some s) : v.ownBlock ≠ some s := by
  intro e
  obtain ⟨_, ⟨rfl, _⟩ | ⟨g1, cap1, cur1, rfl, _, q1, _⟩⟩ := hu
  · simp [Value.ownBlock] at hs
  · obtain ⟨_, ⟨rfl, _⟩ | ⟨g2, cap2, cur2, rfl, _, q2, _⟩⟩ := h
    · simp [Value.ownBlock] at e
    · simp only [Value.ownBlock, Option.some.injEq] at e hs
      subst e; subst hs
      rw [q1] at q2
      simp only [Option.some.injEq, Obj.cells.injEq] at q2
      exact absurd q2.2.1 (by decide)
theorem getD_set_same {α : Type} (l : List α) (i : Nat) (a d : α) (h : i < l.length) : (l.set i a).getD i d = a := by simp [List.getD, h]
theorem getD_set_ne {α : Type} (l : List α) (i j : Nat) (a d : α) (h : i ≠ j) : (l.set i a).getD j d = l.getD j d := by simp [List.getD, h]
/-- A number put into a row of rows of the call's own. -/
theorem RowsL.set {w : World} {B L : Nat} {v : Value} {xss : List (List Int)} (h : RowsL w B L v xss) {x y : Nat} (hx : x < xss.length) (hy : y < (xss.getD x []).length) :
    ∃ g0 c0 g c, v = .slice (some ⟨g0, 0, none⟩) xss.length c0 ∧ w.cell? ⟨g0, x, none⟩ = some (.slice (some ⟨g, 0, none⟩) (xss.getD x []).length c) ∧
      w.cell? ⟨g, y, none⟩ = some (.int .i64 ((xss.getD x []).getD y 0)) ∧ w.frozen? ⟨g, y, none⟩ = false ∧ B ≤ g ∧ g < L ∧
      ∀ z : Int, RowsL (w.setCell ⟨g, y, none⟩ (.int .i64 z)) B L v (xss.set x ((xss.getD x []).set y z)) := by
  obtain ⟨us, hus, ho, hv, hL, hr, hd⟩ := h
  have hrx := hr x hx
  have hrx' := hrx.1
  obtain ⟨g0, c0, rfl⟩ : ∃ g0 c0, v = .slice (some ⟨g0, 0, none⟩) xss.length c0 := by
    obtain ⟨_, ⟨rfl, h2⟩ | ⟨g, cap, cur, rfl, _⟩⟩ := ho
    · omega
    · exact ⟨g, cap, rfl⟩
  obtain ⟨g, c, hux⟩ : ∃ g c, us.getD x undef = .slice (some ⟨g, 0, none⟩) (xss.getD x []).length c := by
    obtain ⟨_, ⟨e, h2⟩ | ⟨g, cap, cur, e, _⟩⟩ := hrx'
    · omega
    · exact ⟨g, cap, e⟩
  unfold Ints at hrx'
  rw [hux] at hrx'
  have hgl := World.ownsRow.lt hrx' g rfl
  have hgL : g < L := hrx.2.1 g (by rw [hux]; rfl)
  refine ⟨g0, c0, g, c, rfl, ?_, ?_, hrx'.frozenAt y, hgl.1, hgL, fun z => ?_⟩
  · rw [ho.cellAt x (by omega), ← hux]
    simp [List.getD, List.getElem?_eq_getElem (show x < us.length by omega)]
  · rw [hrx'.cellAt y (by omega)]
    rw [List.getElem?_map]
    generalize xss.getD x [] = r at hy ⊢
    simp [List.getElem?_eq_getElem hy, List.getD]
  · have hst := hrx'.stored y (.int .i64 z)
    have ne0 : (Value.slice (some ⟨g0, 0, none⟩) xss.length c0).ownBlock ≠ some g := ownsRow.ne_ints ho hrx' rfl
    have hb : ∀ k, k ≠ g → (w.setCell ⟨g, y, none⟩ (.int .i64 z)).heap[k]? = w.heap[k]? := fun k hk => Below.heap_setCell w ⟨g, y, none⟩ _ k hk
    refine ⟨us, by rw [List.length_set]; exact hus, ?_, hv, by simpa [World.setCell] using hL, fun j hj => ?_, fun i j hij hj => hd i j hij (by rwa [List.length_set] at hj)⟩
    · rw [List.length_set]
      exact ownsRow_of_block ho (fun k e => hb k (fun e2 => by subst e2; exact ne0 e))
    · rw [List.length_set] at hj
      by_cases e : x = j
      · subst e
        rw [getD_set_same _ _ _ _ hx]
        refine ⟨?_, hrx.2.1, by simpa [World.setCell] using hrx.2.2⟩
        unfold Ints
        rw [hux, List.length_set, List.map_set]
        exact hst.1
      · rw [getD_set_ne _ _ _ _ _ e]
        have hrj := hr j hj
        refine ⟨ownsRow_of_block hrj.1 (fun k ek => hb k (fun e2 => ?_)), hrj.2.1, by simpa [World.setCell] using hrj.2.2⟩
        subst e2
        have hxb : (us.getD x undef).ownBlock = some k := by rw [hux]; rfl
        rcases Nat.lt_or_gt_of_ne e with l | l
        · rcases hd x j l hj with h | h
          · rw [hxb] at h; cases h
          · exact h (by rw [hxb, ek])
        · rcases hd j x l hx with h | h
          · rw [ek] at h; cases h
          · exact h (by rw [hxb, ek])
/-- A younger row put into the place of a row. -/
theorem RowsL.put {w : World} {B L : Nat} {v : Value} {xss : List (List Int)} (h : RowsL w B L v xss) {j : Nat} (hj : j < xss.length) (hBL : B ≤ L) {u : Value} {ys : List Int} (hu : Ints w L u ys) :
    ∃ g0 c0, v = .slice (some ⟨g0, 0, none⟩) xss.length c0 ∧ (∃ old, w.cell? ⟨g0, j, none⟩ = some old) ∧ w.frozen? ⟨g0, j, none⟩ = false ∧ B ≤ g0 ∧ g0 < L ∧
      RowsL (w.setCell ⟨g0, j, none⟩ u) B w.heap.size v (xss.set j ys) := by
  obtain ⟨us, hus, ho, hv, hL, hr, hd⟩ := h
  obtain ⟨g0, c0, rfl⟩ : ∃ g0 c0, v = .slice (some ⟨g0, 0, none⟩) xss.length c0 := by
    obtain ⟨_, ⟨rfl, h2⟩ | ⟨g, cap, cur, rfl, _⟩⟩ := ho
    · omega
    · exact ⟨g, cap, rfl⟩
  have g0L : g0 < L := hv g0 rfl
  have g0B := (World.ownsRow.lt ho g0 rfl).1
  have hst := (ho.stored j u).1
  have hb : ∀ k, k ≠ g0 → (w.setCell ⟨g0, j, none⟩ u).heap[k]? = w.heap[k]? := fun k hk => Below.heap_setCell w ⟨g0, j, none⟩ _ k hk
  have hz : (w.setCell ⟨g0, j, none⟩ u).heap.size = w.heap.size := by simp [World.setCell]
  have hul := hu.lim
  refine ⟨g0, c0, rfl, ?_, ho.frozenAt j, g0B, g0L, us.set j u, by rw [List.length_set, List.length_set]; exact hus, ?_, fun k e => by have := hv k e; omega, by rw [hz]; exact Nat.le_refl _, fun i hi => ?_, fun i k hik hk => ?_⟩
  · rw [ho.cellAt j (by omega), List.getElem?_eq_getElem (by omega)]; exact ⟨_, rfl⟩
  · rw [List.length_set]; exact hst
  · rw [List.length_set] at hi
    by_cases e : j = i
    · subst e
      rw [getD_set_same _ _ _ _ (by omega), getD_set_same _ _ _ _ hi]
      exact ⟨ownsRow_of_block (hu.mono hBL) (fun k ek => hb k (fun e2 => by have := (World.ownsRow.lt hu k ek).1; omega)), fun k ek => (World.ownsRow.lt hu k ek).2, by rw [hz]; exact Nat.le_refl _⟩
    · rw [getD_set_ne _ _ _ _ _ e, getD_set_ne _ _ _ _ _ e]
      have hri := hr i hi
      exact ⟨ownsRow_of_block hri.1 (fun k ek => hb k (fun e2 => by subst e2; exact ownsRow.ne_ints ho hri.1 ek rfl)), fun k ek => by have := hri.2.1 k ek; omega, by rw [hz]; exact Nat.le_refl _⟩
  · rw [List.length_set] at hk
    have lo : ∀ i, i < xss.length → ∀ q, (us.getD i undef).ownBlock = some q → q < L := fun i hi q e => (hr i hi).2.1 q e
    have up : ∀ q, u.ownBlock = some q → L ≤ q := fun q e => (World.ownsRow.lt hu q e).1
    by_cases e : j = i
    · subst e
      rw [getD_set_same _ _ _ _ (by omega), getD_set_ne _ _ _ _ _ (by omega)]
      cases k1 : u.ownBlock with
      | none => exact .inl rfl
      | some q =>
        refine .inr (fun e2 => ?_)
        have := lo k hk q e2.symm
        have := up q k1
        omega
    · rw [getD_set_ne _ _ _ _ _ e]
      by_cases e' : j = k
      · subst e'
        rw [getD_set_same _ _ _ _ (by omega)]
        cases k1 : (us.getD i undef).ownBlock with
        | none => exact .inl rfl
        | some q =>
          refine .inr (fun e2 => ?_)
          have := lo i (by omega) q k1
          have := up q e2.symm
          omega
      · rw [getD_set_ne _ _ _ _ _ e']
        exact hd i k hik hk
/-- Rows that were made, none of them filled. -/
theorem RowsL.nils {w : World} {B L : Nat} {v : Value} {n : Nat} (ho : w.ownsRow B 23 1 v n (List.replicate n (.slice none 0 0))) (hv : ∀ k, v.ownBlock = some k → k < L) (hL : L ≤ w.heap.size) : RowsL w B L v (List.replicate n []) := by
  refine ⟨List.replicate n (.slice none 0 0), by simp, by simpa using ho, hv, hL, fun j hj => ?_, fun i j hij hj => ?_⟩
  · have hj' : j < n := by simpa using hj
    have e1 : (List.replicate n (Value.slice none 0 0)).getD j undef = .slice none 0 0 := by simp [List.getD, hj']
    have e2 : (List.replicate n ([] : List Int)).getD j [] = [] := by simp [List.getD, hj']
    rw [e1, e2]
    exact ⟨nilI _ _, fun k e => by simp [Value.ownBlock] at e, hL⟩
  · have hj' : j < n := by simpa using hj
    have e1 : (List.replicate n (Value.slice none 0 0)).getD i undef = .slice none 0 0 := by simp [List.getD, show i < n by omega]
    rw [e1]
    exact .inl rfl
/-- A grid of which the first rows are filled. -/
def gridP (n m : Nat) (f : Nat → Nat → Int) (j : Nat) : List (List Int) := gridL j m f ++ List.replicate (n - j) []
theorem gridP_zero (n m : Nat) (f : Nat → Nat → Int) : gridP n m f 0 = List.replicate n [] := by simp [gridP, gridL]
theorem gridP_all (n m : Nat) (f : Nat → Nat → Int) : gridP n m f n = gridL n m f := by simp [gridP]
theorem gridP_length (n m : Nat) (f : Nat → Nat → Int) {j : Nat} (h : j ≤ n) : (gridP n m f j).length = n := by simp [gridP, gridL]; omega
theorem gridP_succ (n m : Nat) (f : Nat → Nat → Int) {j : Nat} (h : j < n) : (gridP n m f j).set j ((List.range m).map (f j)) = gridP n m f (j + 1) := by
  unfold gridP
  rw [gridL_succ, List.set_append_right _ _ (by rw [gridL_length]; exact Nat.le_refl _), gridL_length, Nat.sub_self, show n - j = (n - (j + 1)) + 1 by omega, List.replicate_succ, List.set_cons_zero, List.append_assoc]
  rfl
end Go.Proofs.Ytodlcjdbpibacaa
