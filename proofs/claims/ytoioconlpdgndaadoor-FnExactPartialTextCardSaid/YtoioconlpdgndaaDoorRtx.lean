/- The text of rows: the facts. -/
import Derived.Test.YtoioconlpdgndaaDoorPowt
import Derived.Test.YtoioconlpdgndaaDoorBld
import Derived.Test.YtoioconlpdgndaaDoorLsq
namespace Go.Proofs.YtoioconlpdgndaaDoor
open Go.RowKit
set_option linter.unusedVariables false
set_option linter.unusedSimpArgs false

abbrev Tab := PowTab
def sep7 (x : Nat) : List UInt8 := if x = 0 then [] else [47]
/-- The text of a cell. -/
def cellt (v : Int) : List UInt8 := if v = -1 then [46] else Lib.itoa v
/-- The symbols of a row. -/
def rowt : List Int → List UInt8
  | [] => []
  | v :: r => cellt v ++ rowt r
theorem rowt_append : ∀ (p q : List Int), rowt (p ++ q) = rowt p ++ rowt q
  | [], q => rfl
  | v :: p, q => by rw [List.cons_append, rowt, rowt, rowt_append p q, List.append_assoc]
def txt7 (xss : List (List Int)) : Nat → List UInt8
  | 0 => []
  | x + 1 => txt7 xss x ++ sep7 x ++ rowt (xss.getD x [])
theorem cellt_e : cellt (-1) = [46] := if_pos rfl
theorem cellt_f {v : Int} (h : 0 ≤ v) : cellt v = Lib.itoa v := if_neg (by omega)
theorem itoa_one {v : Int} (h : 0 ≤ v ∧ v < 10) : (Lib.itoa v).length = 1 := by
  unfold Lib.itoa
  rw [if_neg (by omega), Lib.decDigits, dif_pos (by omega)]; rfl
theorem cellt_one {v : Int} (h : -1 ≤ v ∧ v < 10) : (cellt v).length = 1 := by
  by_cases c : v = -1
  · rw [c, cellt_e]; rfl
  · rw [cellt_f (by omega)]; exact itoa_one ⟨by omega, h.2⟩
theorem rowt_len : ∀ {r : List Int}, (∀ v ∈ r, -1 ≤ v ∧ v < 10) → (rowt r).length = r.length
  | [], _ => rfl
  | v :: r, h => by
    rw [rowt, List.length_append, cellt_one (h v (List.mem_cons_self ..)), rowt_len (fun x hx => h x (List.mem_cons_of_mem _ hx)), List.length_cons]
    omega
theorem sep7_len (x : Nat) : (sep7 x).length ≤ 1 := by unfold sep7; split <;> simp
theorem txt7_len {xss : List (List Int)} : ∀ x, (∀ i, i < x → (rowt (xss.getD i [])).length ≤ 10) → (txt7 xss x).length ≤ 11 * x
  | 0, _ => Nat.le_refl _
  | x + 1, h => by
    have a := txt7_len x (fun i hi => h i (by omega))
    have b := h x (by omega)
    have c := sep7_len x
    rw [txt7, List.length_append, List.length_append]
    omega
theorem rowt_succ {r : List Int} {y : Nat} (h : y < r.length) : rowt (r.take (y + 1)) = rowt (r.take y) ++ cellt (r.getD y 0) := by
  rw [List.take_succ_eq_append_getElem h, rowt_append]
  simp [rowt, List.getD, List.getElem?_eq_getElem h]
/-- What the walks want of the rows. -/
structure SqFacts (xss : List (List Int)) (n : Nat) : Prop where
  lo : 1 ≤ n
  hi : n ≤ 10
  len : ∀ x, x < n → (xss.getD x []).length = n
  cell : ∀ x y, x < n → y < n → -1 ≤ (xss.getD x []).getD y 0 ∧ (xss.getD x []).getD y 0 < n
  rlen : ∀ x y, x < n → (rowt ((xss.getD x []).take y)).length ≤ 10
  tlen : ∀ x, x ≤ n → (txt7 xss x).length ≤ 11 * x
theorem rowsFacts {xss : List (List Int)} {n : Nat} (lo : 1 ≤ n) (hi : n ≤ 10) (len : ∀ x, x < n → (xss.getD x []).length = n) (cell : ∀ x y, x < n → y < n → -1 ≤ (xss.getD x []).getD y 0 ∧ (xss.getD x []).getD y 0 < n) : SqFacts xss n := by
  have rl : ∀ x y, x < n → (rowt ((xss.getD x []).take y)).length ≤ 10 := fun x y hx => by
    rw [rowt_len (fun v hv => ?_)]
    · rw [List.length_take, len x hx]; omega
    · obtain ⟨k, hk, rfl⟩ := List.mem_iff_getElem.1 hv
      rw [List.length_take, len x hx] at hk
      have := cell x k hx (by omega)
      rw [show (xss.getD x []).getD k 0 = ((xss.getD x []).take y)[k] by
        rw [List.getElem_take]; simp only [List.getD]; rw [List.getElem?_eq_getElem (by have := len x hx; simp only [List.getD] at this; omega)]; rfl] at this
      omega
  refine ⟨lo, hi, len, cell, rl, fun x hx => txt7_len x (fun i hi => ?_)⟩
  have := rl i n (by omega)
  rw [List.take_of_length_le (by rw [len i (by omega)]; exact Nat.le_refl _)] at this
  exact this
theorem sqFacts {xss : List (List Int)} (h : IsSq xss) : SqFacts xss xss.length :=
  rowsFacts h.lo h.hi (fun x hx => (h.row x hx).1) (fun x y hx hy => by have : 0 ≤ (xss.getD x []).getD y 0 ∧ (xss.getD x []).getD y 0 < xss.length := h.cell hx hy; omega)
theorem ba_app (L M : List UInt8) : (⟨L.toArray⟩ : ByteArray) ++ ⟨M.toArray⟩ = ⟨(L ++ M).toArray⟩ := ByteArray.mk_append_mk _ _
theorem txt7_ne {xss : List (List Int)} {n : Nat} (F : SqFacts xss n) : txt7 xss n ≠ [] := fun e => by
  obtain ⟨k, rfl⟩ : ∃ k, n = k + 1 := ⟨n - 1, by have := F.lo; omega⟩
  rw [txt7] at e
  have l := F.len k (by omega)
  have e2 := (List.append_eq_nil_iff.1 e).2
  cases r : xss.getD k [] with
  | nil => rw [r] at l; simp at l
  | cons v t =>
    rw [r, rowt] at e2
    have c := F.cell k 0 (by omega) (by omega)
    rw [r] at c
    have := cellt_one (v := v) ⟨c.1, by have := F.hi; have := c.2; simp at this; omega⟩
    rw [(List.append_eq_nil_iff.1 e2).1] at this
    simp at this
end Go.Proofs.YtoioconlpdgndaaDoor
