/- SwitchIntercalate: the numbers. -/
import Derived.Test.YtodlcjdbpibacaaLim
import Derived.Test.YtodlcjdbpibacaaMvd
import Derived.Test.YtodlcjdbpibacaaIcm
namespace Go.Proofs.Ytodlcjdbpibacaa
open Go.RowKit Go.Shelf
set_option linter.unusedVariables false

/-- A list in a block of its own, room behind it as it may be. -/
def OwnI (W : World) (v : Value) (ys : List Int) : Prop := ∃ B, Ints W B v ys
theorem OwnI.at {W : World} {v : Value} {ys : List Int} (h : OwnI W v ys) : IntsAt W v ys := by
  obtain ⟨B, h⟩ := h
  exact h.at
theorem four {ys : List Int} (h : ys.length = 4) : ∃ a b c d, ys = [a, b, c, d] := by
  match ys, h with
  | [a, b, c, d], _ => exact ⟨a, b, c, d, rfl⟩
/-- What such a list looks like. -/
theorem OwnI.shape {W : World} {v : Value} {ys : List Int} (h : OwnI W v ys) : ∃ a cap, v = .slice a ys.length cap ∧ ys.length ≤ 9223372036854775807 ∧
    (ys.length = 4 → ∃ g, a = some ⟨g, 0, none⟩ ∧ 4 ≤ cap ∧ cap ≤ 9223372036854775807 ∧ ∀ W', Below W.heap.size W W' → ∀ j, j < 4 → W'.cell? ⟨g, j, none⟩ = some (.int .i64 (ys.getD j 0))) := by
  have hat := h.at
  obtain ⟨B, h⟩ := h
  have hh := h
  obtain ⟨_, ⟨rfl, h2⟩ | ⟨g, cap, cur, rfl, h3, h4, h5, h6, h7, h8⟩⟩ := h
  · exact ⟨none, 0, by rw [h2], by omega, fun k => by omega⟩
  · refine ⟨_, cap, rfl, hat.1, fun k => ⟨g, rfl, by omega, by unfold maxLen at h6; omega, fun W' hb j hj => ?_⟩⟩
    have := hat.below hb (Nat.le_refl _)
    obtain ⟨_, ⟨e, _⟩ | ⟨g', o', c', e, hc⟩⟩ := this
    · rw [e] at k; cases k
    · injection e with e1 e2 e3
      injection e1 with e1
      injection e1 with e1 e4
      subst e1 e4
      have := hc j (by omega)
      rwa [Nat.zero_add] at this

/-- Is a list one that a square can be switched at. -/
noncomputable def swB (n : Nat) (F : Nat → Nat → Int) (ys : List Int) : Bool := decide (ys.length = 4) && icB n F (ys.getD 0 0) (ys.getD 1 0) (ys.getD 2 0) (ys.getD 3 0)
theorem swB_not {n : Nat} {F : Nat → Nat → Int} {ys : List Int} (h : ys.length ≠ 4) : swB n F ys = false := by
  unfold swB; rw [decide_eq_false h]; rfl
theorem swB_four {n : Nat} {F : Nat → Nat → Int} {ys : List Int} (h : ys.length = 4) : swB n F ys = icB n F (ys.getD 0 0) (ys.getD 1 0) (ys.getD 2 0) (ys.getD 3 0) := by
  unfold swB; rw [decide_eq_true h]; rfl
/-- What stands in a list of four that the square can be switched at. -/
theorem icB_nums {n : Nat} {F : Nat → Nat → Int} {x0 x1 x2 x3 : Int} (h : icB n F x0 x1 x2 x3 = true) : ∃ r s c d : Nat, x0 = r ∧ x1 = s ∧ x2 = c ∧ x3 = d ∧ r < s ∧ s < n ∧ c < d ∧ d < n := by
  unfold icB at h
  rw [Bool.and_eq_true, Bool.and_eq_true] at h
  obtain ⟨h1, h2, -⟩ := h
  have a := rises2 h1
  have b := rises2 h2
  have q1 := (of_risesB h1 1 (show 1 < 2 by decide)).2.2 (by decide)
  have q2 := (of_risesB h2 1 (show 1 < 2 by decide)).2.2 (by decide)
  have q1' : x0 < x1 := q1
  have q2' : x2 < x3 := q2
  exact ⟨x0.toNat, x1.toNat, x2.toNat, x3.toNat, by omega, by omega, by omega, by omega, by omega, by omega, by omega, by omega⟩

/-- One column's change of symbols, as they stand in F. -/
def sw1 (F G : Nat → Nat → Int) (r s y : Nat) : Nat → Nat → Int := upd2 (upd2 G r y (F s y)) s y (F r y)
def swG (F : Nat → Nat → Int) (r s c d : Nat) : Nat → Nat → Int := sw1 F (sw1 F F r s c) r s d
theorem sw1_col {F : Nat → Nat → Int} {r s c d x : Nat} (h : c ≠ d) : sw1 F F r s c x d = F x d := by
  unfold sw1 upd2
  rw [if_neg (by omega), if_neg (by omega)]
theorem sw1_two {F : Nat → Nat → Int} {r s c d : Nat} (h : c ≠ d) : sw1 (sw1 F F r s c) (sw1 F F r s c) r s d = swG F r s c d := by
  have e1 := sw1_col (F := F) (r := r) (s := s) (x := r) h
  have e2 := sw1_col (F := F) (r := r) (s := s) (x := s) h
  unfold swG
  rw [show sw1 (sw1 F F r s c) (sw1 F F r s c) r s d = upd2 (upd2 (sw1 F F r s c) r d (sw1 F F r s c s d)) s d (sw1 F F r s c r d) from rfl, e1, e2]
  rfl
/-- After k columns. -/
def swK (F : Nat → Nat → Int) (r s c d : Nat) : Nat → Nat → Nat → Int
  | 0 => F
  | 1 => sw1 F F r s c
  | _ => swG F r s c d

noncomputable def swL (xss : List (List Int)) (ys : List Int) : List (List Int) := gridL xss.length xss.length (swG (cellF xss) (ys.getD 0 0).toNat (ys.getD 1 0).toNat (ys.getD 2 0).toNat (ys.getD 3 0).toNat)
noncomputable def SwitchIntercalate_0 (xss : List (List Int)) (ys : List Int) : List (List Int) := if sqB xss = true then (if swB xss.length (cellF xss) ys = true then swL xss ys else []) else []
noncomputable def SwitchIntercalate_1 (xss : List (List Int)) (ys : List Int) : Int := if sqB xss = true then (if swB xss.length (cellF xss) ys = true then 0 else 6) else 1
theorem Sw_no {xss : List (List Int)} {ys : List Int} (h : sqB xss = false) : SwitchIntercalate_0 xss ys = [] ∧ SwitchIntercalate_1 xss ys = 1 := by
  unfold SwitchIntercalate_0 SwitchIntercalate_1; rw [h]; exact ⟨rfl, rfl⟩
theorem Sw_bad {xss : List (List Int)} {ys : List Int} (h : sqB xss = true) (k : swB xss.length (cellF xss) ys = false) : SwitchIntercalate_0 xss ys = [] ∧ SwitchIntercalate_1 xss ys = 6 := by
  unfold SwitchIntercalate_0 SwitchIntercalate_1; rw [h, k]; exact ⟨rfl, rfl⟩
theorem Sw_ok {xss : List (List Int)} {ys : List Int} (h : sqB xss = true) (k : swB xss.length (cellF xss) ys = true) : SwitchIntercalate_0 xss ys = swL xss ys ∧ SwitchIntercalate_1 xss ys = 0 := by
  unfold SwitchIntercalate_0 SwitchIntercalate_1; rw [h, k]; exact ⟨rfl, rfl⟩
theorem lenSwitchIntercalate_0 (xss : List (List Int)) (ys : List Int) (hx : SmallLL xss) (hy : SmallL ys) : (SwitchIntercalate_0 xss ys).length + tot (SwitchIntercalate_0 xss ys) ≤ 2000000 := by
  cases e : sqB xss with
  | false => rw [(Sw_no e).1]; decide
  | true =>
    cases k : swB xss.length (cellF xss) ys with
    | false => rw [(Sw_bad e k).1]; decide
    | true =>
      have h := (of_sqB e).hi
      rw [(Sw_ok e k).1]
      unfold swL
      rw [gridL_length, tot_gridL]
      have : xss.length * xss.length ≤ 10 * 10 := Nat.mul_le_mul h h
      omega
end Go.Proofs.Ytodlcjdbpibacaa
