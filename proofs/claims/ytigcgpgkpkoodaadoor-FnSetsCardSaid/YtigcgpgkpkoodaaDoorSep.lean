/- Slices that were made one after the other lie apart. -/
import Derived.Test.YtigcgpgkpkoodaaDoorArg
namespace Go.Proofs.YtigcgpgkpkoodaaDoor
open Go.RowKit
set_option linter.unusedVariables false

/-- Slices of which one was made before the other lie apart. -/
theorem Ints.sep {wa wb : World} {Ba Bb : Nat} {u v : Value} {xs ys : List Int} (hu : Ints wa Ba u xs) (hv : Ints wb Bb v ys) (h : wa.heap.size ≤ Bb) :
    (u.ownBlock = none ∨ u.ownBlock ≠ v.ownBlock) ∧ (v.ownBlock = none ∨ v.ownBlock ≠ u.ownBlock) := by
  cases e : u.ownBlock with
  | none =>
    refine ⟨.inl rfl, ?_⟩
    cases e' : v.ownBlock with
    | none => exact .inl rfl
    | some k => right; simp
  | some k =>
    have a1 := (World.ownsRow.lt hu k e).2
    cases e' : v.ownBlock with
    | none => exact ⟨.inr (by simp), .inl rfl⟩
    | some j =>
      have a2 := (World.ownsRow.lt hv j e').1
      refine ⟨.inr ?_, .inr ?_⟩ <;> simp <;> omega
theorem Ints.cap {w : World} {B : Nat} {v : Value} {xs : List Int} (h : Ints w B v xs) : ∀ a l c, v = .slice a l c → l ≤ c := by
  intro a l c e
  obtain ⟨_, ⟨rfl, h2⟩ | ⟨g, cap, cur, rfl, h3, h4, h5, h6, h7, h8⟩⟩ := h
  · simp only [Value.slice.injEq] at e; omega
  · simp only [Value.slice.injEq] at e; omega

theorem t_step {w w1 w2 : World} (T : Below w.heap.size w w1) (b : Below w1.heap.size w1 w2) : Below w.heap.size w w2 := T.trans (b.mono T.size)

end Go.Proofs.YtigcgpgkpkoodaaDoor
