/- Isotope: the exported functions of both sides. -/
import Derived.Test.YtigcgpgkpkoodaaDoorIsm
namespace Go.Proofs.YtigcgpgkpkoodaaDoor
open Go.RowKit Go.Shelf
set_option linter.unusedVariables false

noncomputable def rpB (n : Nat) (xs : List Int) : Bool := decide (xs.length = n) && pmB xs
theorem rpB_rowD {n : Nat} {xss : List (List Int)} {i : Nat} : rpB n (xss.getD i []) = true ↔ rowD n xss i := by
  unfold rpB rowD
  rw [Bool.and_eq_true, decide_eq_true_iff]
theorem isoOk_eq (n : Nat) (rs cs ss : List Int) : isoOk n rs cs ss = (rpB n rs && (rpB n cs && rpB n ss)) := by
  unfold isoOk
  have e0 : rpB n rs = true ↔ rowD n [rs, cs, ss] 0 := rpB_rowD (xss := [rs, cs, ss]) (i := 0)
  have e1 : rpB n cs = true ↔ rowD n [rs, cs, ss] 1 := rpB_rowD (xss := [rs, cs, ss]) (i := 1)
  have e2 : rpB n ss = true ↔ rowD n [rs, cs, ss] 2 := rpB_rowD (xss := [rs, cs, ss]) (i := 2)
  cases h0 : rpB n rs with
  | false =>
    rw [Bool.false_and]
    exact hpB_false (x := 0) (by simp) (fun k => by rw [e0.2 k] at h0; cases h0)
  | true =>
    cases h1 : rpB n cs with
    | false =>
      rw [Bool.true_and, Bool.false_and]
      exact hpB_false (x := 1) (by simp) (fun k => by rw [e1.2 k] at h1; cases h1)
    | true =>
      cases h2 : rpB n ss with
      | false =>
        rw [Bool.true_and, Bool.true_and]
        exact hpB_false (x := 2) (by simp) (fun k => by rw [e2.2 k] at h2; cases h2)
      | true =>
        refine hpB_true fun x hx => ?_
        rcases (show x = 0 ∨ x = 1 ∨ x = 2 by simp at hx; omega) with rfl | rfl | rfl
        · exact e0.1 h0
        · exact e1.1 h1
        · exact e2.1 h2

theorem IsSq.rowLen {xss : List (List Int)} (h : IsSq xss) : ∀ x, x < xss.length → (xss.getD x []).length = xss.length := fun x hx => (h.row x hx).1

end Go.Proofs.YtigcgpgkpkoodaaDoor
