/- SameSquare: both sides. -/
import Derived.Test.YtdhlnagkhkcoiaaDoorSqm
import Derived.Test.YtdhlnagkhkcoiaaDoorSame
import Derived.Shelf.Abstract
namespace Go.Proofs.YtdhlnagkhkcoiaaDoor
open Go.RowKit Go.Shelf
set_option linter.unusedVariables false

def SameSquare_0 (xss yss : List (List Int)) : Bool := decide (xss = yss)
theorem rows_ne_at {xss yss : List (List Int)} {j : Nat} (h : ¬ xss.getD j [] = yss.getD j []) : decide (xss = yss) = false := decide_eq_false (fun e => h (by rw [e]))
theorem rows_eq {xss yss : List (List Int)} (hl : xss.length = yss.length) (h : ∀ j, j < xss.length → xss.getD j [] = yss.getD j []) : decide (xss = yss) = true := by
  refine decide_eq_true (List.ext_getElem hl (fun i h1 h2 => ?_))
  have := h i h1
  simpa [List.getD, List.getElem?_eq_getElem h1, List.getElem?_eq_getElem h2] using this

end Go.Proofs.YtdhlnagkhkcoiaaDoor
