/- The program: whether all lists are permutations of a degree. -/
import Derived.Test.YtanfodbpgpfjmabDoorMov
import Derived.Test.YtanfodbpgpfjmabDoorIv
namespace Go.Proofs.YtanfodbpgpfjmabDoor
open Go.RowKit
set_option linter.unusedVariables false

def rowD (d : Nat) (xss : List (List Int)) (x : Nat) : Prop := (xss.getD x []).length = d ∧ pmB (xss.getD x []) = true
noncomputable def hpB (d : Nat) (xss : List (List Int)) : Bool := @decide (∀ x, x < xss.length → rowD d xss x) (Classical.propDecidable _)
theorem hpB_true {d : Nat} {xss : List (List Int)} (h : ∀ x, x < xss.length → rowD d xss x) : hpB d xss = true := @decide_eq_true _ (Classical.propDecidable _) h
theorem hpB_false {d : Nat} {xss : List (List Int)} {x : Nat} (hx : x < xss.length) (h : ¬ rowD d xss x) : hpB d xss = false := @decide_eq_false _ (Classical.propDecidable _) (fun k => h (k x hx))
theorem of_hpB {d : Nat} {xss : List (List Int)} (h : hpB d xss = true) : ∀ x, x < xss.length → rowD d xss x := @of_decide_eq_true _ (Classical.propDecidable _) h

end Go.Proofs.YtanfodbpgpfjmabDoor
