/- FactorsOf and IsPrime of the model. -/
import Derived.Test.YtocjdjgfadaljaaSl
import Derived.Test.YtocjdjgfadaljaaFac
namespace Go.Proofs.Ytocjdjgfadaljaa
open Go.RowKit
set_option linter.unusedVariables false

def ints (xs : List Nat) : List Int := xs.map (fun a : Nat => (a : Int))
theorem ints_snoc (xs : List Nat) (a : Nat) : ints (xs ++ [a]) = ints xs ++ [(a : Int)] := by simp [ints]
theorem ints_length (xs : List Nat) : (ints xs).length = xs.length := by simp [ints]

/-- A slice of the call's own that holds the prime factors. -/
def FacOut (n : Nat) (w w' : World) (v : Value) : Prop := ∃ xs, Fac n xs ∧ Ints w' w.heap.size v (ints xs) ∧ Below w.heap.size w w'

end Go.Proofs.Ytocjdjgfadaljaa
