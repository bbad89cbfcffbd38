/- Permutations: the model's functions ValidPermutation, IdentityPermutation, Compose, InvertPermutation, PowerPermutation. -/
import Derived.Test.YtodlcjdbpibacaaPm
import Derived.Test.YtodlcjdbpibacaaPv
namespace Go.Proofs.Ytodlcjdbpibacaa
open Go.RowKit
set_option linter.unusedVariables false

theorem IntsC.shape {w : World} {v : Value} {xs : List Int} (h : IntsC w v xs) : ∃ a cap, v = .slice a xs.length cap := by
  obtain ⟨a, cap, e, _⟩ := h.part
  exact ⟨a, cap, e⟩

end Go.Proofs.Ytodlcjdbpibacaa
