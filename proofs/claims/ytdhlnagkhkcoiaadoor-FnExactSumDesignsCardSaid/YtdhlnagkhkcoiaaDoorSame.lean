/- Whether two slices of integers are the same, by both packages. -/
import Derived.Test.YtdhlnagkhkcoiaaDoorArg
namespace Go.Proofs.YtdhlnagkhkcoiaaDoor
open Go.RowKit
set_option linter.unusedVariables false

theorem at_shape {w : World} {v : Value} {xs : List Int} (h : IntsAt w v xs) : ∃ a cap, v = .slice a xs.length cap ∧ xs.length ≤ 9223372036854775807 ∧ ∀ j, j < xs.length → ∃ g off, a = some ⟨g, off, none⟩ ∧ w.cell? ⟨g, off + j, none⟩ = some (.int .i64 (xs.getD j 0)) := by
  obtain ⟨hl, ⟨rfl, a, cap, rfl⟩ | ⟨g, off, cap, rfl, hc⟩⟩ := h
  · exact ⟨a, cap, rfl, hl, fun j hj => by simp at hj⟩
  · exact ⟨_, cap, rfl, hl, fun j hj => ⟨g, off, rfl, hc j hj⟩⟩

end Go.Proofs.YtdhlnagkhkcoiaaDoor
