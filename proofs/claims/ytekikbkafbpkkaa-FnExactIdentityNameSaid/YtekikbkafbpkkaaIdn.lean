/- IdentityName of both packages. -/
import Derived.Test.YtekikbkafbpkkaaIn
import Derived.WalkLawsBesides
namespace Go.Proofs.Ytekikbkafbpkkaa
open Go.RowKit
set_option linter.unusedVariables false

set_option maxHeartbeats 2000000 in
theorem idn_no (c : Int) (w : World) (h : c < 1 ∨ 8 < c) :
    Calls Try.prog 3 #[.int .i64 c] w fun r w' => r = .returned (.bool true) ∧ Below w.heap.size w w' := by
  have H := Lib.hid (show c < 1 ∨ 8 < c from h)
  rcases h with h | h
  all_goals
    go_enter Try.func3, Try.ntmps3
    go_wp2_with (first | (go_at_call 36; refine (in_no _ _ _ _ H.out).mono ?_; rintro e w' ⟨rfl, rfl⟩) | (go_at_call 11; go_in) | (go_at_call 12; go_in))
    go_ret
    exact ⟨rfl, by repeat (first | exact Below.refl _ _ | refine Below.alloc ?_ (by simp) _)⟩

set_option maxHeartbeats 8000000 in
theorem idn_yes (c : Int) (w : World) (h : 1 ≤ c) (h' : c ≤ 8) :
    Calls Try.prog 3 #[.int .i64 c] w fun r w' => r = .returned (.bool true) ∧ Below w.heap.size w w' := by
  obtain rfl | rfl | rfl | rfl | rfl | rfl | rfl | rfl : c = 1 ∨ c = 2 ∨ c = 3 ∨ c = 4 ∨ c = 5 ∨ c = 6 ∨ c = 7 ∨ c = 8 := by omega
  all_goals
    go_enter Try.func3, Try.ntmps3
    go_wp2_with (first | (go_at_call 36; refine (in_yes _ _ _ _ (by omega) (by omega)).mono ?_; rintro e w' ⟨rfl, rfl⟩) | (go_at_call 11; go_in) | (go_at_call 37; go_in) | (go_at_call 12; go_in))
    go_ret
    exact ⟨rfl, by repeat (first | exact Below.refl _ _ | refine Below.alloc ?_ (by simp) _)⟩

theorem law_FnExactIdentityName (c : Int) (w : World) (_ : (Lit.int .i64 c).wf = true) :
    Calls Try.prog 3 #[.int .i64 c] w fun r w' => r = .returned (.bool true) ∧ Below w.heap.size w w' := by
  by_cases h : 1 ≤ c ∧ c ≤ 8
  · exact idn_yes c w h.1 h.2
  · exact idn_no c w (by omega)
end Go.Proofs.Ytekikbkafbpkkaa
