/- ValidPartial: both sides. -/
import Derived.Test.YtoioconlpdgndaaDoorPts
import Derived.Test.YtoioconlpdgndaaDoorPtp
namespace Go.Proofs.YtoioconlpdgndaaDoor
open Go.RowKit
set_option linter.unusedVariables false

noncomputable def ValidPartial_0 (xss : List (List Int)) : Bool := ptB xss

set_option maxRecDepth 100000 in
set_option maxHeartbeats 2000000 in
theorem iValidPartial (xss : List (List Int)) (hx : SmallLL xss) (W : World) (v : Value) (hv : RowsAt W v xss) :
    Calls Tryd.prog 20 #[v] W fun e w' => e = .returned (.bool (ValidPartial_0 xss)) ∧ Below W.heap.size W w' := by
  have H := Lib.hid (ipart W v xss hv)
  have e : ValidPartial_0 xss = ptB xss := rfl
  rw [e]
  obtain ⟨z, hz⟩ : ∃ z, ptB xss = z := ⟨_, rfl⟩
  rw [hz] at H ⊢
  clear hv hx hz e
  go_enter Tryd.func20, Tryd.ntmps20
  go_wp2_with fail
  refine H.out.mono ?_
  rintro e w1 ⟨p, rfl, -, b1⟩
  have B1 := Lib.hid b1
  clear b1
  go_wp2
  go_ret
  exact ⟨rfl, B1.out⟩
end Go.Proofs.YtoioconlpdgndaaDoor
