/- Permutations: the model's functions ValidPermutation, IdentityPermutation, Compose, InvertPermutation, PowerPermutation. -/
import Derived.Test.YtkenmjdfpieagaaDoorPm
import Derived.Test.YtkenmjdfpieagaaDoorPv
namespace Go.Proofs.YtkenmjdfpieagaaDoor
open Go.RowKit
set_option linter.unusedVariables false

theorem sValidPermutation (xs : List Int) (hx : SmallL xs) (W : World) (v : Value) (hv : IntsC W v xs) :
    Calls Tryd.prog 8 #[v] W fun e w' => e = .returned (.bool (ValidPermutation_0 xs)) ∧ Below W.heap.size W w' := by
  have H := Lib.hid (sok W v xs hv)
  clear hv
  unfold ValidPermutation_0
  go_enter Tryd.func8, Tryd.ntmps8
  go_wp2_with fail
  refine H.out.mono ?_
  rintro e w1 ⟨rfl, k, rfl⟩
  go_wp2
  go_ret
  exact ⟨rfl, Go.below_drewN (Below.refl _ _) k⟩

theorem IntsC.shape {w : World} {v : Value} {xs : List Int} (h : IntsC w v xs) : ∃ a cap, v = .slice a xs.length cap := by
  obtain ⟨a, cap, e, _⟩ := h.part
  exact ⟨a, cap, e⟩

end Go.Proofs.YtkenmjdfpieagaaDoor
