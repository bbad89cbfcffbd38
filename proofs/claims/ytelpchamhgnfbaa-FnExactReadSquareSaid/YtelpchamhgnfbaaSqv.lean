/- ValidSquare: both sides. -/
import Derived.Test.YtelpchamhgnfbaaLsq
namespace Go.Proofs.Ytelpchamhgnfbaa
open Go.RowKit
set_option linter.unusedVariables false

noncomputable def ValidSquare_0 (xss : List (List Int)) : Bool := sqB xss

set_option maxRecDepth 100000 in
set_option maxHeartbeats 2000000 in
theorem iValidSquare (xss : List (List Int)) (hx : SmallLL xss) (W : World) (v : Value) (hv : RowsAt W v xss) :
    Calls Try.prog 30 #[v] W fun e w' => e = .returned (.bool (ValidSquare_0 xss)) ∧ Below W.heap.size W w' := by
  have H := Lib.hid (ilsq W v xss hv)
  have e : ValidSquare_0 xss = sqB xss := rfl
  rw [e]
  obtain ⟨z, hz⟩ : ∃ z, sqB xss = z := ⟨_, rfl⟩
  rw [hz] at H ⊢
  clear hv hx hz e
  go_enter Try.func30, Try.ntmps30
  go_wp2_with fail
  refine H.out.mono ?_
  rintro e w1 ⟨n, f, rfl, -, b1⟩
  have st := stores_newSq w1 (sqC n f)
  have B1 : Hid (Below W.heap.size W (w1.alloc (.cells (iar 101 (sqC n f)) 54))) := b1.alloc b1.size _
  clear b1
  go_wp2
  go_ret
  exact ⟨rfl, B1.out⟩
end Go.Proofs.Ytelpchamhgnfbaa
