/- ReducedSquare: both exported functions. -/
import Derived.Test.YtigcgpgkpkoodaaDoorRed
import Derived.Test.YtigcgpgkpkoodaaDoorIsf
namespace Go.Proofs.YtigcgpgkpkoodaaDoor
open Go.RowKit Go.Shelf
set_option linter.unusedVariables false

noncomputable def ReducedSquare_0 (xss : List (List Int)) : List (List Int) := if sqB xss = true then gridL xss.length xss.length (redF xss.length (cellF xss)) else []
noncomputable def ReducedSquare_1 (xss : List (List Int)) : Int := if sqB xss = true then 0 else 1
theorem Red_bad {xss : List (List Int)} (h : sqB xss = false) : ReducedSquare_0 xss = [] ∧ ReducedSquare_1 xss = 1 := by unfold ReducedSquare_0 ReducedSquare_1; rw [h]; exact ⟨rfl, rfl⟩
theorem Red_ok {xss : List (List Int)} (h : sqB xss = true) : ReducedSquare_0 xss = gridL xss.length xss.length (redF xss.length (cellF xss)) ∧ ReducedSquare_1 xss = 0 := by unfold ReducedSquare_0 ReducedSquare_1; rw [h]; exact ⟨rfl, rfl⟩
theorem lenReducedSquare_0 (xss : List (List Int)) (hx : SmallLL xss) : (ReducedSquare_0 xss).length + tot (ReducedSquare_0 xss) ≤ 2000000 := by
  cases e : sqB xss with
  | false => rw [(Red_bad e).1]; decide
  | true =>
    have := (of_sqB e).hi
    rw [(Red_ok e).1, gridL_length, tot_gridL]
    have : xss.length * xss.length ≤ 10 * 10 := Nat.mul_le_mul this this
    omega
theorem IsSq.inSq {xss : List (List Int)} (h : IsSq xss) : InSq xss.length (cellF xss) := fun x y hx hy => h.cell hx hy
theorem red_sqF {n : Nat} (f : Nat → Nat → Int) : redF n (sqF n f) = redF n f := redF_congr fun x y hx hy => sqF_in f hx hy

theorem oneL_pm (n : Nat) : ∀ i, i < n → 0 ≤ (oneL n).getD i 0 ∧ (oneL n).getD i 0 < n := fun i hi => by rw [oneL_getD n i hi]; omega
theorem cellF_grid {n x y : Nat} (f : Nat → Nat → Int) (hx : x < n) (hy : y < n) : cellF (gridL n n f) x y = f x y := by
  unfold cellF; rw [gridL_getD f hx, rowf_getD _ hy]

end Go.Proofs.YtigcgpgkpkoodaaDoor
