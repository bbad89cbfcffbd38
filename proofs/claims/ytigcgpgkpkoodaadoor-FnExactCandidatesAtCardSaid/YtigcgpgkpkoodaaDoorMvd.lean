/- The program's moved: the cells of a square moved one by one. -/
import Derived.Test.YtigcgpgkpkoodaaDoorLsq
namespace Go.Proofs.YtigcgpgkpkoodaaDoor
open Go.RowKit Go.Shelf
set_option linter.unusedVariables false

/-- A cell as a value. -/
def cellV (x y : Nat) (z : Int) : Value := .agg #[.int .i64 x, .int .i64 y, .int .i64 z]
/-- What a function on cells answers, reading what lies below B. -/
def MoveOk (w : World) (B : Nat) (s : Value) (n : Nat) (f : Nat → Nat → Int) (mv : Nat → Nat → Nat × Nat × Int) : Prop :=
  ∃ fn fs cs, s = .func (.func fn) fs cs ∧ (∀ args W, (callFunc fn args).run Tryd.prog W = .ok (.enter fn args) W) ∧ ∀ (W : World) (x y : Nat), Below B w W → x < n → y < n → Calls Tryd.prog fn (fs.push (.agg #[.int .i64 x, .int .i64 y, .int .i64 (f x y)]) ++ cs) W fun e W' => e = .returned (.agg #[.int .i64 (mv x y).1, .int .i64 (mv x y).2.1, .int .i64 (mv x y).2.2]) ∧ Below W.heap.size W W'

end Go.Proofs.YtigcgpgkpkoodaaDoor
