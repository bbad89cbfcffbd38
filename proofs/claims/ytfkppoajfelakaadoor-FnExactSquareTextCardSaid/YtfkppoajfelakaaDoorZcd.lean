/- The zero value of a square, at a program whose load writes no great zero values (a door seat): what LoadGo3 gives elsewhere. -/
import Derived.Test.YtfkppoajfelakaaDoorIa
namespace Go.Proofs.YtfkppoajfelakaaDoor
open Go.RowKit
set_option linter.unusedVariables false

@[irreducible] def Tryd.zeroCells48 : Array Value := iar 101 (fun _ => 0)
theorem zcd_eq : Tryd.zeroCells48 = iar 101 (fun _ => 0) := by unfold Tryd.zeroCells48; rfl
theorem zcd_run (w : World) : (zeroValue 48).run Tryd.prog w = .ok (.agg (iar 101 (fun _ => 0))) w := by kernel_rfl
@[go_sem high] theorem zcd_value (w : World) : (zeroValue 48).run Tryd.prog w = .ok (.agg Tryd.zeroCells48) w := by rw [zcd_eq]; exact zcd_run w
@[simp, go_sem] theorem zcd_size : Tryd.zeroCells48.size = 101 := by rw [zcd_eq]; rfl
@[simp, go_sem] theorem zcd_ne : Tryd.zeroCells48 ≠ #[] := fun e => by have := zcd_size; rw [e] at this; cases this
end Go.Proofs.YtfkppoajfelakaaDoor
