/- The zero value of a square, at a program whose load writes no great zero values (a door seat): what LoadGo3 gives elsewhere. -/
import Derived.Test.YtodlcjdbpibacaaIa
namespace Go.Proofs.Ytodlcjdbpibacaa
open Go.RowKit
set_option linter.unusedVariables false

@[irreducible] def Try.zeroCells38 : Array Value := iar 101 (fun _ => 0)
theorem zcd_eq : Try.zeroCells38 = iar 101 (fun _ => 0) := by unfold Try.zeroCells38; rfl
theorem zcd_run (w : World) : (zeroValue 38).run Try.prog w = .ok (.agg (iar 101 (fun _ => 0))) w := by kernel_rfl
@[go_sem high] theorem zcd_value (w : World) : (zeroValue 38).run Try.prog w = .ok (.agg Try.zeroCells38) w := by rw [zcd_eq]; exact zcd_run w
@[simp, go_sem] theorem zcd_size : Try.zeroCells38.size = 101 := by rw [zcd_eq]; rfl
@[simp, go_sem] theorem zcd_ne : Try.zeroCells38 ≠ #[] := fun e => by have := zcd_size; rw [e] at this; cases this
end Go.Proofs.Ytodlcjdbpibacaa
