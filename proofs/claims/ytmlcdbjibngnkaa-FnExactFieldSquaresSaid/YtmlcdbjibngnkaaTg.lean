/- The table itself. -/
import Derived.Test.YtmlcdbjibngnkaaTe
namespace Go.Proofs.Ytmlcdbjibngnkaa
open Go.RowKit
set_option linter.unusedVariables false
/-- A divisor. -/
def divB (p : Nat) : Bool := anyB p fun d => Nat.ble 2 d && Nat.beq (p % d) 0
def tabAll (p k : Nat) : Bool := allB (p ^ k) (tabB p k)
set_option maxRecDepth 100000 in
theorem tab_2 : allB 7 (fun k => Nat.ble k 1 || tabAll 2 k) = true := by kernel_rfl
set_option maxRecDepth 100000 in
theorem tab_3 : allB 4 (fun k => Nat.ble k 1 || tabAll 3 k) = true := by kernel_rfl
set_option maxRecDepth 100000 in
theorem tab_5 : tabAll 5 2 = true := by kernel_rfl
set_option maxRecDepth 100000 in
theorem tab_7 : tabAll 7 2 = true := by kernel_rfl
set_option maxRecDepth 100000 in
theorem tab_1 : allB 65 (fun p => Nat.ble p 1 || divB p || tabB p 1 0) = true := by kernel_rfl
end Go.Proofs.Ytmlcdbjibngnkaa
