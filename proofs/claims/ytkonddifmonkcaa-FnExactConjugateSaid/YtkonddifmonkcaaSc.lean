/- Cycles of a permutation: the model. -/
import Derived.Test.YtkonddifmonkcaaCyc
import Derived.Test.YtkonddifmonkcaaRowp
namespace Go.Proofs.Ytkonddifmonkcaa
open Go.RowKit
set_option linter.unusedVariables false

theorem Try.infoBool : (Try.prog.info? 4).map (fun i => (i.zero, i.size, i.bytes)) = some (some (.bool false), 1, 1) := by kernel_rfl
theorem made_ba (w : World) (T : TypeId) (n : Nat) : Ba (w.alloc (.cells (madeCells #[.bool false] n) T)) T w.heap.size n (inL []) := by
  unfold Ba
  rw [heap_alloc_new, inL_nil]
  have : madeCells #[Value.bool false] n = bar n (fun _ => false) := by
    apply Array.toList_inj.1
    rw [toList_madeCells_one]
    unfold bar
    rw [List.map_const', List.length_range]
  rw [this]

end Go.Proofs.Ytkonddifmonkcaa
