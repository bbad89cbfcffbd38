/- RankPermutation: the program. -/
import Derived.Test.YtkonddifmonkcaaRkm
import Derived.Test.YtkonddifmonkcaaFnu
namespace Go.Proofs.Ytkonddifmonkcaa
open Go.RowKit
set_option linter.unusedVariables false

theorem Fn.stores_new (W : World) (c : Nat → Int) : (storeCells ⟨W.heap.size, 0, none⟩ (iar 13 c).toList 0).run Try.prog (W.alloc (.cells #[.int .i64 0, .int .i64 0, .int .i64 0, .int .i64 0, .int .i64 0, .int .i64 0, .int .i64 0, .int .i64 0, .int .i64 0, .int .i64 0, .int .i64 0, .int .i64 0, .int .i64 0] 89)) = .ok () (W.alloc (.cells (iar 13 c) 89)) :=
  run_storeCells_new W 89 _ (iar 13 c) (by rw [iar_size]; exact Try.infoFen) (by rw [iar_size]; rfl) (iar_one 13 c)
theorem lt1_uP (p : List Int) : lt1 p.length = uP p 0 := by funext y; unfold lt1 uP; simp

end Go.Proofs.Ytkonddifmonkcaa
