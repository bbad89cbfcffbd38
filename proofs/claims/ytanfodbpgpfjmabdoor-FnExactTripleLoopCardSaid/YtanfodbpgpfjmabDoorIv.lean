/- Permutations: the program's ValidPermutation. -/
import Derived.Test.YtanfodbpgpfjmabDoorPn
import Derived.Test.YtanfodbpgpfjmabDoorBa
namespace Go.Proofs.YtanfodbpgpfjmabDoor
open Go.RowKit
set_option linter.unusedVariables false

end Go.Proofs.YtanfodbpgpfjmabDoor
