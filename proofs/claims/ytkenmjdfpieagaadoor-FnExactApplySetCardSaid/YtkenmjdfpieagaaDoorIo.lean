/- Permutations: the program's IdentityPermutation and InvertPermutation. -/
import Derived.Test.YtkenmjdfpieagaaDoorIv
import Derived.Test.YtkenmjdfpieagaaDoorIa
namespace Go.Proofs.YtkenmjdfpieagaaDoor
open Go.RowKit
set_option linter.unusedVariables false

end Go.Proofs.YtkenmjdfpieagaaDoor
