/- Permutations: the program's IdentityPermutation and InvertPermutation. -/
import Derived.Test.YtigcgpgkpkoodaaDoorIv
import Derived.Test.YtigcgpgkpkoodaaDoorIa
namespace Go.Proofs.YtigcgpgkpkoodaaDoor
open Go.RowKit
set_option linter.unusedVariables false

end Go.Proofs.YtigcgpgkpkoodaaDoor
