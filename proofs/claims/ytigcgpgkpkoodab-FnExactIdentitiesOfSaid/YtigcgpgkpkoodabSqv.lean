/- ValidSquare: both sides. -/
import Derived.Test.YtigcgpgkpkoodabLsq
namespace Go.Proofs.Ytigcgpgkpkoodab
open Go.RowKit
set_option linter.unusedVariables false

noncomputable def ValidSquare_0 (xss : List (List Int)) : Bool := sqB xss

end Go.Proofs.Ytigcgpgkpkoodab
