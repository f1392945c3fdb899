import Derived.Test.YtmlpmglmnhjajaaChecked
import Derived.WalkKit
import Derived.ProofKit
namespace Go.Proofs.Ytmlpmglmnhjajaa
open Go.RowKit
set_option linter.unusedVariables false
set_option maxRecDepth 100000

end Go.Proofs.Ytmlpmglmnhjajaa
