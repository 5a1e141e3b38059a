/- slices.Clone of texts. -/
import Derived.Test.YtedfgikikjggaaaDoorStrs
set_option linter.unusedVariables false
set_option linter.unusedSimpArgs false
namespace Go.Proofs.YtedfgikikjggaaaDoor
open Go.RowKit

end Go.Proofs.YtedfgikikjggaaaDoor
