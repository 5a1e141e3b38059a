import Derived.Test.YtkglgkpegledoaaGreatDoorEsmFormatsCd
import Derived.Test.YtkglgkpegledoaaGreatDoorEsmFormatsLift
set_option linter.unusedVariables false
namespace Go.Proofs.YtkglgkpegledoaaGreatDoor.esmFormats
open Go.ChangeShapes Go.WideShapes Go.ChangeAt Go.RowKit
theorem k12 : ((c.named == P.varsNamed f)) = true := by kernel_rfl
end Go.Proofs.YtkglgkpegledoaaGreatDoor.esmFormats
