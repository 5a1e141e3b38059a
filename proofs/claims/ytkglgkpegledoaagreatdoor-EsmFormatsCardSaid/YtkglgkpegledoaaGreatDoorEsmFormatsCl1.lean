import Derived.Test.YtkglgkpegledoaaGreatDoorEsmFormatsCd
import Derived.Test.YtkglgkpegledoaaGreatDoorEsmFormatsLift
set_option linter.unusedVariables false
namespace Go.Proofs.YtkglgkpegledoaaGreatDoor.esmFormats
open Go.ChangeShapes Go.WideShapes Go.ChangeAt Go.RowKit
theorem k9 : ((c.inPlace == P.inPlace f)) = true := by kernel_rfl
end Go.Proofs.YtkglgkpegledoaaGreatDoor.esmFormats
