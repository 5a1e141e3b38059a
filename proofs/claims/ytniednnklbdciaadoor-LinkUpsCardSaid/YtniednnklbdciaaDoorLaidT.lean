/- What the listed tables give the walks. -/
import Derived.Test.YtniednnklbdciaaDoorLinkUpsW
import Derived.Test.YtniednnklbdciaaDoorRows
import Derived.LaidMore
import Derived.LaidHandle
import Derived.MakeChecks
import Derived.Stop.LaidErr
import Derived.Lib.LaidTab
namespace Go.Proofs.YtniednnklbdciaaDoor
open Go
theorem tab_of_laid {W : World} (_h : laidMetH Tryd.prog [("unicode/utf8.acceptRanges", Rows.laid_unicode_utf8_acceptRanges), ("unicode/utf8.first", Rows.laid_unicode_utf8_first)] W) : Tab W := trivial
end Go.Proofs.YtniednnklbdciaaDoor
