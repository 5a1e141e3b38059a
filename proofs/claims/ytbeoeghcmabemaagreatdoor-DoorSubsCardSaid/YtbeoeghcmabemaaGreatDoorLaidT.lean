/- What the listed tables give the walks. -/
import Derived.Test.YtbeoeghcmabemaaGreatDoorFin
import Derived.Test.YtbeoeghcmabemaaGreatDoorRows
import Derived.LaidMore
import Derived.LaidHandle
import Derived.MakeChecks
import Derived.Stop.LaidErr
import Derived.Lib.LaidTab
namespace Go.Proofs.YtbeoeghcmabemaaGreatDoor
open Go
theorem tab_of_laid {W : World} (_h : laidMetH Tryz.prog [("math/bits.deBruijn32tab", Rows.laid_math_bits_deBruijn32tab), ("math/bits.deBruijn64tab", Rows.laid_math_bits_deBruijn64tab), ("internal/strconv.uint64pow10", Rows.laid_internal_strconv_uint64pow10), ("unicode/utf8.acceptRanges", Rows.laid_unicode_utf8_acceptRanges), ("unicode/utf8.first", Rows.laid_unicode_utf8_first)] W) : Tab W := trivial
end Go.Proofs.YtbeoeghcmabemaaGreatDoor
