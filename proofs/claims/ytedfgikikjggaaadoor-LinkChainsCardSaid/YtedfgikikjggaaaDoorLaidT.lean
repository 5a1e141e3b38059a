/- What the world's shape gives the walks. -/
import Derived.Test.YtedfgikikjggaaaDoorTreeD
import Derived.Test.YtedfgikikjggaaaDoorShp
import Derived.Test.YtedfgikikjggaaaDoorRows
import Derived.ShapedOpen
import Derived.LaidMore
import Derived.MakeChecks
import Derived.Shelf.Vars
namespace Go.Proofs.YtedfgikikjggaaaDoor
open Go
theorem tabH_of {W : World} {X : Prop} (_h : X) (hs : W.ShapedOpen Tryd.prog) : MaxAt W :=
  Go.Proofs.cell_of_shapedOpen_int (zero := #[.int .i64 0]) (t := 3) hs (of_decide_eq_true (by kernel_rfl)) (by kernel_rfl) rfl (by kernel_rfl) (by kernel_rfl) Tryd.underlying3
end Go.Proofs.YtedfgikikjggaaaDoor
