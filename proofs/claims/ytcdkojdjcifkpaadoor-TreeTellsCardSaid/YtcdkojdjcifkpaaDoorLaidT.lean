/- What the world's shape gives the walks. -/
import Derived.Test.YtcdkojdjcifkpaaDoorTreeD
import Derived.Test.YtcdkojdjcifkpaaDoorShp
import Derived.Test.YtcdkojdjcifkpaaDoorRows
import Derived.ShapedOpen
import Derived.LaidMore
import Derived.MakeChecks
import Derived.Shelf.Vars
namespace Go.Proofs.YtcdkojdjcifkpaaDoor
open Go
theorem tabH_of {W : World} {X : Prop} (_h : X) (hs : W.ShapedOpen Tryd.prog) : MaxAt W :=
  Go.Proofs.cell_of_shapedOpen_int (zero := #[.int .i64 0]) (t := 3) hs (of_decide_eq_true (by kernel_rfl)) (by kernel_rfl) rfl (by kernel_rfl) (by kernel_rfl) Tryd.underlying3
end Go.Proofs.YtcdkojdjcifkpaaDoor
