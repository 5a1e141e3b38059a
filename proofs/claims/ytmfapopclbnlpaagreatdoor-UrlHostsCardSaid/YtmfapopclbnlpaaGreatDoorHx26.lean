import Derived.Shelf.Lays2
import Derived.Shelf.Slices.Clone
import Derived.Ground.Names2Prog
import Derived.Test.YtmfapopclbnlpaaGreatDoorProg
namespace Go.Proofs
open Go.Shelf
def Tryz.uU:Go.Shelf.Ren:=⟨fun |16=>131|n=>n,fun |24=>29|9=>9|4=>4|n=>n,fun |n=>n⟩
theorem Tryz.wZ:Go.Proofs.Lays2.n16 Tryz.prog Tryz.uU:={
 mixed:=by kernel_rfl
 f16:=Tryz.func131.trans (congrArg some (by kernel_rfl))
 t4:=Tryz.underlying4
 a4:=Tryz.isAgg4
 z4:=Tryz.sizeOf4
 v4:=Tryz.zeroValue4
 t9:=Tryz.underlying9
 a9:=Tryz.isAgg9
 z9:=Tryz.sizeOf9
 v9:=Tryz.zeroValue9
 t24:=Tryz.underlying29
 a24:=Tryz.isAgg29
 z24:=Tryz.sizeOf29
 v24:=Tryz.zeroValue29
 i9:=by kernel_rfl}
end Go.Proofs
