import Derived.Test.YtmfapopclbnlpaaGreatDoorProg
import Derived.WalkKit
import Derived.WalkSpells
import Derived.WalkLawsBesides
import Derived.IntWalk
set_option linter.unusedVariables false
set_option linter.unusedSimpArgs false
namespace Go.Proofs.YtmfapopclbnlpaaGreatDoor
open Go.RowKit
def sd(x n:Int):Int:=(x %18446744073709551616) %n
theorem u9(x n:Int)(hn:0<n):0≤sd x n∧sd x n<n:=⟨Int.emod_nonneg _ (by omega),Int.emod_lt_of_pos _ hn⟩
set_option maxHeartbeats 400000 in
theorem IC(x n:Int)(w:World)(h0:-9223372036854775808≤x)(h1:x≤9223372036854775807)(h2:1≤n)(h3:n≤4611686018427387904):
 Calls Tryz.prog 17 #[.int .i64 x,.int .i64 n] w fun e w'=>e=.returned (.int .i64 (sd x n))∧w=w':=by
 go_enter Tryz.func17,Tryz.ntmps17
 go_wp2
 go_ret
 refine ⟨?_,by trivial⟩
 have e1:IntKind.u64.wrap x=x %18446744073709551616:=by simp [IntKind.wrap,IntKind.bits,IntKind.signed]
 have h5:0≤x %18446744073709551616:=Int.emod_nonneg _ (by decide)
 have h6:=u9 x n (by omega)
 have e2:wrap64 ((IntKind.u64.wrap x).tmod n)=sd x n:=by
  rw [e1,IntWalk.rem_in _ _ h5]
  exact IntWalk.wrap64_in _ (by unfold sd at h6;omega)
 show Ending.returned (Value.int .i64 (wrap64 ((IntKind.u64.wrap x).tmod n)))=_
 rw [e2]
end Go.Proofs.YtmfapopclbnlpaaGreatDoor
