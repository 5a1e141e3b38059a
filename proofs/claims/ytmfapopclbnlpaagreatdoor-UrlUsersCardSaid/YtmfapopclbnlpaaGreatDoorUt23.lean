import Derived.IntWalk
import Derived.Deep.DeepCutAuto
import Derived.Test.YtmfapopclbnlpaaGreatDoorUt7
import Derived.Test.YtmfapopclbnlpaaGreatDoorUt8
import Derived.Test.YtmfapopclbnlpaaGreatDoorUt10
import Derived.Test.YtmfapopclbnlpaaGreatDoorUt11
import Derived.Test.YtmfapopclbnlpaaGreatDoorUt13
import Derived.Test.YtmfapopclbnlpaaGreatDoorUt14
import Derived.Test.YtmfapopclbnlpaaGreatDoorUt18
import Derived.Test.YtmfapopclbnlpaaGreatDoorUt22
set_option linter.unusedVariables false
set_option linter.unusedSimpArgs false
namespace Go.Proofs.YtmfapopclbnlpaaGreatDoor
open Go Go.Proofs Go.RowKit Go.Vc
def w6(l:Bs):Bs:=aU 0 l
theorem Hv(l:Bs):ag Tryz.prog ay 26 [.str l,.int .i64 0] ⟨l.length≤300000,.str (w6 l)⟩:=
 ag.b6 Tryz.func26 (by kernel_rfl) rfl fun h F w vs _ _ hw hx=>by
  obtain ⟨_,_,rfl,r1,_,_,rfl,r2,rfl⟩:=hx
  obtain rfl:=r1
  obtain rfl:=r2
  exact ⟨_,oo l 0 w h (by decide) (by decide),fun G w=>rfl⟩
def ql:List PV→Option aI:=fun xs=>match xs with |[.str l,.int .i64 0]=>some ⟨l.length≤300000,.str (w6 l)⟩|_=>none
theorem w7:∀xs c,ql xs=some c→ag Tryz.prog ay 26 xs c:=fun xs c h=>by
 unfold ql at h
 split at h
 ·injection h with h;subst h;exact Hv _
 ·cases h
def bd(l m:Bs):Nat:=l.findIdx (fun b=>m.contains b)
theorem zx(m:Bs):∀l:Bs,(0≤Lib.indexAny l m→Lib.indexAny l m=(bd l m:Int)∧bd l m<l.length)∧(¬0≤Lib.indexAny l m→Lib.indexAny l m=-1∧bd l m=l.length)
 |[]=>⟨fun h=>absurd h (show ¬(0:Int)≤-1 by decide),fun _=>⟨rfl,rfl⟩⟩
 |b::l=>by
  have ih:=zx m l
  have hge:=Lib.indexAny_ge m l
  unfold Lib.indexAny bd
  rw [List.findIdx_cons]
  cases hb:m.contains b with
  |true=>simp
  |false=>
   simp only [Bool.false_eq_true,if_false,cond_false]
   by_cases h:0≤Lib.indexAny l m
   ·obtain ⟨h1,h2⟩:=ih.1 h
    unfold bd at h1 h2
    rw [if_neg (by rw [beq_iff_eq];omega)]
    refine ⟨fun _=>⟨by rw [h1];push_cast;rfl,by simpa using h2⟩,fun hh=>absurd (show(0:Int)≤Lib.indexAny l m+1 by omega) hh⟩
   ·obtain ⟨h1,h2⟩:=ih.2 h
    unfold bd at h2
    rw [if_pos (by rw [beq_iff_eq];exact h1)]
    exact ⟨fun hh=>absurd hh (show ¬(0:Int)≤-1 by decide),fun _=>⟨rfl,by rw [h2];rfl⟩⟩
theorem fv(l m:Bs):bd l m≤l.length:=List.findIdx_le_length
@[irreducible] def aF (l:Bs) (c:Int):Int:=Lib.lastIndexByte ⟨l.toArray⟩ c
theorem qm(l:Bs)(c:Int):aF l c=Lib.lastIndexByte ⟨l.toArray⟩ c:=by unfold aF;rfl
@[irreducible] def J3 (l m:Bs):Int:=Lib.indexAny l m
theorem Fm(l m:Bs):J3 l m=Lib.indexAny l m:=by unfold J3;rfl
theorem J4(l m:Bs):ag Tryz.prog ay 118 [.str l,.str m] ⟨l.length≤1000000∧m.length≤1000000∧(∀b∈m,b.toNat<128),.int .i64 (J3 l m)⟩:=
 ag.b6 Tryz.func118 (by kernel_rfl) rfl fun⟨h0,h1,h2⟩ F w vs _ _ hw hx=>by
  obtain ⟨_,_,rfl,r1,_,_,rfl,r2,rfl⟩:=hx
  obtain rfl:=r1
  obtain rfl:=r2
  rw [Fm]
  exact ⟨_,EC Tryz.o6 (by kernel_rfl) ⟨l.toArray⟩ ⟨m.toArray⟩ w (by show l.length<4294967281;omega) (by show m.length<4294967281;omega) (fun j b hj=>h2 b (List.mem_of_getElem? hj)),fun G w=>rfl⟩
def uG:List PV→Option aI:=fun xs=>match xs with |[.str l,.str m]=>some ⟨l.length≤1000000∧m.length≤1000000∧(∀b∈m,b.toNat<128),.int .i64 (J3 l m)⟩|_=>none
theorem zy:∀xs c,uG xs=some c→ag Tryz.prog ay 118 xs c:=fun xs c h=>by
 unfold uG at h
 split at h
 ·injection h with h;subst h;exact J4 _ _
 ·cases h
theorem Hw(l:Bs)(c:Int):ag Tryz.prog ay 133 [.str l,.int .u8 c] ⟨l.length≤1000000∧0≤c∧c≤255,.int .i64 (aF l c)⟩:=
 ag.b6 Tryz.func133 (by kernel_rfl) rfl fun⟨h0,h1,h2⟩ F w vs _ _ hw hx=>by
  obtain ⟨_,_,rfl,r1,_,_,rfl,r2,rfl⟩:=hx
  obtain rfl:=r1
  obtain rfl:=r2
  rw [qm]
  exact ⟨_,(Tryz.strings_LastIndexByte ⟨l.toArray⟩ c (by rw [eX];omega) w).mono fun e w' ⟨he,hw'⟩=>⟨he,hw'▸Below.refl _ _⟩,fun G w=>rfl⟩
def qn:List PV→Option aI:=fun xs=>match xs with |[.str l,.int .u8 c]=>some ⟨l.length≤1000000∧0≤c∧c≤255,.int .i64 (aF l c)⟩|_=>none
theorem w9:∀xs c,qn xs=some c→ag Tryz.prog ay 133 xs c:=fun xs c h=>by
 unfold qn at h
 split at h
 ·injection h with h;subst h;exact Hw _ _
 ·cases h
theorem J5(l m:Bs):ag Tryz.prog ay 134 [.str l,.str m] ⟨l.length≤1000000∧m=[58],.tup [.str (cK l 58),.str (cU l 58),.bool (wH l 58)]⟩:=
 ag.b6 Tryz.func134 (by kernel_rfl) rfl fun⟨h0,h1⟩ F w vs _ _ hw hx=>by
  obtain ⟨_,_,rfl,r1,_,_,rfl,r2,rfl⟩:=hx
  obtain rfl:=r1
  obtain rfl:=r2
  subst h1
  exact ⟨_,(A5 l 58 w h0).mono fun e w' ⟨he,n,hw'⟩=>⟨he,hw'▸fK (Below.refl _ _) n⟩,fun G w=>⟨_,⟨_,_,rfl,rfl,_,_,rfl,rfl,_,_,rfl,rfl,rfl⟩,rfl⟩⟩
def uH:List PV→Option aI:=fun xs=>match xs with |[.str l,.str m]=>some ⟨l.length≤1000000∧m=[58],.tup [.str (cK l 58),.str (cU l 58),.bool (wH l 58)]⟩|_=>none
theorem zz:∀xs c,uH xs=some c→ag Tryz.prog ay 134 xs c:=fun xs c h=>by
 unfold uH at h
 split at h
 ·injection h with h;subst h;exact J5 _ _
 ·cases h
theorem Hy(l:Bs)(k:Int):ag Tryz.prog ay 26 [.str l,.int .i64 k] ⟨l.length≤300000∧0≤k∧k≤6,.str (aU k l)⟩:=
 ag.b6 Tryz.func26 (by kernel_rfl) rfl fun⟨h,h0,h1⟩ F w vs _ _ hw hx=>by
  obtain ⟨_,_,rfl,r1,_,_,rfl,r2,rfl⟩:=hx
  obtain rfl:=r1
  obtain rfl:=r2
  exact ⟨_,oo l k w h (by omega) (by omega),fun G w=>rfl⟩
def eY:List PV→Option aI:=fun xs=>match xs with |[.str l,.int .i64 k]=>some ⟨l.length≤300000∧0≤k∧k≤6,.str (aU k l)⟩|_=>none
theorem dP:∀xs c,eY xs=some c→ag Tryz.prog ay 26 xs c:=fun xs c h=>by
 unfold eY at h
 split at h
 ·injection h with h;subst h;exact Hy _ _
 ·cases h
theorem Fo(l:Bs):ag Tryz.prog ay 41 [.str l] ⟨l.length≤1000000,.str (bP l)⟩:=
 ag.b6 Tryz.func41 (by kernel_rfl) rfl fun h F w vs _ _ hw hx=>by
  obtain ⟨_,_,rfl,r1,rfl⟩:=hx
  obtain rfl:=r1
  exact ⟨_,nm l w h,fun G w=>rfl⟩
def nv:List PV→Option aI:=fun xs=>match xs with |[.str l]=>some ⟨l.length≤1000000,.str (bP l)⟩|_=>none
theorem uI:∀xs c,nv xs=some c→ag Tryz.prog ay 41 xs c:=fun xs c h=>by
 unfold nv at h
 split at h
 ·injection h with h;subst h;exact Fo _
 ·cases h
theorem Hz(l:Bs):ag Tryz.prog ay 163 [.str l] ⟨l.length≤1000000,.bool (ma l)⟩:=
 ag.b6 Tryz.func163 (by kernel_rfl) rfl fun h F w vs _ _ hw hx=>by
  obtain ⟨_,_,rfl,r1,rfl⟩:=hx
  obtain rfl:=r1
  exact ⟨_,(EV l w h).mono fun e w' ⟨he,hw'⟩=>⟨he,hw'▸Below.refl _ _⟩,fun G w=>rfl⟩
def qo:List PV→Option aI:=fun xs=>match xs with |[.str l]=>some ⟨l.length≤1000000,.bool (ma l)⟩|_=>none
theorem xa:∀xs c,qo xs=some c→ag Tryz.prog ay 163 xs c:=fun xs c h=>by
 unfold qo at h
 split at h
 ·injection h with h;subst h;exact Hz _
 ·cases h
theorem J6(l:Bs):ag Tryz.prog ay 164 [.str l] ⟨l.length≤1000000,.bool (l9 l)⟩:=
 ag.b6 Tryz.func164 (by kernel_rfl) rfl fun h F w vs _ _ hw hx=>by
  obtain ⟨_,_,rfl,r1,rfl⟩:=hx
  obtain rfl:=r1
  exact ⟨_,(A4 l w h).mono fun e w' ⟨he,hw'⟩=>⟨he,hw'▸Below.refl _ _⟩,fun G w=>rfl⟩
def uJ:List PV→Option aI:=fun xs=>match xs with |[.str l]=>some ⟨l.length≤1000000,.bool (l9 l)⟩|_=>none
theorem zA:∀xs c,uJ xs=some c→ag Tryz.prog ay 164 xs c:=fun xs c h=>by
 unfold uJ at h
 split at h
 ·injection h with h;subst h;exact J6 _
 ·cases h
end Go.Proofs.YtmfapopclbnlpaaGreatDoor
