import Derived.IntWalk
import Derived.Deep.DeepCutAuto
import Derived.Test.YtmfapopclbnlpaaGreatDoorHs7
import Derived.Test.YtmfapopclbnlpaaGreatDoorHs8
import Derived.Test.YtmfapopclbnlpaaGreatDoorHs10
import Derived.Test.YtmfapopclbnlpaaGreatDoorHs11
import Derived.Test.YtmfapopclbnlpaaGreatDoorHs13
import Derived.Test.YtmfapopclbnlpaaGreatDoorHs14
import Derived.Test.YtmfapopclbnlpaaGreatDoorHs18
import Derived.Test.YtmfapopclbnlpaaGreatDoorHs20
set_option linter.unusedVariables false
set_option linter.unusedSimpArgs false
namespace Go.Proofs.YtmfapopclbnlpaaGreatDoor
open Go Go.Proofs Go.RowKit Go.Vc
def xD(l:Bs):Bs:=bl 0 l
theorem IW(l:Bs):ag Tryz.prog aA 26 [.str l,.int .i64 0] ⟨l.length≤300000,.str (xD l)⟩:=
 ag.ck Tryz.func26 (by kernel_rfl) rfl fun h F w vs _ _ hw hx=>by
  obtain ⟨_,_,rfl,r1,_,_,rfl,r2,rfl⟩:=hx
  obtain rfl:=r1
  obtain rfl:=r2
  exact ⟨_,oS l 0 w h (by decide) (by decide),fun G w=>rfl⟩
def qM:List PV→Option aG:=fun xs=>match xs with |[.str l,.int .i64 0]=>some ⟨l.length≤300000,.str (xD l)⟩|_=>none
theorem xE:∀xs c,qM xs=some c→ag Tryz.prog aA 26 xs c:=fun xs c h=>by
 unfold qM at h
 split at h
 ·injection h with h;subst h;exact IW _
 ·cases h
def bd(l m:Bs):Nat:=l.findIdx (fun b=>m.contains b)
theorem Ac(m:Bs):∀l:Bs,(0≤Lib.indexAny l m→Lib.indexAny l m=(bd l m:Int)∧bd l m<l.length)∧(¬0≤Lib.indexAny l m→Lib.indexAny l m=-1∧bd l m=l.length)
 |[]=>⟨fun h=>absurd h (show ¬(0:Int)≤-1 by decide),fun _=>⟨rfl,rfl⟩⟩
 |b::l=>by
  have ih:=Ac m l
  have hge:=Lib.indexAny_ge m l
  unfold Lib.indexAny bd
  rw [List.findIdx_cons]
  cases hb:m.contains b with
  |true=>simp
  |false=>
   simp only [Bool.false_eq_true,if_false,cond_false]
   by_cases h:0≤Lib.indexAny l m
   ·obtain ⟨h1,h2⟩:=ih.1 h
    unfold bd at h1 h2
    rw [if_neg (by rw [beq_iff_eq];omega)]
    refine ⟨fun _=>⟨by rw [h1];push_cast;rfl,by simpa using h2⟩,fun hh=>absurd (show(0:Int)≤Lib.indexAny l m+1 by omega) hh⟩
   ·obtain ⟨h1,h2⟩:=ih.2 h
    unfold bd at h2
    rw [if_pos (by rw [beq_iff_eq];exact h1)]
    exact ⟨fun hh=>absurd hh (show ¬(0:Int)≤-1 by decide),fun _=>⟨rfl,by rw [h2];rfl⟩⟩
theorem db(l m:Bs):bd l m≤l.length:=List.findIdx_le_length
@[irreducible] def aN (l:Bs) (c:Int):Int:=Lib.lastIndexByte ⟨l.toArray⟩ c
theorem xF(l:Bs)(c:Int):aN l c=Lib.lastIndexByte ⟨l.toArray⟩ c:=by unfold aN;rfl
@[irreducible] def KU (l m:Bs):Int:=Lib.indexAny l m
theorem F4(l m:Bs):KU l m=Lib.indexAny l m:=by unfold KU;rfl
theorem KV(l m:Bs):ag Tryz.prog aA 118 [.str l,.str m] ⟨l.length≤1000000∧m.length≤1000000∧(∀b∈m,b.toNat<128),.int .i64 (KU l m)⟩:=
 ag.ck Tryz.func118 (by kernel_rfl) rfl fun⟨h0,h1,h2⟩ F w vs _ _ hw hx=>by
  obtain ⟨_,_,rfl,r1,_,_,rfl,r2,rfl⟩:=hx
  obtain rfl:=r1
  obtain rfl:=r2
  rw [F4]
  exact ⟨_,Fm Tryz.pJ (by kernel_rfl) ⟨l.toArray⟩ ⟨m.toArray⟩ w (by show l.length<4294967281;omega) (by show m.length<4294967281;omega) (fun j b hj=>h2 b (List.mem_of_getElem? hj)),fun G w=>rfl⟩
def vf:List PV→Option aG:=fun xs=>match xs with |[.str l,.str m]=>some ⟨l.length≤1000000∧m.length≤1000000∧(∀b∈m,b.toNat<128),.int .i64 (KU l m)⟩|_=>none
theorem Ad:∀xs c,vf xs=some c→ag Tryz.prog aA 118 xs c:=fun xs c h=>by
 unfold vf at h
 split at h
 ·injection h with h;subst h;exact KV _ _
 ·cases h
theorem IX(l:Bs)(c:Int):ag Tryz.prog aA 133 [.str l,.int .u8 c] ⟨l.length≤1000000∧0≤c∧c≤255,.int .i64 (aN l c)⟩:=
 ag.ck Tryz.func133 (by kernel_rfl) rfl fun⟨h0,h1,h2⟩ F w vs _ _ hw hx=>by
  obtain ⟨_,_,rfl,r1,_,_,rfl,r2,rfl⟩:=hx
  obtain rfl:=r1
  obtain rfl:=r2
  rw [xF]
  exact ⟨_,(Tryz.strings_LastIndexByte ⟨l.toArray⟩ c (by rw [fk];omega) w).mono fun e w' ⟨he,hw'⟩=>⟨he,hw'▸Below.refl _ _⟩,fun G w=>rfl⟩
def qN:List PV→Option aG:=fun xs=>match xs with |[.str l,.int .u8 c]=>some ⟨l.length≤1000000∧0≤c∧c≤255,.int .i64 (aN l c)⟩|_=>none
theorem xG:∀xs c,qN xs=some c→ag Tryz.prog aA 133 xs c:=fun xs c h=>by
 unfold qN at h
 split at h
 ·injection h with h;subst h;exact IX _ _
 ·cases h
theorem KW(l m:Bs):ag Tryz.prog aA 134 [.str l,.str m] ⟨l.length≤1000000∧m=[58],.tup [.str (dm l 58),.str (dJ l 58),.bool (xl l 58)]⟩:=
 ag.ck Tryz.func134 (by kernel_rfl) rfl fun⟨h0,h1⟩ F w vs _ _ hw hx=>by
  obtain ⟨_,_,rfl,r1,_,_,rfl,r2,rfl⟩:=hx
  obtain rfl:=r1
  obtain rfl:=r2
  subst h1
  exact ⟨_,(BG l 58 w h0).mono fun e w' ⟨he,n,hw'⟩=>⟨he,hw'▸fU (Below.refl _ _) n⟩,fun G w=>⟨_,⟨_,_,rfl,rfl,_,_,rfl,rfl,_,_,rfl,rfl,rfl⟩,rfl⟩⟩
def vg:List PV→Option aG:=fun xs=>match xs with |[.str l,.str m]=>some ⟨l.length≤1000000∧m=[58],.tup [.str (dm l 58),.str (dJ l 58),.bool (xl l 58)]⟩|_=>none
theorem Ae:∀xs c,vg xs=some c→ag Tryz.prog aA 134 xs c:=fun xs c h=>by
 unfold vg at h
 split at h
 ·injection h with h;subst h;exact KW _ _
 ·cases h
theorem IY(l:Bs)(k:Int):ag Tryz.prog aA 26 [.str l,.int .i64 k] ⟨l.length≤300000∧0≤k∧k≤6,.str (bl k l)⟩:=
 ag.ck Tryz.func26 (by kernel_rfl) rfl fun⟨h,h0,h1⟩ F w vs _ _ hw hx=>by
  obtain ⟨_,_,rfl,r1,_,_,rfl,r2,rfl⟩:=hx
  obtain rfl:=r1
  obtain rfl:=r2
  exact ⟨_,oS l k w h (by omega) (by omega),fun G w=>rfl⟩
def eB:List PV→Option aG:=fun xs=>match xs with |[.str l,.int .i64 k]=>some ⟨l.length≤300000∧0≤k∧k≤6,.str (bl k l)⟩|_=>none
theorem du:∀xs c,eB xs=some c→ag Tryz.prog aA 26 xs c:=fun xs c h=>by
 unfold eB at h
 split at h
 ·injection h with h;subst h;exact IY _ _
 ·cases h
theorem F5(l:Bs):ag Tryz.prog aA 41 [.str l] ⟨l.length≤1000000,.str (aK l)⟩:=
 ag.ck Tryz.func41 (by kernel_rfl) rfl fun h F w vs _ _ hw hx=>by
  obtain ⟨_,_,rfl,r1,rfl⟩:=hx
  obtain rfl:=r1
  exact ⟨_,nP l w h,fun G w=>rfl⟩
def nT:List PV→Option aG:=fun xs=>match xs with |[.str l]=>some ⟨l.length≤1000000,.str (aK l)⟩|_=>none
theorem vh:∀xs c,nT xs=some c→ag Tryz.prog aA 41 xs c:=fun xs c h=>by
 unfold nT at h
 split at h
 ·injection h with h;subst h;exact F5 _
 ·cases h
theorem IZ(l:Bs):ag Tryz.prog aA 163 [.str l] ⟨l.length≤1000000,.bool (mv l)⟩:=
 ag.ck Tryz.func163 (by kernel_rfl) rfl fun h F w vs _ _ hw hx=>by
  obtain ⟨_,_,rfl,r1,rfl⟩:=hx
  obtain rfl:=r1
  exact ⟨_,(FF l w h).mono fun e w' ⟨he,hw'⟩=>⟨he,hw'▸Below.refl _ _⟩,fun G w=>rfl⟩
def qO:List PV→Option aG:=fun xs=>match xs with |[.str l]=>some ⟨l.length≤1000000,.bool (mv l)⟩|_=>none
theorem xH:∀xs c,qO xs=some c→ag Tryz.prog aA 163 xs c:=fun xs c h=>by
 unfold qO at h
 split at h
 ·injection h with h;subst h;exact IZ _
 ·cases h
theorem KX(l:Bs):ag Tryz.prog aA 164 [.str l] ⟨l.length≤1000000,.bool (mr l)⟩:=
 ag.ck Tryz.func164 (by kernel_rfl) rfl fun h F w vs _ _ hw hx=>by
  obtain ⟨_,_,rfl,r1,rfl⟩:=hx
  obtain rfl:=r1
  exact ⟨_,(BF l w h).mono fun e w' ⟨he,hw'⟩=>⟨he,hw'▸Below.refl _ _⟩,fun G w=>rfl⟩
def vi:List PV→Option aG:=fun xs=>match xs with |[.str l]=>some ⟨l.length≤1000000,.bool (mr l)⟩|_=>none
theorem Af:∀xs c,vi xs=some c→ag Tryz.prog aA 164 xs c:=fun xs c h=>by
 unfold vi at h
 split at h
 ·injection h with h;subst h;exact KX _
 ·cases h
end Go.Proofs.YtmfapopclbnlpaaGreatDoor
