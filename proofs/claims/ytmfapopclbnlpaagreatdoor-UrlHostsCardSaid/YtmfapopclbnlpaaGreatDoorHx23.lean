import Derived.Test.YtmfapopclbnlpaaGreatDoorHx6
import Derived.Test.YtmfapopclbnlpaaGreatDoorHx9
import Derived.Test.YtmfapopclbnlpaaGreatDoorHx12
import Derived.Test.YtmfapopclbnlpaaGreatDoorHx17
import Derived.Test.YtmfapopclbnlpaaGreatDoorHx19
import Derived.Test.YtmfapopclbnlpaaGreatDoorHx20
import Derived.Test.YtmfapopclbnlpaaGreatDoorHx22
set_option linter.unusedVariables false
set_option linter.unusedSimpArgs false
namespace Go.Proofs.YtmfapopclbnlpaaGreatDoor
open Go Go.Proofs Go.RowKit Go.Vc
def qD(l:Bs):Bs:=bz 0 l
theorem Nb(l:Bs):ae Tryz.prog az 26 [.str l,.int .i64 0] ⟨l.length<=300000,.str (qD l)⟩:=
 ae.cm Tryz.func26 (by kernel_rfl) rfl fun h F w vs _ _ hw hx=>by
  obtain ⟨_,_,rfl,r1,_,_,rfl,r2,rfl⟩:=hx;obtain rfl:=r1;obtain rfl:=r2;exact ⟨_,qC l 0 w h (by decide) (by decide),fun G w=>rfl⟩
def wu(l:Bs):Bs:=jj 0 (dv l)
theorem Nc(l:Bs):ae Tryz.prog az 35 [.str l,.int .i64 0] ⟨l.length<=300000,.str (wu l)⟩:=
 ae.cm Tryz.func35 (by kernel_rfl) rfl fun h F w vs _ _ hw hx=>by
  obtain ⟨_,_,rfl,r1,_,_,rfl,r2,rfl⟩:=hx;obtain rfl:=r1;obtain rfl:=r2;exact ⟨_,yi l 0 w h (by decide) (by decide),fun G w=>rfl⟩
def sT(l:Bs):Bool:=kv (qB l)
theorem KM(l:Bs):ae Tryz.prog az 39 [.str l] ⟨l.length<=1000000,.bool (sT l)⟩:=
 ae.cm Tryz.func39 (by kernel_rfl) rfl fun h F w vs _ _ hw hx=>by
  obtain ⟨_,_,rfl,r1,rfl⟩:=hx;obtain rfl:=r1;exact ⟨_,Hp l w h,fun G w=>rfl⟩
theorem KN(l:Bs):ae Tryz.prog az 40 [.str l] ⟨l.length<=1000000,.tup [.int .u32 (cj l),.bool (jP l)]⟩:=
 ae.cm Tryz.func40 (by kernel_rfl) rfl fun h F w vs _ _ hw hx=>by
  obtain ⟨_,_,rfl,r1,rfl⟩:=hx;obtain rfl:=r1;exact ⟨_,Dy l w h,fun G w=>⟨_,⟨_,_,rfl,rfl,_,_,rfl,rfl,rfl⟩,rfl⟩⟩
theorem Nd(l:Bs):sT l=qY l:=by
 unfold sT qY qB;rw [nQ]
def sU:List PV->Option aD:=fun xs=>match xs with |[.str l,.int .i64 0]=>some ⟨l.length<=300000,.str (qD l)⟩|_=>none
theorem AQ:∀xs c,sU xs=some c->ae Tryz.prog az 26 xs c:=fun xs c h=>by
 unfold sU at h;split at h
 ·injection h with h;subst h;exact Nb _
 ·cases h
def sV:List PV->Option aD:=fun xs=>match xs with |[.str l,.int .i64 0]=>some ⟨l.length<=300000,.str (wu l)⟩|_=>none
theorem AR:∀xs c,sV xs=some c->ae Tryz.prog az 35 xs c:=fun xs c h=>by
 unfold sV at h;split at h
 ·injection h with h;subst h;exact Nc _
 ·cases h
def pB:List PV->Option aD:=fun xs=>match xs with |[.str l]=>some ⟨l.length<=1000000,.bool (sT l)⟩|_=>none
theorem yj:∀xs c,pB xs=some c->ae Tryz.prog az 39 xs c:=fun xs c h=>by
 unfold pB at h;split at h
 ·injection h with h;subst h;exact KM _
 ·cases h
def pC:List PV->Option aD:=fun xs=>match xs with |[.str l]=>some ⟨l.length<=1000000,.tup [.int .u32 (cj l),.bool (jP l)]⟩|_=>none
theorem yk:∀xs c,pC xs=some c->ae Tryz.prog az 40 xs c:=fun xs c h=>by
 unfold pC at h;split at h
 ·injection h with h;subst h;exact KN _
 ·cases h
def bo(l m:Bs):Nat:=l.findIdx (fun b=>m.contains b)
theorem DC(m:Bs):∀l:Bs,(0<=Lib.indexAny l m->Lib.indexAny l m=(bo l m:Int)/\bo l m<l.length)/\(¬0<=Lib.indexAny l m->Lib.indexAny l m=-1/\bo l m=l.length)
 |[]=>⟨fun h=>absurd h (show ¬(0:Int)<=-1 by decide),fun _=>⟨rfl,rfl⟩⟩
 |b::l=>by
  have ih:=DC m l;have hge:=Lib.indexAny_ge m l;unfold Lib.indexAny bo;rw [List.findIdx_cons];cases hb:m.contains b with
  |true=>simp
  |false=>
   simp only [Bool.false_eq_true,if_false,cond_false];by_cases h:0<=Lib.indexAny l m
   ·obtain ⟨h1,h2⟩:=ih.1 h
    unfold bo at h1 h2;rw [if_neg (by rw [beq_iff_eq];omega)];refine ⟨fun _=>⟨by rw [h1];push_cast;rfl,by simpa using h2⟩,fun hh=>absurd (show(0:Int)<=Lib.indexAny l m+1 by omega) hh⟩
   ·obtain ⟨h1,h2⟩:=ih.2 h
    unfold bo at h2;rw [if_pos (by rw [beq_iff_eq];exact h1)];exact ⟨fun hh=>absurd hh (show ¬(0:Int)<=-1 by decide),fun _=>⟨rfl,by rw [h2];rfl⟩⟩
theorem gJ(l m:Bs):bo l m<=l.length:=List.findIdx_le_length
@[irreducible] def aK (l:Bs) (c:Int):Int:=Lib.lastIndexByte ⟨l.toArray⟩ c
theorem sW(l:Bs)(c:Int):aK l c=Lib.lastIndexByte ⟨l.toArray⟩ c:=by unfold aK;rfl
@[irreducible] def Pt (l m:Bs):Int:=Lib.indexAny l m
theorem KO(l m:Bs):Pt l m=Lib.indexAny l m:=by unfold Pt;rfl
theorem Pu(l m:Bs):ae Tryz.prog az 118 [.str l,.str m] ⟨l.length<=1000000/\m.length<=1000000/\(∀b∈m,b.toNat<128),.int .i64 (Pt l m)⟩:=
 ae.cm Tryz.func118 (by kernel_rfl) rfl fun⟨h0,h1,h2⟩ F w vs _ _ hw hx=>by
  obtain ⟨_,_,rfl,r1,_,_,rfl,r2,rfl⟩:=hx;obtain rfl:=r1;obtain rfl:=r2;rw [KO];exact ⟨_,JG Tryz.ME (by kernel_rfl) ⟨l.toArray⟩ ⟨m.toArray⟩ w (by show l.length<4294967281;omega) (by show m.length<4294967281;omega) (fun j b hj=>h2 b (List.mem_of_getElem? hj)),fun G w=>rfl⟩
def yl:List PV->Option aD:=fun xs=>match xs with |[.str l,.str m]=>some ⟨l.length<=1000000/\m.length<=1000000/\(∀b∈m,b.toNat<128),.int .i64 (Pt l m)⟩|_=>none
theorem DD:∀xs c,yl xs=some c->ae Tryz.prog az 118 xs c:=fun xs c h=>by
 unfold yl at h;split at h
 ·injection h with h;subst h;exact Pu _ _
 ·cases h
theorem Nf(l:Bs)(c:Int):ae Tryz.prog az 133 [.str l,.int .u8 c] ⟨l.length<=1000000/\0<=c/\c<=255,.int .i64 (aK l c)⟩:=
 ae.cm Tryz.func133 (by kernel_rfl) rfl fun⟨h0,h1,h2⟩ F w vs _ _ hw hx=>by
  obtain ⟨_,_,rfl,r1,_,_,rfl,r2,rfl⟩:=hx;obtain rfl:=r1;obtain rfl:=r2;rw [sW];exact ⟨_,(Tryz.strings_LastIndexByte ⟨l.toArray⟩ c (by rw [gf];omega) w).mono fun e w' ⟨he,hw'⟩=>⟨he,hw'▸Below.refl _ _⟩,fun G w=>rfl⟩
def sX:List PV->Option aD:=fun xs=>match xs with |[.str l,.int .u8 c]=>some ⟨l.length<=1000000/\0<=c/\c<=255,.int .i64 (aK l c)⟩|_=>none
theorem AS:∀xs c,sX xs=some c->ae Tryz.prog az 133 xs c:=fun xs c h=>by
 unfold sX at h;split at h
 ·injection h with h;subst h;exact Nf _ _
 ·cases h
theorem Pv(l m:Bs):ae Tryz.prog az 134 [.str l,.str m] ⟨l.length<=1000000/\m=[58],.tup [.str (eg l 58),.str (eO l 58),.bool (Ab l 58)]⟩:=
 ae.cm Tryz.func134 (by kernel_rfl) rfl fun⟨h0,h1⟩ F w vs _ _ hw hx=>by
  obtain ⟨_,_,rfl,r1,_,_,rfl,r2,rfl⟩:=hx;obtain rfl:=r1;obtain rfl:=r2;subst h1;exact ⟨_,(Fc l 58 w h0).mono fun e w' ⟨he,n,hw'⟩=>⟨he,hw'▸fm (Below.refl _ _) n⟩,fun G w=>⟨_,⟨_,_,rfl,rfl,_,_,rfl,rfl,_,_,rfl,rfl,rfl⟩,rfl⟩⟩
def ym:List PV->Option aD:=fun xs=>match xs with |[.str l,.str m]=>some ⟨l.length<=1000000/\m=[58],.tup [.str (eg l 58),.str (eO l 58),.bool (Ab l 58)]⟩|_=>none
theorem DE:∀xs c,ym xs=some c->ae Tryz.prog az 134 xs c:=fun xs c h=>by
 unfold ym at h;split at h
 ·injection h with h;subst h;exact Pv _ _
 ·cases h
theorem Ng(l:Bs)(k:Int):ae Tryz.prog az 26 [.str l,.int .i64 k] ⟨l.length<=300000/\0<=k/\k<=6,.str (bz k l)⟩:=
 ae.cm Tryz.func26 (by kernel_rfl) rfl fun⟨h,h0,h1⟩ F w vs _ _ hw hx=>by
  obtain ⟨_,_,rfl,r1,_,_,rfl,r2,rfl⟩:=hx;obtain rfl:=r1;obtain rfl:=r2;exact ⟨_,qC l k w h (by omega) (by omega),fun G w=>rfl⟩
def gh:List PV->Option aD:=fun xs=>match xs with |[.str l,.int .i64 k]=>some ⟨l.length<=300000/\0<=k/\k<=6,.str (bz k l)⟩|_=>none
theorem eU:∀xs c,gh xs=some c->ae Tryz.prog az 26 xs c:=fun xs c h=>by
 unfold gh at h;split at h
 ·injection h with h;subst h;exact Ng _ _
 ·cases h
theorem KP(l:Bs):ae Tryz.prog az 41 [.str l] ⟨l.length<=1000000,.str (aF l)⟩:=
 ae.cm Tryz.func41 (by kernel_rfl) rfl fun h F w vs _ _ hw hx=>by
  obtain ⟨_,_,rfl,r1,rfl⟩:=hx;obtain rfl:=r1;exact ⟨_,pj l w h,fun G w=>rfl⟩
def pD:List PV->Option aD:=fun xs=>match xs with |[.str l]=>some ⟨l.length<=1000000,.str (aF l)⟩|_=>none
theorem yn:∀xs c,pD xs=some c->ae Tryz.prog az 41 xs c:=fun xs c h=>by
 unfold pD at h;split at h
 ·injection h with h;subst h;exact KP _
 ·cases h
theorem Nh(l:Bs):ae Tryz.prog az 163 [.str l] ⟨l.length<=1000000,.bool (nP l)⟩:=
 ae.cm Tryz.func163 (by kernel_rfl) rfl fun h F w vs _ _ hw hx=>by
  obtain ⟨_,_,rfl,r1,rfl⟩:=hx;obtain rfl:=r1;exact ⟨_,(JR l w h).mono fun e w' ⟨he,hw'⟩=>⟨he,hw'▸Below.refl _ _⟩,fun G w=>rfl⟩
def sY:List PV->Option aD:=fun xs=>match xs with |[.str l]=>some ⟨l.length<=1000000,.bool (nP l)⟩|_=>none
theorem AT:∀xs c,sY xs=some c->ae Tryz.prog az 163 xs c:=fun xs c h=>by
 unfold sY at h;split at h
 ·injection h with h;subst h;exact Nh _
 ·cases h
theorem Pw(l:Bs):ae Tryz.prog az 164 [.str l] ⟨l.length<=1000000,.bool (nO l)⟩:=
 ae.cm Tryz.func164 (by kernel_rfl) rfl fun h F w vs _ _ hw hx=>by
  obtain ⟨_,_,rfl,r1,rfl⟩:=hx;obtain rfl:=r1;exact ⟨_,(Fb l w h).mono fun e w' ⟨he,hw'⟩=>⟨he,hw'▸Below.refl _ _⟩,fun G w=>rfl⟩
def yo:List PV->Option aD:=fun xs=>match xs with |[.str l]=>some ⟨l.length<=1000000,.bool (nO l)⟩|_=>none
theorem DF:∀xs c,yo xs=some c->ae Tryz.prog az 164 xs c:=fun xs c h=>by
 unfold yo at h;split at h
 ·injection h with h;subst h;exact Pw _
 ·cases h
end Go.Proofs.YtmfapopclbnlpaaGreatDoor
