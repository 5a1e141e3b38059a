import Derived.IntWalk
import Derived.Deep.DeepCutAuto
import Derived.Test.YtmfapopclbnlpaaGreatDoorSt7
import Derived.Test.YtmfapopclbnlpaaGreatDoorSt8
import Derived.Test.YtmfapopclbnlpaaGreatDoorSt10
import Derived.Test.YtmfapopclbnlpaaGreatDoorSt11
import Derived.Test.YtmfapopclbnlpaaGreatDoorSt13
import Derived.Test.YtmfapopclbnlpaaGreatDoorSt14
import Derived.Test.YtmfapopclbnlpaaGreatDoorSt18
import Derived.Test.YtmfapopclbnlpaaGreatDoorSt22
set_option linter.unusedVariables false
set_option linter.unusedSimpArgs false
namespace Go.Proofs.YtmfapopclbnlpaaGreatDoor
open Go Go.Proofs Go.RowKit Go.Vc
def xw(l:Bs):Bs:=bw 0 l
theorem ID(l:Bs):ag Tryz.prog aA 26 [.str l,.int .i64 0] ⟨l.length≤300000,.str (xw l)⟩:=
 ag.b9 Tryz.func26 (by kernel_rfl) rfl fun h F w vs _ _ hw hx=>by
  obtain ⟨_,_,rfl,r1,_,_,rfl,r2,rfl⟩:=hx
  obtain rfl:=r1
  obtain rfl:=r2
  exact ⟨_,oK l 0 w h (by decide) (by decide),fun G w=>rfl⟩
def qI:List PV→Option aI:=fun xs=>match xs with |[.str l,.int .i64 0]=>some ⟨l.length≤300000,.str (xw l)⟩|_=>none
theorem xx:∀xs c,qI xs=some c→ag Tryz.prog aA 26 xs c:=fun xs c h=>by
 unfold qI at h
 split at h
 ·injection h with h;subst h;exact ID _
 ·cases h
def aW(l m:Bs):Nat:=l.findIdx (fun b=>m.contains b)
theorem zX(m:Bs):∀l:Bs,(0≤Lib.indexAny l m→Lib.indexAny l m=(aW l m:Int)∧aW l m<l.length)∧(¬0≤Lib.indexAny l m→Lib.indexAny l m=-1∧aW l m=l.length)
 |[]=>⟨fun h=>absurd h (show ¬(0:Int)≤-1 by decide),fun _=>⟨rfl,rfl⟩⟩
 |b::l=>by
  have ih:=zX m l
  have hge:=Lib.indexAny_ge m l
  unfold Lib.indexAny aW
  rw [List.findIdx_cons]
  cases hb:m.contains b with
  |true=>simp
  |false=>
   simp only [Bool.false_eq_true,if_false,cond_false]
   by_cases h:0≤Lib.indexAny l m
   ·obtain ⟨h1,h2⟩:=ih.1 h
    unfold aW at h1 h2
    rw [if_neg (by rw [beq_iff_eq];omega)]
    refine ⟨fun _=>⟨by rw [h1];push_cast;rfl,by simpa using h2⟩,fun hh=>absurd (show(0:Int)≤Lib.indexAny l m+1 by omega) hh⟩
   ·obtain ⟨h1,h2⟩:=ih.2 h
    unfold aW at h2
    rw [if_pos (by rw [beq_iff_eq];exact h1)]
    exact ⟨fun hh=>absurd hh (show ¬(0:Int)≤-1 by decide),fun _=>⟨rfl,by rw [h2];rfl⟩⟩
theorem fe(l m:Bs):aW l m≤l.length:=List.findIdx_le_length
@[irreducible] def aM (l:Bs) (c:Int):Int:=Lib.lastIndexByte ⟨l.toArray⟩ c
theorem xy(l:Bs)(c:Int):aM l c=Lib.lastIndexByte ⟨l.toArray⟩ c:=by unfold aM;rfl
@[irreducible] def KL (l m:Bs):Int:=Lib.indexAny l m
theorem FT(l m:Bs):KL l m=Lib.indexAny l m:=by unfold KL;rfl
theorem KM(l m:Bs):ag Tryz.prog aA 118 [.str l,.str m] ⟨l.length≤1000000∧m.length≤1000000∧(∀b∈m,b.toNat<128),.int .i64 (KL l m)⟩:=
 ag.b9 Tryz.func118 (by kernel_rfl) rfl fun⟨h0,h1,h2⟩ F w vs _ _ hw hx=>by
  obtain ⟨_,_,rfl,r1,_,_,rfl,r2,rfl⟩:=hx
  obtain rfl:=r1
  obtain rfl:=r2
  rw [FT]
  exact ⟨_,Fa Tryz.pC (by kernel_rfl) ⟨l.toArray⟩ ⟨m.toArray⟩ w (by show l.length<4294967281;omega) (by show m.length<4294967281;omega) (fun j b hj=>h2 b (List.mem_of_getElem? hj)),fun G w=>rfl⟩
def vd:List PV→Option aI:=fun xs=>match xs with |[.str l,.str m]=>some ⟨l.length≤1000000∧m.length≤1000000∧(∀b∈m,b.toNat<128),.int .i64 (KL l m)⟩|_=>none
theorem zY:∀xs c,vd xs=some c→ag Tryz.prog aA 118 xs c:=fun xs c h=>by
 unfold vd at h
 split at h
 ·injection h with h;subst h;exact KM _ _
 ·cases h
theorem IE(l:Bs)(c:Int):ag Tryz.prog aA 133 [.str l,.int .u8 c] ⟨l.length≤1000000∧0≤c∧c≤255,.int .i64 (aM l c)⟩:=
 ag.b9 Tryz.func133 (by kernel_rfl) rfl fun⟨h0,h1,h2⟩ F w vs _ _ hw hx=>by
  obtain ⟨_,_,rfl,r1,_,_,rfl,r2,rfl⟩:=hx
  obtain rfl:=r1
  obtain rfl:=r2
  rw [xy]
  exact ⟨_,(Tryz.strings_LastIndexByte ⟨l.toArray⟩ c (by rw [fc];omega) w).mono fun e w' ⟨he,hw'⟩=>⟨he,hw'▸Below.refl _ _⟩,fun G w=>rfl⟩
def qJ:List PV→Option aI:=fun xs=>match xs with |[.str l,.int .u8 c]=>some ⟨l.length≤1000000∧0≤c∧c≤255,.int .i64 (aM l c)⟩|_=>none
theorem xz:∀xs c,qJ xs=some c→ag Tryz.prog aA 133 xs c:=fun xs c h=>by
 unfold qJ at h
 split at h
 ·injection h with h;subst h;exact IE _ _
 ·cases h
theorem KN(l m:Bs):ag Tryz.prog aA 134 [.str l,.str m] ⟨l.length≤1000000∧m=[58],.tup [.str (dq l 58),.str (dK l 58),.bool (xe l 58)]⟩:=
 ag.b9 Tryz.func134 (by kernel_rfl) rfl fun⟨h0,h1⟩ F w vs _ _ hw hx=>by
  obtain ⟨_,_,rfl,r1,_,_,rfl,r2,rfl⟩:=hx
  obtain rfl:=r1
  obtain rfl:=r2
  subst h1
  exact ⟨_,(Bv l 58 w h0).mono fun e w' ⟨he,n,hw'⟩=>⟨he,hw'▸fQ (Below.refl _ _) n⟩,fun G w=>⟨_,⟨_,_,rfl,rfl,_,_,rfl,rfl,_,_,rfl,rfl,rfl⟩,rfl⟩⟩
def ve:List PV→Option aI:=fun xs=>match xs with |[.str l,.str m]=>some ⟨l.length≤1000000∧m=[58],.tup [.str (dq l 58),.str (dK l 58),.bool (xe l 58)]⟩|_=>none
theorem zZ:∀xs c,ve xs=some c→ag Tryz.prog aA 134 xs c:=fun xs c h=>by
 unfold ve at h
 split at h
 ·injection h with h;subst h;exact KN _ _
 ·cases h
theorem IF(l:Bs)(k:Int):ag Tryz.prog aA 26 [.str l,.int .i64 k] ⟨l.length≤300000∧0≤k∧k≤6,.str (bw k l)⟩:=
 ag.b9 Tryz.func26 (by kernel_rfl) rfl fun⟨h,h0,h1⟩ F w vs _ _ hw hx=>by
  obtain ⟨_,_,rfl,r1,_,_,rfl,r2,rfl⟩:=hx
  obtain rfl:=r1
  obtain rfl:=r2
  exact ⟨_,oK l k w h (by omega) (by omega),fun G w=>rfl⟩
def ff:List PV→Option aI:=fun xs=>match xs with |[.str l,.int .i64 k]=>some ⟨l.length≤300000∧0≤k∧k≤6,.str (bw k l)⟩|_=>none
theorem dS:∀xs c,ff xs=some c→ag Tryz.prog aA 26 xs c:=fun xs c h=>by
 unfold ff at h
 split at h
 ·injection h with h;subst h;exact IF _ _
 ·cases h
theorem FU(l:Bs):ag Tryz.prog aA 41 [.str l] ⟨l.length≤1000000,.str (bj l)⟩:=
 ag.b9 Tryz.func41 (by kernel_rfl) rfl fun h F w vs _ _ hw hx=>by
  obtain ⟨_,_,rfl,r1,rfl⟩:=hx
  obtain rfl:=r1
  exact ⟨_,nI l w h,fun G w=>rfl⟩
def nM:List PV→Option aI:=fun xs=>match xs with |[.str l]=>some ⟨l.length≤1000000,.str (bj l)⟩|_=>none
theorem vf:∀xs c,nM xs=some c→ag Tryz.prog aA 41 xs c:=fun xs c h=>by
 unfold nM at h
 split at h
 ·injection h with h;subst h;exact FU _
 ·cases h
theorem IG(l:Bs):ag Tryz.prog aA 163 [.str l] ⟨l.length≤1000000,.bool (mm l)⟩:=
 ag.b9 Tryz.func163 (by kernel_rfl) rfl fun h F w vs _ _ hw hx=>by
  obtain ⟨_,_,rfl,r1,rfl⟩:=hx
  obtain rfl:=r1
  exact ⟨_,(Fv l w h).mono fun e w' ⟨he,hw'⟩=>⟨he,hw'▸Below.refl _ _⟩,fun G w=>rfl⟩
def qK:List PV→Option aI:=fun xs=>match xs with |[.str l]=>some ⟨l.length≤1000000,.bool (mm l)⟩|_=>none
theorem xA:∀xs c,qK xs=some c→ag Tryz.prog aA 163 xs c:=fun xs c h=>by
 unfold qK at h
 split at h
 ·injection h with h;subst h;exact IG _
 ·cases h
theorem KO(l:Bs):ag Tryz.prog aA 164 [.str l] ⟨l.length≤1000000,.bool (ml l)⟩:=
 ag.b9 Tryz.func164 (by kernel_rfl) rfl fun h F w vs _ _ hw hx=>by
  obtain ⟨_,_,rfl,r1,rfl⟩:=hx
  obtain rfl:=r1
  exact ⟨_,(Bu l w h).mono fun e w' ⟨he,hw'⟩=>⟨he,hw'▸Below.refl _ _⟩,fun G w=>rfl⟩
def vg:List PV→Option aI:=fun xs=>match xs with |[.str l]=>some ⟨l.length≤1000000,.bool (ml l)⟩|_=>none
theorem z6:∀xs c,vg xs=some c→ag Tryz.prog aA 164 xs c:=fun xs c h=>by
 unfold vg at h
 split at h
 ·injection h with h;subst h;exact KO _
 ·cases h
end Go.Proofs.YtmfapopclbnlpaaGreatDoor
