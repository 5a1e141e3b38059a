import Derived.ProofKit
import Derived.Test.YtmfapopclbnlpaaGreatDoorProg
import Derived.Test.YtmfapopclbnlpaaGreatDoorSt6
import Derived.Test.YtmfapopclbnlpaaGreatDoorSt7
import Derived.Test.YtmfapopclbnlpaaGreatDoorSt8
import Derived.Test.YtmfapopclbnlpaaGreatDoorSt12
import Derived.Test.YtmfapopclbnlpaaGreatDoorSt13
import Derived.Test.YtmfapopclbnlpaaGreatDoorSt17
set_option linter.unusedVariables false
set_option linter.unusedSimpArgs false
set_option maxRecDepth 100000
set_option maxHeartbeats 4000000
namespace Go.Proofs.YtmfapopclbnlpaaGreatDoor
open Go Go.Proofs Go.RowKit Go.Vc
def zM(w:World)(g:Nat)(k:IntKind)(zs:List Int):Prop:=∃t,w.heap[g]?=some (.cells (zs.map fun z=>Value.int k z).toArray t (0,0))
theorem zM.lt {w:World}{g:Nat}{k:IntKind}{zs:List Int}(h:zM w g k zs):g<w.heap.size:=by
 obtain ⟨t,h⟩:=h
 exact (Array.getElem?_eq_some_iff.1 h).1
theorem zM.same {w w':World}{g:Nat}{k:IntKind}{zs:List Int}(h:zM w g k zs)(hb:w'.heap[g]?=w.heap[g]?):zM w' g k zs:=by
 obtain ⟨t,h⟩:=h
 exact ⟨t,by rw [hb];exact h⟩
def Dc(w:World)(g:Nat):Prop:=∃m,w.cell? ⟨g,0,none⟩=some (.int .i64 m)
theorem Dc.lt {w:World}{g:Nat}(h:Dc w g):g<w.heap.size:=by
 obtain ⟨m,h⟩:=h
 refine Classical.byContradiction fun hn=>?_
 unfold World.cell? at h
 rw [Array.getElem?_eq_none (show w.heap.size≤g by omega)]at h
 cases h
theorem Dc.same {w w':World}{g:Nat}(h:Dc w g)(hb:w'.heap[g]?=w.heap[g]?):Dc w' g:=by
 obtain ⟨m,h⟩:=h
 refine ⟨m,?_⟩
 unfold World.cell? at h⊢
 rw [hb]
 exact h
def o5(w:World):Prop:=zM w 1 .u64 Lib.pow10Tab∧Dc w 0
instance K7:Wd:=⟨o5,max 1 0+1,fun w h=>by have:=h.1.lt;have:=h.2.lt;omega,fun w w' _ _ _ _ hb h=>⟨h.1.same (hb _ (by omega)),h.2.same (hb _ (by omega))⟩⟩
theorem o5.Mf {w:World}(h:o5 w):JE w:=by
 obtain ⟨⟨t,h⟩,-⟩:=h
 unfold JE Lib.TabIs World.var?
 rw [show Program.globalNamed Tryz.prog "internal/strconv.uint64pow10" =some 1 by kernel_rfl]
 simp only [Option.bind_some,h]
theorem Dd(l:Bs)(i:Int):ag Tryz.prog aA 180 [.str l,.int .i64 i] ⟨0≤i∧i≤l.length∧l.length≤1000000,.int .i64 (i+(af (l.drop i.toNat):Int))⟩:=
 ag.b9 Tryz.func180 (by kernel_rfl) rfl fun⟨h0,h1,h2⟩ F w vs _ _ hw hx=>by
  obtain ⟨_,_,rfl,r1,_,_,rfl,r2,rfl⟩:=hx
  obtain rfl:=r1
  obtain rfl:=r2
  obtain ⟨n,rfl⟩:=Int.eq_ofNat_of_zero_le h0
  refine ⟨_,(zJ l n w h2 (by omega)).mono fun e w' ⟨he,hw'⟩=>⟨he,hw'▸Below.refl _ _⟩,fun G w=>?_⟩
  show Value.int _ _=Value.int _ _
  rw [Int.toNat_natCast];push_cast;rfl
theorem De(l:Bs):ag Tryz.prog aA 181 [.str l] ⟨l.length≤4∧∀i,i<l.length→0≤cT (aD l i),.int .u16 (bY l)⟩:=
 ag.b9 Tryz.func181 (by kernel_rfl) rfl fun⟨h0,h1⟩ F w vs _ _ hw hx=>by
  obtain ⟨_,_,rfl,r1,rfl⟩:=hx
  obtain rfl:=r1
  exact ⟨_,(Db l w h0 h1).mono fun e w' ⟨he,hw'⟩=>⟨he,hw'▸Below.refl _ _⟩,fun G w=>rfl⟩
theorem Df(l:Bs):ag Tryz.prog aA 182 [.str l] ⟨l.length≤1000000,.tup [.int .u32 (cu l),.bool (kA l)]⟩:=
 ag.b9 Tryz.func182 (by kernel_rfl) rfl fun h F w vs _ _ hw hx=>by
  obtain ⟨_,_,rfl,r1,rfl⟩:=hx
  obtain rfl:=r1
  exact ⟨_,zL l w h (o5.Mf hw),fun G w=>⟨_,⟨_,_,rfl,rfl,_,_,rfl,rfl,rfl⟩,rfl⟩⟩
theorem Dg(p:List Int)(c g:Int):ag Tryz.prog aA 183 [.arr 8 (.ints .u16 p),.int .i64 c,.int .i64 g] ⟨p.length=8∧0≤g∧g≤c∧c≤7,.arr 8 (.ints .u16 (bN p c.toNat g.toNat))⟩:=
 ag.b9 Tryz.func183 (by kernel_rfl) rfl fun⟨hp,h0,h1,h2⟩ F w vs _ _ hw hx=>by
  obtain ⟨_,_,rfl,r1,_,_,rfl,r2,_,_,rfl,r3,rfl⟩:=hx
  obtain ⟨-,rfl⟩:=r1
  obtain rfl:=r2
  obtain rfl:=r3
  have:=zK p c.toNat g.toNat w hp (by omega) (by omega)
  rw [Int.toNat_of_nonneg (by omega),Int.toNat_of_nonneg h0]at this
  exact ⟨_,this,fun G w=>⟨by show List.length (List.map _ _)=8;rw [List.length_map];unfold bN;simp;omega,rfl⟩⟩
def preB(l m:Bs):Bool:=Lib.hasPrefix l m
theorem Dh(l m:Bs):ag Tryz.prog aA 78 [.str l,.str m] ⟨True,.bool (preB l m)⟩:=
 ag.b9 Tryz.func78 (by kernel_rfl) rfl fun _ F w vs _ _ hw hx=>by
  obtain ⟨_,_,rfl,r1,_,_,rfl,r2,rfl⟩:=hx
  obtain rfl:=r1
  obtain rfl:=r2
  exact ⟨_,(Tryz.strings_HasPrefix ⟨l.toArray⟩ ⟨m.toArray⟩ w).mono fun e w' ⟨he,hw'⟩=>⟨he,hw'▸Below.refl _ _⟩,fun G w=>rfl⟩
def ji(l m:Bs):Bool:=Lib.containsAny l m
theorem KB(l m:Bs):ag Tryz.prog aA 74 [.str l,.str m] ⟨l.length≤1000000∧m.length≤1000000∧(∀b∈m,b.toNat<128),.bool (ji l m)⟩:=
 ag.b9 Tryz.func74 (by kernel_rfl) rfl fun⟨h0,h1,h2⟩ F w vs _ _ hw hx=>by
  obtain ⟨_,_,rfl,r1,_,_,rfl,r2,rfl⟩:=hx
  obtain rfl:=r1
  obtain rfl:=r2
  exact ⟨_,Kp Tryz.Ij (by kernel_rfl) ⟨l.toArray⟩ ⟨m.toArray⟩ w (by show l.length<4294967281;omega) (by show m.length<4294967281;omega) (fun j b hj=>h2 b (List.mem_of_getElem? hj)),fun G w=>rfl⟩
def hasB(l m:Bs):Bool:=Lib.contains l m
theorem KC(l m:Bs):ag Tryz.prog aA 185 [.str l,.str m] ⟨l.length≤1000000,.bool (hasB l m)⟩:=
 ag.b9 Tryz.func185 (by kernel_rfl) rfl fun h0 F w vs _ _ hw hx=>by
  obtain ⟨_,_,rfl,r1,_,_,rfl,r2,rfl⟩:=hx
  obtain rfl:=r1
  obtain rfl:=r2
  obtain ⟨k,hk⟩:=(show o5 w from hw).2
  exact ⟨_,(Tryz.strings_Contains ⟨l.toArray⟩ ⟨m.toArray⟩ k w (by show l.length<4294967281;omega) hk).mono fun e w' ⟨he,hw'⟩=>⟨he,hw'▸Below.refl _ _⟩,fun G w=>rfl⟩
def uZ(l:Bs):Bool:=tp ((dB l).drop (iL (dB l)))
theorem Iu(l:Bs):ag Tryz.prog aA 175 [.str l] ⟨l.length≤1000000,.bool (uZ l)⟩:=
 ag.b9 Tryz.func175 (by kernel_rfl) rfl fun h F w vs _ _ hw hx=>by
  obtain ⟨_,_,rfl,r1,rfl⟩:=hx
  obtain rfl:=r1
  exact ⟨_,(Fx l w h).mono fun e w' ⟨he,hw'⟩=>⟨he,hw'▸Below.refl _ _⟩,fun G w=>rfl⟩
def oJ(l:Bs):Bool:=(cp (splitB 46 (dB l)) 4 0).2
theorem FA(l:Bs):ag Tryz.prog aA 176 [.str l] ⟨l.length≤1000000,.tup [.int .u32 (cu l),.bool (oJ l)]⟩:=
 ag.b9 Tryz.func176 (by kernel_rfl) rfl fun h F w vs _ _ hw hx=>by
  obtain ⟨_,_,rfl,r1,rfl⟩:=hx
  obtain rfl:=r1
  exact ⟨_,tu l w h,fun G w=>⟨_,⟨_,_,rfl,rfl,_,_,rfl,rfl,rfl⟩,rfl⟩⟩
def Di(l:Bs)(r:Int):Bool:=decide (r<128)&&decide (0≤Lib.indexByte l r.toNat.toUInt8)
theorem FB(l:Bs)(r:Int):ag Tryz.prog aA 187 [.str l,.int .i32 r] ⟨0≤r∧r≤2147483647∧(∀b∈l,b.toNat<128),.bool (Di l r)⟩:=
 ag.b9 Tryz.func187 (by kernel_rfl) rfl fun⟨h0,h1,h2⟩ F w vs _ _ hw hx=>by
  obtain ⟨_,_,rfl,r1,_,_,rfl,r2,rfl⟩:=hx
  obtain rfl:=r1
  obtain rfl:=r2
  by_cases h:r<128
  ·refine ⟨_,(Tryz.strings_ContainsRune_ascii ⟨l.toArray⟩ r w h0 h).mono fun e w' ⟨he,hw'⟩=>⟨he,hw'▸Below.refl _ _⟩,fun G w=>?_⟩
   show Value.bool _=Value.bool _
   unfold Di
   rw [decide_eq_true h];rfl
  ·refine ⟨_,wO Tryz.Bt ⟨l.toArray⟩ r w (fun j b hj=>h2 b (List.mem_of_getElem? hj)) (by omega) h1,fun G w=>?_⟩
   show Value.bool _=Value.bool _
   unfold Di
   rw [decide_eq_false h];rfl
def ll:List PV→Option aI:=fun xs=>match xs with |[.str l,.int .i64 i]=>some ⟨0≤i∧i≤l.length∧l.length≤1000000,.int .i64 (i+(af (l.drop i.toNat):Int))⟩|_=>none
theorem rZ:∀xs c,ll xs=some c→ag Tryz.prog aA 180 xs c:=fun xs c h=>by
 unfold ll at h
 split at h
 ·injection h with h;subst h;exact Dd _ _
 ·cases h
def ln:List PV→Option aI:=fun xs=>match xs with |[.str l]=>some ⟨l.length≤4∧∀i,i<l.length→0≤cT (aD l i),.int .u16 (bY l)⟩|_=>none
theorem r5:∀xs c,ln xs=some c→ag Tryz.prog aA 181 xs c:=fun xs c h=>by
 unfold ln at h
 split at h
 ·injection h with h;subst h;exact De _
 ·cases h
def lp:List PV→Option aI:=fun xs=>match xs with |[.str l]=>some ⟨l.length≤1000000,.tup [.int .u32 (cu l),.bool (kA l)]⟩|_=>none
theorem r6:∀xs c,lp xs=some c→ag Tryz.prog aA 182 xs c:=fun xs c h=>by
 unfold lp at h
 split at h
 ·injection h with h;subst h;exact Df _
 ·cases h
def lq:List PV→Option aI:=fun xs=>match xs with |[.arr 8 (.ints .u16 p),.int .i64 c,.int .i64 g]=>some ⟨p.length=8∧0≤g∧g≤c∧c≤7,.arr 8 (.ints .u16 (bN p c.toNat g.toNat))⟩|_=>none
theorem r7:∀xs c,lq xs=some c→ag Tryz.prog aA 183 xs c:=fun xs c h=>by
 unfold lq at h
 split at h
 ·injection h with h;subst h;exact Dg _ _ _
 ·cases h
def da:List PV→Option aI:=fun xs=>match xs with |[.str l,.str m]=>some ⟨True,.bool (preB l m)⟩|_=>none
theorem cK:∀xs c,da xs=some c→ag Tryz.prog aA 78 xs c:=fun xs c h=>by
 unfold da at h
 split at h
 ·injection h with h;subst h;exact Dh _ _
 ·cases h
def mv:List PV→Option aI:=fun xs=>match xs with |[.str l,.str m]=>some ⟨l.length≤1000000∧m.length≤1000000∧(∀b∈m,b.toNat<128),.bool (ji l m)⟩|_=>none
theorem lr:∀xs c,mv xs=some c→ag Tryz.prog aA 74 xs c:=fun xs c h=>by
 unfold mv at h
 split at h
 ·injection h with h;subst h;exact KB _ _
 ·cases h
def u3:List PV→Option aI:=fun xs=>match xs with |[.str l,.str m]=>some ⟨l.length≤1000000,.bool (hasB l m)⟩|_=>none
theorem zN:∀xs c,u3 xs=some c→ag Tryz.prog aA 185 xs c:=fun xs c h=>by
 unfold u3 at h
 split at h
 ·injection h with h;subst h;exact KC _ _
 ·cases h
def qF:List PV→Option aI:=fun xs=>match xs with |[.str l]=>some ⟨l.length≤1000000,.bool (uZ l)⟩|_=>none
theorem xi:∀xs c,qF xs=some c→ag Tryz.prog aA 175 xs c:=fun xs c h=>by
 unfold qF at h
 split at h
 ·injection h with h;subst h;exact Iu _
 ·cases h
def nJ:List PV→Option aI:=fun xs=>match xs with |[.str l]=>some ⟨l.length≤1000000,.tup [.int .u32 (cu l),.bool (oJ l)]⟩|_=>none
theorem u4:∀xs c,nJ xs=some c→ag Tryz.prog aA 176 xs c:=fun xs c h=>by
 unfold nJ at h
 split at h
 ·injection h with h;subst h;exact FA _
 ·cases h
def nK:List PV→Option aI:=fun xs=>match xs with |[.str l,.int .i32 r]=>some ⟨0≤r∧r≤2147483647∧(∀b∈l,b.toNat<128),.bool (Di l r)⟩|_=>none
theorem u5:∀xs c,nK xs=some c→ag Tryz.prog aA 187 xs c:=fun xs c h=>by
 unfold nK at h
 split at h
 ·injection h with h;subst h;exact FB _ _
 ·cases h
def JF(k:PV→Prop)(J1 J2:Prop)(l:Bs)(C G A:Int)(p:List Int):Prop:=
 ((0:Int)≤A∧A≤↑(List.length l)∧List.length l≤(1000000:Nat))∧(decide (A+↑(af (List.drop A.toNat l))<al l)=true→within (A+↑(af (List.drop A.toNat l))) (al l))∧((bif decide (A+↑(af (List.drop A.toNat l))<al l)then decide (ak l (A+↑(af (List.drop A.toNat l)))=(46:Int))else false)=true→upto A (al l) (al l)∧(aa l A).length.le (1000000:Nat)∧((bif !kA (aa l A)then true else decide ((6:Int)<C))=true→k (PV.tup [PV.arr (8:Nat) (ar.ints IntKind.u16 (List.replicate (8:Nat) (0:Int))),PV.bool false]))∧((bif !kA (aa l A)then true else decide ((6:Int)<C))=false→aG (C+(1:Int))∧(0:Int)≤(16:Int)∧within C ↑(8:Nat)∧(within C ↑(8:Nat)∧True)∧within (C+(1:Int)) ↑(8:Nat)∧(within (C+(1:Int)) ↑(8:Nat)∧True)∧aG (C+(2:Int))∧((bif decide (G<(0:Int))then decide (C+(2:Int)=(8:Int))else false)=true→k (PV.tup [PV.arr (8:Nat) (ar.ints IntKind.u16 (bl (bl p C (IntKind.u16.wrap (iR IntKind.u32 (cu (aa l A)) (16:Int)))) (C+(1:Int)) (IntKind.u16.wrap (cu (aa l A))))),PV.bool true]))∧((bif decide (G<(0:Int))then decide (C+(2:Int)=(8:Int))else false)=false→((bif decide ((0:Int)≤G)then decide (C+(2:Int)<(8:Int))else false)=true→((bl (bl p C (IntKind.u16.wrap (iR IntKind.u32 (cu (aa l A)) (16:Int)))) (C+(1:Int)) (IntKind.u16.wrap (cu (aa l A)))).length=(8:Nat)∧(0:Int)≤G∧G≤C+(2:Int)∧C+(2:Int)≤(7:Int))∧k (PV.tup [PV.arr (8:Nat) (ar.ints IntKind.u16 (bN (bl (bl p C (IntKind.u16.wrap (iR IntKind.u32 (cu (aa l A)) (16:Int)))) (C+(1:Int)) (IntKind.u16.wrap (cu (aa l A)))) (C+(2:Int)).toNat G.toNat)),PV.bool true]))∧((bif decide ((0:Int)≤G)then decide (C+(2:Int)<(8:Int))else false)=false→k (PV.tup [PV.arr (8:Nat) (ar.ints IntKind.u16 (List.replicate (8:Nat) (0:Int))),PV.bool false])))))∧((bif decide (A+↑(af (List.drop A.toNat l))<al l)then decide (ak l (A+↑(af (List.drop A.toNat l)))=(46:Int))else false)=false→((bif decide (C=(8:Int))then true else decide (A+↑(af (List.drop A.toNat l))=A))=false→aG (A+(4:Int)))∧((bif bif decide (C=(8:Int))then true else decide (A+↑(af (List.drop A.toNat l))=A)then true else decide (A+(4:Int)<A+↑(af (List.drop A.toNat l))))=true→k (PV.tup [PV.arr (8:Nat) (ar.ints IntKind.u16 (List.replicate (8:Nat) (0:Int))),PV.bool false]))∧((bif bif decide (C=(8:Int))then true else decide (A+↑(af (List.drop A.toNat l))=A)then true else decide (A+(4:Int)<A+↑(af (List.drop A.toNat l))))=false→upto A (A+↑(af (List.drop A.toNat l))) (al l)∧((bW l A (A+↑(af (List.drop A.toNat l)))).length≤(4:Nat)∧∀(i:Nat),i<(bW l A (A+↑(af (List.drop A.toNat l)))).length→(0:Int)≤cT (aD (bW l A (A+↑(af (List.drop A.toNat l)))) i))∧within C ↑(8:Nat)∧(within C ↑(8:Nat)∧True)∧aG (C+(1:Int))∧(decide (A+↑(af (List.drop A.toNat l))=al l)=true→((bif decide (G<(0:Int))then decide (C+(1:Int)=(8:Int))else false)=true→k (PV.tup [PV.arr (8:Nat) (ar.ints IntKind.u16 (bl p C (bY (bW l A (A+↑(af (List.drop A.toNat l))))))),PV.bool true]))∧((bif decide (G<(0:Int))then decide (C+(1:Int)=(8:Int))else false)=false→((bif decide ((0:Int)≤G)then decide (C+(1:Int)<(8:Int))else false)=true→((bl p C (bY (bW l A (A+↑(af (List.drop A.toNat l)))))).length=(8:Nat)∧(0:Int)≤G∧G≤C+(1:Int)∧C+(1:Int)≤(7:Int))∧k (PV.tup [PV.arr (8:Nat) (ar.ints IntKind.u16 (bN (bl p C (bY (bW l A (A+↑(af (List.drop A.toNat l)))))) (C+(1:Int)).toNat G.toNat)),PV.bool true]))∧((bif decide ((0:Int)≤G)then decide (C+(1:Int)<(8:Int))else false)=false→k (PV.tup [PV.arr (8:Nat) (ar.ints IntKind.u16 (List.replicate (8:Nat) (0:Int))),PV.bool false]))))∧(decide (A+↑(af (List.drop A.toNat l))=al l)=false→within (A+↑(af (List.drop A.toNat l))) (al l)∧((!decide (ak l (A+↑(af (List.drop A.toNat l)))=(58:Int)))=false→aG (A+↑(af (List.drop A.toNat l))+(1:Int)))∧((bif !decide (ak l (A+↑(af (List.drop A.toNat l)))=(58:Int))then true else decide (A+↑(af (List.drop A.toNat l))+(1:Int)=al l))=true→k (PV.tup [PV.arr (8:Nat) (ar.ints IntKind.u16 (List.replicate (8:Nat) (0:Int))),PV.bool false]))∧((bif !decide (ak l (A+↑(af (List.drop A.toNat l)))=(58:Int))then true else decide (A+↑(af (List.drop A.toNat l))+(1:Int)=al l))=false→aG (A+↑(af (List.drop A.toNat l))+(1:Int))∧within (A+↑(af (List.drop A.toNat l))+(1:Int)) (al l)∧((!decide (ak l (A+↑(af (List.drop A.toNat l))+(1:Int))=(58:Int)))=true→J1)∧((!decide (ak l (A+↑(af (List.drop A.toNat l))+(1:Int))=(58:Int)))=false→(decide ((0:Int)≤G)=true→k (PV.tup [PV.arr (8:Nat) (ar.ints IntKind.u16 (List.replicate (8:Nat) (0:Int))),PV.bool false]))∧(decide ((0:Int)≤G)=false→aG (A+↑(af (List.drop A.toNat l))+(1:Int)+(1:Int))∧(decide (A+↑(af (List.drop A.toNat l))+(1:Int)+(1:Int)<al l)=true→J2)∧(decide (A+↑(af (List.drop A.toNat l))+(1:Int)+(1:Int)<al l)=false→((bif decide (C+(1:Int)<(0:Int))then decide (C+(1:Int)=(8:Int))else false)=true→k (PV.tup [PV.arr (8:Nat) (ar.ints IntKind.u16 (bl p C (bY (bW l A (A+↑(af (List.drop A.toNat l))))))),PV.bool true]))∧((bif decide (C+(1:Int)<(0:Int))then decide (C+(1:Int)=(8:Int))else false)=false→((bif decide ((0:Int)≤C+(1:Int))then decide (C+(1:Int)<(8:Int))else false)=true→((bl p C (bY (bW l A (A+↑(af (List.drop A.toNat l)))))).length=(8:Nat)∧(0:Int)≤C+(1:Int)∧C+(1:Int)≤C+(1:Int)∧C+(1:Int)≤(7:Int))∧k (PV.tup [PV.arr (8:Nat) (ar.ints IntKind.u16 (bN (bl p C (bY (bW l A (A+↑(af (List.drop A.toNat l)))))) (C+(1:Int)).toNat (C+(1:Int)).toNat)),PV.bool true]))∧((bif decide ((0:Int)≤C+(1:Int))then decide (C+(1:Int)<(8:Int))else false)=false→k (PV.tup [PV.arr (8:Nat) (ar.ints IntKind.u16 (List.replicate (8:Nat) (0:Int))),PV.bool false]))))))))))
theorem Lx(a b:Bool):(bif a then b else false)=(a&&b):=by cases a<;>rfl
theorem L1(a b:Bool):(bif a then true else b)=(a||b):=by cases a<;>rfl
theorem JG(a:Bool):((!a)=true)=¬(a=true):=by cases a<;>simp
theorem Ly(a:Bool):(a=false)=¬(a=true):=by cases a<;>simp
theorem jT(acc:List Int)(x:Int)(h:acc.length<8):bl (pad acc) (acc.length:Int) x=pad (acc++[x]):=by
 unfold bl pad
 rw [Int.toNat_natCast,List.set_append_right _ _ (by simp),Nat.sub_self,show 8-acc.length=(8-(acc++[x]).length)+1 by simp;omega,List.replicate_succ,List.set_cons_zero,List.append_assoc]
 rfl
theorem iM(l:Bs)(e:Nat):ak l (e:Int)=aD l e:=by unfold ak aD;rw [Int.toNat_natCast]
theorem FC(acc:List Int)(h:acc.length=8):pad acc=acc:=by unfold pad;rw [h];simp
theorem mw(k:PV→Prop)(J1 J2:Prop)(l:Bs)(G:Int)(i e:Nat)(acc:List Int)(R:List Int×Bool)(hl:l.length≤1000000)(h8:acc.length≤8)(g1:-1≤G)(g2:G≤acc.length)(hi:i≤l.length)(he:i+af (l.drop i)=e)
 (hs:fR l (9-acc.length) acc G i=R)(hk:k (.tup [.arr 8 (.ints .u16 R.1),.bool R.2]))
 (H1:∀a,a.length=acc.length+1→bl (pad acc) (acc.length:Int) (bY (bW l (i:Int) (e:Int)))=pad a→a.length≤8→e+1≤l.length→fR l (9-a.length) a G (e+1)=R→J1)
 (H2:∀a,a.length=acc.length+1→bl (pad acc) (acc.length:Int) (bY (bW l (i:Int) (e:Int)))=pad a→a.length≤8→e+2≤l.length→fR l (9-a.length) a (acc.length+1:Nat) (e+2)=R→J2):
 JF k J1 J2 l acc.length G i (pad acc):=by
 unfold JF
 have hE:(i:Int)+((af (l.drop i):Nat):Int)=(e:Int):=by omega
 have hcut:bW l (i:Int) (e:Int)=(l.take e).drop i:=by unfold bW;rw [Int.toNat_natCast,Int.toNat_natCast]
 have hdr:aa l (i:Int)=l.drop i:=by unfold aa;rw [Int.toNat_natCast]
 have hel:e≤l.length:=by have:=tz (l.drop i);rw [List.length_drop]at this;omega
 have hb2:ak l ((e:Int)+1)=aD l (e+1):=by rw [←iM];push_cast;rfl
 rw [Da l acc G i e h8 he]at hs
 have leaf:∀(L:List Int) (b:Bool),R=(L,b)→k (.tup [.arr 8 (.ints .u16 L),.bool b]):=fun L b h=>by rw [h]at hk;exact hk
 have lw:R=ib→k (.tup [.arr 8 (.ints .u16 (List.replicate 8 0)),.bool false]):=fun h=>leaf _ _ h
 simp only [Int.toNat_natCast,hE,hcut,hdr,iM,hb2,Lx,L1,Ly,JG,Bool.and_eq_true,Bool.or_eq_true,decide_eq_true_eq,al,within,upto,aG]at H1 H2⊢
 have fin:∀(a:List Int) (g C':Int) (P:List Int),a.length≤8→C'=a.length→P=pad a→g≤C'→xh a g=R→((g<0∧C'=8→k (.tup [.arr 8 (.ints .u16 P),.bool true]))∧(¬(g<0∧C'=8)→((0≤g∧C'<8→(P.length=8∧0≤g∧g≤C'∧C'≤7)∧k (.tup [.arr 8 (.ints .u16 (bN P C'.toNat g.toNat)),.bool true]))∧(¬(0≤g∧C'<8)→k (.tup [.arr 8 (.ints .u16 (List.replicate 8 0)),.bool false]))))):=by
  intro a g C' P ha hC hP hg hf
  subst hC hP
  unfold xh at hf
  refine ⟨fun h=>?_,fun h=>⟨fun h2=>⟨⟨Ir ha,h2.1,hg,by omega⟩,?_⟩,fun h2=>lw ?_⟩⟩
  ·rw [if_pos ⟨h.1,by omega⟩]at hf
   rw [FC a (by omega)]
   exact leaf _ _ hf.symm
  ·rw [if_neg (by omega),if_pos ⟨h2.1,by omega⟩]at hf
   rw [Int.toNat_natCast]
   exact leaf _ _ hf.symm
  ·rw [if_neg (by omega),if_neg (by omega)]at hf
   exact hf.symm
 refine ⟨⟨by omega,by omega,hl⟩,fun h=>⟨by omega,h⟩,fun h46=>?_,fun h46=>?_⟩
 ·rw [if_pos ⟨by omega,h46.2⟩]at hs
  unfold zI at hs
  refine ⟨⟨by omega,by omega,by omega⟩,?_,fun hd=>?_,fun hd=>?_⟩
  ·show(l.drop i).length≤1000000
   rw [List.length_drop];omega
  ·rw [if_pos (by rcases hd with hd|hd;exact .inl (by simpa using hd);exact .inr (by omega))]at hs
   exact lw hs.symm
  ·have hd1:kA (l.drop i)=true:=Classical.byContradiction fun h=>hd (.inl h)
   have hd2:acc.length≤6:=by omega
   rw [if_neg (by rw [hd1];intro h;rcases h with h|h;cases h;omega)]at hs
   obtain ⟨v0,v1⟩:=BA (l.drop i)
   have e1:IntKind.u16.wrap (iR IntKind.u32 (cu (l.drop i)) 16)=cu (l.drop i)/65536:=by
    have:iR IntKind.u32 (cu (l.drop i)) 16=cu (l.drop i)/65536:=by
     unfold iR
     rw [show(2:Int)^min (Int.toNat 16) IntKind.u32.bits=65536 by decide,Int.fdiv_eq_ediv_of_nonneg _ (by decide)]
    rw [this]
    exact IntWalk.u16_in _ (by omega)
   have e2:IntKind.u16.wrap (cu (l.drop i))=cu (l.drop i) %65536:=by
    simp [IntKind.wrap,IntKind.bits,IntKind.signed]
   have e3:bl (bl (pad acc) (acc.length:Int) (cu (l.drop i)/65536)) ((acc.length:Int)+1) (cu (l.drop i) %65536)=pad (acc++[cu (l.drop i)/65536]++[cu (l.drop i) %65536]):=by
    rw [jT _ _ (by omega),show(acc.length:Int)+1=((acc++[cu (l.drop i)/65536]).length:Int) by simp,jT _ _ (by simp;omega)]
   rw [e1,e2,e3]
   exact ⟨⟨by omega,by omega⟩,by omega,⟨by omega,by omega⟩,⟨⟨by omega,by omega⟩,trivial⟩,⟨by omega,by omega⟩,⟨⟨by omega,by omega⟩,trivial⟩,⟨by omega,by omega⟩,fin _ G _ _ (by simp;omega) (by simp) rfl (by omega) hs⟩
 ·rw [if_neg (by intro h;exact h46 ⟨by omega,h.2⟩)]at hs
  refine ⟨fun _=>⟨by omega,by omega⟩,fun h=>?_,fun h=>?_⟩
  ·rw [if_pos (by omega)]at hs
   exact lw hs.symm
  ·rw [if_neg (by omega)]at hs
   have h7:acc.length<8:=by omega
   obtain ⟨d1,d2⟩:=uX l i e he (by omega)
   have hl1:(acc++[bY ((l.take e).drop i)]).length=acc.length+1:=by simp
   rw [jT _ _ h7]
   refine ⟨⟨by omega,by omega,by omega⟩,⟨d1,d2⟩,⟨by omega,by omega⟩,⟨⟨by omega,by omega⟩,trivial⟩,⟨by omega,by omega⟩,fun hq=>?_,fun hq=>?_⟩
   ·rw [if_pos (by omega)]at hs
    exact fin _ G _ _ (by omega) (by rw [hl1];push_cast;rfl) rfl (by omega) hs
   ·rw [if_neg (by omega)]at hs
    refine ⟨⟨by omega,by omega⟩,fun _=>⟨by omega,by omega⟩,fun h5=>?_,fun h5=>?_⟩
    ·rw [if_pos (by rcases h5 with h5|h5;exact .inl h5;exact .inr (by omega))]at hs
     exact lw hs.symm
    ·rw [if_neg (by intro h6;exact h5 (by rcases h6 with h6|h6;exact .inl h6;exact .inr (by omega)))]at hs
     refine ⟨⟨by omega,by omega⟩,⟨by omega,by omega⟩,fun h9=>?_,fun h9=>⟨fun hg=>?_,fun hg=>⟨⟨by omega,by omega⟩,fun hlt=>?_,fun hlt=>?_⟩⟩⟩
     ·rw [if_pos h9,←hl1]at hs
      exact H1 _ hl1 (jT _ _ h7) (by omega) (by omega) hs
     ·rw [if_neg h9,if_pos hg]at hs
      exact lw hs.symm
     ·rw [if_neg h9,if_neg hg,if_pos (by omega)]at hs
      exact H2 _ hl1 (jT _ _ h7) (by omega) (by omega) (by rw [hl1];exact hs)
     ·rw [if_neg h9,if_neg hg,if_neg (by omega)]at hs
      exact fin _ _ _ _ (by omega) (by rw [hl1];push_cast;rfl) rfl (by omega) hs
section
theorem Iv {l:Bs}(h:Lib.hasPrefix l [58,58]=true):2≤l.length:=by
 match l,h with
 |[],h=>cases h
 |[a],h=>unfold Lib.hasPrefix at h;simp [List.isPrefixOf]at h
 |_::_::_,_=>simp
def xj:cq:=bR [(180,ll),(181,ln),(182,lp),(183,lq),(78,da)]
def xk(l:Bs):ba:=fun i=>bif Nat.beq i 1000000 then some ⟨(Int)×(Int)×(Int)×(List Int),(fun s x=>VS.mk [] [(0,.str l),(2,.ptr 34 0),(3,.bool false),(4,.ptr 36 0),(5,.int .u32 0),(6,.bool false),(7,.int .i64 x.1),(8,.int .i64 x.2.1),(9,.int .i64 x.2.2.1),(10,.undef),(13,.undef),(17,.undef),(30,.undef),(43,.undef),(56,.undef),(67,.undef),(73,.undef),(75,.undef),(82,.undef),(95,.undef),(113,.undef),(120,.undef)] [(36,.arr 8 (.ints .u16 x.2.2.2)),(34,.arr 8 (.ints .u16 (List.replicate 8 0)))]),(fun s=>(s.int 7,s.int 8,s.int 9,VS.ints (VS.mk [] s.lh []) 36)),(fun s x=>let c:=x.1;let g:=x.2.1;let a:=x.2.2.1;let p:=x.2.2.2;∃acc:List Int,c=acc.length∧acc.length≤8∧p=pad acc∧-1≤g∧g≤c∧0≤a∧a≤l.length∧fR l (9-acc.length) acc g a.toNat=il l),(fun s x=>let c:=x.1;let g:=x.2.1;let a:=x.2.2.1;let p:=x.2.2.2;(9-c).toNat),[10,13,17,30,43,56,67,73,75,82]⟩else none
theorem xl:cS Tryz.prog aA xj:=ai rZ (ai r5 (ai r6 (ai r7 (ai cK (ax)))))
theorem Dj(l:Bs)(k:PV→Prop):cD Tryz.prog xj aA (xk l) 1000 Tryz.f170 [.str l] k=(
 True∧
 ((!preB l (ByteArray.mk #[58,58]).data.toList)=true→
 VS.mk []
 [(0,PV.str l),(2,PV.ptr ((2:Nat)+(32:Nat)) (0:Nat)),(3,PV.bool false),
 (4,PV.ptr ((4:Nat)+(32:Nat)) (0:Nat)),(5,PV.int .u32 (0:Int)),
 (6,PV.bool false),(7,PV.int .i64 (0:Int)),(8,PV.int .i64 (-1:Int)),
 (9,PV.int .i64 (0:Int)),((10:Nat),PV.undef),((13:Nat),PV.undef),((17:Nat),PV.undef),
 ((30:Nat),PV.undef),((43:Nat),PV.undef),((56:Nat),PV.undef),((67:Nat),PV.undef),
 ((73:Nat),PV.undef),((75:Nat),PV.undef),((82:Nat),PV.undef),(95,PV.undef),
 (113,PV.undef),(120,PV.undef)]
 [((4:Nat)+(32:Nat),PV.arr (8:Nat) (ar.ints .u16 (List.replicate (8:Nat) (0:Int)))),
 ((2:Nat)+(32:Nat),PV.arr (8:Nat) (ar.ints .u16 (List.replicate (8:Nat) (0:Int))))]=
 VS.mk []
 [((0:Nat),PV.str l),((2:Nat),PV.ptr (34:Nat) (0:Nat)),((3:Nat),PV.bool false),
 ((4:Nat),PV.ptr (36:Nat) (0:Nat)),((5:Nat),PV.int .u32 (0:Int)),((6:Nat),PV.bool false),
 ((7:Nat),PV.int .i64 (0:Int)),((8:Nat),PV.int .i64 (-1:Int)),
 ((9:Nat),PV.int .i64 (0:Int)),((10:Nat),PV.undef),((13:Nat),PV.undef),((17:Nat),PV.undef),
 ((30:Nat),PV.undef),((43:Nat),PV.undef),((56:Nat),PV.undef),((67:Nat),PV.undef),
 ((73:Nat),PV.undef),((75:Nat),PV.undef),((82:Nat),PV.undef),((95:Nat),PV.undef),
 ((113:Nat),PV.undef),((120:Nat),PV.undef)]
 [((36:Nat),PV.arr (8:Nat) (ar.ints .u16 (List.replicate (8:Nat) (0:Int)))),
 ((34:Nat),PV.arr (8:Nat) (ar.ints .u16 (List.replicate (8:Nat) (0:Int))))]∧
 (∃(acc:List Int),
 (0:Int)=↑acc.length∧
 acc.length≤(8:Nat)∧
 List.replicate (8:Nat) (0:Int)=pad acc∧
 (-1:Int)≤(-1:Int)∧
 (-1:Int)≤(0:Int)∧
 (0:Int)≤(0:Int)∧
 (0:Int)≤↑(List.length l)∧
 fR l ((9:Nat)-acc.length) acc (-1:Int) (Int.toNat (0:Int))=
 il l)∧
 ∀(x:Int×Int×Int×List Int),
 (∃(acc:List Int),
 x.1=↑acc.length∧
 acc.length≤(8:Nat)∧
 x.2.2.2=pad acc∧
 (-1:Int)≤x.2.1∧
 x.2.1≤x.1∧
 (0:Int)≤x.2.2.1∧
 x.2.2.1≤↑(List.length l)∧
 fR l ((9:Nat)-acc.length) acc x.2.1 x.2.2.1.toNat=
 il l)→
 ((0:Int)≤x.2.2.1∧x.2.2.1≤↑(List.length l)∧List.length l≤(1000000:Nat))∧
 (decide (x.2.2.1+↑(af (List.drop x.2.2.1.toNat l))<al l)=true→
 within (x.2.2.1+↑(af (List.drop x.2.2.1.toNat l))) (al l))∧
 ((bif decide (x.2.2.1+↑(af (List.drop x.2.2.1.toNat l))<al l)then
 decide (ak l (x.2.2.1+↑(af (List.drop x.2.2.1.toNat l)))=(46:Int))
 else false)=
 true→
 upto x.2.2.1 (al l) (al l)∧
 (aa l x.2.2.1).length.le (1000000:Nat)∧
 ((bif !kA (aa l x.2.2.1)then true else decide ((6:Int)<x.1))=true→
 k
 (PV.tup
 [PV.arr (8:Nat) (ar.ints .u16 (List.replicate (8:Nat) (0:Int))),PV.bool false]))∧
 ((bif !kA (aa l x.2.2.1)then true else decide ((6:Int)<x.1))=false→
 aG (x.1+(1:Int))∧
 (0:Int)≤(16:Int)∧
 within x.1 ↑(8:Nat)∧
 (within x.1 ↑(8:Nat)∧True)∧
 within (x.1+(1:Int)) ↑(8:Nat)∧
 (within (x.1+(1:Int)) ↑(8:Nat)∧True)∧
 aG (x.1+(2:Int))∧
 ((bif decide (x.2.1<(0:Int))then decide (x.1+(2:Int)=(8:Int))else false)=true→
 k
 (PV.tup
 [PV.arr (8:Nat)
 (ar.ints .u16
 (bl
 (bl x.2.2.2 x.1
 (Go.IntKind.u16.wrap
 (iR .u32
 (cu (aa l x.2.2.1)) (16:Int))))
 (x.1+(1:Int))
 (Go.IntKind.u16.wrap (cu (aa l x.2.2.1))))),
 PV.bool true]))∧
 ((bif decide (x.2.1<(0:Int))then decide (x.1+(2:Int)=(8:Int))else false)=false→
 ((bif decide ((0:Int)≤x.2.1)then decide (x.1+(2:Int)<(8:Int))else false)=true→
 ((bl
 (bl x.2.2.2 x.1
 (Go.IntKind.u16.wrap
 (iR .u32
 (cu (aa l x.2.2.1)) (16:Int))))
 (x.1+(1:Int))
 (Go.IntKind.u16.wrap
 (cu (aa l x.2.2.1)))).length=
 (8:Nat)∧
 (0:Int)≤x.2.1∧x.2.1≤x.1+(2:Int)∧x.1+(2:Int)≤(7:Int))∧
 k
 (PV.tup
 [PV.arr (8:Nat)
 (ar.ints .u16
 (bN
 (bl
 (bl x.2.2.2 x.1
 (Go.IntKind.u16.wrap
 (iR .u32
 (cu (aa l x.2.2.1)) (16:Int))))
 (x.1+(1:Int))
 (Go.IntKind.u16.wrap
 (cu (aa l x.2.2.1))))
 (x.1+(2:Int)).toNat x.2.1.toNat)),
 PV.bool true]))∧
 ((bif decide ((0:Int)≤x.2.1)then decide (x.1+(2:Int)<(8:Int))else false)=false→
 k
 (PV.tup
 [PV.arr (8:Nat) (ar.ints .u16 (List.replicate (8:Nat) (0:Int))),
 PV.bool false])))))∧
 ((bif decide (x.2.2.1+↑(af (List.drop x.2.2.1.toNat l))<al l)then
 decide (ak l (x.2.2.1+↑(af (List.drop x.2.2.1.toNat l)))=(46:Int))
 else false)=
 false→
 ((bif decide (x.1=(8:Int))then true
 else decide (x.2.2.1+↑(af (List.drop x.2.2.1.toNat l))=x.2.2.1))=
 false→
 aG (x.2.2.1+(4:Int)))∧
 ((bif
 bif decide (x.1=(8:Int))then true
 else
 decide
 (x.2.2.1+↑(af (List.drop x.2.2.1.toNat l))=x.2.2.1)then
 true
 else
 decide
 (x.2.2.1+(4:Int)<
 x.2.2.1+↑(af (List.drop x.2.2.1.toNat l))))=
 true→
 k
 (PV.tup
 [PV.arr (8:Nat) (ar.ints .u16 (List.replicate (8:Nat) (0:Int))),PV.bool false]))∧
 ((bif
 bif decide (x.1=(8:Int))then true
 else
 decide
 (x.2.2.1+↑(af (List.drop x.2.2.1.toNat l))=x.2.2.1)then
 true
 else
 decide
 (x.2.2.1+(4:Int)<
 x.2.2.1+↑(af (List.drop x.2.2.1.toNat l))))=
 false→
 upto x.2.2.1 (x.2.2.1+↑(af (List.drop x.2.2.1.toNat l)))
 (al l)∧
 ((bW l x.2.2.1
 (x.2.2.1+↑(af (List.drop x.2.2.1.toNat l)))).length≤
 (4:Nat)∧
 ∀(i:Nat),
 i<
 (bW l x.2.2.1
 (x.2.2.1+↑(af (List.drop x.2.2.1.toNat l)))).length→
 (0:Int)≤
 cT
 (aD
 (bW l x.2.2.1
 (x.2.2.1+↑(af (List.drop x.2.2.1.toNat l))))
 i))∧
 within x.1 ↑(8:Nat)∧
 (within x.1 ↑(8:Nat)∧True)∧
 aG (x.1+(1:Int))∧
 (decide (x.2.2.1+↑(af (List.drop x.2.2.1.toNat l))=al l)=
 true→
 ((bif decide (x.2.1<(0:Int))then decide (x.1+(1:Int)=(8:Int))else false)=true→
 k
 (PV.tup
 [PV.arr (8:Nat)
 (ar.ints .u16
 (bl x.2.2.2 x.1
 (bY
 (bW l x.2.2.1
 (x.2.2.1+
 ↑(af (List.drop x.2.2.1.toNat l))))))),
 PV.bool true]))∧
 ((bif decide (x.2.1<(0:Int))then decide (x.1+(1:Int)=(8:Int))else false)=false→
 ((bif decide ((0:Int)≤x.2.1)then decide (x.1+(1:Int)<(8:Int))else false)=true→
 ((bl x.2.2.2 x.1
 (bY
 (bW l x.2.2.1
 (x.2.2.1+
 ↑(af (List.drop x.2.2.1.toNat l)))))).length=
 (8:Nat)∧
 (0:Int)≤x.2.1∧x.2.1≤x.1+(1:Int)∧x.1+(1:Int)≤(7:Int))∧
 k
 (PV.tup
 [PV.arr (8:Nat)
 (ar.ints .u16
 (bN
 (bl x.2.2.2 x.1
 (bY
 (bW l x.2.2.1
 (x.2.2.1+
 ↑(af (List.drop x.2.2.1.toNat l))))))
 (x.1+(1:Int)).toNat x.2.1.toNat)),
 PV.bool true]))∧
 ((bif decide ((0:Int)≤x.2.1)then decide (x.1+(1:Int)<(8:Int))else false)=false→
 k
 (PV.tup
 [PV.arr (8:Nat) (ar.ints .u16 (List.replicate (8:Nat) (0:Int))),
 PV.bool false]))))∧
 (decide
 (x.2.2.1+↑(af (List.drop x.2.2.1.toNat l))=al l)=
 false→
 within (x.2.2.1+↑(af (List.drop x.2.2.1.toNat l)))
 (al l)∧
 ((!decide
 (ak l
 (x.2.2.1+↑(af (List.drop x.2.2.1.toNat l)))=
 (58:Int)))=
 false→
 aG
 (x.2.2.1+↑(af (List.drop x.2.2.1.toNat l))+
 (1:Int)))∧
 ((bif
 !decide
 (ak l
 (x.2.2.1+
 ↑(af (List.drop x.2.2.1.toNat l)))=
 (58:Int))then
 true
 else
 decide
 (x.2.2.1+↑(af (List.drop x.2.2.1.toNat l))+
 (1:Int)=
 al l))=
 true→
 k
 (PV.tup
 [PV.arr (8:Nat) (ar.ints .u16 (List.replicate (8:Nat) (0:Int))),
 PV.bool false]))∧
 ((bif
 !decide
 (ak l
 (x.2.2.1+
 ↑(af (List.drop x.2.2.1.toNat l)))=
 (58:Int))then
 true
 else
 decide
 (x.2.2.1+↑(af (List.drop x.2.2.1.toNat l))+
 (1:Int)=
 al l))=
 false→
 aG
 (x.2.2.1+↑(af (List.drop x.2.2.1.toNat l))+
 (1:Int))∧
 within
 (x.2.2.1+↑(af (List.drop x.2.2.1.toNat l))+
 (1:Int))
 (al l)∧
 ((!decide
 (ak l
 (x.2.2.1+
 ↑(af (List.drop x.2.2.1.toNat l))+
 (1:Int))=
 (58:Int)))=
 true→
 rR (VS.mk []
 [((0:Nat),PV.str l),((2:Nat),PV.ptr (34:Nat) (0:Nat)),
 ((3:Nat),PV.bool false),((4:Nat),PV.ptr (36:Nat) (0:Nat)),
 ((5:Nat),PV.int .u32 (0:Int)),((6:Nat),PV.bool false),
 ((7:Nat),PV.int .i64 (x.1+(1:Int))),
 ((8:Nat),PV.int .i64 x.2.1),
 ((9:Nat),
 PV.int .i64
 (x.2.2.1+
 ↑(af (List.drop x.2.2.1.toNat l))+
 (1:Int))),
 ((10:Nat),PV.undef),((13:Nat),PV.undef),((17:Nat),PV.undef),
 ((30:Nat),PV.undef),((43:Nat),PV.undef),((56:Nat),PV.undef),
 ((67:Nat),PV.undef),((73:Nat),PV.undef),((75:Nat),PV.undef),
 ((82:Nat),PV.undef),((95:Nat),PV.undef),((113:Nat),PV.undef),
 ((120:Nat),PV.undef)]
 [((36:Nat),
 PV.arr (8:Nat)
 (ar.ints .u16
 (bl x.2.2.2 x.1
 (bY
 (bW l x.2.2.1
 (x.2.2.1+
 ↑(af
 (List.drop x.2.2.1.toNat l)))))))),
 ((34:Nat),
 PV.arr (8:Nat)
 (ar.ints .u16 (List.replicate (8:Nat) (0:Int))))])∧
 (∃(acc:List Int),
 x.1+(1:Int)=↑acc.length∧
 acc.length≤(8:Nat)∧
 bl x.2.2.2 x.1
 (bY
 (bW l x.2.2.1
 (x.2.2.1+
 ↑(af
 (List.drop x.2.2.1.toNat l)))))=
 pad acc∧
 (-1:Int)≤x.2.1∧
 x.2.1≤x.1+(1:Int)∧
 (0:Int)≤
 x.2.2.1+
 ↑(af
 (List.drop x.2.2.1.toNat l))+
 (1:Int)∧
 x.2.2.1+
 ↑(af
 (List.drop x.2.2.1.toNat l))+
 (1:Int)≤
 ↑(List.length l)∧
 fR l ((9:Nat)-acc.length) acc x.2.1
 (x.2.2.1+
 ↑(af
 (List.drop x.2.2.1.toNat l))+
 (1:Int)).toNat=
 il l)∧
 ((9:Int)-(x.1+(1:Int))).toNat<((9:Int)-x.1).toNat)∧
 ((!decide
 (ak l
 (x.2.2.1+
 ↑(af (List.drop x.2.2.1.toNat l))+
 (1:Int))=
 (58:Int)))=
 false→
 (decide ((0:Int)≤x.2.1)=true→
 k
 (PV.tup
 [PV.arr (8:Nat) (ar.ints .u16 (List.replicate (8:Nat) (0:Int))),
 PV.bool false]))∧
 (decide ((0:Int)≤x.2.1)=false→
 aG
 (x.2.2.1+
 ↑(af (List.drop x.2.2.1.toNat l))+
 (1:Int)+
 (1:Int))∧
 (decide
 (x.2.2.1+
 ↑(af
 (List.drop x.2.2.1.toNat l))+
 (1:Int)+
 (1:Int)<
 al l)=
 true→
 rR (VS.mk []
 [((0:Nat),PV.str l),((2:Nat),PV.ptr (34:Nat) (0:Nat)),
 ((3:Nat),PV.bool false),((4:Nat),PV.ptr (36:Nat) (0:Nat)),
 ((5:Nat),PV.int .u32 (0:Int)),
 ((6:Nat),PV.bool false),
 ((7:Nat),PV.int .i64 (x.1+(1:Int))),
 ((8:Nat),PV.int .i64 (x.1+(1:Int))),
 ((9:Nat),
 PV.int .i64
 (x.2.2.1+
 ↑(af
 (List.drop x.2.2.1.toNat l))+
 (1:Int)+
 (1:Int))),
 ((10:Nat),PV.undef),((13:Nat),PV.undef),
 ((17:Nat),PV.undef),((30:Nat),PV.undef),
 ((43:Nat),PV.undef),((56:Nat),PV.undef),
 ((67:Nat),PV.undef),((73:Nat),PV.undef),
 ((75:Nat),PV.undef),((82:Nat),PV.undef),
 ((95:Nat),PV.undef),((113:Nat),PV.undef),
 ((120:Nat),PV.undef)]
 [((36:Nat),
 PV.arr (8:Nat)
 (ar.ints .u16
 (bl x.2.2.2 x.1
 (bY
 (bW l x.2.2.1
 (x.2.2.1+
 ↑(af
 (List.drop x.2.2.1.toNat l)))))))),
 ((34:Nat),
 PV.arr (8:Nat)
 (ar.ints .u16 (List.replicate (8:Nat) (0:Int))))])∧
 (∃(acc:List Int),
 x.1+(1:Int)=↑acc.length∧
 acc.length≤(8:Nat)∧
 bl x.2.2.2 x.1
 (bY
 (bW l x.2.2.1
 (x.2.2.1+
 ↑(af
 (List.drop x.2.2.1.toNat l)))))=
 pad acc∧
 (-1:Int)≤x.1+(1:Int)∧
 x.1+(1:Int)≤x.1+(1:Int)∧
 (0:Int)≤
 x.2.2.1+
 ↑(af
 (List.drop x.2.2.1.toNat l))+
 (1:Int)+
 (1:Int)∧
 x.2.2.1+
 ↑(af
 (List.drop x.2.2.1.toNat l))+
 (1:Int)+
 (1:Int)≤
 ↑(List.length l)∧
 fR l ((9:Nat)-acc.length) acc
 (x.1+(1:Int))
 (x.2.2.1+
 ↑(af
 (List.drop x.2.2.1.toNat l))+
 (1:Int)+
 (1:Int)).toNat=
 il l)∧
 ((9:Int)-(x.1+(1:Int))).toNat<((9:Int)-x.1).toNat)∧
 (decide
 (x.2.2.1+
 ↑(af
 (List.drop x.2.2.1.toNat l))+
 (1:Int)+
 (1:Int)<
 al l)=
 false→
 ((bif decide (x.1+(1:Int)<(0:Int))then decide (x.1+(1:Int)=(8:Int))
 else false)=
 true→
 k
 (PV.tup
 [PV.arr (8:Nat)
 (ar.ints .u16
 (bl x.2.2.2 x.1
 (bY
 (bW l x.2.2.1
 (x.2.2.1+
 ↑(af
 (List.drop x.2.2.1.toNat l))))))),
 PV.bool true]))∧
 ((bif decide (x.1+(1:Int)<(0:Int))then decide (x.1+(1:Int)=(8:Int))
 else false)=
 false→
 ((bif decide ((0:Int)≤x.1+(1:Int))then decide (x.1+(1:Int)<(8:Int))
 else false)=
 true→
 ((bl x.2.2.2 x.1
 (bY
 (bW l x.2.2.1
 (x.2.2.1+
 ↑(af
 (List.drop x.2.2.1.toNat l)))))).length=
 (8:Nat)∧
 (0:Int)≤x.1+(1:Int)∧
 x.1+(1:Int)≤x.1+(1:Int)∧x.1+(1:Int)≤(7:Int))∧
 k
 (PV.tup
 [PV.arr (8:Nat)
 (ar.ints .u16
 (bN
 (bl x.2.2.2 x.1
 (bY
 (bW l x.2.2.1
 (x.2.2.1+
 ↑(af
 (List.drop x.2.2.1.toNat l))))))
 (x.1+(1:Int)).toNat (x.1+(1:Int)).toNat)),
 PV.bool true]))∧
 ((bif decide ((0:Int)≤x.1+(1:Int))then
 decide (x.1+(1:Int)<(8:Int))
 else false)=
 false→
 k
 (PV.tup
 [PV.arr (8:Nat)
 (ar.ints .u16 (List.replicate (8:Nat) (0:Int))),
 PV.bool false])))))))))))∧
 ((!preB l (ByteArray.mk #[58,58]).data.toList)=false→
 (decide ((2:Int)=al l)=true→
 (false=true→k (PV.tup [PV.arr (8:Nat) (ar.ints .u16 (List.replicate (8:Nat) (0:Int))),PV.bool true]))∧
 (false=false→
 (decide ((0:Int)<(8:Int))=true→
 ((List.replicate (8:Nat) (0:Int)).length=(8:Nat)∧(0:Int)≤(0:Int)∧(0:Int)≤(0:Int)∧(0:Int)≤(7:Int))∧
 k
 (PV.tup
 [PV.arr (8:Nat)
 (ar.ints .u16
 (bN (List.replicate (8:Nat) (0:Int)) (Int.toNat (0:Int)) (Int.toNat (0:Int)))),
 PV.bool true]))∧
 (decide ((0:Int)<(8:Int))=false→
 k (PV.tup [PV.arr (8:Nat) (ar.ints .u16 (List.replicate (8:Nat) (0:Int))),PV.bool false]))))∧
 (decide ((2:Int)=al l)=false→
 ((0:Int)≤(2:Int)∧(2:Int)≤↑(List.length l)∧List.length l≤(1000000:Nat))∧
 (decide ((2:Int)+↑(af (List.drop (Int.toNat (2:Int)) l))<al l)=true→
 within ((2:Int)+↑(af (List.drop (Int.toNat (2:Int)) l))) (al l))∧
 ((bif decide ((2:Int)+↑(af (List.drop (Int.toNat (2:Int)) l))<al l)then
 decide (ak l ((2:Int)+↑(af (List.drop (Int.toNat (2:Int)) l)))=(46:Int))
 else false)=
 true→
 upto (2:Int) (al l) (al l)∧
 (aa l (2:Int)).length.le (1000000:Nat)∧
 ((bif !kA (aa l (2:Int))then true else decide ((6:Int)<(0:Int)))=true→
 k
 (PV.tup
 [PV.arr (8:Nat) (ar.ints .u16 (List.replicate (8:Nat) (0:Int))),PV.bool false]))∧
 ((bif !kA (aa l (2:Int))then true else decide ((6:Int)<(0:Int)))=false→
 aG ((0:Int)+(1:Int))∧
 (0:Int)≤(16:Int)∧
 within (0:Int) ↑(8:Nat)∧
 (within (0:Int) ↑(8:Nat)∧True)∧
 within ((0:Int)+(1:Int)) ↑(8:Nat)∧
 (within ((0:Int)+(1:Int)) ↑(8:Nat)∧True)∧
 aG ((0:Int)+(2:Int))∧
 (false=true→
 k
 (PV.tup
 [PV.arr (8:Nat)
 (ar.ints .u16
 (bl
 (bl (List.replicate (8:Nat) (0:Int)) (0:Int)
 (Go.IntKind.u16.wrap
 (iR .u32 (cu (aa l (2:Int)))
 (16:Int))))
 ((0:Int)+(1:Int))
 (Go.IntKind.u16.wrap (cu (aa l (2:Int)))))),
 PV.bool true]))∧
 (false=false→
 (decide ((0:Int)+(2:Int)<(8:Int))=true→
 ((bl
 (bl (List.replicate (8:Nat) (0:Int)) (0:Int)
 (Go.IntKind.u16.wrap
 (iR .u32 (cu (aa l (2:Int)))
 (16:Int))))
 ((0:Int)+(1:Int))
 (Go.IntKind.u16.wrap (cu (aa l (2:Int))))).length=
 (8:Nat)∧
 (0:Int)≤(0:Int)∧(0:Int)≤(0:Int)+(2:Int)∧(0:Int)+(2:Int)≤(7:Int))∧
 k
 (PV.tup
 [PV.arr (8:Nat)
 (ar.ints .u16
 (bN
 (bl
 (bl (List.replicate (8:Nat) (0:Int)) (0:Int)
 (Go.IntKind.u16.wrap
 (iR .u32
 (cu (aa l (2:Int))) (16:Int))))
 ((0:Int)+(1:Int))
 (Go.IntKind.u16.wrap (cu (aa l (2:Int)))))
 ((0:Int)+(2:Int)).toNat (Int.toNat (0:Int)))),
 PV.bool true]))∧
 (decide ((0:Int)+(2:Int)<(8:Int))=false→
 k
 (PV.tup
 [PV.arr (8:Nat) (ar.ints .u16 (List.replicate (8:Nat) (0:Int))),
 PV.bool false])))))∧
 ((bif decide ((2:Int)+↑(af (List.drop (Int.toNat (2:Int)) l))<al l)then
 decide (ak l ((2:Int)+↑(af (List.drop (Int.toNat (2:Int)) l)))=(46:Int))
 else false)=
 false→
 (decide ((2:Int)+↑(af (List.drop (Int.toNat (2:Int)) l))=(2:Int))=false→
 aG ((2:Int)+(4:Int)))∧
 ((bif decide ((2:Int)+↑(af (List.drop (Int.toNat (2:Int)) l))=(2:Int))then true
 else decide ((2:Int)+(4:Int)<(2:Int)+↑(af (List.drop (Int.toNat (2:Int)) l))))=
 true→
 k (PV.tup [PV.arr (8:Nat) (ar.ints .u16 (List.replicate (8:Nat) (0:Int))),PV.bool false]))∧
 ((bif decide ((2:Int)+↑(af (List.drop (Int.toNat (2:Int)) l))=(2:Int))then true
 else decide ((2:Int)+(4:Int)<(2:Int)+↑(af (List.drop (Int.toNat (2:Int)) l))))=
 false→
 upto (2:Int) ((2:Int)+↑(af (List.drop (Int.toNat (2:Int)) l))) (al l)∧
 ((bW l (2:Int) ((2:Int)+↑(af (List.drop (Int.toNat (2:Int)) l)))).length≤
 (4:Nat)∧
 ∀(i:Nat),
 i<
 (bW l (2:Int)
 ((2:Int)+↑(af (List.drop (Int.toNat (2:Int)) l)))).length→
 (0:Int)≤
 cT
 (aD
 (bW l (2:Int) ((2:Int)+↑(af (List.drop (Int.toNat (2:Int)) l))))
 i))∧
 within (0:Int) ↑(8:Nat)∧
 (within (0:Int) ↑(8:Nat)∧True)∧
 aG ((0:Int)+(1:Int))∧
 (decide ((2:Int)+↑(af (List.drop (Int.toNat (2:Int)) l))=al l)=
 true→
 (false=true→
 k
 (PV.tup
 [PV.arr (8:Nat)
 (ar.ints .u16
 (bl (List.replicate (8:Nat) (0:Int)) (0:Int)
 (bY
 (bW l (2:Int)
 ((2:Int)+↑(af (List.drop (Int.toNat (2:Int)) l))))))),
 PV.bool true]))∧
 (false=false→
 (decide ((0:Int)+(1:Int)<(8:Int))=true→
 ((bl (List.replicate (8:Nat) (0:Int)) (0:Int)
 (bY
 (bW l (2:Int)
 ((2:Int)+
 ↑(af (List.drop (Int.toNat (2:Int)) l)))))).length=
 (8:Nat)∧
 (0:Int)≤(0:Int)∧(0:Int)≤(0:Int)+(1:Int)∧(0:Int)+(1:Int)≤(7:Int))∧
 k
 (PV.tup
 [PV.arr (8:Nat)
 (ar.ints .u16
 (bN
 (bl (List.replicate (8:Nat) (0:Int)) (0:Int)
 (bY
 (bW l (2:Int)
 ((2:Int)+
 ↑(af (List.drop (Int.toNat (2:Int)) l))))))
 ((0:Int)+(1:Int)).toNat (Int.toNat (0:Int)))),
 PV.bool true]))∧
 (decide ((0:Int)+(1:Int)<(8:Int))=false→
 k
 (PV.tup
 [PV.arr (8:Nat) (ar.ints .u16 (List.replicate (8:Nat) (0:Int))),
 PV.bool false]))))∧
 (decide ((2:Int)+↑(af (List.drop (Int.toNat (2:Int)) l))=al l)=
 false→
 within ((2:Int)+↑(af (List.drop (Int.toNat (2:Int)) l)))
 (al l)∧
 ((!decide
 (ak l
 ((2:Int)+↑(af (List.drop (Int.toNat (2:Int)) l)))=
 (58:Int)))=
 false→
 aG
 ((2:Int)+↑(af (List.drop (Int.toNat (2:Int)) l))+(1:Int)))∧
 ((bif
 !decide
 (ak l
 ((2:Int)+↑(af (List.drop (Int.toNat (2:Int)) l)))=
 (58:Int))then
 true
 else
 decide
 ((2:Int)+↑(af (List.drop (Int.toNat (2:Int)) l))+(1:Int)=
 al l))=
 true→
 k
 (PV.tup
 [PV.arr (8:Nat) (ar.ints .u16 (List.replicate (8:Nat) (0:Int))),
 PV.bool false]))∧
 ((bif
 !decide
 (ak l
 ((2:Int)+↑(af (List.drop (Int.toNat (2:Int)) l)))=
 (58:Int))then
 true
 else
 decide
 ((2:Int)+↑(af (List.drop (Int.toNat (2:Int)) l))+(1:Int)=
 al l))=
 false→
 aG
 ((2:Int)+↑(af (List.drop (Int.toNat (2:Int)) l))+(1:Int))∧
 within
 ((2:Int)+↑(af (List.drop (Int.toNat (2:Int)) l))+(1:Int))
 (al l)∧
 ((!decide
 (ak l
 ((2:Int)+↑(af (List.drop (Int.toNat (2:Int)) l))+
 (1:Int))=
 (58:Int)))=
 true→
 VS.mk []
 [(0,PV.str l),(2,PV.ptr ((2:Nat)+(32:Nat)) (0:Nat)),
 (3,PV.bool false),(4,PV.ptr ((4:Nat)+(32:Nat)) (0:Nat)),
 (5,PV.int .u32 (0:Int)),(6,PV.bool false),
 (7,PV.int .i64 ((0:Int)+(1:Int))),
 (8,PV.int .i64 (0:Int)),
 (9,
 PV.int .i64
 ((2:Int)+
 ↑(af (List.drop (Int.toNat (2:Int)) l))+
 (1:Int))),
 ((10:Nat),PV.undef),((13:Nat),PV.undef),((17:Nat),PV.undef),
 ((30:Nat),PV.undef),((43:Nat),PV.undef),((56:Nat),PV.undef),
 ((67:Nat),PV.undef),((73:Nat),PV.undef),((75:Nat),PV.undef),
 ((82:Nat),PV.undef),(95,PV.undef),(113,PV.undef),
 (120,PV.undef)]
 [((4:Nat)+(32:Nat),
 PV.arr (8:Nat)
 (ar.ints .u16
 (bl (List.replicate (8:Nat) (0:Int)) (0:Int)
 (bY
 (bW l (2:Int)
 ((2:Int)+
 ↑(af
 (List.drop (Int.toNat (2:Int)) l)))))))),
 ((2:Nat)+(32:Nat),
 PV.arr (8:Nat) (ar.ints .u16 (List.replicate (8:Nat) (0:Int))))]=
 VS.mk []
 [((0:Nat),PV.str l),((2:Nat),PV.ptr (34:Nat) (0:Nat)),
 ((3:Nat),PV.bool false),((4:Nat),PV.ptr (36:Nat) (0:Nat)),
 ((5:Nat),PV.int .u32 (0:Int)),((6:Nat),PV.bool false),
 ((7:Nat),PV.int .i64 ((0:Int)+(1:Int))),
 ((8:Nat),PV.int .i64 (0:Int)),
 ((9:Nat),
 PV.int .i64
 ((2:Int)+
 ↑(af (List.drop (Int.toNat (2:Int)) l))+
 (1:Int))),
 ((10:Nat),PV.undef),((13:Nat),PV.undef),((17:Nat),PV.undef),
 ((30:Nat),PV.undef),((43:Nat),PV.undef),((56:Nat),PV.undef),
 ((67:Nat),PV.undef),((73:Nat),PV.undef),((75:Nat),PV.undef),
 ((82:Nat),PV.undef),((95:Nat),PV.undef),((113:Nat),PV.undef),
 ((120:Nat),PV.undef)]
 [((36:Nat),
 PV.arr (8:Nat)
 (ar.ints .u16
 (bl (List.replicate (8:Nat) (0:Int)) (0:Int)
 (bY
 (bW l (2:Int)
 ((2:Int)+
 ↑(af
 (List.drop (Int.toNat (2:Int)) l)))))))),
 ((34:Nat),
 PV.arr (8:Nat) (ar.ints .u16 (List.replicate (8:Nat) (0:Int))))]∧
 (∃(acc:List Int),
 (0:Int)+(1:Int)=↑acc.length∧
 acc.length≤(8:Nat)∧
 bl (List.replicate (8:Nat) (0:Int)) (0:Int)
 (bY
 (bW l (2:Int)
 ((2:Int)+
 ↑(af
 (List.drop (Int.toNat (2:Int)) l)))))=
 pad acc∧
 (-1:Int)≤(0:Int)∧
 (0:Int)≤(0:Int)+(1:Int)∧
 (0:Int)≤
 (2:Int)+
 ↑(af
 (List.drop (Int.toNat (2:Int)) l))+
 (1:Int)∧
 (2:Int)+
 ↑(af
 (List.drop (Int.toNat (2:Int)) l))+
 (1:Int)≤
 ↑(List.length l)∧
 fR l ((9:Nat)-acc.length) acc (0:Int)
 ((2:Int)+
 ↑(af
 (List.drop (Int.toNat (2:Int)) l))+
 (1:Int)).toNat=
 il l)∧
 ∀(x:Int×Int×Int×List Int),
 (∃(acc:List Int),
 x.1=↑acc.length∧
 acc.length≤(8:Nat)∧
 x.2.2.2=pad acc∧
 (-1:Int)≤x.2.1∧
 x.2.1≤x.1∧
 (0:Int)≤x.2.2.1∧
 x.2.2.1≤↑(List.length l)∧
 fR l ((9:Nat)-acc.length) acc x.2.1
 x.2.2.1.toNat=
 il l)→
 ((0:Int)≤x.2.2.1∧x.2.2.1≤↑(List.length l)∧List.length l≤(1000000:Nat))∧
 (decide
 (x.2.2.1+
 ↑(af (List.drop x.2.2.1.toNat l))<
 al l)=
 true→
 within
 (x.2.2.1+
 ↑(af (List.drop x.2.2.1.toNat l)))
 (al l))∧
 ((bif
 decide
 (x.2.2.1+
 ↑(af
 (List.drop x.2.2.1.toNat l))<
 al l)then
 decide
 (ak l
 (x.2.2.1+
 ↑(af
 (List.drop x.2.2.1.toNat l)))=
 (46:Int))
 else false)=
 true→
 upto x.2.2.1 (al l) (al l)∧
 (aa l x.2.2.1).length.le (1000000:Nat)∧
 ((bif !kA (aa l x.2.2.1)then
 true
 else decide ((6:Int)<x.1))=
 true→
 k
 (PV.tup
 [PV.arr (8:Nat)
 (ar.ints .u16 (List.replicate (8:Nat) (0:Int))),
 PV.bool false]))∧
 ((bif !kA (aa l x.2.2.1)then
 true
 else decide ((6:Int)<x.1))=
 false→
 aG (x.1+(1:Int))∧
 (0:Int)≤(16:Int)∧
 within x.1 ↑(8:Nat)∧
 (within x.1 ↑(8:Nat)∧True)∧
 within (x.1+(1:Int)) ↑(8:Nat)∧
 (within (x.1+(1:Int)) ↑(8:Nat)∧True)∧
 aG (x.1+(2:Int))∧
 ((bif decide (x.2.1<(0:Int))then
 decide (x.1+(2:Int)=(8:Int))
 else false)=
 true→
 k
 (PV.tup
 [PV.arr (8:Nat)
 (ar.ints .u16
 (bl
 (bl x.2.2.2 x.1
 (Go.IntKind.u16.wrap
 (iR .u32
 (cu
 (aa l x.2.2.1))
 (16:Int))))
 (x.1+(1:Int))
 (Go.IntKind.u16.wrap
 (cu
 (aa l x.2.2.1))))),
 PV.bool true]))∧
 ((bif decide (x.2.1<(0:Int))then
 decide (x.1+(2:Int)=(8:Int))
 else false)=
 false→
 ((bif decide ((0:Int)≤x.2.1)then
 decide (x.1+(2:Int)<(8:Int))
 else false)=
 true→
 ((bl
 (bl x.2.2.2 x.1
 (Go.IntKind.u16.wrap
 (iR .u32
 (cu
 (aa l x.2.2.1))
 (16:Int))))
 (x.1+(1:Int))
 (Go.IntKind.u16.wrap
 (cu
 (aa l x.2.2.1)))).length=
 (8:Nat)∧
 (0:Int)≤x.2.1∧
 x.2.1≤x.1+(2:Int)∧
 x.1+(2:Int)≤(7:Int))∧
 k
 (PV.tup
 [PV.arr (8:Nat)
 (ar.ints .u16
 (bN
 (bl
 (bl x.2.2.2 x.1
 (Go.IntKind.u16.wrap
 (iR .u32
 (cu
 (aa l x.2.2.1))
 (16:Int))))
 (x.1+(1:Int))
 (Go.IntKind.u16.wrap
 (cu
 (aa l x.2.2.1))))
 (x.1+(2:Int)).toNat x.2.1.toNat)),
 PV.bool true]))∧
 ((bif decide ((0:Int)≤x.2.1)then
 decide (x.1+(2:Int)<(8:Int))
 else false)=
 false→
 k
 (PV.tup
 [PV.arr (8:Nat)
 (ar.ints .u16
 (List.replicate (8:Nat) (0:Int))),
 PV.bool false])))))∧
 ((bif
 decide
 (x.2.2.1+
 ↑(af
 (List.drop x.2.2.1.toNat l))<
 al l)then
 decide
 (ak l
 (x.2.2.1+
 ↑(af
 (List.drop x.2.2.1.toNat l)))=
 (46:Int))
 else false)=
 false→
 ((bif decide (x.1=(8:Int))then true
 else
 decide
 (x.2.2.1+
 ↑(af
 (List.drop x.2.2.1.toNat l))=
 x.2.2.1))=
 false→
 aG (x.2.2.1+(4:Int)))∧
 ((bif
 bif decide (x.1=(8:Int))then true
 else
 decide
 (x.2.2.1+
 ↑(af
 (List.drop x.2.2.1.toNat l))=
 x.2.2.1)then
 true
 else
 decide
 (x.2.2.1+(4:Int)<
 x.2.2.1+
 ↑(af
 (List.drop x.2.2.1.toNat l))))=
 true→
 k
 (PV.tup
 [PV.arr (8:Nat)
 (ar.ints .u16 (List.replicate (8:Nat) (0:Int))),
 PV.bool false]))∧
 ((bif
 bif decide (x.1=(8:Int))then true
 else
 decide
 (x.2.2.1+
 ↑(af
 (List.drop x.2.2.1.toNat l))=
 x.2.2.1)then
 true
 else
 decide
 (x.2.2.1+(4:Int)<
 x.2.2.1+
 ↑(af
 (List.drop x.2.2.1.toNat l))))=
 false→
 upto x.2.2.1
 (x.2.2.1+
 ↑(af
 (List.drop x.2.2.1.toNat l)))
 (al l)∧
 ((bW l x.2.2.1
 (x.2.2.1+
 ↑(af
 (List.drop x.2.2.1.toNat l)))).length≤
 (4:Nat)∧
 ∀(i:Nat),
 i<
 (bW l x.2.2.1
 (x.2.2.1+
 ↑(af
 (List.drop x.2.2.1.toNat l)))).length→
 (0:Int)≤
 cT
 (aD
 (bW l x.2.2.1
 (x.2.2.1+
 ↑(af
 (List.drop x.2.2.1.toNat l))))
 i))∧
 within x.1 ↑(8:Nat)∧
 (within x.1 ↑(8:Nat)∧True)∧
 aG (x.1+(1:Int))∧
 (decide
 (x.2.2.1+
 ↑(af
 (List.drop x.2.2.1.toNat l))=
 al l)=
 true→
 ((bif decide (x.2.1<(0:Int))then
 decide (x.1+(1:Int)=(8:Int))
 else false)=
 true→
 k
 (PV.tup
 [PV.arr (8:Nat)
 (ar.ints .u16
 (bl x.2.2.2 x.1
 (bY
 (bW l x.2.2.1
 (x.2.2.1+
 ↑(af
 (List.drop x.2.2.1.toNat l))))))),
 PV.bool true]))∧
 ((bif decide (x.2.1<(0:Int))then
 decide (x.1+(1:Int)=(8:Int))
 else false)=
 false→
 ((bif decide ((0:Int)≤x.2.1)then
 decide (x.1+(1:Int)<(8:Int))
 else false)=
 true→
 ((bl x.2.2.2 x.1
 (bY
 (bW l x.2.2.1
 (x.2.2.1+
 ↑(af
 (List.drop x.2.2.1.toNat
 l)))))).length=
 (8:Nat)∧
 (0:Int)≤x.2.1∧
 x.2.1≤x.1+(1:Int)∧
 x.1+(1:Int)≤(7:Int))∧
 k
 (PV.tup
 [PV.arr (8:Nat)
 (ar.ints .u16
 (bN
 (bl x.2.2.2 x.1
 (bY
 (bW l x.2.2.1
 (x.2.2.1+
 ↑(af
 (List.drop x.2.2.1.toNat
 l))))))
 (x.1+(1:Int)).toNat x.2.1.toNat)),
 PV.bool true]))∧
 ((bif decide ((0:Int)≤x.2.1)then
 decide (x.1+(1:Int)<(8:Int))
 else false)=
 false→
 k
 (PV.tup
 [PV.arr (8:Nat)
 (ar.ints .u16
 (List.replicate (8:Nat) (0:Int))),
 PV.bool false]))))∧
 (decide
 (x.2.2.1+
 ↑(af
 (List.drop x.2.2.1.toNat l))=
 al l)=
 false→
 within
 (x.2.2.1+
 ↑(af
 (List.drop x.2.2.1.toNat l)))
 (al l)∧
 ((!decide
 (ak l
 (x.2.2.1+
 ↑(af
 (List.drop x.2.2.1.toNat l)))=
 (58:Int)))=
 false→
 aG
 (x.2.2.1+
 ↑(af
 (List.drop x.2.2.1.toNat l))+
 (1:Int)))∧
 ((bif
 !decide
 (ak l
 (x.2.2.1+
 ↑(af
 (List.drop x.2.2.1.toNat l)))=
 (58:Int))then
 true
 else
 decide
 (x.2.2.1+
 ↑(af
 (List.drop x.2.2.1.toNat l))+
 (1:Int)=
 al l))=
 true→
 k
 (PV.tup
 [PV.arr (8:Nat)
 (ar.ints .u16
 (List.replicate (8:Nat) (0:Int))),
 PV.bool false]))∧
 ((bif
 !decide
 (ak l
 (x.2.2.1+
 ↑(af
 (List.drop x.2.2.1.toNat l)))=
 (58:Int))then
 true
 else
 decide
 (x.2.2.1+
 ↑(af
 (List.drop x.2.2.1.toNat l))+
 (1:Int)=
 al l))=
 false→
 aG
 (x.2.2.1+
 ↑(af
 (List.drop x.2.2.1.toNat l))+
 (1:Int))∧
 within
 (x.2.2.1+
 ↑(af
 (List.drop x.2.2.1.toNat l))+
 (1:Int))
 (al l)∧
 ((!decide
 (ak l
 (x.2.2.1+
 ↑(af
 (List.drop x.2.2.1.toNat l))+
 (1:Int))=
 (58:Int)))=
 true→
 rR (VS.mk []
 [((0:Nat),PV.str l),
 ((2:Nat),
 PV.ptr (34:Nat) (0:Nat)),
 ((3:Nat),PV.bool false),
 ((4:Nat),
 PV.ptr (36:Nat) (0:Nat)),
 ((5:Nat),
 PV.int .u32 (0:Int)),
 ((6:Nat),PV.bool false),
 ((7:Nat),
 PV.int .i64
 (x.1+(1:Int))),
 ((8:Nat),
 PV.int .i64 x.2.1),
 ((9:Nat),
 PV.int .i64
 (x.2.2.1+
 ↑(af
 (List.drop x.2.2.1.toNat
 l))+
 (1:Int))),
 ((10:Nat),PV.undef),
 ((13:Nat),PV.undef),
 ((17:Nat),PV.undef),
 ((30:Nat),PV.undef),
 ((43:Nat),PV.undef),
 ((56:Nat),PV.undef),
 ((67:Nat),PV.undef),
 ((73:Nat),PV.undef),
 ((75:Nat),PV.undef),
 ((82:Nat),PV.undef),
 ((95:Nat),PV.undef),
 ((113:Nat),PV.undef),
 ((120:Nat),PV.undef)]
 [((36:Nat),
 PV.arr (8:Nat)
 (ar.ints .u16
 (bl x.2.2.2 x.1
 (bY
 (bW l x.2.2.1
 (x.2.2.1+
 ↑(af
 (List.drop
 x.2.2.1.toNat
 l)))))))),
 ((34:Nat),
 PV.arr (8:Nat)
 (ar.ints .u16
 (List.replicate (8:Nat)
 (0:Int))))])∧
 (∃(acc:List Int),
 x.1+(1:Int)=↑acc.length∧
 acc.length≤(8:Nat)∧
 bl x.2.2.2 x.1
 (bY
 (bW l x.2.2.1
 (x.2.2.1+
 ↑(af
 (List.drop
 x.2.2.1.toNat
 l)))))=
 pad
 acc∧
 (-1:Int)≤x.2.1∧
 x.2.1≤x.1+(1:Int)∧
 (0:Int)≤
 x.2.2.1+
 ↑(af
 (List.drop
 x.2.2.1.toNat
 l))+
 (1:Int)∧
 x.2.2.1+
 ↑(af
 (List.drop
 x.2.2.1.toNat
 l))+
 (1:Int)≤
 ↑(List.length l)∧
 fR
 l ((9:Nat)-acc.length) acc
 x.2.1
 (x.2.2.1+
 ↑(af
 (List.drop
 x.2.2.1.toNat
 l))+
 (1:Int)).toNat=
 il
 l)∧
 ((9:Int)-(x.1+(1:Int))).toNat<
 ((9:Int)-x.1).toNat)∧
 ((!decide
 (ak l
 (x.2.2.1+
 ↑(af
 (List.drop x.2.2.1.toNat l))+
 (1:Int))=
 (58:Int)))=
 false→
 (decide ((0:Int)≤x.2.1)=true→
 k
 (PV.tup
 [PV.arr (8:Nat)
 (ar.ints .u16
 (List.replicate (8:Nat) (0:Int))),
 PV.bool false]))∧
 (decide ((0:Int)≤x.2.1)=false→
 aG
 (x.2.2.1+
 ↑(af
 (List.drop x.2.2.1.toNat l))+
 (1:Int)+
 (1:Int))∧
 (decide
 (x.2.2.1+
 ↑(af
 (List.drop
 x.2.2.1.toNat l))+
 (1:Int)+
 (1:Int)<
 al l)=
 true→
 rR (VS.mk []
 [((0:Nat),PV.str l),
 ((2:Nat),
 PV.ptr (34:Nat)
 (0:Nat)),
 ((3:Nat),PV.bool false),
 ((4:Nat),
 PV.ptr (36:Nat)
 (0:Nat)),
 ((5:Nat),
 PV.int .u32
 (0:Int)),
 ((6:Nat),PV.bool false),
 ((7:Nat),
 PV.int .i64
 (x.1+(1:Int))),
 ((8:Nat),
 PV.int .i64
 (x.1+(1:Int))),
 ((9:Nat),
 PV.int .i64
 (x.2.2.1+
 ↑(af
 (List.drop
 x.2.2.1.toNat
 l))+
 (1:Int)+
 (1:Int))),
 ((10:Nat),PV.undef),
 ((13:Nat),PV.undef),
 ((17:Nat),PV.undef),
 ((30:Nat),PV.undef),
 ((43:Nat),PV.undef),
 ((56:Nat),PV.undef),
 ((67:Nat),PV.undef),
 ((73:Nat),PV.undef),
 ((75:Nat),PV.undef),
 ((82:Nat),PV.undef),
 ((95:Nat),PV.undef),
 ((113:Nat),PV.undef),
 ((120:Nat),PV.undef)]
 [((36:Nat),
 PV.arr (8:Nat)
 (ar.ints .u16
 (bl x.2.2.2
 x.1
 (bY
 (bW l
 x.2.2.1
 (x.2.2.1+
 ↑(af
 (List.drop
 x.2.2.1.toNat
 l)))))))),
 ((34:Nat),
 PV.arr (8:Nat)
 (ar.ints .u16
 (List.replicate (8:Nat)
 (0:Int))))])∧
 (∃(acc:List Int),
 x.1+(1:Int)=↑acc.length∧
 acc.length≤(8:Nat)∧
 bl x.2.2.2 x.1
 (bY
 (bW l
 x.2.2.1
 (x.2.2.1+
 ↑(af
 (List.drop
 x.2.2.1.toNat
 l)))))=
 pad
 acc∧
 (-1:Int)≤x.1+(1:Int)∧
 x.1+(1:Int)≤
 x.1+(1:Int)∧
 (0:Int)≤
 x.2.2.1+
 ↑(af
 (List.drop
 x.2.2.1.toNat
 l))+
 (1:Int)+
 (1:Int)∧
 x.2.2.1+
 ↑(af
 (List.drop
 x.2.2.1.toNat
 l))+
 (1:Int)+
 (1:Int)≤
 ↑(List.length l)∧
 fR
 l
 ((9:Nat)-
 acc.length)
 acc
 (x.1+(1:Int))
 (x.2.2.1+
 ↑(af
 (List.drop
 x.2.2.1.toNat
 l))+
 (1:Int)+
 (1:
 Int)).toNat=
 il
 l)∧
 ((9:Int)-
 (x.1+(1:Int))).toNat<
 ((9:Int)-x.1).toNat)∧
 (decide
 (x.2.2.1+
 ↑(af
 (List.drop
 x.2.2.1.toNat l))+
 (1:Int)+
 (1:Int)<
 al l)=
 false→
 ((bif
 decide
 (x.1+(1:Int)<
 (0:Int))then
 decide
 (x.1+(1:Int)=(8:Int))
 else false)=
 true→
 k
 (PV.tup
 [PV.arr (8:Nat)
 (ar.ints .u16
 (bl x.2.2.2
 x.1
 (bY
 (bW l
 x.2.2.1
 (x.2.2.1+
 ↑(af
 (List.drop
 x.2.2.1.toNat
 l))))))),
 PV.bool true]))∧
 ((bif
 decide
 (x.1+(1:Int)<
 (0:Int))then
 decide
 (x.1+(1:Int)=(8:Int))
 else false)=
 false→
 ((bif
 decide
 ((0:Int)≤
 x.1+(1:Int))then
 decide
 (x.1+(1:Int)<
 (8:Int))
 else false)=
 true→
 ((bl x.2.2.2 x.1
 (bY
 (bW l
 x.2.2.1
 (x.2.2.1+
 ↑(af
 (List.drop
 x.2.2.1.toNat
 l)))))).length=
 (8:Nat)∧
 (0:Int)≤x.1+(1:Int)∧
 x.1+(1:Int)≤
 x.1+(1:Int)∧
 x.1+(1:Int)≤
 (7:Int))∧
 k
 (PV.tup
 [PV.arr (8:Nat)
 (ar.ints
 .u16
 (bN
 (bl
 x.2.2.2 x.1
 (bY
 (bW l
 x.2.2.1
 (x.2.2.1+
 ↑(af
 (List.drop
 x.2.2.1.toNat
 l))))))
 (x.1+
 (1:Int)).toNat
 (x.1+
 (1:
 Int)).toNat)),
 PV.bool true]))∧
 ((bif
 decide
 ((0:Int)≤
 x.1+(1:Int))then
 decide
 (x.1+(1:Int)<
 (8:Int))
 else false)=
 false→
 k
 (PV.tup
 [PV.arr (8:Nat)
 (ar.ints
 .u16
 (List.replicate (8:Nat)
 (0:Int))),
 PV.bool
 false])))))))))))∧
 ((!decide
 (ak l
 ((2:Int)+↑(af (List.drop (Int.toNat (2:Int)) l))+
 (1:Int))=
 (58:Int)))=
 false→
 (decide ((0:Int)≤(0:Int))=true→
 k
 (PV.tup
 [PV.arr (8:Nat) (ar.ints .u16 (List.replicate (8:Nat) (0:Int))),
 PV.bool false]))∧
 (decide ((0:Int)≤(0:Int))=false→
 aG
 ((2:Int)+↑(af (List.drop (Int.toNat (2:Int)) l))+
 (1:Int)+
 (1:Int))∧
 (decide
 ((2:Int)+
 ↑(af (List.drop (Int.toNat (2:Int)) l))+
 (1:Int)+
 (1:Int)<
 al l)=
 true→
 VS.mk []
 [(0,PV.str l),
 (2,PV.ptr ((2:Nat)+(32:Nat)) (0:Nat)),
 (3,PV.bool false),
 (4,PV.ptr ((4:Nat)+(32:Nat)) (0:Nat)),
 (5,PV.int .u32 (0:Int)),(6,PV.bool false),
 (7,PV.int .i64 ((0:Int)+(1:Int))),
 (8,PV.int .i64 ((0:Int)+(1:Int))),
 (9,
 PV.int .i64
 ((2:Int)+
 ↑(af
 (List.drop (Int.toNat (2:Int)) l))+
 (1:Int)+
 (1:Int))),
 ((10:Nat),PV.undef),((13:Nat),PV.undef),
 ((17:Nat),PV.undef),((30:Nat),PV.undef),
 ((43:Nat),PV.undef),((56:Nat),PV.undef),
 ((67:Nat),PV.undef),((73:Nat),PV.undef),
 ((75:Nat),PV.undef),((82:Nat),PV.undef),
 (95,PV.undef),(113,PV.undef),
 (120,PV.undef)]
 [((4:Nat)+(32:Nat),
 PV.arr (8:Nat)
 (ar.ints .u16
 (bl (List.replicate (8:Nat) (0:Int)) (0:Int)
 (bY
 (bW l (2:Int)
 ((2:Int)+
 ↑(af
 (List.drop (Int.toNat (2:Int)) l)))))))),
 ((2:Nat)+(32:Nat),
 PV.arr (8:Nat)
 (ar.ints .u16 (List.replicate (8:Nat) (0:Int))))]=
 VS.mk []
 [((0:Nat),PV.str l),((2:Nat),PV.ptr (34:Nat) (0:Nat)),
 ((3:Nat),PV.bool false),((4:Nat),PV.ptr (36:Nat) (0:Nat)),
 ((5:Nat),PV.int .u32 (0:Int)),((6:Nat),PV.bool false),
 ((7:Nat),PV.int .i64 ((0:Int)+(1:Int))),
 ((8:Nat),PV.int .i64 ((0:Int)+(1:Int))),
 ((9:Nat),
 PV.int .i64
 ((2:Int)+
 ↑(af
 (List.drop (Int.toNat (2:Int)) l))+
 (1:Int)+
 (1:Int))),
 ((10:Nat),PV.undef),((13:Nat),PV.undef),
 ((17:Nat),PV.undef),((30:Nat),PV.undef),
 ((43:Nat),PV.undef),((56:Nat),PV.undef),
 ((67:Nat),PV.undef),((73:Nat),PV.undef),
 ((75:Nat),PV.undef),((82:Nat),PV.undef),
 ((95:Nat),PV.undef),((113:Nat),PV.undef),
 ((120:Nat),PV.undef)]
 [((36:Nat),
 PV.arr (8:Nat)
 (ar.ints .u16
 (bl (List.replicate (8:Nat) (0:Int)) (0:Int)
 (bY
 (bW l (2:Int)
 ((2:Int)+
 ↑(af
 (List.drop (Int.toNat (2:Int)) l)))))))),
 ((34:Nat),
 PV.arr (8:Nat)
 (ar.ints .u16 (List.replicate (8:Nat) (0:Int))))]∧
 (∃(acc:List Int),
 (0:Int)+(1:Int)=↑acc.length∧
 acc.length≤(8:Nat)∧
 bl (List.replicate (8:Nat) (0:Int)) (0:Int)
 (bY
 (bW l (2:Int)
 ((2:Int)+
 ↑(af
 (List.drop (Int.toNat (2:Int)) l)))))=
 pad acc∧
 (-1:Int)≤(0:Int)+(1:Int)∧
 (0:Int)+(1:Int)≤(0:Int)+(1:Int)∧
 (0:Int)≤
 (2:Int)+
 ↑(af
 (List.drop (Int.toNat (2:Int)) l))+
 (1:Int)+
 (1:Int)∧
 (2:Int)+
 ↑(af
 (List.drop (Int.toNat (2:Int)) l))+
 (1:Int)+
 (1:Int)≤
 ↑(List.length l)∧
 fR l ((9:Nat)-acc.length) acc
 ((0:Int)+(1:Int))
 ((2:Int)+
 ↑(af
 (List.drop (Int.toNat (2:Int)) l))+
 (1:Int)+
 (1:Int)).toNat=
 il l)∧
 ∀(x:Int×Int×Int×List Int),
 (∃(acc:List Int),
 x.1=↑acc.length∧
 acc.length≤(8:Nat)∧
 x.2.2.2=pad acc∧
 (-1:Int)≤x.2.1∧
 x.2.1≤x.1∧
 (0:Int)≤x.2.2.1∧
 x.2.2.1≤↑(List.length l)∧
 fR l ((9:Nat)-acc.length) acc
 x.2.1 x.2.2.1.toNat=
 il l)→
 ((0:Int)≤x.2.2.1∧
 x.2.2.1≤↑(List.length l)∧List.length l≤(1000000:Nat))∧
 (decide
 (x.2.2.1+
 ↑(af
 (List.drop x.2.2.1.toNat l))<
 al l)=
 true→
 within
 (x.2.2.1+
 ↑(af
 (List.drop x.2.2.1.toNat l)))
 (al l))∧
 ((bif
 decide
 (x.2.2.1+
 ↑(af
 (List.drop x.2.2.1.toNat l))<
 al l)then
 decide
 (ak l
 (x.2.2.1+
 ↑(af
 (List.drop x.2.2.1.toNat l)))=
 (46:Int))
 else false)=
 true→
 upto x.2.2.1 (al l) (al l)∧
 (aa l x.2.2.1).length.le (1000000:Nat)∧
 ((bif
 !kA
 (aa l x.2.2.1)then
 true
 else decide ((6:Int)<x.1))=
 true→
 k
 (PV.tup
 [PV.arr (8:Nat)
 (ar.ints .u16
 (List.replicate (8:Nat) (0:Int))),
 PV.bool false]))∧
 ((bif
 !kA
 (aa l x.2.2.1)then
 true
 else decide ((6:Int)<x.1))=
 false→
 aG (x.1+(1:Int))∧
 (0:Int)≤(16:Int)∧
 within x.1 ↑(8:Nat)∧
 (within x.1 ↑(8:Nat)∧True)∧
 within (x.1+(1:Int)) ↑(8:Nat)∧
 (within (x.1+(1:Int)) ↑(8:Nat)∧True)∧
 aG (x.1+(2:Int))∧
 ((bif decide (x.2.1<(0:Int))then
 decide (x.1+(2:Int)=(8:Int))
 else false)=
 true→
 k
 (PV.tup
 [PV.arr (8:Nat)
 (ar.ints .u16
 (bl
 (bl x.2.2.2 x.1
 (Go.IntKind.u16.wrap
 (iR .u32
 (cu
 (aa l x.2.2.1))
 (16:Int))))
 (x.1+(1:Int))
 (Go.IntKind.u16.wrap
 (cu
 (aa l x.2.2.1))))),
 PV.bool true]))∧
 ((bif decide (x.2.1<(0:Int))then
 decide (x.1+(2:Int)=(8:Int))
 else false)=
 false→
 ((bif decide ((0:Int)≤x.2.1)then
 decide (x.1+(2:Int)<(8:Int))
 else false)=
 true→
 ((bl
 (bl x.2.2.2 x.1
 (Go.IntKind.u16.wrap
 (iR .u32
 (cu
 (aa l x.2.2.1))
 (16:Int))))
 (x.1+(1:Int))
 (Go.IntKind.u16.wrap
 (cu
 (aa l
 x.2.2.1)))).length=
 (8:Nat)∧
 (0:Int)≤x.2.1∧
 x.2.1≤x.1+(2:Int)∧
 x.1+(2:Int)≤(7:Int))∧
 k
 (PV.tup
 [PV.arr (8:Nat)
 (ar.ints .u16
 (bN
 (bl
 (bl x.2.2.2 x.1
 (Go.IntKind.u16.wrap
 (iR .u32
 (cu
 (aa l
 x.2.2.1))
 (16:Int))))
 (x.1+(1:Int))
 (Go.IntKind.u16.wrap
 (cu
 (aa l
 x.2.2.1))))
 (x.1+(2:Int)).toNat
 x.2.1.toNat)),
 PV.bool true]))∧
 ((bif decide ((0:Int)≤x.2.1)then
 decide (x.1+(2:Int)<(8:Int))
 else false)=
 false→
 k
 (PV.tup
 [PV.arr (8:Nat)
 (ar.ints .u16
 (List.replicate (8:Nat) (0:Int))),
 PV.bool false])))))∧
 ((bif
 decide
 (x.2.2.1+
 ↑(af
 (List.drop x.2.2.1.toNat l))<
 al l)then
 decide
 (ak l
 (x.2.2.1+
 ↑(af
 (List.drop x.2.2.1.toNat l)))=
 (46:Int))
 else false)=
 false→
 ((bif decide (x.1=(8:Int))then true
 else
 decide
 (x.2.2.1+
 ↑(af
 (List.drop x.2.2.1.toNat l))=
 x.2.2.1))=
 false→
 aG (x.2.2.1+(4:Int)))∧
 ((bif
 bif decide (x.1=(8:Int))then true
 else
 decide
 (x.2.2.1+
 ↑(af
 (List.drop x.2.2.1.toNat l))=
 x.2.2.1)then
 true
 else
 decide
 (x.2.2.1+(4:Int)<
 x.2.2.1+
 ↑(af
 (List.drop x.2.2.1.toNat l))))=
 true→
 k
 (PV.tup
 [PV.arr (8:Nat)
 (ar.ints .u16
 (List.replicate (8:Nat) (0:Int))),
 PV.bool false]))∧
 ((bif
 bif decide (x.1=(8:Int))then true
 else
 decide
 (x.2.2.1+
 ↑(af
 (List.drop x.2.2.1.toNat l))=
 x.2.2.1)then
 true
 else
 decide
 (x.2.2.1+(4:Int)<
 x.2.2.1+
 ↑(af
 (List.drop x.2.2.1.toNat l))))=
 false→
 upto x.2.2.1
 (x.2.2.1+
 ↑(af
 (List.drop x.2.2.1.toNat l)))
 (al l)∧
 ((bW l x.2.2.1
 (x.2.2.1+
 ↑(af
 (List.drop x.2.2.1.toNat l)))).length≤
 (4:Nat)∧
 ∀(i:Nat),
 i<
 (bW l x.2.2.1
 (x.2.2.1+
 ↑(af
 (List.drop x.2.2.1.toNat l)))).length→
 (0:Int)≤
 cT
 (aD
 (bW l x.2.2.1
 (x.2.2.1+
 ↑(af
 (List.drop x.2.2.1.toNat l))))
 i))∧
 within x.1 ↑(8:Nat)∧
 (within x.1 ↑(8:Nat)∧True)∧
 aG (x.1+(1:Int))∧
 (decide
 (x.2.2.1+
 ↑(af
 (List.drop x.2.2.1.toNat l))=
 al l)=
 true→
 ((bif decide (x.2.1<(0:Int))then
 decide (x.1+(1:Int)=(8:Int))
 else false)=
 true→
 k
 (PV.tup
 [PV.arr (8:Nat)
 (ar.ints .u16
 (bl x.2.2.2 x.1
 (bY
 (bW l x.2.2.1
 (x.2.2.1+
 ↑(af
 (List.drop x.2.2.1.toNat
 l))))))),
 PV.bool true]))∧
 ((bif decide (x.2.1<(0:Int))then
 decide (x.1+(1:Int)=(8:Int))
 else false)=
 false→
 ((bif decide ((0:Int)≤x.2.1)then
 decide (x.1+(1:Int)<(8:Int))
 else false)=
 true→
 ((bl x.2.2.2 x.1
 (bY
 (bW l x.2.2.1
 (x.2.2.1+
 ↑(af
 (List.drop x.2.2.1.toNat
 l)))))).length=
 (8:Nat)∧
 (0:Int)≤x.2.1∧
 x.2.1≤x.1+(1:Int)∧
 x.1+(1:Int)≤(7:Int))∧
 k
 (PV.tup
 [PV.arr (8:Nat)
 (ar.ints .u16
 (bN
 (bl x.2.2.2 x.1
 (bY
 (bW l x.2.2.1
 (x.2.2.1+
 ↑(af
 (List.drop
 x.2.2.1.toNat
 l))))))
 (x.1+(1:Int)).toNat
 x.2.1.toNat)),
 PV.bool true]))∧
 ((bif decide ((0:Int)≤x.2.1)then
 decide (x.1+(1:Int)<(8:Int))
 else false)=
 false→
 k
 (PV.tup
 [PV.arr (8:Nat)
 (ar.ints .u16
 (List.replicate (8:Nat) (0:Int))),
 PV.bool false]))))∧
 (decide
 (x.2.2.1+
 ↑(af
 (List.drop x.2.2.1.toNat l))=
 al l)=
 false→
 within
 (x.2.2.1+
 ↑(af
 (List.drop x.2.2.1.toNat l)))
 (al l)∧
 ((!decide
 (ak l
 (x.2.2.1+
 ↑(af
 (List.drop x.2.2.1.toNat l)))=
 (58:Int)))=
 false→
 aG
 (x.2.2.1+
 ↑(af
 (List.drop x.2.2.1.toNat l))+
 (1:Int)))∧
 ((bif
 !decide
 (ak l
 (x.2.2.1+
 ↑(af
 (List.drop x.2.2.1.toNat
 l)))=
 (58:Int))then
 true
 else
 decide
 (x.2.2.1+
 ↑(af
 (List.drop x.2.2.1.toNat l))+
 (1:Int)=
 al l))=
 true→
 k
 (PV.tup
 [PV.arr (8:Nat)
 (ar.ints .u16
 (List.replicate (8:Nat) (0:Int))),
 PV.bool false]))∧
 ((bif
 !decide
 (ak l
 (x.2.2.1+
 ↑(af
 (List.drop x.2.2.1.toNat
 l)))=
 (58:Int))then
 true
 else
 decide
 (x.2.2.1+
 ↑(af
 (List.drop x.2.2.1.toNat l))+
 (1:Int)=
 al l))=
 false→
 aG
 (x.2.2.1+
 ↑(af
 (List.drop x.2.2.1.toNat l))+
 (1:Int))∧
 within
 (x.2.2.1+
 ↑(af
 (List.drop x.2.2.1.toNat l))+
 (1:Int))
 (al l)∧
 ((!decide
 (ak l
 (x.2.2.1+
 ↑(af
 (List.drop
 x.2.2.1.toNat
 l))+
 (1:Int))=
 (58:Int)))=
 true→
 rR (VS.mk []
 [((0:Nat),PV.str l),
 ((2:Nat),
 PV.ptr (34:Nat)
 (0:Nat)),
 ((3:Nat),PV.bool false),
 ((4:Nat),
 PV.ptr (36:Nat)
 (0:Nat)),
 ((5:Nat),
 PV.int .u32
 (0:Int)),
 ((6:Nat),PV.bool false),
 ((7:Nat),
 PV.int .i64
 (x.1+(1:Int))),
 ((8:Nat),
 PV.int .i64
 x.2.1),
 ((9:Nat),
 PV.int .i64
 (x.2.2.1+
 ↑(af
 (List.drop
 x.2.2.1.toNat
 l))+
 (1:Int))),
 ((10:Nat),PV.undef),
 ((13:Nat),PV.undef),
 ((17:Nat),PV.undef),
 ((30:Nat),PV.undef),
 ((43:Nat),PV.undef),
 ((56:Nat),PV.undef),
 ((67:Nat),PV.undef),
 ((73:Nat),PV.undef),
 ((75:Nat),PV.undef),
 ((82:Nat),PV.undef),
 ((95:Nat),PV.undef),
 ((113:Nat),PV.undef),
 ((120:Nat),PV.undef)]
 [((36:Nat),
 PV.arr (8:Nat)
 (ar.ints .u16
 (bl x.2.2.2
 x.1
 (bY
 (bW l
 x.2.2.1
 (x.2.2.1+
 ↑(af
 (List.drop
 x.2.2.1.toNat
 l)))))))),
 ((34:Nat),
 PV.arr (8:Nat)
 (ar.ints .u16
 (List.replicate (8:Nat)
 (0:Int))))])∧
 (∃(acc:List Int),
 x.1+(1:Int)=↑acc.length∧
 acc.length≤(8:Nat)∧
 bl x.2.2.2 x.1
 (bY
 (bW l
 x.2.2.1
 (x.2.2.1+
 ↑(af
 (List.drop
 x.2.2.1.toNat
 l)))))=
 pad
 acc∧
 (-1:Int)≤x.2.1∧
 x.2.1≤
 x.1+(1:Int)∧
 (0:Int)≤
 x.2.2.1+
 ↑(af
 (List.drop
 x.2.2.1.toNat
 l))+
 (1:Int)∧
 x.2.2.1+
 ↑(af
 (List.drop
 x.2.2.1.toNat
 l))+
 (1:Int)≤
 ↑(List.length l)∧
 fR
 l
 ((9:Nat)-
 acc.length)
 acc x.2.1
 (x.2.2.1+
 ↑(af
 (List.drop
 x.2.2.1.toNat
 l))+
 (1:
 Int)).toNat=
 il
 l)∧
 ((9:Int)-
 (x.1+(1:Int))).toNat<
 ((9:Int)-x.1).toNat)∧
 ((!decide
 (ak l
 (x.2.2.1+
 ↑(af
 (List.drop
 x.2.2.1.toNat
 l))+
 (1:Int))=
 (58:Int)))=
 false→
 (decide ((0:Int)≤x.2.1)=true→
 k
 (PV.tup
 [PV.arr (8:Nat)
 (ar.ints .u16
 (List.replicate (8:Nat)
 (0:Int))),
 PV.bool false]))∧
 (decide ((0:Int)≤x.2.1)=false→
 aG
 (x.2.2.1+
 ↑(af
 (List.drop
 x.2.2.1.toNat
 l))+
 (1:Int)+
 (1:Int))∧
 (decide
 (x.2.2.1+
 ↑(af
 (List.drop
 x.2.2.1.toNat
 l))+
 (1:Int)+
 (1:Int)<
 al l)=
 true→
 rR (VS.mk []
 [((0:Nat),
 PV.str l),
 ((2:Nat),
 PV.ptr (34:Nat)
 (0:Nat)),
 ((3:Nat),
 PV.bool false),
 ((4:Nat),
 PV.ptr (36:Nat)
 (0:Nat)),
 ((5:Nat),
 PV.int
 .u32
 (0:Int)),
 ((6:Nat),
 PV.bool false),
 ((7:Nat),
 PV.int
 .i64
 (x.1+(1:Int))),
 ((8:Nat),
 PV.int
 .i64
 (x.1+(1:Int))),
 ((9:Nat),
 PV.int
 .i64
 (x.2.2.1+
 ↑(af
 (List.drop
 x.2.2.1.toNat
 l))+
 (1:Int)+
 (1:Int))),
 ((10:Nat),
 PV.undef),
 ((13:Nat),
 PV.undef),
 ((17:Nat),
 PV.undef),
 ((30:Nat),
 PV.undef),
 ((43:Nat),
 PV.undef),
 ((56:Nat),
 PV.undef),
 ((67:Nat),
 PV.undef),
 ((73:Nat),
 PV.undef),
 ((75:Nat),
 PV.undef),
 ((82:Nat),
 PV.undef),
 ((95:Nat),
 PV.undef),
 ((113:Nat),
 PV.undef),
 ((120:Nat),
 PV.undef)]
 [((36:Nat),
 PV.arr (8:Nat)
 (ar.ints
 .u16
 (bl
 x.2.2.2
 x.1
 (bY
 (bW l
 x.2.2.1
 (x.2.2.1+
 ↑(af
 (List.drop
 x.2.2.1.toNat
 l)))))))),
 ((34:Nat),
 PV.arr (8:Nat)
 (ar.ints
 .u16
 (List.replicate
 (8:Nat)
 (0:Int))))])∧
 (∃(acc:List Int),
 x.1+(1:Int)=
 ↑acc.length∧
 acc.length≤(8:Nat)∧
 bl x.2.2.2
 x.1
 (bY
 (bW l
 x.2.2.1
 (x.2.2.1+
 ↑(af
 (List.drop
 x.2.2.1.toNat
 l)))))=
 pad
 acc∧
 (-1:Int)≤
 x.1+
 (1:Int)∧
 x.1+(1:Int)≤
 x.1+
 (1:Int)∧
 (0:Int)≤
 x.2.2.1+
 ↑(af
 (List.drop
 x.2.2.1.toNat
 l))+
 (1:
 Int)+
 (1:Int)∧
 x.2.2.1+
 ↑(af
 (List.drop
 x.2.2.1.toNat
 l))+
 (1:
 Int)+
 (1:
 Int)≤
 ↑(List.length
 l)∧
 fR
 l
 ((9:
 Nat)-
 acc.length)
 acc
 (x.1+
 (1:
 Int))
 (x.2.2.1+
 ↑(af
 (List.drop
 x.2.2.1.toNat
 l))+
 (1:
 Int)+
 (1:
 Int)).toNat=
 il
 l)∧
 ((9:Int)-
 (x.1+
 (1:Int))).toNat<
 ((9:Int)-x.1).toNat)∧
 (decide
 (x.2.2.1+
 ↑(af
 (List.drop
 x.2.2.1.toNat
 l))+
 (1:Int)+
 (1:Int)<
 al l)=
 false→
 ((bif
 decide
 (x.1+(1:Int)<
 (0:Int))then
 decide
 (x.1+(1:Int)=
 (8:Int))
 else false)=
 true→
 k
 (PV.tup
 [PV.arr (8:Nat)
 (ar.ints
 .u16
 (bl
 x.2.2.2
 x.1
 (bY
 (bW l
 x.2.2.1
 (x.2.2.1+
 ↑(af
 (List.drop
 x.2.2.1.toNat
 l))))))),
 PV.bool true]))∧
 ((bif
 decide
 (x.1+(1:Int)<
 (0:Int))then
 decide
 (x.1+(1:Int)=
 (8:Int))
 else false)=
 false→
 ((bif
 decide
 ((0:Int)≤
 x.1+
 (1:
 Int))then
 decide
 (x.1+(1:Int)<
 (8:Int))
 else false)=
 true→
 ((bl x.2.2.2
 x.1
 (bY
 (bW l
 x.2.2.1
 (x.2.2.1+
 ↑(af
 (List.drop
 x.2.2.1.toNat
 l)))))).length=
 (8:Nat)∧
 (0:Int)≤
 x.1+
 (1:Int)∧
 x.1+(1:Int)≤
 x.1+
 (1:Int)∧
 x.1+
 (1:Int)≤
 (7:Int))∧
 k
 (PV.tup
 [PV.arr
 (8:Nat)
 (ar.ints
 .u16
 (bN
 (bl
 x.2.2.2
 x.1
 (bY
 (bW
 l
 x.2.2.1
 (x.2.2.1+
 ↑(af
 (List.drop
 x.2.2.1.toNat
 l))))))
 (x.1+
 (1:
 Int)).toNat
 (x.1+
 (1:
 Int)).toNat)),
 PV.bool
 true]))∧
 ((bif
 decide
 ((0:Int)≤
 x.1+
 (1:
 Int))then
 decide
 (x.1+(1:Int)<
 (8:Int))
 else false)=
 false→
 k
 (PV.tup
 [PV.arr
 (8:Nat)
 (ar.ints
 .u16
 (List.replicate
 (8:Nat)
 (0:Int))),
 PV.bool
 false])))))))))))∧
 (decide
 ((2:Int)+
 ↑(af (List.drop (Int.toNat (2:Int)) l))+
 (1:Int)+
 (1:Int)<
 al l)=
 false→
 (false=true→
 k
 (PV.tup
 [PV.arr (8:Nat)
 (ar.ints .u16
 (bl (List.replicate (8:Nat) (0:Int)) (0:Int)
 (bY
 (bW l (2:Int)
 ((2:Int)+
 ↑(af
 (List.drop (Int.toNat (2:Int)) l))))))),
 PV.bool true]))∧
 (false=false→
 (decide ((0:Int)+(1:Int)<(8:Int))=true→
 ((bl (List.replicate (8:Nat) (0:Int)) (0:Int)
 (bY
 (bW l (2:Int)
 ((2:Int)+
 ↑(af
 (List.drop (Int.toNat (2:Int)) l)))))).length=
 (8:Nat)∧
 (0:Int)≤(0:Int)+(1:Int)∧
 (0:Int)+(1:Int)≤(0:Int)+(1:Int)∧
 (0:Int)+(1:Int)≤(7:Int))∧
 k
 (PV.tup
 [PV.arr (8:Nat)
 (ar.ints .u16
 (bN
 (bl (List.replicate (8:Nat) (0:Int)) (0:Int)
 (bY
 (bW l (2:Int)
 ((2:Int)+
 ↑(af
 (List.drop (Int.toNat (2:Int)) l))))))
 ((0:Int)+(1:Int)).toNat ((0:Int)+(1:Int)).toNat)),
 PV.bool true]))∧
 (decide ((0:Int)+(1:Int)<(8:Int))=false→
 k
 (PV.tup
 [PV.arr (8:Nat)
 (ar.ints .u16 (List.replicate (8:Nat) (0:Int))),
 PV.bool false]))))))))))))):=by kernel_rfl
attribute [local irreducible] Go.Vc.cD
theorem Dk(l:Bs):ag Tryz.prog aA 170 [.str l] ⟨l.length≤1000000,.tup [.arr 8 (.ints .u16 (il l).1),.bool (il l).2]⟩:=b5 (by kernel_rfl) xl (H:=xk l) (fuel:=1000) Tryz.func170 (by kernel_rfl) fun hpre=>(Dj l _).mpr (by
 refine ⟨trivial,fun hp=>⟨rfl,⟨[],rfl,by decide,rfl,by omega,by omega,by omega,by omega,?_⟩,fun x hx=>?_⟩,fun hp=>⟨fun h2=>?_,fun h2=>?_⟩⟩
 ·rw [JG]at hp
  have hp2:¬Lib.hasPrefix l [58,58]=true:=hp
  show fR l 9 [] (-1) 0=il l
  unfold il
  rw [if_neg hp2]
 ·obtain ⟨c,g,a,p⟩:=x
  obtain ⟨acc,hC,h8,hp',g1,g2,a0,a1,hs⟩:=hx
  dsimp only at hC hp' g1 g2 a0 a1 hs
  subst hC hp'
  obtain ⟨i,rfl⟩:=Int.eq_ofNat_of_zero_le a0
  rw [Int.toNat_natCast]at hs
  have hE:(i:Int)+((af (l.drop ((i:Int).toNat)):Nat):Int)=((i+af (l.drop i):Nat):Int):=by rw [Int.toNat_natCast];push_cast;rfl
  refine mw (fun v=>v=.tup [.arr 8 (.ints .u16 (il l).1),.bool (il l).2]) _ _ l g i (i+af (l.drop i)) acc (il l) hpre h8 g1 g2 (by omega) rfl hs rfl (fun a h1 h2 h3 h4 h5=>?_) (fun a h1 h2 h3 h4 h5=>?_)
  ·exact ⟨rfl,⟨a,by rw [h1];push_cast;rfl,h3,by rw [hE];exact h2,g1,by dsimp only;omega,by dsimp only;omega,by dsimp only;rw [hE];omega,by rw [hE,show((i+af (l.drop i):Nat):Int)+1=((i+af (l.drop i)+1:Nat):Int) by push_cast;rfl,Int.toNat_natCast];exact h5⟩,by dsimp only;omega⟩
  ·exact ⟨rfl,⟨a,by rw [h1];push_cast;rfl,h3,by rw [hE];exact h2,by dsimp only;omega,by dsimp only;omega,by dsimp only;omega,by dsimp only;rw [hE];omega,by rw [hE,show((i+af (l.drop i):Nat):Int)+1+1=((i+af (l.drop i)+2:Nat):Int) by push_cast;omega,Int.toNat_natCast];exact h5⟩,by dsimp only;omega⟩
 ·have hp2:Lib.hasPrefix l [58,58]=true:=by
   have hp3:(!Lib.hasPrefix l [58,58])=false:=hp
   rw [Bool.not_eq_false']at hp3
   exact hp3
  have h3:l.length=2:=by have h4:(2:Int)=(l.length:Int):=of_decide_eq_true h2;omega
  have h5:il l=(bN (pad []) 0 0,true):=by unfold il;rw [if_pos hp2,if_pos h3];rfl
  refine ⟨(fun h=>by cases h),fun _=>⟨fun _=>⟨⟨rfl,by omega,by omega,by omega⟩,?_⟩,(fun h=>by cases h)⟩⟩
  show PV.tup _=PV.tup _
  rw [h5]
  rfl
 ·have hp2:Lib.hasPrefix l [58,58]=true:=by
   have hp3:(!Lib.hasPrefix l [58,58])=false:=hp
   rw [Bool.not_eq_false']at hp3
   exact hp3
  have h3:¬l.length=2:=by have h4:¬(2:Int)=(l.length:Int):=of_decide_eq_false h2;omega
  have h5:fR l 9 [] 0 2=il l:=by unfold il;rw [if_pos hp2,if_neg h3]
  have h6:2≤l.length:=Iv hp2
  refine mw (fun v=>v=.tup [.arr 8 (.ints .u16 (il l).1),.bool (il l).2]) _ _ l 0 2 (2+af (l.drop 2)) [] (il l) hpre (by decide) (by omega) (by simp) h6 rfl h5 rfl (fun a h1 h2 h3 h4 h5=>?_) (fun a h1 h2 h3 h4 h5=>?_)
  ·refine ⟨rfl,⟨a,by rw [h1];rfl,h3,h2,by omega,by omega,by omega,by show(2:Int)+((af (l.drop 2):Nat):Int)+1≤_;omega,?_⟩,fun x hx=>?_⟩
   ·rw [show((2:Int)+((af (l.drop (Int.toNat 2)):Nat):Int)+1).toNat=2+af (l.drop 2)+1 by show((2:Int)+((af (l.drop 2):Nat):Int)+1).toNat=_;omega]
    exact h5
   ·obtain ⟨c,g,a,p⟩:=x
    obtain ⟨acc,hC,h8,hp',g1,g2,a0,a1,hs⟩:=hx
    dsimp only at hC hp' g1 g2 a0 a1 hs
    subst hC hp'
    obtain ⟨i,rfl⟩:=Int.eq_ofNat_of_zero_le a0
    rw [Int.toNat_natCast]at hs
    have hE:(i:Int)+((af (l.drop ((i:Int).toNat)):Nat):Int)=((i+af (l.drop i):Nat):Int):=by rw [Int.toNat_natCast];push_cast;rfl
    refine mw (fun v=>v=.tup [.arr 8 (.ints .u16 (il l).1),.bool (il l).2]) _ _ l g i (i+af (l.drop i)) acc (il l) hpre h8 g1 g2 (by omega) rfl hs rfl (fun a h1 h2 h3 h4 h5=>?_) (fun a h1 h2 h3 h4 h5=>?_)
    ·exact ⟨rfl,⟨a,by rw [h1];push_cast;rfl,h3,by rw [hE];exact h2,g1,by dsimp only;omega,by dsimp only;omega,by dsimp only;rw [hE];omega,by rw [hE,show((i+af (l.drop i):Nat):Int)+1=((i+af (l.drop i)+1:Nat):Int) by push_cast;rfl,Int.toNat_natCast];exact h5⟩,by dsimp only;omega⟩
    ·exact ⟨rfl,⟨a,by rw [h1];push_cast;rfl,h3,by rw [hE];exact h2,by dsimp only;omega,by dsimp only;omega,by dsimp only;omega,by dsimp only;rw [hE];omega,by rw [hE,show((i+af (l.drop i):Nat):Int)+1+1=((i+af (l.drop i)+2:Nat):Int) by push_cast;omega,Int.toNat_natCast];exact h5⟩,by dsimp only;omega⟩
  ·refine ⟨rfl,⟨a,by rw [h1];rfl,h3,h2,by omega,by omega,by omega,by show(2:Int)+((af (l.drop 2):Nat):Int)+1+1≤_;omega,?_⟩,fun x hx=>?_⟩
   ·rw [show((2:Int)+((af (l.drop (Int.toNat 2)):Nat):Int)+1+1).toNat=2+af (l.drop 2)+2 by show((2:Int)+((af (l.drop 2):Nat):Int)+1+1).toNat=_;omega]
    exact h5
   ·obtain ⟨c,g,a,p⟩:=x
    obtain ⟨acc,hC,h8,hp',g1,g2,a0,a1,hs⟩:=hx
    dsimp only at hC hp' g1 g2 a0 a1 hs
    subst hC hp'
    obtain ⟨i,rfl⟩:=Int.eq_ofNat_of_zero_le a0
    rw [Int.toNat_natCast]at hs
    have hE:(i:Int)+((af (l.drop ((i:Int).toNat)):Nat):Int)=((i+af (l.drop i):Nat):Int):=by rw [Int.toNat_natCast];push_cast;rfl
    refine mw (fun v=>v=.tup [.arr 8 (.ints .u16 (il l).1),.bool (il l).2]) _ _ l g i (i+af (l.drop i)) acc (il l) hpre h8 g1 g2 (by omega) rfl hs rfl (fun a h1 h2 h3 h4 h5=>?_) (fun a h1 h2 h3 h4 h5=>?_)
    ·exact ⟨rfl,⟨a,by rw [h1];push_cast;rfl,h3,by rw [hE];exact h2,g1,by dsimp only;omega,by dsimp only;omega,by dsimp only;rw [hE];omega,by rw [hE,show((i+af (l.drop i):Nat):Int)+1=((i+af (l.drop i)+1:Nat):Int) by push_cast;rfl,Int.toNat_natCast];exact h5⟩,by dsimp only;omega⟩
    ·exact ⟨rfl,⟨a,by rw [h1];push_cast;rfl,h3,by rw [hE];exact h2,by dsimp only;omega,by dsimp only;omega,by dsimp only;omega,by dsimp only;rw [hE];omega,by rw [hE,show((i+af (l.drop i):Nat):Int)+1+1=((i+af (l.drop i)+2:Nat):Int) by push_cast;omega,Int.toNat_natCast];exact h5⟩,by dsimp only;omega⟩)
def lu:List PV→Option aI:=fun xs=>match xs with
 |[.str l]=>some ⟨l.length≤1000000,.tup [.arr 8 (.ints .u16 (il l).1),.bool (il l).2]⟩
 |_=>none
theorem r8:∀xs c,lu xs=some c→ag Tryz.prog aA 170 xs c:=fun xs c h=>by
 unfold lu at h
 split at h
 ·injection h with h;subst h;exact Dk _
 ·cases h
end
section
def BD:cq:=bR []
def BE(z:Int):ba:=fun i=>none
theorem zO:cS Tryz.prog aA BD:=ax
theorem FD(z:Int)(k:PV→Prop):cD Tryz.prog BD aA (BE z) 1000 Tryz.f155 [.int .u8 z] k=(
 k (PV.bool (bif decide ((48:Int)≤z)then decide (z≤(57:Int))else false))):=by kernel_rfl
attribute [local irreducible] Go.Vc.cD
theorem FE(z:Int):ag Tryz.prog aA 155 [.int .u8 z] ⟨True,.bool (decide (48≤z∧z≤57))⟩:=b5 (by kernel_rfl) zO (H:=BE z) (fuel:=1000) Tryz.func155 (by kernel_rfl) fun hpre=>(FD z _).mpr (by
 show PV.bool _=PV.bool _
 congr 1
 by_cases h:48≤z<;>simp [h])
def iN:List PV→Option aI:=fun xs=>match xs with
 |[.int .u8 z]=>some ⟨True,.bool (decide (48≤z∧z≤57))⟩
 |_=>none
theorem jj:∀xs c,iN xs=some c→ag Tryz.prog aA 155 xs c:=fun xs c h=>by
 unfold iN at h
 split at h
 ·injection h with h;subst h;exact FE _
 ·cases h
end
section
def ga(z:Int):Int:=if 48≤z∧z≤57 then z-48 else if 97≤z∧z≤102 then z-87 else if 65≤z∧z≤70 then z-55 else -1
def JH:cq:=bR [(155,iN)]
def JI(z:Int):ba:=fun i=>none
theorem FF:cS Tryz.prog aA JH:=ai jj (ax)
theorem KD(z:Int)(k:PV→Prop):cD Tryz.prog JH aA (JI z) 1000 Tryz.f184 [.int .u8 z] k=(
 True∧
 (decide ((48:Int)≤z∧z≤(57:Int))=true→k (PV.int .i64 (Go.IntKind.i64.wrap (Go.IntKind.u8.wrap (z-(48:Int))))))∧
 (decide ((48:Int)≤z∧z≤(57:Int))=false→
 ((bif decide ((97:Int)≤z)then decide (z≤(102:Int))else false)=true→
 aG (Go.IntKind.i64.wrap (Go.IntKind.u8.wrap (z-(97:Int)))+(10:Int))∧
 k (PV.int .i64 (Go.IntKind.i64.wrap (Go.IntKind.u8.wrap (z-(97:Int)))+(10:Int))))∧
 ((bif decide ((97:Int)≤z)then decide (z≤(102:Int))else false)=false→
 ((bif decide ((65:Int)≤z)then decide (z≤(70:Int))else false)=true→
 aG (Go.IntKind.i64.wrap (Go.IntKind.u8.wrap (z-(65:Int)))+(10:Int))∧
 k (PV.int .i64 (Go.IntKind.i64.wrap (Go.IntKind.u8.wrap (z-(65:Int)))+(10:Int))))∧
 ((bif decide ((65:Int)≤z)then decide (z≤(70:Int))else false)=false→k (PV.int .i64 (-1:Int)))))):=by kernel_rfl
attribute [local irreducible] Go.Vc.cD
theorem KE(z:Int):ag Tryz.prog aA 184 [.int .u8 z] ⟨0≤z∧z≤255,.int .i64 (ga z)⟩:=b5 (by kernel_rfl) FF (H:=JI z) (fuel:=1000) Tryz.func184 (by kernel_rfl) fun hpre=>(KD z _).mpr (by
 have w8:∀a:Int,0≤a∧a≤15→IntKind.u8.wrap a=a:=fun a h=>IntWalk.u8_in _ (by omega)
 have w64:∀a:Int,0≤a∧a≤15→IntKind.i64.wrap a=a:=fun a h=>IntWalk.i64_in _ (by omega)
 have yes:∀a b:Int,(bif decide (a≤z)then decide (z≤b)else false)=true→a≤z∧z≤b:=fun a b h=>by
  cases e:decide (a≤z)with
  |false=>rw [e]at h;cases h
  |true=>rw [e]at h;exact ⟨of_decide_eq_true e,of_decide_eq_true h⟩
 have no:∀a b:Int,(bif decide (a≤z)then decide (z≤b)else false)=false→¬(a≤z∧z≤b):=fun a b h g=>by
  rw [decide_eq_true g.1,decide_eq_true g.2]at h
  cases h
 refine ⟨trivial,fun h=>?_,fun h=>⟨fun h2=>?_,fun h2=>⟨fun h3=>?_,fun h3=>?_⟩⟩⟩
 ·have h1:=of_decide_eq_true h
  rw [w8 _ (by omega),w64 _ (by omega)]
  unfold ga;rw [if_pos h1]
 ·have h1:=of_decide_eq_false h
  have h4:=yes _ _ h2
  rw [w8 _ (by omega),w64 _ (by omega)]
  refine ⟨by unfold aG;omega,?_⟩
  unfold ga;rw [if_neg h1,if_pos h4];congr 1;omega
 ·have h1:=of_decide_eq_false h
  have h5:=no _ _ h2
  have h4:=yes _ _ h3
  rw [w8 _ (by omega),w64 _ (by omega)]
  refine ⟨by unfold aG;omega,?_⟩
  unfold ga;rw [if_neg h1,if_neg h5,if_pos h4];congr 1;omega
 ·have h1:=of_decide_eq_false h
  unfold ga;rw [if_neg h1,if_neg (no _ _ h2),if_neg (no _ _ h3)])
def u6:List PV→Option aI:=fun xs=>match xs with
 |[.int .u8 z]=>some ⟨0≤z∧z≤255,.int .i64 (ga z)⟩
 |_=>none
theorem zP:∀xs c,u6 xs=some c→ag Tryz.prog aA 184 xs c:=fun xs c h=>by
 unfold u6 at h
 split at h
 ·injection h with h;subst h;exact KE _
 ·cases h
end
section
def cl:Bs→Bs
 |[]=>[]
 |b::r=>match r with
  |h::g::t=>if b.toNat=37∧0≤ga h.toNat∧0≤ga g.toNat then bo (ga h.toNat*16+ga g.toNat)::cl t else b::cl (h::g::t)
  |[h]=>[b,h]
  |[]=>[b]
theorem Dl(b:UInt8)(r:Bs):cl (b::r)=if b.toNat=37∧2≤r.length∧0≤ga (aD r 0)∧0≤ga (aD r 1)then bo (ga (aD r 0)*16+ga (aD r 1))::cl (r.drop 2)else b::cl r:=by
 match r with
 |[]=>rw [if_neg (fun h=>by have:=h.2.1;simp at this)];rfl
 |[h]=>rw [if_neg (fun h=>by have:=h.2.1;simp at this)];rfl
 |h::g::t=>
  show(if b.toNat=37∧0≤ga h.toNat∧0≤ga g.toNat then bo (ga h.toNat*16+ga g.toNat)::cl t else b::cl (h::g::t))=_
  have e0:aD (h::g::t) 0=(h.toNat:Int):=rfl
  have e1:aD (h::g::t) 1=(g.toNat:Int):=rfl
  rw [e0,e1]
  by_cases hc:b.toNat=37∧0≤ga h.toNat∧0≤ga g.toNat
  ·rw [if_pos hc,if_pos ⟨hc.1,by simp,hc.2.1,hc.2.2⟩];rfl
  ·rw [if_neg hc,if_neg (fun h=>hc ⟨h.1,h.2.2.1,h.2.2.2⟩)]
theorem FG(z:Int):ga z≤15:=by unfold ga;repeat' split;all_goals omega
theorem KF {h g:Int}(h0:0≤h)(h1:h≤15)(g0:0≤g)(g1:g≤15):IntKind.u8.wrap (fI .or .i64 (wg .i64 h 4) g)=h*16+g:=by
 have key:∀a b:Fin 16,IntKind.u8.wrap (fI .or .i64 (wg .i64 (a.val:Int) 4) (b.val:Int))=(a.val:Int)*16+(b.val:Int):=by decide+kernel
 have:=key ⟨h.toNat,by omega⟩ ⟨g.toNat,by omega⟩
 dsimp only at this
 rw [show((h.toNat:Nat):Int)=h by omega,show((g.toNat:Nat):Int)=g by omega]at this
 exact this
theorem zQ(l:Bs)(j:Nat):ak l (j:Int)=aD l j:=rfl
theorem FH(l:Bs)(j:Nat)(h:j<l.length):l.drop j=bo (aD l j)::l.drop (j+1):=by
 rw [List.drop_eq_getElem_cons h]
 congr 1
 show _=bo (ak l (j:Int))
 rw [jO]
 rw [List.getD_eq_getElem?_getD,Int.toNat_natCast,List.getElem?_eq_getElem h];rfl
theorem tE(l:Bs)(i j:Nat):aD (l.drop i) j=aD l (i+j):=by unfold aD;rw [List.getD_eq_getElem?_getD,List.getD_eq_getElem?_getD,List.getElem?_drop]
theorem KG {b:Int}(h0:0≤b)(h1:b≤255):(((bo b).toNat:Nat):Int)=b:=by
 unfold bo
 rw [show(UInt8.ofNat b.toNat).toNat=b.toNat %256 from UInt8.toNat_ofNat' ..]
 omega
theorem kq(l:Bs)(j:Nat):0≤aD l j∧aD l j≤255:=gS l (j:Int)
theorem BF(l:Bs)(j:Nat)(h:j<l.length):cl (l.drop j)=if aD l j=37∧j+2<l.length∧0≤ga (aD l (j+1))∧0≤ga (aD l (j+2))then bo (ga (aD l (j+1))*16+ga (aD l (j+2)))::cl (l.drop (j+3))else bo (aD l j)::cl (l.drop (j+1)):=by
 have hr:=kq l j
 have e:((bo (aD l j)).toNat=37)↔aD l j=37:=by have:=KG hr.1 hr.2;omega
 rw [FH l j h,Dl,tE,tE,List.length_drop,List.drop_drop]
 by_cases hc:aD l j=37∧j+2<l.length∧0≤ga (aD l (j+1))∧0≤ga (aD l (j+2))
 ·rw [if_pos hc,if_pos ⟨e.2 hc.1,by omega,hc.2.2.1,hc.2.2.2⟩]
 ·rw [if_neg hc,if_neg (fun g=>hc ⟨e.1 g.1,by omega,g.2.2.1,g.2.2.2⟩)]
def zR(l:Bs)(o:Bool×Bs)(i:Int):Prop:=∃j:Nat,i=j∧j≤l.length∧o.1=false∧o.2++cl (l.drop j)=cl l∧o.2.length≤j
def FI:cq:=bR [(184,u6)]
def FJ(l:Bs):ba:=fun i=>bif Nat.beq i 3 then some ⟨(Bool×Bs)×(Int),(fun s x=>(((((((s.row s 3 x.1.1 (.bytes x.1.2)).put 4 (.int .i64 x.2)).put 5 .undef).put 6 .undef).put 13 .undef).put 26 .undef).put 42 .undef)),(fun s=>((s.nil 3,s.bytes 3),s.int 4)),(fun s x=>let b:=x.1;let i:=x.2;zR l b i),(fun s x=>let b:=x.1;let i:=x.2;((l.length:Int)-i).toNat),[5,6,13,26,42]⟩else none
theorem Dm:cS Tryz.prog aA FI:=ai zP (ax)
theorem Iw(l:Bs)(k:PV→Prop):cD Tryz.prog FI aA (FJ l) 1000 Tryz.f171 [.str l] k=(
 ((0:Int)≤(0:Int)∧(0:Int)≤al l∧al l≤de)∧
 VS.mk []
 [(0,PV.str l),(2,PV.row true (ar.bytes []) ((2:Nat)+(32:Nat))),
 (3,PV.row false (ar.bytes (List.replicate (Int.toNat (0:Int)) (0:UInt8))) ((9:Nat)+(32:Nat))),
 (4,PV.int .i64 (0:Int)),((5:Nat),PV.undef),((6:Nat),PV.undef),((13:Nat),PV.undef),
 ((26:Nat),PV.undef),((42:Nat),PV.undef)]
 []=
 VS.mk []
 [(0,PV.str l),(2,PV.row true (ar.bytes []) ((2:Nat)+(32:Nat))),
 ((3:Nat),PV.row false (ar.bytes (List.replicate (Int.toNat (0:Int)) (0:UInt8))) ((9:Nat)+(32:Nat))),
 ((4:Nat),PV.int .i64 (0:Int)),((5:Nat),PV.undef),((6:Nat),PV.undef),((13:Nat),PV.undef),
 ((26:Nat),PV.undef),((42:Nat),PV.undef)]
 []∧
 zR l (false,List.replicate (Int.toNat (0:Int)) (0:UInt8)) (0:Int)∧
 ∀(x:(Bool×Bs)×Int),
 zR l x.1 x.2→
 (decide (x.2<al l)=true→
 within x.2 (al l)∧
 (decide (ak l x.2=(37:Int))=true→aG (x.2+(2:Int)))∧
 ((bif decide (ak l x.2=(37:Int))then decide (x.2+(2:Int)<al l)else false)=true→
 aG (x.2+(1:Int))∧
 within (x.2+(1:Int)) (al l)∧
 ((0:Int)≤ak l (x.2+(1:Int))∧ak l (x.2+(1:Int))≤(255:Int))∧
 aG (x.2+(2:Int))∧
 within (x.2+(2:Int)) (al l)∧
 ((0:Int)≤ak l (x.2+(2:Int))∧ak l (x.2+(2:Int))≤(255:Int))∧
 ((bif decide ((0:Int)≤ga (ak l (x.2+(1:Int))))then
 decide ((0:Int)≤ga (ak l (x.2+(2:Int))))
 else false)=
 true→
 (0:Int)≤(4:Int)∧
 jr
 [PV.int .u8
 (Go.IntKind.u8.wrap
 (fI Go.BinOp.or .i64
 (wg .i64 (ga (ak l (x.2+(1:Int))))
 (4:Int))
 (ga (ak l (x.2+(2:Int))))))]∧
 Int.ofNat
 (List.length
 (x.1.2++
 [bo
 (Go.IntKind.u8.wrap
 (fI Go.BinOp.or .i64
 (wg .i64
 (ga (ak l (x.2+(1:Int)))) (4:Int))
 (ga (ak l (x.2+(2:Int))))))]))≤
 de∧
 aG (x.2+(2:Int))∧
 aG (x.2+(2:Int)+(1:Int))∧
 VS.mk []
 [(0,PV.str l),
 (2,PV.row true (ar.bytes []) ((2:Nat)+(32:Nat))),
 ((3:Nat),
 PV.row false
 (ar.bytes
 (x.1.2++
 [bo
 (Go.IntKind.u8.wrap
 (fI Go.BinOp.or .i64
 (wg .i64
 (ga (ak l (x.2+(1:Int))))
 (4:Int))
 (ga (ak l (x.2+(2:Int))))))]))
 (nat_lit 40+(1:Nat))),
 ((4:Nat),PV.int .i64 (x.2+(2:Int)+(1:Int))),((5:Nat),PV.undef),
 ((6:Nat),PV.undef),((13:Nat),PV.undef),((26:Nat),PV.undef),
 ((42:Nat),PV.undef)]
 []=
 VS.mk []
 [(0,PV.str l),
 (2,PV.row true (ar.bytes []) ((2:Nat)+(32:Nat))),
 ((3:Nat),
 PV.row false
 (ar.bytes
 (x.1.2++
 [bo
 (Go.IntKind.u8.wrap
 (fI Go.BinOp.or .i64
 (wg .i64
 (ga (ak l (x.2+(1:Int))))
 (4:Int))
 (ga (ak l (x.2+(2:Int))))))]))
 ((9:Nat)+(32:Nat))),
 ((4:Nat),PV.int .i64 (x.2+(2:Int)+(1:Int))),((5:Nat),PV.undef),
 ((6:Nat),PV.undef),((13:Nat),PV.undef),((26:Nat),PV.undef),
 ((42:Nat),PV.undef)]
 []∧
 zR l
 (false,
 x.1.2++
 [bo
 (Go.IntKind.u8.wrap
 (fI Go.BinOp.or .i64
 (wg .i64
 (ga (ak l (x.2+(1:Int)))) (4:Int))
 (ga (ak l (x.2+(2:Int))))))])
 (x.2+(2:Int)+(1:Int))∧
 (↑(List.length l)-(x.2+(2:Int)+(1:Int))).toNat<(↑(List.length l)-x.2).toNat)∧
 ((bif decide ((0:Int)≤ga (ak l (x.2+(1:Int))))then
 decide ((0:Int)≤ga (ak l (x.2+(2:Int))))
 else false)=
 false→
 within x.2 (al l)∧
 jr [PV.int .u8 (ak l x.2)]∧
 Int.ofNat (List.length (x.1.2++[bo (ak l x.2)]))≤de∧
 aG (x.2+(1:Int))∧
 VS.mk []
 [(0,PV.str l),(2,PV.row true (ar.bytes []) ((2:Nat)+(32:Nat))),
 ((3:Nat),
 PV.row false (ar.bytes (x.1.2++[bo (ak l x.2)]))
 (nat_lit 40+(1:Nat))),
 ((4:Nat),PV.int .i64 (x.2+(1:Int))),((5:Nat),PV.undef),
 ((6:Nat),PV.undef),((13:Nat),PV.undef),((26:Nat),PV.undef),
 ((42:Nat),PV.undef)]
 []=
 VS.mk []
 [(0,PV.str l),(2,PV.row true (ar.bytes []) ((2:Nat)+(32:Nat))),
 ((3:Nat),
 PV.row false (ar.bytes (x.1.2++[bo (ak l x.2)]))
 ((9:Nat)+(32:Nat))),
 ((4:Nat),PV.int .i64 (x.2+(1:Int))),((5:Nat),PV.undef),
 ((6:Nat),PV.undef),((13:Nat),PV.undef),((26:Nat),PV.undef),
 ((42:Nat),PV.undef)]
 []∧
 zR l (false,x.1.2++[bo (ak l x.2)])
 (x.2+(1:Int))∧
 (↑(List.length l)-(x.2+(1:Int))).toNat<(↑(List.length l)-x.2).toNat))∧
 ((bif decide (ak l x.2=(37:Int))then decide (x.2+(2:Int)<al l)else false)=false→
 within x.2 (al l)∧
 jr [PV.int .u8 (ak l x.2)]∧
 Int.ofNat (List.length (x.1.2++[bo (ak l x.2)]))≤de∧
 aG (x.2+(1:Int))∧
 VS.mk []
 [(0,PV.str l),(2,PV.row true (ar.bytes []) ((2:Nat)+(32:Nat))),
 ((3:Nat),
 PV.row false (ar.bytes (x.1.2++[bo (ak l x.2)])) (nat_lit 40+(1:Nat))),
 ((4:Nat),PV.int .i64 (x.2+(1:Int))),((5:Nat),PV.undef),((6:Nat),PV.undef),
 ((13:Nat),PV.undef),((26:Nat),PV.undef),((42:Nat),PV.undef)]
 []=
 VS.mk []
 [(0,PV.str l),(2,PV.row true (ar.bytes []) ((2:Nat)+(32:Nat))),
 ((3:Nat),
 PV.row false (ar.bytes (x.1.2++[bo (ak l x.2)])) ((9:Nat)+(32:Nat))),
 ((4:Nat),PV.int .i64 (x.2+(1:Int))),((5:Nat),PV.undef),((6:Nat),PV.undef),
 ((13:Nat),PV.undef),((26:Nat),PV.undef),((42:Nat),PV.undef)]
 []∧
 zR l (false,x.1.2++[bo (ak l x.2)]) (x.2+(1:Int))∧
 (↑(List.length l)-(x.2+(1:Int))).toNat<(↑(List.length l)-x.2).toNat))∧
 (decide (x.2<al l)=false→k (PV.row x.1.1 (ar.bytes x.1.2) (0:Nat)))):=by kernel_rfl
attribute [local irreducible] Go.Vc.cD
theorem Ix(l:Bs):ag Tryz.prog aA 171 [.str l] ⟨l.length≤1000000,.row false (.bytes (cl l)) 0⟩:=b5 (by kernel_rfl) Dm (H:=FJ l) (fuel:=1000) Tryz.func171 (by kernel_rfl) fun hpre=>(Iw l _).mpr (by
 obtain hl:=hpre
 refine ⟨⟨by omega,by unfold al;omega,by unfold al;show _ ≤(16777216:Int);omega⟩,rfl,⟨0,rfl,by omega,rfl,rfl,by show 0≤0;omega⟩,fun x hx=>?_⟩
 obtain ⟨⟨nl,o⟩,i⟩:=x
 obtain ⟨j,h1,h2,h3,h4,h5⟩:=hx
 dsimp only at h1 h2 h3 h4 h5⊢
 subst h1 h3
 have e1:(j:Int)+1=((j+1:Nat):Int):=by push_cast;rfl
 have e2:(j:Int)+2=((j+2:Nat):Int):=by push_cast;rfl
 have e3:((j+2:Nat):Int)+1=((j+3:Nat):Int):=by push_cast;rfl
 have hu:∀z:Int,0≤z∧z≤255→jr [.int .u8 z]:=fun z hz=>by simp [jr];exact hz
 rw [e1,e2,e3,zQ l j,zQ l (j+1),zQ l (j+2)]
 have r0:=kq l j
 have r1:=kq l (j+1)
 have r2:=kq l (j+2)
 have hm:(o++[bo 0]).length=o.length+1:=by rw [List.length_append];rfl
 have stay:j<l.length→(aD l j=37∧j+2<l.length∧0≤ga (aD l (j+1))∧0≤ga (aD l (j+2))→False)→zR l (false,o++[bo (aD l j)]) ((j+1:Nat):Int):=fun hj hc=>by
  refine ⟨j+1,rfl,by omega,rfl,?_,by show(o++[_]).length≤_;rw [List.length_append];show o.length+1≤_;omega⟩
  show(o++[_])++_=_
  rw [←h4,BF l j hj,if_neg hc,List.append_assoc];rfl
 refine ⟨fun h=>?_,fun h=>?_⟩
 ·have hj:j<l.length:=by have:=of_decide_eq_true h;unfold al at this;omega
  refine ⟨by unfold within al;omega,fun _=>by unfold aG;omega,fun hc=>?_,fun hc=>?_⟩
  ·have hb:aD l j=37∧j+2<l.length:=by
    cases e:decide (aD l j=37)with
    |false=>rw [e]at hc;cases hc
    |true=>rw [e]at hc;exact ⟨of_decide_eq_true e,by have:=of_decide_eq_true hc;unfold al at this;omega⟩
   refine ⟨by unfold aG;omega,by unfold within al;omega,r1,by unfold aG;omega,by unfold within al;omega,r2,fun hd=>?_,fun hd=>?_⟩
   ·have hh:0≤ga (aD l (j+1))∧0≤ga (aD l (j+2)):=by
     cases e:decide (0≤ga (aD l (j+1)))with
     |false=>rw [e]at hd;cases hd
     |true=>rw [e]at hd;exact ⟨of_decide_eq_true e,of_decide_eq_true hd⟩
    have le1:=FG (aD l (j+1))
    have le2:=FG (aD l (j+2))
    rw [KF hh.1 le1 hh.2 le2]
    refine ⟨by omega,hu _ (by omega),?_,by unfold aG;omega,by unfold aG;omega,rfl,⟨j+3,rfl,by omega,rfl,?_,?_⟩,by omega⟩
    ·rw [List.length_append];show((o.length+1:Nat):Int)≤16777216;omega
    ·show(o++[_])++_=_
     rw [←h4,BF l j hj,if_pos ⟨hb.1,hb.2,hh.1,hh.2⟩,List.append_assoc];rfl
    ·show(o++[_]).length≤_;rw [List.length_append];show o.length+1≤_;omega
   ·refine ⟨by unfold within al;omega,hu _ r0,?_,by unfold aG;omega,rfl,stay hj (fun g=>?_),by omega⟩
    ·rw [List.length_append];show((o.length+1:Nat):Int)≤16777216;omega
    ·rw [decide_eq_true g.2.2.1,decide_eq_true g.2.2.2]at hd;cases hd
  ·refine ⟨by unfold within al;omega,hu _ r0,?_,by unfold aG;omega,rfl,stay hj (fun g=>?_),by omega⟩
   ·rw [List.length_append];show((o.length+1:Nat):Int)≤16777216;omega
   ·rw [decide_eq_true g.1,decide_eq_true (show((j+2:Nat):Int)<al l by unfold al;omega)]at hc;cases hc
 ·have hj:j=l.length:=by have:=of_decide_eq_false h;unfold al at this;omega
  subst hj
  rw [List.drop_length]at h4
  have:o=cl l:=by rw [←h4];exact (List.append_nil o).symm
  show PV.row false _ _=PV.row false _ _
  rw [this])
def qG:List PV→Option aI:=fun xs=>match xs with
 |[.str l]=>some ⟨l.length≤1000000,.row false (.bytes (cl l)) 0⟩
 |_=>none
theorem xm:∀xs c,qG xs=some c→ag Tryz.prog aA 171 xs c:=fun xs c h=>by
 unfold qG at h
 split at h
 ·injection h with h;subst h;exact Ix _
 ·cases h
end
section
theorem KH {n:Nat}{i:Int}(h:decide (i<(n:Int))=true):i<n:=of_decide_eq_true h
def qH(c:UInt8):UInt8:=if 65≤c.toNat∧c.toNat≤90 then c+32 else c
def bE(l:Bs):Bs:=l.map qH
theorem Iy {l:Bs}{z:Int}(h0:0≤z)(h1:z<(l.length:Int)):(bE l)[z.toNat]?=some (qH (l.getD z.toNat 0)):=by
 have:z.toNat<l.length:=by omega
 unfold bE
 rw [List.getElem?_map,List.getElem?_eq_getElem this,List.getD_eq_getElem?_getD,List.getElem?_eq_getElem this]
 rfl
theorem Iz {l:Bs}{z:Int}(h:(bif decide ((65:Int)≤ak l z)then decide (ak l z≤(90:Int))else false)=true):IntKind.u8.wrap (ak l z+(32:Int))=ak l z+32∧ak l z≤90∧bo (ak l z+32)=qH (l.getD z.toNat 0):=by
 have hr:=gS l z
 cases h1:decide ((65:Int)≤ak l z)with
 |false=>rw [h1]at h;cases h
 |true=>
  rw [h1]at h
  have h2:ak l z≤90:=of_decide_eq_true h
  have h3:65≤ak l z:=of_decide_eq_true h1
  refine ⟨IntWalk.u8_in _ (by omega),h2,?_⟩
  unfold ak at h2 h3
  unfold qH bo ak
  rw [if_pos (by omega)]
  apply UInt8.toNat_inj.1
  rw [UInt8.toNat_add]
  have e:(((l.getD z.toNat 0).toNat:Int)+32).toNat=(l.getD z.toNat 0).toNat+32:=by omega
  rw [e]
  simp
theorem KI {l:Bs}{z:Int}(h:(bif decide ((65:Int)≤ak l z)then decide (ak l z≤(90:Int))else false)=false):bo (ak l z)=qH (l.getD z.toNat 0):=by
 rw [jO]
 unfold qH
 rw [if_neg]
 intro hh
 have h3:(65:Int)≤ak l z:=by unfold ak;omega
 have h4:ak l z≤(90:Int):=by unfold ak;omega
 rw [decide_eq_true h3,decide_eq_true h4]at h
 cases h
def BG:cq:=bR []
def BH(nl:Bool)(l:Bs):ba:=fun i=>bif Nat.beq i 3 then some ⟨(Bool×Bs)×(Int),(fun s x=>((((((s.row s 3 x.1.1 (.bytes x.1.2)).put 11 (.int .i64 x.2)).put 4 .undef).put 5 .undef).put 12 .undef).put 21 .undef)),(fun s=>((s.nil 3,s.bytes 3),s.int 11)),(fun s x=>let low:=x.1;let i:=x.2;0≤i∧i≤l.length∧low.1=false∧low.2=(bE l).take i.toNat++List.replicate (l.length-i.toNat) 0),(fun s x=>let low:=x.1;let i:=x.2;((l.length:Int)-i).toNat),[4,5,12,21]⟩else none
theorem zS:cS Tryz.prog aA BG:=ax
theorem FK(nl:Bool)(l:Bs)(k:PV→Prop):cD Tryz.prog BG aA (BH nl l) 1000 Tryz.f154 [.row nl (.bytes l) 0] k=(
 ((0:Int)≤Int.ofNat (List.length l)∧Int.ofNat (List.length l)≤Int.ofNat (List.length l)∧Int.ofNat (List.length l)≤de)∧
 VS.mk []
 [(0,PV.row nl (ar.bytes l) (0:Nat)),(2,PV.str (ByteArray.mk #[]).data.toList),
 (3,PV.row false (ar.bytes (List.replicate (Int.ofNat (List.length l)).toNat (0:UInt8))) ((8:Nat)+(32:Nat))),
 ((4:Nat),PV.undef),((5:Nat),PV.undef),(9,PV.row nl (ar.bytes l) (0:Nat)),
 (10,PV.int .i64 (Int.ofNat (List.length l))),(11,PV.int .i64 (0:Int)),
 ((12:Nat),PV.undef),((21:Nat),PV.undef)]
 []=
 VS.mk []
 [(0,PV.row nl (ar.bytes l) (0:Nat)),(2,PV.str (ByteArray.mk #[]).data.toList),
 ((3:Nat),PV.row false (ar.bytes (List.replicate (Int.ofNat (List.length l)).toNat (0:UInt8))) ((8:Nat)+(32:Nat))),
 ((4:Nat),PV.undef),((5:Nat),PV.undef),(9,PV.row nl (ar.bytes l) (0:Nat)),
 (10,PV.int .i64 (Int.ofNat (List.length l))),((11:Nat),PV.int .i64 (0:Int)),
 ((12:Nat),PV.undef),((21:Nat),PV.undef)]
 []∧
 ((0:Int)≤(0:Int)∧
 (0:Int)≤↑(List.length l)∧
 false=false∧
 List.replicate (Int.ofNat (List.length l)).toNat (0:UInt8)=
 List.take (Int.toNat (0:Int)) (bE l)++
 List.replicate (List.length l-Int.toNat (0:Int)) (0:UInt8))∧
 ∀(x:(Bool×Bs)×Int),
 (0:Int)≤x.2∧
 x.2≤↑(List.length l)∧
 x.1.1=false∧
 x.1.2=List.take x.2.toNat (bE l)++List.replicate (List.length l-x.2.toNat) (0:UInt8)→
 (decide (x.2<Int.ofNat (List.length l))=true→
 within x.2 (Int.ofNat (List.length l))∧
 ((bif decide ((65:Int)≤ak l x.2)then decide (ak l x.2≤(90:Int))else false)=true→
 within x.2 (Int.ofNat (List.length x.1.2))∧
 ((0:Int)≤Go.IntKind.u8.wrap (ak l x.2+(32:Int))∧
 Go.IntKind.u8.wrap (ak l x.2+(32:Int))≤(255:Int))∧
 aG (x.2+(1:Int))∧
 VS.mk []
 [(0,PV.row nl (ar.bytes l) (0:Nat)),(2,PV.str (ByteArray.mk #[]).data.toList),
 ((3:Nat),
 PV.row x.1.1
 (ar.bytes (bl x.1.2 x.2 (bo (Go.IntKind.u8.wrap (ak l x.2+(32:Int))))))
 ((8:Nat)+(32:Nat))),
 ((4:Nat),PV.undef),((5:Nat),PV.undef),(9,PV.row nl (ar.bytes l) (0:Nat)),
 (10,PV.int .i64 (Int.ofNat (List.length l))),
 ((11:Nat),PV.int .i64 (x.2+(1:Int))),((12:Nat),PV.undef),((21:Nat),PV.undef)]
 []=
 VS.mk []
 [(0,PV.row nl (ar.bytes l) (0:Nat)),(2,PV.str (ByteArray.mk #[]).data.toList),
 ((3:Nat),
 PV.row x.1.1
 (ar.bytes (bl x.1.2 x.2 (bo (Go.IntKind.u8.wrap (ak l x.2+(32:Int))))))
 ((8:Nat)+(32:Nat))),
 ((4:Nat),PV.undef),((5:Nat),PV.undef),(9,PV.row nl (ar.bytes l) (0:Nat)),
 (10,PV.int .i64 (Int.ofNat (List.length l))),
 ((11:Nat),PV.int .i64 (x.2+(1:Int))),((12:Nat),PV.undef),((21:Nat),PV.undef)]
 []∧
 ((0:Int)≤x.2+(1:Int)∧
 x.2+(1:Int)≤↑(List.length l)∧
 x.1.1=false∧
 bl x.1.2 x.2 (bo (Go.IntKind.u8.wrap (ak l x.2+(32:Int))))=
 List.take (x.2+(1:Int)).toNat (bE l)++
 List.replicate (List.length l-(x.2+(1:Int)).toNat) (0:UInt8))∧
 (↑(List.length l)-(x.2+(1:Int))).toNat<(↑(List.length l)-x.2).toNat)∧
 ((bif decide ((65:Int)≤ak l x.2)then decide (ak l x.2≤(90:Int))else false)=false→
 within x.2 (Int.ofNat (List.length x.1.2))∧
 ((0:Int)≤ak l x.2∧ak l x.2≤(255:Int))∧
 aG (x.2+(1:Int))∧
 VS.mk []
 [(0,PV.row nl (ar.bytes l) (0:Nat)),(2,PV.str (ByteArray.mk #[]).data.toList),
 ((3:Nat),
 PV.row x.1.1 (ar.bytes (bl x.1.2 x.2 (bo (ak l x.2))))
 ((8:Nat)+(32:Nat))),
 ((4:Nat),PV.undef),((5:Nat),PV.undef),(9,PV.row nl (ar.bytes l) (0:Nat)),
 (10,PV.int .i64 (Int.ofNat (List.length l))),
 ((11:Nat),PV.int .i64 (x.2+(1:Int))),((12:Nat),PV.undef),((21:Nat),PV.undef)]
 []=
 VS.mk []
 [(0,PV.row nl (ar.bytes l) (0:Nat)),(2,PV.str (ByteArray.mk #[]).data.toList),
 ((3:Nat),
 PV.row x.1.1 (ar.bytes (bl x.1.2 x.2 (bo (ak l x.2))))
 ((8:Nat)+(32:Nat))),
 ((4:Nat),PV.undef),((5:Nat),PV.undef),(9,PV.row nl (ar.bytes l) (0:Nat)),
 (10,PV.int .i64 (Int.ofNat (List.length l))),
 ((11:Nat),PV.int .i64 (x.2+(1:Int))),((12:Nat),PV.undef),((21:Nat),PV.undef)]
 []∧
 ((0:Int)≤x.2+(1:Int)∧
 x.2+(1:Int)≤↑(List.length l)∧
 x.1.1=false∧
 bl x.1.2 x.2 (bo (ak l x.2))=
 List.take (x.2+(1:Int)).toNat (bE l)++
 List.replicate (List.length l-(x.2+(1:Int)).toNat) (0:UInt8))∧
 (↑(List.length l)-(x.2+(1:Int))).toNat<(↑(List.length l)-x.2).toNat))∧
 (decide (x.2<Int.ofNat (List.length l))=false→k (PV.str x.1.2))):=by kernel_rfl
attribute [local irreducible] Go.Vc.cD
theorem FL(nl:Bool)(l:Bs):ag Tryz.prog aA 154 [.row nl (.bytes l) 0] ⟨l.length≤1000000,.str (bE l)⟩:=b5 (by kernel_rfl) zS (H:=BH nl l) (fuel:=1000) Tryz.func154 (by kernel_rfl) fun hpre=>(FK nl l _).mpr (by
 have hll:(bE l).length=l.length:=by unfold bE;simp
 simp only [Int.ofNat_eq_natCast]at *
 refine ⟨⟨by omega,by omega,by unfold de;omega⟩,trivial,⟨by omega,by omega,trivial,by simp⟩,fun x hx=>⟨fun h=>?_,fun h=>?_⟩⟩
 ·obtain ⟨h0,h1,h2,h3⟩:=hx
  have hlt:=KH h
  have hbr:=gS l x.2
  have hlen:x.1.2.length=l.length:=by rw [h3,List.length_append,List.length_take,List.length_replicate,hll];omega
  have step:∀b,b=qH (l.getD x.2.toNat 0)→bl x.1.2 x.2 b=List.take (x.2+1).toNat (bE l)++List.replicate (List.length l-(x.2+1).toNat) 0:=fun b hb=>by
   unfold bl
   rw [show(x.2+1).toNat=x.2.toNat+1 by omega,h3]
   exact E8 hll.symm (by rw [Iy h0 hlt,hb])
  refine ⟨⟨h0,hlt⟩,fun hc=>?_,fun hc=>?_⟩
  ·obtain ⟨c1,c2,c3⟩:=Iz hc
   rw [c1]
   refine ⟨⟨h0,by rw [hlen];exact hlt⟩,⟨by omega,by omega⟩,⟨by omega,by omega⟩,trivial,⟨by omega,by omega,h2,step _ c3⟩,by omega⟩
  ·refine ⟨⟨h0,by rw [hlen];exact hlt⟩,⟨by omega,by omega⟩,⟨by omega,by omega⟩,trivial,⟨by omega,by omega,h2,step _ (KI hc)⟩,by omega⟩
 ·obtain ⟨h0,h1,h2,h3⟩:=hx
  have hge:¬x.2<(l.length:Int):=of_decide_eq_false h
  show PV.str _=PV.str _
  rw [h3,show x.2.toNat=l.length by omega,←hll,List.take_length]
  simp)
def kr:List PV→Option aI:=fun xs=>match xs with
 |[.row nl (.bytes l) 0]=>some ⟨l.length≤1000000,.str (bE l)⟩
 |_=>none
theorem my:∀xs c,kr xs=some c→ag Tryz.prog aA 154 xs c:=fun xs c h=>by
 unfold kr at h
 split at h
 ·injection h with h;subst h;exact FL _ _
 ·cases h
end
section
def nL:Bs:=[0,9,10,13,32,35,47,58,60,62,63,64,91,92,93,94,124]
def IA(r:Int):Bool:=decide (r<32)||decide (r=37)||decide (r=127)||Di nL r
def BI:cq:=bR [(187,nK)]
def BJ(r:Int):ba:=fun i=>none
theorem zT:cS Tryz.prog aA BI:=ai u5 (ax)
theorem FM(r:Int)(k:PV→Prop):cD Tryz.prog BI aA (BJ r) 1000 Tryz.f174 [.int .i32 r] k=(
 ((bif bif decide (r<(32:Int))then true else decide (r=(37:Int))then true else decide (r=(127:Int)))=false→
 (0:Int)≤r∧
 r≤(2147483647:Int)∧
 ∀(b:UInt8),
 b∈
 (ByteArray.mk
 #[0,9,10,13,32,35,47,58,60,62,63,64,91,92,93,94,124]).data.toList→
 b.toNat<(128:Nat))∧
 k
 (PV.bool
 (bif bif bif decide (r<(32:Int))then true else decide (r=(37:Int))then true else decide (r=(127:Int))then true
 else
 Di
 (ByteArray.mk
 #[0,9,10,13,32,35,47,58,60,62,63,64,91,92,93,94,124]).data.toList
 r))):=by kernel_rfl
attribute [local irreducible] Go.Vc.cD
theorem FN(r:Int):ag Tryz.prog aA 174 [.int .i32 r] ⟨0≤r∧r≤1114111,.bool (IA r)⟩:=b5 (by kernel_rfl) zT (H:=BJ r) (fuel:=1000) Tryz.func174 (by kernel_rfl) fun hpre=>(FM r _).mpr (by
 refine ⟨fun _=>⟨by omega,by omega,by decide⟩,?_⟩
 show PV.bool _=PV.bool _
 unfold IA nL
 cases decide (r<32)<;>cases decide (r=37)<;>cases decide (r=127)<;>rfl)
end
section
def xn:cq:=bR []
def xo(z:Int):ba:=fun i=>none
theorem xp:cS Tryz.prog aA xn:=ax
theorem Dn(z:Int)(k:PV→Prop):cD Tryz.prog xn aA (xo z) 1000 Tryz.f153 [.int .u8 z] k=(
 k
 (PV.bool
 (bif decide ((97:Int)≤fI Go.BinOp.or .u8 z (32:Int))then decide (fI Go.BinOp.or .u8 z (32:Int)≤(122:Int))
 else false))):=by kernel_rfl
attribute [local irreducible] Go.Vc.cD
theorem Dp(z:Int):ag Tryz.prog aA 153 [.int .u8 z] ⟨0≤z∧z≤255,.bool (decide (97≤z∧z≤122∨65≤z∧z≤90))⟩:=b5 (by kernel_rfl) xp (H:=xo z) (fuel:=1000) Tryz.func153 (by kernel_rfl) fun hpre=>(Dn z _).mpr (by
 show PV.bool _=PV.bool _
 congr 1
 obtain ⟨n,rfl⟩:∃n:Nat,z=n:=⟨z.toNat,by omega⟩
 have all:∀m:Fin 256,(bif decide ((97:Int)≤fI BinOp.or IntKind.u8 (m.val:Int) (32:Int))then decide (fI BinOp.or IntKind.u8 (m.val:Int) (32:Int)≤(122:Int))else false)=decide (97≤(m.val:Int)∧(m.val:Int)≤122∨65≤(m.val:Int)∧(m.val:Int)≤90):=by decide+kernel
 exact all ⟨n,by omega⟩)
def jk:List PV→Option aI:=fun xs=>match xs with
 |[.int .u8 z]=>some ⟨0≤z∧z≤255,.bool (decide (97≤z∧z≤122∨65≤z∧z≤90))⟩
 |_=>none
theorem kJ:∀xs c,jk xs=some c→ag Tryz.prog aA 153 xs c:=fun xs c h=>by
 unfold jk at h
 split at h
 ·injection h with h;subst h;exact Dp _
 ·cases h
end
section
def fF:Bs:=[102,116,112]
def fL:Bs:=[102,105,108,101]
def fH:Bs:=[104,116,116,112]
def fW:Bs:=[119,115]
def fS:Bs:=[104,116,116,112,115]
def fV:Bs:=[119,115,115]
def IB(l:Bs):Int:=if l=fF then 21 else if l=fH∨l=fW then 80 else if l=fS∨l=fV then 443 else 0
def ay(l:Bs):Bool:=decide (l=fF∨l=fL∨l=fH∨l=fW∨l=fS∨l=fV)
def tF:cq:=bR []
def tG(l:Bs):ba:=fun i=>none
theorem u7:cS Tryz.prog aA tF:=ax
theorem zU(l:Bs)(k:PV→Prop):cD Tryz.prog tF aA (tG l) 1000 Tryz.f27 [.str l] k=(
 (decide (l=(ByteArray.mk #[102,116,112]).data.toList)=true→
 k (PV.tup [PV.int .i64 (21:Int),PV.bool true]))∧
 (decide (l=(ByteArray.mk #[102,116,112]).data.toList)=false→
 (decide (l=(ByteArray.mk #[102,105,108,101]).data.toList)=true→
 k (PV.tup [PV.int .i64 (0:Int),PV.bool true]))∧
 (decide (l=(ByteArray.mk #[102,105,108,101]).data.toList)=false→
 (decide (l=(ByteArray.mk #[104,116,116,112]).data.toList)=true→
 (decide (l=(ByteArray.mk #[104,116,116,112]).data.toList)=true→
 k (PV.tup [PV.int .i64 (80:Int),PV.bool true]))∧
 (decide (l=(ByteArray.mk #[104,116,116,112]).data.toList)=false→
 (decide (l=(ByteArray.mk #[104,116,116,112,115]).data.toList)=true→
 (decide (l=(ByteArray.mk #[104,116,116,112,115]).data.toList)=true→
 k (PV.tup [PV.int .i64 (443:Int),PV.bool true]))∧
 (decide (l=(ByteArray.mk #[104,116,116,112,115]).data.toList)=false→
 k (PV.tup [PV.int .i64 (0:Int),PV.bool false])))∧
 (decide (l=(ByteArray.mk #[104,116,116,112,115]).data.toList)=false→
 (decide (l=(ByteArray.mk #[119,115,115]).data.toList)=true→
 k (PV.tup [PV.int .i64 (443:Int),PV.bool true]))∧
 (decide (l=(ByteArray.mk #[119,115,115]).data.toList)=false→
 k (PV.tup [PV.int .i64 (0:Int),PV.bool false])))))∧
 (decide (l=(ByteArray.mk #[104,116,116,112]).data.toList)=false→
 (decide (l=(ByteArray.mk #[119,115]).data.toList)=true→
 k (PV.tup [PV.int .i64 (80:Int),PV.bool true]))∧
 (decide (l=(ByteArray.mk #[119,115]).data.toList)=false→
 (decide (l=(ByteArray.mk #[104,116,116,112,115]).data.toList)=true→
 (decide (l=(ByteArray.mk #[104,116,116,112,115]).data.toList)=true→
 k (PV.tup [PV.int .i64 (443:Int),PV.bool true]))∧
 (decide (l=(ByteArray.mk #[104,116,116,112,115]).data.toList)=false→
 k (PV.tup [PV.int .i64 (0:Int),PV.bool false])))∧
 (decide (l=(ByteArray.mk #[104,116,116,112,115]).data.toList)=false→
 (decide (l=(ByteArray.mk #[119,115,115]).data.toList)=true→
 k (PV.tup [PV.int .i64 (443:Int),PV.bool true]))∧
 (decide (l=(ByteArray.mk #[119,115,115]).data.toList)=false→
 k (PV.tup [PV.int .i64 (0:Int),PV.bool false])))))))):=by kernel_rfl
attribute [local irreducible] Go.Vc.cD
theorem zV(l:Bs):ag Tryz.prog aA 27 [.str l] ⟨True,.tup [.int .i64 (IB l),.bool (ay l)]⟩:=b5 (by kernel_rfl) u7 (H:=tG l) (fuel:=1000) Tryz.func27 (by kernel_rfl) fun hpre=>(zU l _).mpr (by
 have leaf:∀(a b:Int) (c d:Bool),a=b→c=d→PV.tup [.int .i64 a,.bool c]=PV.tup [.int .i64 b,.bool d]:=fun a b c d h1 h2=>by rw [h1,h2]
 simp only [decide_eq_true_eq,decide_eq_false_iff_not]
 repeat' (first|constructor|intro h)
 all_goals first
  |(subst_vars;contradiction)
  |(refine leaf _ _ _ _ ?_ ?_ <;>simp_all [IB,ay,fF,fL,fH,fW,fS,fV]))
def dQ:List PV→Option aI:=fun xs=>match xs with
 |[.str l]=>some ⟨True,.tup [.int .i64 (IB l),.bool (ay l)]⟩
 |_=>none
theorem dR:∀xs c,dQ xs=some c→ag Tryz.prog aA 27 xs c:=fun xs c h=>by
 unfold dQ at h
 split at h
 ·injection h with h;subst h;exact zV _
 ·cases h
end
section
def r9(c:UInt8):Bool:=decide ((97≤c.toNat∧c.toNat≤122)∨(65≤c.toNat∧c.toNat≤90))
def FO(c:UInt8):Bool:=decide (48≤c.toNat∧c.toNat≤57)
theorem sb(a b:Bool):(bif a then b else false)=(a&&b):=by cases a<;>rfl
theorem L7(a b:Bool):(bif a then true else b)=(a||b):=by cases a<;>rfl
def ab(l:Bs):Bs→Nat→Bs×Bs×Bool
 |[],_=>([],[],false)
 |c::r,i=>if r9 c=true then ab l r (i+1)else if i=0 then([],[],false)else if c.toNat=58 then(bE (l.take i),l.drop (i+1),true)else if c.toNat=43∨c.toNat=45∨c.toNat=46∨FO c=true then ab l r (i+1)else([],[],false)
def xq:cq:=bR [(153,jk),(154,kr),(155,iN)]
def xr(l:Bs):ba:=fun i=>bif Nat.beq i 2 then some ⟨(Int),(fun s x=>((((((((s.put 9 (.int .i64 x)).put 5 .undef).put 6 .undef).put 10 .undef).put 15 .undef).put 18 .undef).put 21 .undef).put 33 .undef)),(fun s=>s.int 9),(fun s x=>let i:=x;0≤i∧i≤l.length∧ab l (l.drop i.toNat) i.toNat=ab l l 0),(fun s x=>let i:=x;((l.length:Int)-i).toNat),[5,6,10,15,18,21,33]⟩else none
theorem xt:cS Tryz.prog aA xq:=ai kJ (ai my (ai jj (ax)))
theorem Dq(l:Bs)(k:PV→Prop):cD Tryz.prog xq aA (xr l) 1000 Tryz.f119 [.str l] k=(
 VS.mk []
 [(0,PV.str l),(2,PV.str (ByteArray.mk #[]).data.toList),(3,PV.str (ByteArray.mk #[]).data.toList),
 (4,PV.bool false),((5:Nat),PV.undef),((6:Nat),PV.undef),(8,PV.int .i64 (al l)),
 (9,PV.int .i64 (0:Int)),((10:Nat),PV.undef),((15:Nat),PV.undef),((18:Nat),PV.undef),
 ((21:Nat),PV.undef),((33:Nat),PV.undef)]
 []=
 VS.mk []
 [(0,PV.str l),(2,PV.str (ByteArray.mk #[]).data.toList),(3,PV.str (ByteArray.mk #[]).data.toList),
 (4,PV.bool false),((5:Nat),PV.undef),((6:Nat),PV.undef),(8,PV.int .i64 (al l)),
 ((9:Nat),PV.int .i64 (0:Int)),((10:Nat),PV.undef),((15:Nat),PV.undef),((18:Nat),PV.undef),
 ((21:Nat),PV.undef),((33:Nat),PV.undef)]
 []∧
 ((0:Int)≤(0:Int)∧
 (0:Int)≤↑(List.length l)∧
 ab l (List.drop (Int.toNat (0:Int)) l) (Int.toNat (0:Int))=
 ab l l (0:Nat))∧
 ∀(x:Int),
 (0:Int)≤x∧
 x≤↑(List.length l)∧
 ab l (List.drop x.toNat l) x.toNat=ab l l (0:Nat)→
 (decide (x<al l)=true→
 within x (al l)∧
 ((0:Int)≤ak l x∧ak l x≤(255:Int))∧
 (decide ((97:Int)≤ak l x∧ak l x≤(122:Int)∨(65:Int)≤ak l x∧ak l x≤(90:Int))=true→
 aG (x+(1:Int))∧
 VS.mk []
 [(0,PV.str l),(2,PV.str (ByteArray.mk #[]).data.toList),
 (3,PV.str (ByteArray.mk #[]).data.toList),(4,PV.bool false),((5:Nat),PV.undef),
 ((6:Nat),PV.undef),(8,PV.int .i64 (al l)),
 ((9:Nat),PV.int .i64 (x+(1:Int))),((10:Nat),PV.undef),((15:Nat),PV.undef),
 ((18:Nat),PV.undef),((21:Nat),PV.undef),((33:Nat),PV.undef)]
 []=
 VS.mk []
 [(0,PV.str l),(2,PV.str (ByteArray.mk #[]).data.toList),
 (3,PV.str (ByteArray.mk #[]).data.toList),(4,PV.bool false),((5:Nat),PV.undef),
 ((6:Nat),PV.undef),(8,PV.int .i64 (al l)),
 ((9:Nat),PV.int .i64 (x+(1:Int))),((10:Nat),PV.undef),((15:Nat),PV.undef),
 ((18:Nat),PV.undef),((21:Nat),PV.undef),((33:Nat),PV.undef)]
 []∧
 ((0:Int)≤x+(1:Int)∧
 x+(1:Int)≤↑(List.length l)∧
 ab l (List.drop (x+(1:Int)).toNat l) (x+(1:Int)).toNat=
 ab l l (0:Nat))∧
 (↑(List.length l)-(x+(1:Int))).toNat<(↑(List.length l)-x).toNat)∧
 (decide ((97:Int)≤ak l x∧ak l x≤(122:Int)∨(65:Int)≤ak l x∧ak l x≤(90:Int))=false→
 (decide (x=(0:Int))=true→
 k (PV.tup [PV.str (ByteArray.mk #[]).data.toList,PV.str (ByteArray.mk #[]).data.toList,PV.bool false]))∧
 (decide (x=(0:Int))=false→
 (decide (ak l x=(58:Int))=true→
 upto (0:Int) x (al l)∧
 (ae l x).length≤Go.Vc.maxLen∧
 (ae l x).length.le (1000000:Nat)∧
 aG (x+(1:Int))∧
 upto (x+(1:Int)) (al l) (al l)∧
 k
 (PV.tup
 [PV.str (bE (ae l x)),
 PV.str (aa l (x+(1:Int))),PV.bool true]))∧
 (decide (ak l x=(58:Int))=false→
 ((bif bif !decide (ak l x=(43:Int))then !decide (ak l x=(45:Int))else false then
 !decide (ak l x=(46:Int))
 else false)=
 true→
 True)∧
 ((bif
 bif bif !decide (ak l x=(43:Int))then !decide (ak l x=(45:Int))else false then
 !decide (ak l x=(46:Int))
 else false then
 !decide ((48:Int)≤ak l x∧ak l x≤(57:Int))
 else false)=
 true→
 k
 (PV.tup
 [PV.str (ByteArray.mk #[]).data.toList,PV.str (ByteArray.mk #[]).data.toList,PV.bool false]))∧
 ((bif
 bif bif !decide (ak l x=(43:Int))then !decide (ak l x=(45:Int))else false then
 !decide (ak l x=(46:Int))
 else false then
 !decide ((48:Int)≤ak l x∧ak l x≤(57:Int))
 else false)=
 false→
 aG (x+(1:Int))∧
 VS.mk []
 [(0,PV.str l),(2,PV.str (ByteArray.mk #[]).data.toList),
 (3,PV.str (ByteArray.mk #[]).data.toList),(4,PV.bool false),
 ((5:Nat),PV.undef),((6:Nat),PV.undef),(8,PV.int .i64 (al l)),
 ((9:Nat),PV.int .i64 (x+(1:Int))),((10:Nat),PV.undef),
 ((15:Nat),PV.undef),((18:Nat),PV.undef),((21:Nat),PV.undef),
 ((33:Nat),PV.undef)]
 []=
 VS.mk []
 [(0,PV.str l),(2,PV.str (ByteArray.mk #[]).data.toList),
 (3,PV.str (ByteArray.mk #[]).data.toList),(4,PV.bool false),
 ((5:Nat),PV.undef),((6:Nat),PV.undef),(8,PV.int .i64 (al l)),
 ((9:Nat),PV.int .i64 (x+(1:Int))),((10:Nat),PV.undef),
 ((15:Nat),PV.undef),((18:Nat),PV.undef),((21:Nat),PV.undef),
 ((33:Nat),PV.undef)]
 []∧
 ((0:Int)≤x+(1:Int)∧
 x+(1:Int)≤↑(List.length l)∧
 ab l (List.drop (x+(1:Int)).toNat l) (x+(1:Int)).toNat=
 ab l l (0:Nat))∧
 (↑(List.length l)-(x+(1:Int))).toNat<(↑(List.length l)-x).toNat)))))∧
 (decide (x<al l)=false→
 k (PV.tup [PV.str (ByteArray.mk #[]).data.toList,PV.str (ByteArray.mk #[]).data.toList,PV.bool false]))):=by kernel_rfl
attribute [local irreducible] Go.Vc.cD
theorem tH(l:Bs):ag Tryz.prog aA 119 [.str l] ⟨l.length≤300000,.tup [.str (ab l l 0).1,.str (ab l l 0).2.1,.bool (ab l l 0).2.2]⟩:=b5 (by kernel_rfl) xt (H:=xr l) (fuel:=1000) Tryz.func119 (by kernel_rfl) fun hpre=>(Dq l _).mpr (by
 refine ⟨rfl,⟨by omega,by omega,rfl⟩,fun x hx=>⟨fun h=>?_,fun h=>?_⟩⟩
 ·obtain ⟨h0,h1,h2⟩:=hx
  have hlt:x<(l.length:Int):=of_decide_eq_true h
  obtain ⟨c,hc⟩:∃c,c=l.getD x.toNat 0:=⟨_,rfl⟩
  have hby:ak l x=(c.toNat:Int):=by rw [hc];rfl
  have hd:l.drop x.toNat=c::l.drop (x.toNat+1):=by
   rw [List.drop_eq_getElem_cons (by omega),hc,List.getD_eq_getElem?_getD,List.getElem?_eq_getElem (by omega)]
   rfl
  have hs:(x+1).toNat=x.toNat+1:=by omega
  have hcr:=c.toNat_lt
  rw [hd,ab]at h2
  rw [hs,hby]
  refine ⟨⟨h0,hlt⟩,⟨by omega,by omega⟩,fun hl=>?_,fun hl=>?_⟩
  ·have e:r9 c=true:=decide_eq_true (by have:=of_decide_eq_true hl;omega)
   rw [if_pos e]at h2
   exact ⟨⟨by omega,by omega⟩,rfl,⟨by omega,by omega,h2⟩,by omega⟩
  ·have e:¬r9 c=true:=fun e=>by
    have h3:=of_decide_eq_true e
    have h4:=of_decide_eq_false hl
    omega
   rw [if_neg e]at h2
   refine ⟨fun h3=>?_,fun h3=>⟨fun h4=>?_,fun h4=>⟨fun _=>trivial,fun h5=>?_,fun h5=>?_⟩⟩⟩
   ·have:=of_decide_eq_true h3
    rw [if_pos (by omega)]at h2
    show PV.tup _=PV.tup _
    rw [←h2]
    try rfl
   ·have g3:=of_decide_eq_false h3
    have g4:=of_decide_eq_true h4
    rw [if_neg (by omega),if_pos (by omega)]at h2
    have hl1:(ae l x).length≤300000:=by unfold ae;rw [List.length_take];omega
    refine ⟨⟨by omega,h0,h1⟩,Nat.le_trans hl1 (by decide),Nat.le_trans hl1 (by decide),⟨by omega,by omega⟩,⟨by omega,by unfold al;omega,Int.le_refl _⟩,?_⟩
    show PV.tup _=PV.tup _
    rw [←h2]
    unfold ae aa
    rw [hs]
   ·have g3:=of_decide_eq_false h3
    have g4:=of_decide_eq_false h4
    rw [if_neg (by omega),if_neg (by omega),if_neg]at h2
    ·show PV.tup _=PV.tup _
     rw [←h2]
     try rfl
    ·intro hh
     have:FO c=true↔(48≤c.toNat∧c.toNat≤57):=by unfold FO;exact decide_eq_true_iff
     rw [this]at hh
     revert h5
     rcases hh with hh|hh|hh|⟨q1,q2⟩
     ·rw [hh];decide
     ·rw [hh];decide
     ·rw [hh];decide
     ·rw [decide_eq_true (show(48:Int)≤c.toNat∧(c.toNat:Int)≤57 by omega)]
      cases (bif bif !decide ((c.toNat:Int)=(43:Int))then !decide ((c.toNat:Int)=(45:Int))else false then !decide ((c.toNat:Int)=(46:Int))else false)<;>decide
   ·have g3:=of_decide_eq_false h3
    have g4:=of_decide_eq_false h4
    rw [if_neg (by omega),if_neg (by omega),if_pos]at h2
    ·exact ⟨⟨by omega,by omega⟩,rfl,⟨by omega,by omega,h2⟩,by omega⟩
    ·refine Classical.byContradiction fun hh=>?_
     have:FO c=true↔(48≤c.toNat∧c.toNat≤57):=by unfold FO;exact decide_eq_true_iff
     rw [this]at hh
     rw [decide_eq_false (show ¬(c.toNat:Int)=43 by omega),decide_eq_false (show ¬(c.toNat:Int)=45 by omega),decide_eq_false (show ¬(c.toNat:Int)=46 by omega),decide_eq_false (show ¬((48:Int)≤c.toNat∧(c.toNat:Int)≤57) by omega)]at h5
     cases h5
 ·have hge:¬x<(l.length:Int):=of_decide_eq_false h
  obtain ⟨h0,h1,h2⟩:=hx
  rw [show x.toNat=l.length by omega,List.drop_length]at h2
  show PV.tup _=PV.tup _
  rw [←h2]
  rfl)
end
end Go.Proofs.YtmfapopclbnlpaaGreatDoor
