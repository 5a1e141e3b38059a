import Derived.ProofKit
import Derived.Test.YtmfapopclbnlpaaGreatDoorProg
import Derived.Test.YtmfapopclbnlpaaGreatDoorUt6
import Derived.Test.YtmfapopclbnlpaaGreatDoorUt7
import Derived.Test.YtmfapopclbnlpaaGreatDoorUt8
import Derived.Test.YtmfapopclbnlpaaGreatDoorUt12
import Derived.Test.YtmfapopclbnlpaaGreatDoorUt13
import Derived.Test.YtmfapopclbnlpaaGreatDoorUt17
set_option linter.unusedVariables false
set_option linter.unusedSimpArgs false
set_option maxRecDepth 100000
set_option maxHeartbeats 4000000
namespace Go.Proofs.YtmfapopclbnlpaaGreatDoor
open Go Go.Proofs Go.RowKit Go.Vc
def zk(w:World)(g:Nat)(k:IntKind)(zs:List Int):Prop:=∃t,w.heap[g]?=some (.cells (zs.map fun z=>Value.int k z).toArray t (0,0))
theorem zk.lt {w:World}{g:Nat}{k:IntKind}{zs:List Int}(h:zk w g k zs):g<w.heap.size:=by
 obtain ⟨t,h⟩:=h
 exact (Array.getElem?_eq_some_iff.1 h).1
theorem zk.same {w w':World}{g:Nat}{k:IntKind}{zs:List Int}(h:zk w g k zs)(hb:w'.heap[g]?=w.heap[g]?):zk w' g k zs:=by
 obtain ⟨t,h⟩:=h
 exact ⟨t,by rw [hb];exact h⟩
def CG(w:World)(g:Nat):Prop:=∃m,w.cell? ⟨g,0,none⟩=some (.int .i64 m)
theorem CG.lt {w:World}{g:Nat}(h:CG w g):g<w.heap.size:=by
 obtain ⟨m,h⟩:=h
 refine Classical.byContradiction fun hn=>?_
 unfold World.cell? at h
 rw [Array.getElem?_eq_none (show w.heap.size≤g by omega)]at h
 cases h
theorem CG.same {w w':World}{g:Nat}(h:CG w g)(hb:w'.heap[g]?=w.heap[g]?):CG w' g:=by
 obtain ⟨m,h⟩:=h
 refine ⟨m,?_⟩
 unfold World.cell? at h⊢
 rw [hb]
 exact h
def oO(w:World):Prop:=zk w 1 .u64 Lib.pow10Tab∧CG w 0
instance Kn:Wd:=⟨oO,max 1 0+1,fun w h=>by have:=h.1.lt;have:=h.2.lt;omega,fun w w' _ _ _ _ hb h=>⟨h.1.same (hb _ (by omega)),h.2.same (hb _ (by omega))⟩⟩
theorem oO.Ln {w:World}(h:oO w):I1 w:=by
 obtain ⟨⟨t,h⟩,-⟩:=h
 unfold I1 Lib.TabIs World.var?
 rw [show Program.globalNamed Tryz.prog "internal/strconv.uint64pow10" =some 1 by kernel_rfl]
 simp only [Option.bind_some,h]
theorem CH(l:Bs)(i:Int):ag Tryz.prog ay 180 [.str l,.int .i64 i] ⟨0≤i∧i≤l.length∧l.length≤1000000,.int .i64 (i+(af (l.drop i.toNat):Int))⟩:=
 ag.b6 Tryz.func180 (by kernel_rfl) rfl fun⟨h0,h1,h2⟩ F w vs _ _ hw hx=>by
  obtain ⟨_,_,rfl,r1,_,_,rfl,r2,rfl⟩:=hx
  obtain rfl:=r1
  obtain rfl:=r2
  obtain ⟨n,rfl⟩:=Int.eq_ofNat_of_zero_le h0
  refine ⟨_,(zg l n w h2 (by omega)).mono fun e w' ⟨he,hw'⟩=>⟨he,hw'▸Below.refl _ _⟩,fun G w=>?_⟩
  show Value.int _ _=Value.int _ _
  rw [Int.toNat_natCast];push_cast;rfl
theorem CI(l:Bs):ag Tryz.prog ay 181 [.str l] ⟨l.length≤4∧∀i,i<l.length→0≤cQ (aK l i),.int .u16 (bW l)⟩:=
 ag.b6 Tryz.func181 (by kernel_rfl) rfl fun⟨h0,h1⟩ F w vs _ _ hw hx=>by
  obtain ⟨_,_,rfl,r1,rfl⟩:=hx
  obtain rfl:=r1
  exact ⟨_,(CF l w h0 h1).mono fun e w' ⟨he,hw'⟩=>⟨he,hw'▸Below.refl _ _⟩,fun G w=>rfl⟩
theorem CJ(l:Bs):ag Tryz.prog ay 182 [.str l] ⟨l.length≤1000000,.tup [.int .u32 (ct l),.bool (ks l)]⟩:=
 ag.b6 Tryz.func182 (by kernel_rfl) rfl fun h F w vs _ _ hw hx=>by
  obtain ⟨_,_,rfl,r1,rfl⟩:=hx
  obtain rfl:=r1
  exact ⟨_,zj l w h (oO.Ln hw),fun G w=>⟨_,⟨_,_,rfl,rfl,_,_,rfl,rfl,rfl⟩,rfl⟩⟩
theorem CK(p:List Int)(c g:Int):ag Tryz.prog ay 183 [.arr 8 (.ints .u16 p),.int .i64 c,.int .i64 g] ⟨p.length=8∧0≤g∧g≤c∧c≤7,.arr 8 (.ints .u16 (bH p c.toNat g.toNat))⟩:=
 ag.b6 Tryz.func183 (by kernel_rfl) rfl fun⟨hp,h0,h1,h2⟩ F w vs _ _ hw hx=>by
  obtain ⟨_,_,rfl,r1,_,_,rfl,r2,_,_,rfl,r3,rfl⟩:=hx
  obtain ⟨-,rfl⟩:=r1
  obtain rfl:=r2
  obtain rfl:=r3
  have:=zh p c.toNat g.toNat w hp (by omega) (by omega)
  rw [Int.toNat_of_nonneg (by omega),Int.toNat_of_nonneg h0]at this
  exact ⟨_,this,fun G w=>⟨by show List.length (List.map _ _)=8;rw [List.length_map];unfold bH;simp;omega,rfl⟩⟩
def preB(l m:Bs):Bool:=Lib.hasPrefix l m
theorem CL(l m:Bs):ag Tryz.prog ay 78 [.str l,.str m] ⟨True,.bool (preB l m)⟩:=
 ag.b6 Tryz.func78 (by kernel_rfl) rfl fun _ F w vs _ _ hw hx=>by
  obtain ⟨_,_,rfl,r1,_,_,rfl,r2,rfl⟩:=hx
  obtain rfl:=r1
  obtain rfl:=r2
  exact ⟨_,(Tryz.strings_HasPrefix ⟨l.toArray⟩ ⟨m.toArray⟩ w).mono fun e w' ⟨he,hw'⟩=>⟨he,hw'▸Below.refl _ _⟩,fun G w=>rfl⟩
def jc(l m:Bs):Bool:=Lib.containsAny l m
theorem JR(l m:Bs):ag Tryz.prog ay 74 [.str l,.str m] ⟨l.length≤1000000∧m.length≤1000000∧(∀b∈m,b.toNat<128),.bool (jc l m)⟩:=
 ag.b6 Tryz.func74 (by kernel_rfl) rfl fun⟨h0,h1,h2⟩ F w vs _ _ hw hx=>by
  obtain ⟨_,_,rfl,r1,_,_,rfl,r2,rfl⟩:=hx
  obtain rfl:=r1
  obtain rfl:=r2
  exact ⟨_,JF Tryz.Hd (by kernel_rfl) ⟨l.toArray⟩ ⟨m.toArray⟩ w (by show l.length<4294967281;omega) (by show m.length<4294967281;omega) (fun j b hj=>h2 b (List.mem_of_getElem? hj)),fun G w=>rfl⟩
def hasB(l m:Bs):Bool:=Lib.contains l m
theorem JS(l m:Bs):ag Tryz.prog ay 185 [.str l,.str m] ⟨l.length≤1000000,.bool (hasB l m)⟩:=
 ag.b6 Tryz.func185 (by kernel_rfl) rfl fun h0 F w vs _ _ hw hx=>by
  obtain ⟨_,_,rfl,r1,_,_,rfl,r2,rfl⟩:=hx
  obtain rfl:=r1
  obtain rfl:=r2
  obtain ⟨k,hk⟩:=(show oO w from hw).2
  exact ⟨_,(Tryz.strings_Contains ⟨l.toArray⟩ ⟨m.toArray⟩ k w (by show l.length<4294967281;omega) hk).mono fun e w' ⟨he,hw'⟩=>⟨he,hw'▸Below.refl _ _⟩,fun G w=>rfl⟩
def uy(l:Bs):Bool:=sP ((dv l).drop (iE (dv l)))
theorem Hm(l:Bs):ag Tryz.prog ay 175 [.str l] ⟨l.length≤1000000,.bool (uy l)⟩:=
 ag.b6 Tryz.func175 (by kernel_rfl) rfl fun h F w vs _ _ hw hx=>by
  obtain ⟨_,_,rfl,r1,rfl⟩:=hx
  obtain rfl:=r1
  exact ⟨_,(EX l w h).mono fun e w' ⟨he,hw'⟩=>⟨he,hw'▸Below.refl _ _⟩,fun G w=>rfl⟩
def om(l:Bs):Bool:=(cp (splitB 46 (dv l)) 4 0).2
theorem E2(l:Bs):ag Tryz.prog ay 176 [.str l] ⟨l.length≤1000000,.tup [.int .u32 (ct l),.bool (om l)]⟩:=
 ag.b6 Tryz.func176 (by kernel_rfl) rfl fun h F w vs _ _ hw hx=>by
  obtain ⟨_,_,rfl,r1,rfl⟩:=hx
  obtain rfl:=r1
  exact ⟨_,sS l w h,fun G w=>⟨_,⟨_,_,rfl,rfl,_,_,rfl,rfl,rfl⟩,rfl⟩⟩
def CM(l:Bs)(r:Int):Bool:=decide (r<128)&&decide (0≤Lib.indexByte l r.toNat.toUInt8)
theorem E3(l:Bs)(r:Int):ag Tryz.prog ay 187 [.str l,.int .i32 r] ⟨0≤r∧r≤2147483647∧(∀b∈l,b.toNat<128),.bool (CM l r)⟩:=
 ag.b6 Tryz.func187 (by kernel_rfl) rfl fun⟨h0,h1,h2⟩ F w vs _ _ hw hx=>by
  obtain ⟨_,_,rfl,r1,_,_,rfl,r2,rfl⟩:=hx
  obtain rfl:=r1
  obtain rfl:=r2
  by_cases h:r<128
  ·refine ⟨_,(Tryz.strings_ContainsRune_ascii ⟨l.toArray⟩ r w h0 h).mono fun e w' ⟨he,hw'⟩=>⟨he,hw'▸Below.refl _ _⟩,fun G w=>?_⟩
   show Value.bool _=Value.bool _
   unfold CM
   rw [decide_eq_true h];rfl
  ·refine ⟨_,wb Tryz.A3 ⟨l.toArray⟩ r w (fun j b hj=>h2 b (List.mem_of_getElem? hj)) (by omega) h1,fun G w=>?_⟩
   show Value.bool _=Value.bool _
   unfold CM
   rw [decide_eq_false h];rfl
def kY:List PV→Option aI:=fun xs=>match xs with |[.str l,.int .i64 i]=>some ⟨0≤i∧i≤l.length∧l.length≤1000000,.int .i64 (i+(af (l.drop i.toNat):Int))⟩|_=>none
theorem rz:∀xs c,kY xs=some c→ag Tryz.prog ay 180 xs c:=fun xs c h=>by
 unfold kY at h
 split at h
 ·injection h with h;subst h;exact CH _ _
 ·cases h
def kZ:List PV→Option aI:=fun xs=>match xs with |[.str l]=>some ⟨l.length≤4∧∀i,i<l.length→0≤cQ (aK l i),.int .u16 (bW l)⟩|_=>none
theorem rA:∀xs c,kZ xs=some c→ag Tryz.prog ay 181 xs c:=fun xs c h=>by
 unfold kZ at h
 split at h
 ·injection h with h;subst h;exact CI _
 ·cases h
def la:List PV→Option aI:=fun xs=>match xs with |[.str l]=>some ⟨l.length≤1000000,.tup [.int .u32 (ct l),.bool (ks l)]⟩|_=>none
theorem rB:∀xs c,la xs=some c→ag Tryz.prog ay 182 xs c:=fun xs c h=>by
 unfold la at h
 split at h
 ·injection h with h;subst h;exact CJ _
 ·cases h
def ld:List PV→Option aI:=fun xs=>match xs with |[.arr 8 (.ints .u16 p),.int .i64 c,.int .i64 g]=>some ⟨p.length=8∧0≤g∧g≤c∧c≤7,.arr 8 (.ints .u16 (bH p c.toNat g.toNat))⟩|_=>none
theorem rC:∀xs c,ld xs=some c→ag Tryz.prog ay 183 xs c:=fun xs c h=>by
 unfold ld at h
 split at h
 ·injection h with h;subst h;exact CK _ _ _
 ·cases h
def cY:List PV→Option aI:=fun xs=>match xs with |[.str l,.str m]=>some ⟨True,.bool (preB l m)⟩|_=>none
theorem cG:∀xs c,cY xs=some c→ag Tryz.prog ay 78 xs c:=fun xs c h=>by
 unfold cY at h
 split at h
 ·injection h with h;subst h;exact CL _ _
 ·cases h
def mg:List PV→Option aI:=fun xs=>match xs with |[.str l,.str m]=>some ⟨l.length≤1000000∧m.length≤1000000∧(∀b∈m,b.toNat<128),.bool (jc l m)⟩|_=>none
theorem lf:∀xs c,mg xs=some c→ag Tryz.prog ay 74 xs c:=fun xs c h=>by
 unfold mg at h
 split at h
 ·injection h with h;subst h;exact JR _ _
 ·cases h
def uz:List PV→Option aI:=fun xs=>match xs with |[.str l,.str m]=>some ⟨l.length≤1000000,.bool (hasB l m)⟩|_=>none
theorem zl:∀xs c,uz xs=some c→ag Tryz.prog ay 185 xs c:=fun xs c h=>by
 unfold uz at h
 split at h
 ·injection h with h;subst h;exact JS _ _
 ·cases h
def qi:List PV→Option aI:=fun xs=>match xs with |[.str l]=>some ⟨l.length≤1000000,.bool (uy l)⟩|_=>none
theorem wM:∀xs c,qi xs=some c→ag Tryz.prog ay 175 xs c:=fun xs c h=>by
 unfold qi at h
 split at h
 ·injection h with h;subst h;exact Hm _
 ·cases h
def np:List PV→Option aI:=fun xs=>match xs with |[.str l]=>some ⟨l.length≤1000000,.tup [.int .u32 (ct l),.bool (om l)]⟩|_=>none
theorem uA:∀xs c,np xs=some c→ag Tryz.prog ay 176 xs c:=fun xs c h=>by
 unfold np at h
 split at h
 ·injection h with h;subst h;exact E2 _
 ·cases h
def nt:List PV→Option aI:=fun xs=>match xs with |[.str l,.int .i32 r]=>some ⟨0≤r∧r≤2147483647∧(∀b∈l,b.toNat<128),.bool (CM l r)⟩|_=>none
theorem uB:∀xs c,nt xs=some c→ag Tryz.prog ay 187 xs c:=fun xs c h=>by
 unfold nt at h
 split at h
 ·injection h with h;subst h;exact E3 _ _
 ·cases h
def I2(k:PV→Prop)(J1 J2:Prop)(l:Bs)(C G A:Int)(p:List Int):Prop:=
 ((0:Int)≤A∧A≤↑(List.length l)∧List.length l≤(1000000:Nat))∧(decide (A+↑(af (List.drop A.toNat l))<ak l)=true→within (A+↑(af (List.drop A.toNat l))) (ak l))∧((bif decide (A+↑(af (List.drop A.toNat l))<ak l)then decide (al l (A+↑(af (List.drop A.toNat l)))=(46:Int))else false)=true→upto A (ak l) (ak l)∧(aa l A).length.le (1000000:Nat)∧((bif !ks (aa l A)then true else decide ((6:Int)<C))=true→k (PV.tup [PV.arr (8:Nat) (aq.ints IntKind.u16 (List.replicate (8:Nat) (0:Int))),PV.bool false]))∧((bif !ks (aa l A)then true else decide ((6:Int)<C))=false→aD (C+(1:Int))∧(0:Int)≤(16:Int)∧within C ↑(8:Nat)∧(within C ↑(8:Nat)∧True)∧within (C+(1:Int)) ↑(8:Nat)∧(within (C+(1:Int)) ↑(8:Nat)∧True)∧aD (C+(2:Int))∧((bif decide (G<(0:Int))then decide (C+(2:Int)=(8:Int))else false)=true→k (PV.tup [PV.arr (8:Nat) (aq.ints IntKind.u16 (bg (bg p C (IntKind.u16.wrap (iL IntKind.u32 (ct (aa l A)) (16:Int)))) (C+(1:Int)) (IntKind.u16.wrap (ct (aa l A))))),PV.bool true]))∧((bif decide (G<(0:Int))then decide (C+(2:Int)=(8:Int))else false)=false→((bif decide ((0:Int)≤G)then decide (C+(2:Int)<(8:Int))else false)=true→((bg (bg p C (IntKind.u16.wrap (iL IntKind.u32 (ct (aa l A)) (16:Int)))) (C+(1:Int)) (IntKind.u16.wrap (ct (aa l A)))).length=(8:Nat)∧(0:Int)≤G∧G≤C+(2:Int)∧C+(2:Int)≤(7:Int))∧k (PV.tup [PV.arr (8:Nat) (aq.ints IntKind.u16 (bH (bg (bg p C (IntKind.u16.wrap (iL IntKind.u32 (ct (aa l A)) (16:Int)))) (C+(1:Int)) (IntKind.u16.wrap (ct (aa l A)))) (C+(2:Int)).toNat G.toNat)),PV.bool true]))∧((bif decide ((0:Int)≤G)then decide (C+(2:Int)<(8:Int))else false)=false→k (PV.tup [PV.arr (8:Nat) (aq.ints IntKind.u16 (List.replicate (8:Nat) (0:Int))),PV.bool false])))))∧((bif decide (A+↑(af (List.drop A.toNat l))<ak l)then decide (al l (A+↑(af (List.drop A.toNat l)))=(46:Int))else false)=false→((bif decide (C=(8:Int))then true else decide (A+↑(af (List.drop A.toNat l))=A))=false→aD (A+(4:Int)))∧((bif bif decide (C=(8:Int))then true else decide (A+↑(af (List.drop A.toNat l))=A)then true else decide (A+(4:Int)<A+↑(af (List.drop A.toNat l))))=true→k (PV.tup [PV.arr (8:Nat) (aq.ints IntKind.u16 (List.replicate (8:Nat) (0:Int))),PV.bool false]))∧((bif bif decide (C=(8:Int))then true else decide (A+↑(af (List.drop A.toNat l))=A)then true else decide (A+(4:Int)<A+↑(af (List.drop A.toNat l))))=false→upto A (A+↑(af (List.drop A.toNat l))) (ak l)∧((bU l A (A+↑(af (List.drop A.toNat l)))).length≤(4:Nat)∧∀(i:Nat),i<(bU l A (A+↑(af (List.drop A.toNat l)))).length→(0:Int)≤cQ (aK (bU l A (A+↑(af (List.drop A.toNat l)))) i))∧within C ↑(8:Nat)∧(within C ↑(8:Nat)∧True)∧aD (C+(1:Int))∧(decide (A+↑(af (List.drop A.toNat l))=ak l)=true→((bif decide (G<(0:Int))then decide (C+(1:Int)=(8:Int))else false)=true→k (PV.tup [PV.arr (8:Nat) (aq.ints IntKind.u16 (bg p C (bW (bU l A (A+↑(af (List.drop A.toNat l))))))),PV.bool true]))∧((bif decide (G<(0:Int))then decide (C+(1:Int)=(8:Int))else false)=false→((bif decide ((0:Int)≤G)then decide (C+(1:Int)<(8:Int))else false)=true→((bg p C (bW (bU l A (A+↑(af (List.drop A.toNat l)))))).length=(8:Nat)∧(0:Int)≤G∧G≤C+(1:Int)∧C+(1:Int)≤(7:Int))∧k (PV.tup [PV.arr (8:Nat) (aq.ints IntKind.u16 (bH (bg p C (bW (bU l A (A+↑(af (List.drop A.toNat l)))))) (C+(1:Int)).toNat G.toNat)),PV.bool true]))∧((bif decide ((0:Int)≤G)then decide (C+(1:Int)<(8:Int))else false)=false→k (PV.tup [PV.arr (8:Nat) (aq.ints IntKind.u16 (List.replicate (8:Nat) (0:Int))),PV.bool false]))))∧(decide (A+↑(af (List.drop A.toNat l))=ak l)=false→within (A+↑(af (List.drop A.toNat l))) (ak l)∧((!decide (al l (A+↑(af (List.drop A.toNat l)))=(58:Int)))=false→aD (A+↑(af (List.drop A.toNat l))+(1:Int)))∧((bif !decide (al l (A+↑(af (List.drop A.toNat l)))=(58:Int))then true else decide (A+↑(af (List.drop A.toNat l))+(1:Int)=ak l))=true→k (PV.tup [PV.arr (8:Nat) (aq.ints IntKind.u16 (List.replicate (8:Nat) (0:Int))),PV.bool false]))∧((bif !decide (al l (A+↑(af (List.drop A.toNat l)))=(58:Int))then true else decide (A+↑(af (List.drop A.toNat l))+(1:Int)=ak l))=false→aD (A+↑(af (List.drop A.toNat l))+(1:Int))∧within (A+↑(af (List.drop A.toNat l))+(1:Int)) (ak l)∧((!decide (al l (A+↑(af (List.drop A.toNat l))+(1:Int))=(58:Int)))=true→J1)∧((!decide (al l (A+↑(af (List.drop A.toNat l))+(1:Int))=(58:Int)))=false→(decide ((0:Int)≤G)=true→k (PV.tup [PV.arr (8:Nat) (aq.ints IntKind.u16 (List.replicate (8:Nat) (0:Int))),PV.bool false]))∧(decide ((0:Int)≤G)=false→aD (A+↑(af (List.drop A.toNat l))+(1:Int)+(1:Int))∧(decide (A+↑(af (List.drop A.toNat l))+(1:Int)+(1:Int)<ak l)=true→J2)∧(decide (A+↑(af (List.drop A.toNat l))+(1:Int)+(1:Int)<ak l)=false→((bif decide (C+(1:Int)<(0:Int))then decide (C+(1:Int)=(8:Int))else false)=true→k (PV.tup [PV.arr (8:Nat) (aq.ints IntKind.u16 (bg p C (bW (bU l A (A+↑(af (List.drop A.toNat l))))))),PV.bool true]))∧((bif decide (C+(1:Int)<(0:Int))then decide (C+(1:Int)=(8:Int))else false)=false→((bif decide ((0:Int)≤C+(1:Int))then decide (C+(1:Int)<(8:Int))else false)=true→((bg p C (bW (bU l A (A+↑(af (List.drop A.toNat l)))))).length=(8:Nat)∧(0:Int)≤C+(1:Int)∧C+(1:Int)≤C+(1:Int)∧C+(1:Int)≤(7:Int))∧k (PV.tup [PV.arr (8:Nat) (aq.ints IntKind.u16 (bH (bg p C (bW (bU l A (A+↑(af (List.drop A.toNat l)))))) (C+(1:Int)).toNat (C+(1:Int)).toNat)),PV.bool true]))∧((bif decide ((0:Int)≤C+(1:Int))then decide (C+(1:Int)<(8:Int))else false)=false→k (PV.tup [PV.arr (8:Nat) (aq.ints IntKind.u16 (List.replicate (8:Nat) (0:Int))),PV.bool false]))))))))))
theorem KL(a b:Bool):(bif a then b else false)=(a&&b):=by cases a<;>rfl
theorem Lb(a b:Bool):(bif a then true else b)=(a||b):=by cases a<;>rfl
theorem I3(a:Bool):((!a)=true)=¬(a=true):=by cases a<;>simp
theorem KM(a:Bool):(a=false)=¬(a=true):=by cases a<;>simp
theorem jN(acc:List Int)(x:Int)(h:acc.length<8):bg (pad acc) (acc.length:Int) x=pad (acc++[x]):=by
 unfold bg pad
 rw [Int.toNat_natCast,List.set_append_right _ _ (by simp),Nat.sub_self,show 8-acc.length=(8-(acc++[x]).length)+1 by simp;omega,List.replicate_succ,List.set_cons_zero,List.append_assoc]
 rfl
theorem iF(l:Bs)(e:Nat):al l (e:Int)=aK l e:=by unfold al aK;rw [Int.toNat_natCast]
theorem E4(acc:List Int)(h:acc.length=8):pad acc=acc:=by unfold pad;rw [h];simp
theorem mh(k:PV→Prop)(J1 J2:Prop)(l:Bs)(G:Int)(i e:Nat)(acc:List Int)(R:List Int×Bool)(hl:l.length≤1000000)(h8:acc.length≤8)(g1:-1≤G)(g2:G≤acc.length)(hi:i≤l.length)(he:i+af (l.drop i)=e)
 (hs:fM l (9-acc.length) acc G i=R)(hk:k (.tup [.arr 8 (.ints .u16 R.1),.bool R.2]))
 (H1:∀a,a.length=acc.length+1→bg (pad acc) (acc.length:Int) (bW (bU l (i:Int) (e:Int)))=pad a→a.length≤8→e+1≤l.length→fM l (9-a.length) a G (e+1)=R→J1)
 (H2:∀a,a.length=acc.length+1→bg (pad acc) (acc.length:Int) (bW (bU l (i:Int) (e:Int)))=pad a→a.length≤8→e+2≤l.length→fM l (9-a.length) a (acc.length+1:Nat) (e+2)=R→J2):
 I2 k J1 J2 l acc.length G i (pad acc):=by
 unfold I2
 have hE:(i:Int)+((af (l.drop i):Nat):Int)=(e:Int):=by omega
 have hcut:bU l (i:Int) (e:Int)=(l.take e).drop i:=by unfold bU;rw [Int.toNat_natCast,Int.toNat_natCast]
 have hdr:aa l (i:Int)=l.drop i:=by unfold aa;rw [Int.toNat_natCast]
 have hel:e≤l.length:=by have:=sU (l.drop i);rw [List.length_drop]at this;omega
 have hb2:al l ((e:Int)+1)=aK l (e+1):=by rw [←iF];push_cast;rfl
 rw [CE l acc G i e h8 he]at hs
 have leaf:∀(L:List Int) (b:Bool),R=(L,b)→k (.tup [.arr 8 (.ints .u16 L),.bool b]):=fun L b h=>by rw [h]at hk;exact hk
 have lw:R=hG→k (.tup [.arr 8 (.ints .u16 (List.replicate 8 0)),.bool false]):=fun h=>leaf _ _ h
 simp only [Int.toNat_natCast,hE,hcut,hdr,iF,hb2,KL,Lb,KM,I3,Bool.and_eq_true,Bool.or_eq_true,decide_eq_true_eq,ak,within,upto,aD]at H1 H2⊢
 have fin:∀(a:List Int) (g C':Int) (P:List Int),a.length≤8→C'=a.length→P=pad a→g≤C'→wK a g=R→((g<0∧C'=8→k (.tup [.arr 8 (.ints .u16 P),.bool true]))∧(¬(g<0∧C'=8)→((0≤g∧C'<8→(P.length=8∧0≤g∧g≤C'∧C'≤7)∧k (.tup [.arr 8 (.ints .u16 (bH P C'.toNat g.toNat)),.bool true]))∧(¬(0≤g∧C'<8)→k (.tup [.arr 8 (.ints .u16 (List.replicate 8 0)),.bool false]))))):=by
  intro a g C' P ha hC hP hg hf
  subst hC hP
  unfold wK at hf
  refine ⟨fun h=>?_,fun h=>⟨fun h2=>⟨⟨Hk ha,h2.1,hg,by omega⟩,?_⟩,fun h2=>lw ?_⟩⟩
  ·rw [if_pos ⟨h.1,by omega⟩]at hf
   rw [E4 a (by omega)]
   exact leaf _ _ hf.symm
  ·rw [if_neg (by omega),if_pos ⟨h2.1,by omega⟩]at hf
   rw [Int.toNat_natCast]
   exact leaf _ _ hf.symm
  ·rw [if_neg (by omega),if_neg (by omega)]at hf
   exact hf.symm
 refine ⟨⟨by omega,by omega,hl⟩,fun h=>⟨by omega,h⟩,fun h46=>?_,fun h46=>?_⟩
 ·rw [if_pos ⟨by omega,h46.2⟩]at hs
  unfold zf at hs
  refine ⟨⟨by omega,by omega,by omega⟩,?_,fun hd=>?_,fun hd=>?_⟩
  ·show(l.drop i).length≤1000000
   rw [List.length_drop];omega
  ·rw [if_pos (by rcases hd with hd|hd;exact .inl (by simpa using hd);exact .inr (by omega))]at hs
   exact lw hs.symm
  ·have hd1:ks (l.drop i)=true:=Classical.byContradiction fun h=>hd (.inl h)
   have hd2:acc.length≤6:=by omega
   rw [if_neg (by rw [hd1];intro h;rcases h with h|h;cases h;omega)]at hs
   obtain ⟨v0,v1⟩:=Ba (l.drop i)
   have e1:IntKind.u16.wrap (iL IntKind.u32 (ct (l.drop i)) 16)=ct (l.drop i)/65536:=by
    have:iL IntKind.u32 (ct (l.drop i)) 16=ct (l.drop i)/65536:=by
     unfold iL
     rw [show(2:Int)^min (Int.toNat 16) IntKind.u32.bits=65536 by decide,Int.fdiv_eq_ediv_of_nonneg _ (by decide)]
    rw [this]
    exact IntWalk.u16_in _ (by omega)
   have e2:IntKind.u16.wrap (ct (l.drop i))=ct (l.drop i) %65536:=by
    simp [IntKind.wrap,IntKind.bits,IntKind.signed]
   have e3:bg (bg (pad acc) (acc.length:Int) (ct (l.drop i)/65536)) ((acc.length:Int)+1) (ct (l.drop i) %65536)=pad (acc++[ct (l.drop i)/65536]++[ct (l.drop i) %65536]):=by
    rw [jN _ _ (by omega),show(acc.length:Int)+1=((acc++[ct (l.drop i)/65536]).length:Int) by simp,jN _ _ (by simp;omega)]
   rw [e1,e2,e3]
   exact ⟨⟨by omega,by omega⟩,by omega,⟨by omega,by omega⟩,⟨⟨by omega,by omega⟩,trivial⟩,⟨by omega,by omega⟩,⟨⟨by omega,by omega⟩,trivial⟩,⟨by omega,by omega⟩,fin _ G _ _ (by simp;omega) (by simp) rfl (by omega) hs⟩
 ·rw [if_neg (by intro h;exact h46 ⟨by omega,h.2⟩)]at hs
  refine ⟨fun _=>⟨by omega,by omega⟩,fun h=>?_,fun h=>?_⟩
  ·rw [if_pos (by omega)]at hs
   exact lw hs.symm
  ·rw [if_neg (by omega)]at hs
   have h7:acc.length<8:=by omega
   obtain ⟨d1,d2⟩:=uw l i e he (by omega)
   have hl1:(acc++[bW ((l.take e).drop i)]).length=acc.length+1:=by simp
   rw [jN _ _ h7]
   refine ⟨⟨by omega,by omega,by omega⟩,⟨d1,d2⟩,⟨by omega,by omega⟩,⟨⟨by omega,by omega⟩,trivial⟩,⟨by omega,by omega⟩,fun hq=>?_,fun hq=>?_⟩
   ·rw [if_pos (by omega)]at hs
    exact fin _ G _ _ (by omega) (by rw [hl1];push_cast;rfl) rfl (by omega) hs
   ·rw [if_neg (by omega)]at hs
    refine ⟨⟨by omega,by omega⟩,fun _=>⟨by omega,by omega⟩,fun h5=>?_,fun h5=>?_⟩
    ·rw [if_pos (by rcases h5 with h5|h5;exact .inl h5;exact .inr (by omega))]at hs
     exact lw hs.symm
    ·rw [if_neg (by intro h6;exact h5 (by rcases h6 with h6|h6;exact .inl h6;exact .inr (by omega)))]at hs
     refine ⟨⟨by omega,by omega⟩,⟨by omega,by omega⟩,fun h9=>?_,fun h9=>⟨fun hg=>?_,fun hg=>⟨⟨by omega,by omega⟩,fun hlt=>?_,fun hlt=>?_⟩⟩⟩
     ·rw [if_pos h9,←hl1]at hs
      exact H1 _ hl1 (jN _ _ h7) (by omega) (by omega) hs
     ·rw [if_neg h9,if_pos hg]at hs
      exact lw hs.symm
     ·rw [if_neg h9,if_neg hg,if_pos (by omega)]at hs
      exact H2 _ hl1 (jN _ _ h7) (by omega) (by omega) (by rw [hl1];exact hs)
     ·rw [if_neg h9,if_neg hg,if_neg (by omega)]at hs
      exact fin _ _ _ _ (by omega) (by rw [hl1];push_cast;rfl) rfl (by omega) hs
section
theorem Hn {l:Bs}(h:Lib.hasPrefix l [58,58]=true):2≤l.length:=by
 match l,h with
 |[],h=>cases h
 |[a],h=>unfold Lib.hasPrefix at h;simp [List.isPrefixOf]at h
 |_::_::_,_=>simp
def wN:cq:=bN [(180,kY),(181,kZ),(182,la),(183,ld),(78,cY)]
def wO(l:Bs):aY:=fun i=>bif Nat.beq i 1000000 then some ⟨(Int)×(Int)×(Int)×(List Int),(fun s x=>VS.mk [] [(0,.str l),(2,.ptr 34 0),(3,.bool false),(4,.ptr 36 0),(5,.int .u32 0),(6,.bool false),(7,.int .i64 x.1),(8,.int .i64 x.2.1),(9,.int .i64 x.2.2.1),(10,.undef),(13,.undef),(17,.undef),(30,.undef),(43,.undef),(56,.undef),(67,.undef),(73,.undef),(75,.undef),(82,.undef),(95,.undef),(113,.undef),(120,.undef)] [(36,.arr 8 (.ints .u16 x.2.2.2)),(34,.arr 8 (.ints .u16 (List.replicate 8 0)))]),(fun s=>(s.int 7,s.int 8,s.int 9,VS.ints (VS.mk [] s.lh []) 36)),(fun s x=>let c:=x.1;let g:=x.2.1;let a:=x.2.2.1;let p:=x.2.2.2;∃acc:List Int,c=acc.length∧acc.length≤8∧p=pad acc∧-1≤g∧g≤c∧0≤a∧a≤l.length∧fM l (9-acc.length) acc g a.toNat=ia l),(fun s x=>let c:=x.1;let g:=x.2.1;let a:=x.2.2.1;let p:=x.2.2.2;(9-c).toNat),[10,13,17,30,43,56,67,73,75,82]⟩else none
theorem wP:cS Tryz.prog ay wN:=ai rz (ai rA (ai rB (ai rC (ai cG (ax)))))
theorem CO(l:Bs)(k:PV→Prop):cC Tryz.prog wN ay (wO l) 1000 Tryz.f170 [.str l] k=(
 True∧
 ((!preB l (ByteArray.mk #[58,58]).data.toList)=true→
 VS.mk []
 [(0,PV.str l),(2,PV.ptr ((2:Nat)+(32:Nat)) (0:Nat)),(3,PV.bool false),
 (4,PV.ptr ((4:Nat)+(32:Nat)) (0:Nat)),(5,PV.int .u32 (0:Int)),
 (6,PV.bool false),(7,PV.int .i64 (0:Int)),(8,PV.int .i64 (-1:Int)),
 (9,PV.int .i64 (0:Int)),((10:Nat),PV.undef),((13:Nat),PV.undef),((17:Nat),PV.undef),
 ((30:Nat),PV.undef),((43:Nat),PV.undef),((56:Nat),PV.undef),((67:Nat),PV.undef),
 ((73:Nat),PV.undef),((75:Nat),PV.undef),((82:Nat),PV.undef),(95,PV.undef),
 (113,PV.undef),(120,PV.undef)]
 [((4:Nat)+(32:Nat),PV.arr (8:Nat) (aq.ints .u16 (List.replicate (8:Nat) (0:Int)))),
 ((2:Nat)+(32:Nat),PV.arr (8:Nat) (aq.ints .u16 (List.replicate (8:Nat) (0:Int))))]=
 VS.mk []
 [((0:Nat),PV.str l),((2:Nat),PV.ptr (34:Nat) (0:Nat)),((3:Nat),PV.bool false),
 ((4:Nat),PV.ptr (36:Nat) (0:Nat)),((5:Nat),PV.int .u32 (0:Int)),((6:Nat),PV.bool false),
 ((7:Nat),PV.int .i64 (0:Int)),((8:Nat),PV.int .i64 (-1:Int)),
 ((9:Nat),PV.int .i64 (0:Int)),((10:Nat),PV.undef),((13:Nat),PV.undef),((17:Nat),PV.undef),
 ((30:Nat),PV.undef),((43:Nat),PV.undef),((56:Nat),PV.undef),((67:Nat),PV.undef),
 ((73:Nat),PV.undef),((75:Nat),PV.undef),((82:Nat),PV.undef),((95:Nat),PV.undef),
 ((113:Nat),PV.undef),((120:Nat),PV.undef)]
 [((36:Nat),PV.arr (8:Nat) (aq.ints .u16 (List.replicate (8:Nat) (0:Int)))),
 ((34:Nat),PV.arr (8:Nat) (aq.ints .u16 (List.replicate (8:Nat) (0:Int))))]∧
 (∃(acc:List Int),
 (0:Int)=↑acc.length∧
 acc.length≤(8:Nat)∧
 List.replicate (8:Nat) (0:Int)=pad acc∧
 (-1:Int)≤(-1:Int)∧
 (-1:Int)≤(0:Int)∧
 (0:Int)≤(0:Int)∧
 (0:Int)≤↑(List.length l)∧
 fM l ((9:Nat)-acc.length) acc (-1:Int) (Int.toNat (0:Int))=
 ia l)∧
 ∀(x:Int×Int×Int×List Int),
 (∃(acc:List Int),
 x.1=↑acc.length∧
 acc.length≤(8:Nat)∧
 x.2.2.2=pad acc∧
 (-1:Int)≤x.2.1∧
 x.2.1≤x.1∧
 (0:Int)≤x.2.2.1∧
 x.2.2.1≤↑(List.length l)∧
 fM l ((9:Nat)-acc.length) acc x.2.1 x.2.2.1.toNat=
 ia l)→
 ((0:Int)≤x.2.2.1∧x.2.2.1≤↑(List.length l)∧List.length l≤(1000000:Nat))∧
 (decide (x.2.2.1+↑(af (List.drop x.2.2.1.toNat l))<ak l)=true→
 within (x.2.2.1+↑(af (List.drop x.2.2.1.toNat l))) (ak l))∧
 ((bif decide (x.2.2.1+↑(af (List.drop x.2.2.1.toNat l))<ak l)then
 decide (al l (x.2.2.1+↑(af (List.drop x.2.2.1.toNat l)))=(46:Int))
 else false)=
 true→
 upto x.2.2.1 (ak l) (ak l)∧
 (aa l x.2.2.1).length.le (1000000:Nat)∧
 ((bif !ks (aa l x.2.2.1)then true else decide ((6:Int)<x.1))=true→
 k
 (PV.tup
 [PV.arr (8:Nat) (aq.ints .u16 (List.replicate (8:Nat) (0:Int))),PV.bool false]))∧
 ((bif !ks (aa l x.2.2.1)then true else decide ((6:Int)<x.1))=false→
 aD (x.1+(1:Int))∧
 (0:Int)≤(16:Int)∧
 within x.1 ↑(8:Nat)∧
 (within x.1 ↑(8:Nat)∧True)∧
 within (x.1+(1:Int)) ↑(8:Nat)∧
 (within (x.1+(1:Int)) ↑(8:Nat)∧True)∧
 aD (x.1+(2:Int))∧
 ((bif decide (x.2.1<(0:Int))then decide (x.1+(2:Int)=(8:Int))else false)=true→
 k
 (PV.tup
 [PV.arr (8:Nat)
 (aq.ints .u16
 (bg
 (bg x.2.2.2 x.1
 (Go.IntKind.u16.wrap
 (iL .u32
 (ct (aa l x.2.2.1)) (16:Int))))
 (x.1+(1:Int))
 (Go.IntKind.u16.wrap (ct (aa l x.2.2.1))))),
 PV.bool true]))∧
 ((bif decide (x.2.1<(0:Int))then decide (x.1+(2:Int)=(8:Int))else false)=false→
 ((bif decide ((0:Int)≤x.2.1)then decide (x.1+(2:Int)<(8:Int))else false)=true→
 ((bg
 (bg x.2.2.2 x.1
 (Go.IntKind.u16.wrap
 (iL .u32
 (ct (aa l x.2.2.1)) (16:Int))))
 (x.1+(1:Int))
 (Go.IntKind.u16.wrap
 (ct (aa l x.2.2.1)))).length=
 (8:Nat)∧
 (0:Int)≤x.2.1∧x.2.1≤x.1+(2:Int)∧x.1+(2:Int)≤(7:Int))∧
 k
 (PV.tup
 [PV.arr (8:Nat)
 (aq.ints .u16
 (bH
 (bg
 (bg x.2.2.2 x.1
 (Go.IntKind.u16.wrap
 (iL .u32
 (ct (aa l x.2.2.1)) (16:Int))))
 (x.1+(1:Int))
 (Go.IntKind.u16.wrap
 (ct (aa l x.2.2.1))))
 (x.1+(2:Int)).toNat x.2.1.toNat)),
 PV.bool true]))∧
 ((bif decide ((0:Int)≤x.2.1)then decide (x.1+(2:Int)<(8:Int))else false)=false→
 k
 (PV.tup
 [PV.arr (8:Nat) (aq.ints .u16 (List.replicate (8:Nat) (0:Int))),
 PV.bool false])))))∧
 ((bif decide (x.2.2.1+↑(af (List.drop x.2.2.1.toNat l))<ak l)then
 decide (al l (x.2.2.1+↑(af (List.drop x.2.2.1.toNat l)))=(46:Int))
 else false)=
 false→
 ((bif decide (x.1=(8:Int))then true
 else decide (x.2.2.1+↑(af (List.drop x.2.2.1.toNat l))=x.2.2.1))=
 false→
 aD (x.2.2.1+(4:Int)))∧
 ((bif
 bif decide (x.1=(8:Int))then true
 else
 decide
 (x.2.2.1+↑(af (List.drop x.2.2.1.toNat l))=x.2.2.1)then
 true
 else
 decide
 (x.2.2.1+(4:Int)<
 x.2.2.1+↑(af (List.drop x.2.2.1.toNat l))))=
 true→
 k
 (PV.tup
 [PV.arr (8:Nat) (aq.ints .u16 (List.replicate (8:Nat) (0:Int))),PV.bool false]))∧
 ((bif
 bif decide (x.1=(8:Int))then true
 else
 decide
 (x.2.2.1+↑(af (List.drop x.2.2.1.toNat l))=x.2.2.1)then
 true
 else
 decide
 (x.2.2.1+(4:Int)<
 x.2.2.1+↑(af (List.drop x.2.2.1.toNat l))))=
 false→
 upto x.2.2.1 (x.2.2.1+↑(af (List.drop x.2.2.1.toNat l)))
 (ak l)∧
 ((bU l x.2.2.1
 (x.2.2.1+↑(af (List.drop x.2.2.1.toNat l)))).length≤
 (4:Nat)∧
 ∀(i:Nat),
 i<
 (bU l x.2.2.1
 (x.2.2.1+↑(af (List.drop x.2.2.1.toNat l)))).length→
 (0:Int)≤
 cQ
 (aK
 (bU l x.2.2.1
 (x.2.2.1+↑(af (List.drop x.2.2.1.toNat l))))
 i))∧
 within x.1 ↑(8:Nat)∧
 (within x.1 ↑(8:Nat)∧True)∧
 aD (x.1+(1:Int))∧
 (decide (x.2.2.1+↑(af (List.drop x.2.2.1.toNat l))=ak l)=
 true→
 ((bif decide (x.2.1<(0:Int))then decide (x.1+(1:Int)=(8:Int))else false)=true→
 k
 (PV.tup
 [PV.arr (8:Nat)
 (aq.ints .u16
 (bg x.2.2.2 x.1
 (bW
 (bU l x.2.2.1
 (x.2.2.1+
 ↑(af (List.drop x.2.2.1.toNat l))))))),
 PV.bool true]))∧
 ((bif decide (x.2.1<(0:Int))then decide (x.1+(1:Int)=(8:Int))else false)=false→
 ((bif decide ((0:Int)≤x.2.1)then decide (x.1+(1:Int)<(8:Int))else false)=true→
 ((bg x.2.2.2 x.1
 (bW
 (bU l x.2.2.1
 (x.2.2.1+
 ↑(af (List.drop x.2.2.1.toNat l)))))).length=
 (8:Nat)∧
 (0:Int)≤x.2.1∧x.2.1≤x.1+(1:Int)∧x.1+(1:Int)≤(7:Int))∧
 k
 (PV.tup
 [PV.arr (8:Nat)
 (aq.ints .u16
 (bH
 (bg x.2.2.2 x.1
 (bW
 (bU l x.2.2.1
 (x.2.2.1+
 ↑(af (List.drop x.2.2.1.toNat l))))))
 (x.1+(1:Int)).toNat x.2.1.toNat)),
 PV.bool true]))∧
 ((bif decide ((0:Int)≤x.2.1)then decide (x.1+(1:Int)<(8:Int))else false)=false→
 k
 (PV.tup
 [PV.arr (8:Nat) (aq.ints .u16 (List.replicate (8:Nat) (0:Int))),
 PV.bool false]))))∧
 (decide
 (x.2.2.1+↑(af (List.drop x.2.2.1.toNat l))=ak l)=
 false→
 within (x.2.2.1+↑(af (List.drop x.2.2.1.toNat l)))
 (ak l)∧
 ((!decide
 (al l
 (x.2.2.1+↑(af (List.drop x.2.2.1.toNat l)))=
 (58:Int)))=
 false→
 aD
 (x.2.2.1+↑(af (List.drop x.2.2.1.toNat l))+
 (1:Int)))∧
 ((bif
 !decide
 (al l
 (x.2.2.1+
 ↑(af (List.drop x.2.2.1.toNat l)))=
 (58:Int))then
 true
 else
 decide
 (x.2.2.1+↑(af (List.drop x.2.2.1.toNat l))+
 (1:Int)=
 ak l))=
 true→
 k
 (PV.tup
 [PV.arr (8:Nat) (aq.ints .u16 (List.replicate (8:Nat) (0:Int))),
 PV.bool false]))∧
 ((bif
 !decide
 (al l
 (x.2.2.1+
 ↑(af (List.drop x.2.2.1.toNat l)))=
 (58:Int))then
 true
 else
 decide
 (x.2.2.1+↑(af (List.drop x.2.2.1.toNat l))+
 (1:Int)=
 ak l))=
 false→
 aD
 (x.2.2.1+↑(af (List.drop x.2.2.1.toNat l))+
 (1:Int))∧
 within
 (x.2.2.1+↑(af (List.drop x.2.2.1.toNat l))+
 (1:Int))
 (ak l)∧
 ((!decide
 (al l
 (x.2.2.1+
 ↑(af (List.drop x.2.2.1.toNat l))+
 (1:Int))=
 (58:Int)))=
 true→
 r6 (VS.mk []
 [((0:Nat),PV.str l),((2:Nat),PV.ptr (34:Nat) (0:Nat)),
 ((3:Nat),PV.bool false),((4:Nat),PV.ptr (36:Nat) (0:Nat)),
 ((5:Nat),PV.int .u32 (0:Int)),((6:Nat),PV.bool false),
 ((7:Nat),PV.int .i64 (x.1+(1:Int))),
 ((8:Nat),PV.int .i64 x.2.1),
 ((9:Nat),
 PV.int .i64
 (x.2.2.1+
 ↑(af (List.drop x.2.2.1.toNat l))+
 (1:Int))),
 ((10:Nat),PV.undef),((13:Nat),PV.undef),((17:Nat),PV.undef),
 ((30:Nat),PV.undef),((43:Nat),PV.undef),((56:Nat),PV.undef),
 ((67:Nat),PV.undef),((73:Nat),PV.undef),((75:Nat),PV.undef),
 ((82:Nat),PV.undef),((95:Nat),PV.undef),((113:Nat),PV.undef),
 ((120:Nat),PV.undef)]
 [((36:Nat),
 PV.arr (8:Nat)
 (aq.ints .u16
 (bg x.2.2.2 x.1
 (bW
 (bU l x.2.2.1
 (x.2.2.1+
 ↑(af
 (List.drop x.2.2.1.toNat l)))))))),
 ((34:Nat),
 PV.arr (8:Nat)
 (aq.ints .u16 (List.replicate (8:Nat) (0:Int))))])∧
 (∃(acc:List Int),
 x.1+(1:Int)=↑acc.length∧
 acc.length≤(8:Nat)∧
 bg x.2.2.2 x.1
 (bW
 (bU l x.2.2.1
 (x.2.2.1+
 ↑(af
 (List.drop x.2.2.1.toNat l)))))=
 pad acc∧
 (-1:Int)≤x.2.1∧
 x.2.1≤x.1+(1:Int)∧
 (0:Int)≤
 x.2.2.1+
 ↑(af
 (List.drop x.2.2.1.toNat l))+
 (1:Int)∧
 x.2.2.1+
 ↑(af
 (List.drop x.2.2.1.toNat l))+
 (1:Int)≤
 ↑(List.length l)∧
 fM l ((9:Nat)-acc.length) acc x.2.1
 (x.2.2.1+
 ↑(af
 (List.drop x.2.2.1.toNat l))+
 (1:Int)).toNat=
 ia l)∧
 ((9:Int)-(x.1+(1:Int))).toNat<((9:Int)-x.1).toNat)∧
 ((!decide
 (al l
 (x.2.2.1+
 ↑(af (List.drop x.2.2.1.toNat l))+
 (1:Int))=
 (58:Int)))=
 false→
 (decide ((0:Int)≤x.2.1)=true→
 k
 (PV.tup
 [PV.arr (8:Nat) (aq.ints .u16 (List.replicate (8:Nat) (0:Int))),
 PV.bool false]))∧
 (decide ((0:Int)≤x.2.1)=false→
 aD
 (x.2.2.1+
 ↑(af (List.drop x.2.2.1.toNat l))+
 (1:Int)+
 (1:Int))∧
 (decide
 (x.2.2.1+
 ↑(af
 (List.drop x.2.2.1.toNat l))+
 (1:Int)+
 (1:Int)<
 ak l)=
 true→
 r6 (VS.mk []
 [((0:Nat),PV.str l),((2:Nat),PV.ptr (34:Nat) (0:Nat)),
 ((3:Nat),PV.bool false),((4:Nat),PV.ptr (36:Nat) (0:Nat)),
 ((5:Nat),PV.int .u32 (0:Int)),
 ((6:Nat),PV.bool false),
 ((7:Nat),PV.int .i64 (x.1+(1:Int))),
 ((8:Nat),PV.int .i64 (x.1+(1:Int))),
 ((9:Nat),
 PV.int .i64
 (x.2.2.1+
 ↑(af
 (List.drop x.2.2.1.toNat l))+
 (1:Int)+
 (1:Int))),
 ((10:Nat),PV.undef),((13:Nat),PV.undef),
 ((17:Nat),PV.undef),((30:Nat),PV.undef),
 ((43:Nat),PV.undef),((56:Nat),PV.undef),
 ((67:Nat),PV.undef),((73:Nat),PV.undef),
 ((75:Nat),PV.undef),((82:Nat),PV.undef),
 ((95:Nat),PV.undef),((113:Nat),PV.undef),
 ((120:Nat),PV.undef)]
 [((36:Nat),
 PV.arr (8:Nat)
 (aq.ints .u16
 (bg x.2.2.2 x.1
 (bW
 (bU l x.2.2.1
 (x.2.2.1+
 ↑(af
 (List.drop x.2.2.1.toNat l)))))))),
 ((34:Nat),
 PV.arr (8:Nat)
 (aq.ints .u16 (List.replicate (8:Nat) (0:Int))))])∧
 (∃(acc:List Int),
 x.1+(1:Int)=↑acc.length∧
 acc.length≤(8:Nat)∧
 bg x.2.2.2 x.1
 (bW
 (bU l x.2.2.1
 (x.2.2.1+
 ↑(af
 (List.drop x.2.2.1.toNat l)))))=
 pad acc∧
 (-1:Int)≤x.1+(1:Int)∧
 x.1+(1:Int)≤x.1+(1:Int)∧
 (0:Int)≤
 x.2.2.1+
 ↑(af
 (List.drop x.2.2.1.toNat l))+
 (1:Int)+
 (1:Int)∧
 x.2.2.1+
 ↑(af
 (List.drop x.2.2.1.toNat l))+
 (1:Int)+
 (1:Int)≤
 ↑(List.length l)∧
 fM l ((9:Nat)-acc.length) acc
 (x.1+(1:Int))
 (x.2.2.1+
 ↑(af
 (List.drop x.2.2.1.toNat l))+
 (1:Int)+
 (1:Int)).toNat=
 ia l)∧
 ((9:Int)-(x.1+(1:Int))).toNat<((9:Int)-x.1).toNat)∧
 (decide
 (x.2.2.1+
 ↑(af
 (List.drop x.2.2.1.toNat l))+
 (1:Int)+
 (1:Int)<
 ak l)=
 false→
 ((bif decide (x.1+(1:Int)<(0:Int))then decide (x.1+(1:Int)=(8:Int))
 else false)=
 true→
 k
 (PV.tup
 [PV.arr (8:Nat)
 (aq.ints .u16
 (bg x.2.2.2 x.1
 (bW
 (bU l x.2.2.1
 (x.2.2.1+
 ↑(af
 (List.drop x.2.2.1.toNat l))))))),
 PV.bool true]))∧
 ((bif decide (x.1+(1:Int)<(0:Int))then decide (x.1+(1:Int)=(8:Int))
 else false)=
 false→
 ((bif decide ((0:Int)≤x.1+(1:Int))then decide (x.1+(1:Int)<(8:Int))
 else false)=
 true→
 ((bg x.2.2.2 x.1
 (bW
 (bU l x.2.2.1
 (x.2.2.1+
 ↑(af
 (List.drop x.2.2.1.toNat l)))))).length=
 (8:Nat)∧
 (0:Int)≤x.1+(1:Int)∧
 x.1+(1:Int)≤x.1+(1:Int)∧x.1+(1:Int)≤(7:Int))∧
 k
 (PV.tup
 [PV.arr (8:Nat)
 (aq.ints .u16
 (bH
 (bg x.2.2.2 x.1
 (bW
 (bU l x.2.2.1
 (x.2.2.1+
 ↑(af
 (List.drop x.2.2.1.toNat l))))))
 (x.1+(1:Int)).toNat (x.1+(1:Int)).toNat)),
 PV.bool true]))∧
 ((bif decide ((0:Int)≤x.1+(1:Int))then
 decide (x.1+(1:Int)<(8:Int))
 else false)=
 false→
 k
 (PV.tup
 [PV.arr (8:Nat)
 (aq.ints .u16 (List.replicate (8:Nat) (0:Int))),
 PV.bool false])))))))))))∧
 ((!preB l (ByteArray.mk #[58,58]).data.toList)=false→
 (decide ((2:Int)=ak l)=true→
 (false=true→k (PV.tup [PV.arr (8:Nat) (aq.ints .u16 (List.replicate (8:Nat) (0:Int))),PV.bool true]))∧
 (false=false→
 (decide ((0:Int)<(8:Int))=true→
 ((List.replicate (8:Nat) (0:Int)).length=(8:Nat)∧(0:Int)≤(0:Int)∧(0:Int)≤(0:Int)∧(0:Int)≤(7:Int))∧
 k
 (PV.tup
 [PV.arr (8:Nat)
 (aq.ints .u16
 (bH (List.replicate (8:Nat) (0:Int)) (Int.toNat (0:Int)) (Int.toNat (0:Int)))),
 PV.bool true]))∧
 (decide ((0:Int)<(8:Int))=false→
 k (PV.tup [PV.arr (8:Nat) (aq.ints .u16 (List.replicate (8:Nat) (0:Int))),PV.bool false]))))∧
 (decide ((2:Int)=ak l)=false→
 ((0:Int)≤(2:Int)∧(2:Int)≤↑(List.length l)∧List.length l≤(1000000:Nat))∧
 (decide ((2:Int)+↑(af (List.drop (Int.toNat (2:Int)) l))<ak l)=true→
 within ((2:Int)+↑(af (List.drop (Int.toNat (2:Int)) l))) (ak l))∧
 ((bif decide ((2:Int)+↑(af (List.drop (Int.toNat (2:Int)) l))<ak l)then
 decide (al l ((2:Int)+↑(af (List.drop (Int.toNat (2:Int)) l)))=(46:Int))
 else false)=
 true→
 upto (2:Int) (ak l) (ak l)∧
 (aa l (2:Int)).length.le (1000000:Nat)∧
 ((bif !ks (aa l (2:Int))then true else decide ((6:Int)<(0:Int)))=true→
 k
 (PV.tup
 [PV.arr (8:Nat) (aq.ints .u16 (List.replicate (8:Nat) (0:Int))),PV.bool false]))∧
 ((bif !ks (aa l (2:Int))then true else decide ((6:Int)<(0:Int)))=false→
 aD ((0:Int)+(1:Int))∧
 (0:Int)≤(16:Int)∧
 within (0:Int) ↑(8:Nat)∧
 (within (0:Int) ↑(8:Nat)∧True)∧
 within ((0:Int)+(1:Int)) ↑(8:Nat)∧
 (within ((0:Int)+(1:Int)) ↑(8:Nat)∧True)∧
 aD ((0:Int)+(2:Int))∧
 (false=true→
 k
 (PV.tup
 [PV.arr (8:Nat)
 (aq.ints .u16
 (bg
 (bg (List.replicate (8:Nat) (0:Int)) (0:Int)
 (Go.IntKind.u16.wrap
 (iL .u32 (ct (aa l (2:Int)))
 (16:Int))))
 ((0:Int)+(1:Int))
 (Go.IntKind.u16.wrap (ct (aa l (2:Int)))))),
 PV.bool true]))∧
 (false=false→
 (decide ((0:Int)+(2:Int)<(8:Int))=true→
 ((bg
 (bg (List.replicate (8:Nat) (0:Int)) (0:Int)
 (Go.IntKind.u16.wrap
 (iL .u32 (ct (aa l (2:Int)))
 (16:Int))))
 ((0:Int)+(1:Int))
 (Go.IntKind.u16.wrap (ct (aa l (2:Int))))).length=
 (8:Nat)∧
 (0:Int)≤(0:Int)∧(0:Int)≤(0:Int)+(2:Int)∧(0:Int)+(2:Int)≤(7:Int))∧
 k
 (PV.tup
 [PV.arr (8:Nat)
 (aq.ints .u16
 (bH
 (bg
 (bg (List.replicate (8:Nat) (0:Int)) (0:Int)
 (Go.IntKind.u16.wrap
 (iL .u32
 (ct (aa l (2:Int))) (16:Int))))
 ((0:Int)+(1:Int))
 (Go.IntKind.u16.wrap (ct (aa l (2:Int)))))
 ((0:Int)+(2:Int)).toNat (Int.toNat (0:Int)))),
 PV.bool true]))∧
 (decide ((0:Int)+(2:Int)<(8:Int))=false→
 k
 (PV.tup
 [PV.arr (8:Nat) (aq.ints .u16 (List.replicate (8:Nat) (0:Int))),
 PV.bool false])))))∧
 ((bif decide ((2:Int)+↑(af (List.drop (Int.toNat (2:Int)) l))<ak l)then
 decide (al l ((2:Int)+↑(af (List.drop (Int.toNat (2:Int)) l)))=(46:Int))
 else false)=
 false→
 (decide ((2:Int)+↑(af (List.drop (Int.toNat (2:Int)) l))=(2:Int))=false→
 aD ((2:Int)+(4:Int)))∧
 ((bif decide ((2:Int)+↑(af (List.drop (Int.toNat (2:Int)) l))=(2:Int))then true
 else decide ((2:Int)+(4:Int)<(2:Int)+↑(af (List.drop (Int.toNat (2:Int)) l))))=
 true→
 k (PV.tup [PV.arr (8:Nat) (aq.ints .u16 (List.replicate (8:Nat) (0:Int))),PV.bool false]))∧
 ((bif decide ((2:Int)+↑(af (List.drop (Int.toNat (2:Int)) l))=(2:Int))then true
 else decide ((2:Int)+(4:Int)<(2:Int)+↑(af (List.drop (Int.toNat (2:Int)) l))))=
 false→
 upto (2:Int) ((2:Int)+↑(af (List.drop (Int.toNat (2:Int)) l))) (ak l)∧
 ((bU l (2:Int) ((2:Int)+↑(af (List.drop (Int.toNat (2:Int)) l)))).length≤
 (4:Nat)∧
 ∀(i:Nat),
 i<
 (bU l (2:Int)
 ((2:Int)+↑(af (List.drop (Int.toNat (2:Int)) l)))).length→
 (0:Int)≤
 cQ
 (aK
 (bU l (2:Int) ((2:Int)+↑(af (List.drop (Int.toNat (2:Int)) l))))
 i))∧
 within (0:Int) ↑(8:Nat)∧
 (within (0:Int) ↑(8:Nat)∧True)∧
 aD ((0:Int)+(1:Int))∧
 (decide ((2:Int)+↑(af (List.drop (Int.toNat (2:Int)) l))=ak l)=
 true→
 (false=true→
 k
 (PV.tup
 [PV.arr (8:Nat)
 (aq.ints .u16
 (bg (List.replicate (8:Nat) (0:Int)) (0:Int)
 (bW
 (bU l (2:Int)
 ((2:Int)+↑(af (List.drop (Int.toNat (2:Int)) l))))))),
 PV.bool true]))∧
 (false=false→
 (decide ((0:Int)+(1:Int)<(8:Int))=true→
 ((bg (List.replicate (8:Nat) (0:Int)) (0:Int)
 (bW
 (bU l (2:Int)
 ((2:Int)+
 ↑(af (List.drop (Int.toNat (2:Int)) l)))))).length=
 (8:Nat)∧
 (0:Int)≤(0:Int)∧(0:Int)≤(0:Int)+(1:Int)∧(0:Int)+(1:Int)≤(7:Int))∧
 k
 (PV.tup
 [PV.arr (8:Nat)
 (aq.ints .u16
 (bH
 (bg (List.replicate (8:Nat) (0:Int)) (0:Int)
 (bW
 (bU l (2:Int)
 ((2:Int)+
 ↑(af (List.drop (Int.toNat (2:Int)) l))))))
 ((0:Int)+(1:Int)).toNat (Int.toNat (0:Int)))),
 PV.bool true]))∧
 (decide ((0:Int)+(1:Int)<(8:Int))=false→
 k
 (PV.tup
 [PV.arr (8:Nat) (aq.ints .u16 (List.replicate (8:Nat) (0:Int))),
 PV.bool false]))))∧
 (decide ((2:Int)+↑(af (List.drop (Int.toNat (2:Int)) l))=ak l)=
 false→
 within ((2:Int)+↑(af (List.drop (Int.toNat (2:Int)) l)))
 (ak l)∧
 ((!decide
 (al l
 ((2:Int)+↑(af (List.drop (Int.toNat (2:Int)) l)))=
 (58:Int)))=
 false→
 aD
 ((2:Int)+↑(af (List.drop (Int.toNat (2:Int)) l))+(1:Int)))∧
 ((bif
 !decide
 (al l
 ((2:Int)+↑(af (List.drop (Int.toNat (2:Int)) l)))=
 (58:Int))then
 true
 else
 decide
 ((2:Int)+↑(af (List.drop (Int.toNat (2:Int)) l))+(1:Int)=
 ak l))=
 true→
 k
 (PV.tup
 [PV.arr (8:Nat) (aq.ints .u16 (List.replicate (8:Nat) (0:Int))),
 PV.bool false]))∧
 ((bif
 !decide
 (al l
 ((2:Int)+↑(af (List.drop (Int.toNat (2:Int)) l)))=
 (58:Int))then
 true
 else
 decide
 ((2:Int)+↑(af (List.drop (Int.toNat (2:Int)) l))+(1:Int)=
 ak l))=
 false→
 aD
 ((2:Int)+↑(af (List.drop (Int.toNat (2:Int)) l))+(1:Int))∧
 within
 ((2:Int)+↑(af (List.drop (Int.toNat (2:Int)) l))+(1:Int))
 (ak l)∧
 ((!decide
 (al l
 ((2:Int)+↑(af (List.drop (Int.toNat (2:Int)) l))+
 (1:Int))=
 (58:Int)))=
 true→
 VS.mk []
 [(0,PV.str l),(2,PV.ptr ((2:Nat)+(32:Nat)) (0:Nat)),
 (3,PV.bool false),(4,PV.ptr ((4:Nat)+(32:Nat)) (0:Nat)),
 (5,PV.int .u32 (0:Int)),(6,PV.bool false),
 (7,PV.int .i64 ((0:Int)+(1:Int))),
 (8,PV.int .i64 (0:Int)),
 (9,
 PV.int .i64
 ((2:Int)+
 ↑(af (List.drop (Int.toNat (2:Int)) l))+
 (1:Int))),
 ((10:Nat),PV.undef),((13:Nat),PV.undef),((17:Nat),PV.undef),
 ((30:Nat),PV.undef),((43:Nat),PV.undef),((56:Nat),PV.undef),
 ((67:Nat),PV.undef),((73:Nat),PV.undef),((75:Nat),PV.undef),
 ((82:Nat),PV.undef),(95,PV.undef),(113,PV.undef),
 (120,PV.undef)]
 [((4:Nat)+(32:Nat),
 PV.arr (8:Nat)
 (aq.ints .u16
 (bg (List.replicate (8:Nat) (0:Int)) (0:Int)
 (bW
 (bU l (2:Int)
 ((2:Int)+
 ↑(af
 (List.drop (Int.toNat (2:Int)) l)))))))),
 ((2:Nat)+(32:Nat),
 PV.arr (8:Nat) (aq.ints .u16 (List.replicate (8:Nat) (0:Int))))]=
 VS.mk []
 [((0:Nat),PV.str l),((2:Nat),PV.ptr (34:Nat) (0:Nat)),
 ((3:Nat),PV.bool false),((4:Nat),PV.ptr (36:Nat) (0:Nat)),
 ((5:Nat),PV.int .u32 (0:Int)),((6:Nat),PV.bool false),
 ((7:Nat),PV.int .i64 ((0:Int)+(1:Int))),
 ((8:Nat),PV.int .i64 (0:Int)),
 ((9:Nat),
 PV.int .i64
 ((2:Int)+
 ↑(af (List.drop (Int.toNat (2:Int)) l))+
 (1:Int))),
 ((10:Nat),PV.undef),((13:Nat),PV.undef),((17:Nat),PV.undef),
 ((30:Nat),PV.undef),((43:Nat),PV.undef),((56:Nat),PV.undef),
 ((67:Nat),PV.undef),((73:Nat),PV.undef),((75:Nat),PV.undef),
 ((82:Nat),PV.undef),((95:Nat),PV.undef),((113:Nat),PV.undef),
 ((120:Nat),PV.undef)]
 [((36:Nat),
 PV.arr (8:Nat)
 (aq.ints .u16
 (bg (List.replicate (8:Nat) (0:Int)) (0:Int)
 (bW
 (bU l (2:Int)
 ((2:Int)+
 ↑(af
 (List.drop (Int.toNat (2:Int)) l)))))))),
 ((34:Nat),
 PV.arr (8:Nat) (aq.ints .u16 (List.replicate (8:Nat) (0:Int))))]∧
 (∃(acc:List Int),
 (0:Int)+(1:Int)=↑acc.length∧
 acc.length≤(8:Nat)∧
 bg (List.replicate (8:Nat) (0:Int)) (0:Int)
 (bW
 (bU l (2:Int)
 ((2:Int)+
 ↑(af
 (List.drop (Int.toNat (2:Int)) l)))))=
 pad acc∧
 (-1:Int)≤(0:Int)∧
 (0:Int)≤(0:Int)+(1:Int)∧
 (0:Int)≤
 (2:Int)+
 ↑(af
 (List.drop (Int.toNat (2:Int)) l))+
 (1:Int)∧
 (2:Int)+
 ↑(af
 (List.drop (Int.toNat (2:Int)) l))+
 (1:Int)≤
 ↑(List.length l)∧
 fM l ((9:Nat)-acc.length) acc (0:Int)
 ((2:Int)+
 ↑(af
 (List.drop (Int.toNat (2:Int)) l))+
 (1:Int)).toNat=
 ia l)∧
 ∀(x:Int×Int×Int×List Int),
 (∃(acc:List Int),
 x.1=↑acc.length∧
 acc.length≤(8:Nat)∧
 x.2.2.2=pad acc∧
 (-1:Int)≤x.2.1∧
 x.2.1≤x.1∧
 (0:Int)≤x.2.2.1∧
 x.2.2.1≤↑(List.length l)∧
 fM l ((9:Nat)-acc.length) acc x.2.1
 x.2.2.1.toNat=
 ia l)→
 ((0:Int)≤x.2.2.1∧x.2.2.1≤↑(List.length l)∧List.length l≤(1000000:Nat))∧
 (decide
 (x.2.2.1+
 ↑(af (List.drop x.2.2.1.toNat l))<
 ak l)=
 true→
 within
 (x.2.2.1+
 ↑(af (List.drop x.2.2.1.toNat l)))
 (ak l))∧
 ((bif
 decide
 (x.2.2.1+
 ↑(af
 (List.drop x.2.2.1.toNat l))<
 ak l)then
 decide
 (al l
 (x.2.2.1+
 ↑(af
 (List.drop x.2.2.1.toNat l)))=
 (46:Int))
 else false)=
 true→
 upto x.2.2.1 (ak l) (ak l)∧
 (aa l x.2.2.1).length.le (1000000:Nat)∧
 ((bif !ks (aa l x.2.2.1)then
 true
 else decide ((6:Int)<x.1))=
 true→
 k
 (PV.tup
 [PV.arr (8:Nat)
 (aq.ints .u16 (List.replicate (8:Nat) (0:Int))),
 PV.bool false]))∧
 ((bif !ks (aa l x.2.2.1)then
 true
 else decide ((6:Int)<x.1))=
 false→
 aD (x.1+(1:Int))∧
 (0:Int)≤(16:Int)∧
 within x.1 ↑(8:Nat)∧
 (within x.1 ↑(8:Nat)∧True)∧
 within (x.1+(1:Int)) ↑(8:Nat)∧
 (within (x.1+(1:Int)) ↑(8:Nat)∧True)∧
 aD (x.1+(2:Int))∧
 ((bif decide (x.2.1<(0:Int))then
 decide (x.1+(2:Int)=(8:Int))
 else false)=
 true→
 k
 (PV.tup
 [PV.arr (8:Nat)
 (aq.ints .u16
 (bg
 (bg x.2.2.2 x.1
 (Go.IntKind.u16.wrap
 (iL .u32
 (ct
 (aa l x.2.2.1))
 (16:Int))))
 (x.1+(1:Int))
 (Go.IntKind.u16.wrap
 (ct
 (aa l x.2.2.1))))),
 PV.bool true]))∧
 ((bif decide (x.2.1<(0:Int))then
 decide (x.1+(2:Int)=(8:Int))
 else false)=
 false→
 ((bif decide ((0:Int)≤x.2.1)then
 decide (x.1+(2:Int)<(8:Int))
 else false)=
 true→
 ((bg
 (bg x.2.2.2 x.1
 (Go.IntKind.u16.wrap
 (iL .u32
 (ct
 (aa l x.2.2.1))
 (16:Int))))
 (x.1+(1:Int))
 (Go.IntKind.u16.wrap
 (ct
 (aa l x.2.2.1)))).length=
 (8:Nat)∧
 (0:Int)≤x.2.1∧
 x.2.1≤x.1+(2:Int)∧
 x.1+(2:Int)≤(7:Int))∧
 k
 (PV.tup
 [PV.arr (8:Nat)
 (aq.ints .u16
 (bH
 (bg
 (bg x.2.2.2 x.1
 (Go.IntKind.u16.wrap
 (iL .u32
 (ct
 (aa l x.2.2.1))
 (16:Int))))
 (x.1+(1:Int))
 (Go.IntKind.u16.wrap
 (ct
 (aa l x.2.2.1))))
 (x.1+(2:Int)).toNat x.2.1.toNat)),
 PV.bool true]))∧
 ((bif decide ((0:Int)≤x.2.1)then
 decide (x.1+(2:Int)<(8:Int))
 else false)=
 false→
 k
 (PV.tup
 [PV.arr (8:Nat)
 (aq.ints .u16
 (List.replicate (8:Nat) (0:Int))),
 PV.bool false])))))∧
 ((bif
 decide
 (x.2.2.1+
 ↑(af
 (List.drop x.2.2.1.toNat l))<
 ak l)then
 decide
 (al l
 (x.2.2.1+
 ↑(af
 (List.drop x.2.2.1.toNat l)))=
 (46:Int))
 else false)=
 false→
 ((bif decide (x.1=(8:Int))then true
 else
 decide
 (x.2.2.1+
 ↑(af
 (List.drop x.2.2.1.toNat l))=
 x.2.2.1))=
 false→
 aD (x.2.2.1+(4:Int)))∧
 ((bif
 bif decide (x.1=(8:Int))then true
 else
 decide
 (x.2.2.1+
 ↑(af
 (List.drop x.2.2.1.toNat l))=
 x.2.2.1)then
 true
 else
 decide
 (x.2.2.1+(4:Int)<
 x.2.2.1+
 ↑(af
 (List.drop x.2.2.1.toNat l))))=
 true→
 k
 (PV.tup
 [PV.arr (8:Nat)
 (aq.ints .u16 (List.replicate (8:Nat) (0:Int))),
 PV.bool false]))∧
 ((bif
 bif decide (x.1=(8:Int))then true
 else
 decide
 (x.2.2.1+
 ↑(af
 (List.drop x.2.2.1.toNat l))=
 x.2.2.1)then
 true
 else
 decide
 (x.2.2.1+(4:Int)<
 x.2.2.1+
 ↑(af
 (List.drop x.2.2.1.toNat l))))=
 false→
 upto x.2.2.1
 (x.2.2.1+
 ↑(af
 (List.drop x.2.2.1.toNat l)))
 (ak l)∧
 ((bU l x.2.2.1
 (x.2.2.1+
 ↑(af
 (List.drop x.2.2.1.toNat l)))).length≤
 (4:Nat)∧
 ∀(i:Nat),
 i<
 (bU l x.2.2.1
 (x.2.2.1+
 ↑(af
 (List.drop x.2.2.1.toNat l)))).length→
 (0:Int)≤
 cQ
 (aK
 (bU l x.2.2.1
 (x.2.2.1+
 ↑(af
 (List.drop x.2.2.1.toNat l))))
 i))∧
 within x.1 ↑(8:Nat)∧
 (within x.1 ↑(8:Nat)∧True)∧
 aD (x.1+(1:Int))∧
 (decide
 (x.2.2.1+
 ↑(af
 (List.drop x.2.2.1.toNat l))=
 ak l)=
 true→
 ((bif decide (x.2.1<(0:Int))then
 decide (x.1+(1:Int)=(8:Int))
 else false)=
 true→
 k
 (PV.tup
 [PV.arr (8:Nat)
 (aq.ints .u16
 (bg x.2.2.2 x.1
 (bW
 (bU l x.2.2.1
 (x.2.2.1+
 ↑(af
 (List.drop x.2.2.1.toNat l))))))),
 PV.bool true]))∧
 ((bif decide (x.2.1<(0:Int))then
 decide (x.1+(1:Int)=(8:Int))
 else false)=
 false→
 ((bif decide ((0:Int)≤x.2.1)then
 decide (x.1+(1:Int)<(8:Int))
 else false)=
 true→
 ((bg x.2.2.2 x.1
 (bW
 (bU l x.2.2.1
 (x.2.2.1+
 ↑(af
 (List.drop x.2.2.1.toNat
 l)))))).length=
 (8:Nat)∧
 (0:Int)≤x.2.1∧
 x.2.1≤x.1+(1:Int)∧
 x.1+(1:Int)≤(7:Int))∧
 k
 (PV.tup
 [PV.arr (8:Nat)
 (aq.ints .u16
 (bH
 (bg x.2.2.2 x.1
 (bW
 (bU l x.2.2.1
 (x.2.2.1+
 ↑(af
 (List.drop x.2.2.1.toNat
 l))))))
 (x.1+(1:Int)).toNat x.2.1.toNat)),
 PV.bool true]))∧
 ((bif decide ((0:Int)≤x.2.1)then
 decide (x.1+(1:Int)<(8:Int))
 else false)=
 false→
 k
 (PV.tup
 [PV.arr (8:Nat)
 (aq.ints .u16
 (List.replicate (8:Nat) (0:Int))),
 PV.bool false]))))∧
 (decide
 (x.2.2.1+
 ↑(af
 (List.drop x.2.2.1.toNat l))=
 ak l)=
 false→
 within
 (x.2.2.1+
 ↑(af
 (List.drop x.2.2.1.toNat l)))
 (ak l)∧
 ((!decide
 (al l
 (x.2.2.1+
 ↑(af
 (List.drop x.2.2.1.toNat l)))=
 (58:Int)))=
 false→
 aD
 (x.2.2.1+
 ↑(af
 (List.drop x.2.2.1.toNat l))+
 (1:Int)))∧
 ((bif
 !decide
 (al l
 (x.2.2.1+
 ↑(af
 (List.drop x.2.2.1.toNat l)))=
 (58:Int))then
 true
 else
 decide
 (x.2.2.1+
 ↑(af
 (List.drop x.2.2.1.toNat l))+
 (1:Int)=
 ak l))=
 true→
 k
 (PV.tup
 [PV.arr (8:Nat)
 (aq.ints .u16
 (List.replicate (8:Nat) (0:Int))),
 PV.bool false]))∧
 ((bif
 !decide
 (al l
 (x.2.2.1+
 ↑(af
 (List.drop x.2.2.1.toNat l)))=
 (58:Int))then
 true
 else
 decide
 (x.2.2.1+
 ↑(af
 (List.drop x.2.2.1.toNat l))+
 (1:Int)=
 ak l))=
 false→
 aD
 (x.2.2.1+
 ↑(af
 (List.drop x.2.2.1.toNat l))+
 (1:Int))∧
 within
 (x.2.2.1+
 ↑(af
 (List.drop x.2.2.1.toNat l))+
 (1:Int))
 (ak l)∧
 ((!decide
 (al l
 (x.2.2.1+
 ↑(af
 (List.drop x.2.2.1.toNat l))+
 (1:Int))=
 (58:Int)))=
 true→
 r6 (VS.mk []
 [((0:Nat),PV.str l),
 ((2:Nat),
 PV.ptr (34:Nat) (0:Nat)),
 ((3:Nat),PV.bool false),
 ((4:Nat),
 PV.ptr (36:Nat) (0:Nat)),
 ((5:Nat),
 PV.int .u32 (0:Int)),
 ((6:Nat),PV.bool false),
 ((7:Nat),
 PV.int .i64
 (x.1+(1:Int))),
 ((8:Nat),
 PV.int .i64 x.2.1),
 ((9:Nat),
 PV.int .i64
 (x.2.2.1+
 ↑(af
 (List.drop x.2.2.1.toNat
 l))+
 (1:Int))),
 ((10:Nat),PV.undef),
 ((13:Nat),PV.undef),
 ((17:Nat),PV.undef),
 ((30:Nat),PV.undef),
 ((43:Nat),PV.undef),
 ((56:Nat),PV.undef),
 ((67:Nat),PV.undef),
 ((73:Nat),PV.undef),
 ((75:Nat),PV.undef),
 ((82:Nat),PV.undef),
 ((95:Nat),PV.undef),
 ((113:Nat),PV.undef),
 ((120:Nat),PV.undef)]
 [((36:Nat),
 PV.arr (8:Nat)
 (aq.ints .u16
 (bg x.2.2.2 x.1
 (bW
 (bU l x.2.2.1
 (x.2.2.1+
 ↑(af
 (List.drop
 x.2.2.1.toNat
 l)))))))),
 ((34:Nat),
 PV.arr (8:Nat)
 (aq.ints .u16
 (List.replicate (8:Nat)
 (0:Int))))])∧
 (∃(acc:List Int),
 x.1+(1:Int)=↑acc.length∧
 acc.length≤(8:Nat)∧
 bg x.2.2.2 x.1
 (bW
 (bU l x.2.2.1
 (x.2.2.1+
 ↑(af
 (List.drop
 x.2.2.1.toNat
 l)))))=
 pad
 acc∧
 (-1:Int)≤x.2.1∧
 x.2.1≤x.1+(1:Int)∧
 (0:Int)≤
 x.2.2.1+
 ↑(af
 (List.drop
 x.2.2.1.toNat
 l))+
 (1:Int)∧
 x.2.2.1+
 ↑(af
 (List.drop
 x.2.2.1.toNat
 l))+
 (1:Int)≤
 ↑(List.length l)∧
 fM
 l ((9:Nat)-acc.length) acc
 x.2.1
 (x.2.2.1+
 ↑(af
 (List.drop
 x.2.2.1.toNat
 l))+
 (1:Int)).toNat=
 ia
 l)∧
 ((9:Int)-(x.1+(1:Int))).toNat<
 ((9:Int)-x.1).toNat)∧
 ((!decide
 (al l
 (x.2.2.1+
 ↑(af
 (List.drop x.2.2.1.toNat l))+
 (1:Int))=
 (58:Int)))=
 false→
 (decide ((0:Int)≤x.2.1)=true→
 k
 (PV.tup
 [PV.arr (8:Nat)
 (aq.ints .u16
 (List.replicate (8:Nat) (0:Int))),
 PV.bool false]))∧
 (decide ((0:Int)≤x.2.1)=false→
 aD
 (x.2.2.1+
 ↑(af
 (List.drop x.2.2.1.toNat l))+
 (1:Int)+
 (1:Int))∧
 (decide
 (x.2.2.1+
 ↑(af
 (List.drop
 x.2.2.1.toNat l))+
 (1:Int)+
 (1:Int)<
 ak l)=
 true→
 r6 (VS.mk []
 [((0:Nat),PV.str l),
 ((2:Nat),
 PV.ptr (34:Nat)
 (0:Nat)),
 ((3:Nat),PV.bool false),
 ((4:Nat),
 PV.ptr (36:Nat)
 (0:Nat)),
 ((5:Nat),
 PV.int .u32
 (0:Int)),
 ((6:Nat),PV.bool false),
 ((7:Nat),
 PV.int .i64
 (x.1+(1:Int))),
 ((8:Nat),
 PV.int .i64
 (x.1+(1:Int))),
 ((9:Nat),
 PV.int .i64
 (x.2.2.1+
 ↑(af
 (List.drop
 x.2.2.1.toNat
 l))+
 (1:Int)+
 (1:Int))),
 ((10:Nat),PV.undef),
 ((13:Nat),PV.undef),
 ((17:Nat),PV.undef),
 ((30:Nat),PV.undef),
 ((43:Nat),PV.undef),
 ((56:Nat),PV.undef),
 ((67:Nat),PV.undef),
 ((73:Nat),PV.undef),
 ((75:Nat),PV.undef),
 ((82:Nat),PV.undef),
 ((95:Nat),PV.undef),
 ((113:Nat),PV.undef),
 ((120:Nat),PV.undef)]
 [((36:Nat),
 PV.arr (8:Nat)
 (aq.ints .u16
 (bg x.2.2.2
 x.1
 (bW
 (bU l
 x.2.2.1
 (x.2.2.1+
 ↑(af
 (List.drop
 x.2.2.1.toNat
 l)))))))),
 ((34:Nat),
 PV.arr (8:Nat)
 (aq.ints .u16
 (List.replicate (8:Nat)
 (0:Int))))])∧
 (∃(acc:List Int),
 x.1+(1:Int)=↑acc.length∧
 acc.length≤(8:Nat)∧
 bg x.2.2.2 x.1
 (bW
 (bU l
 x.2.2.1
 (x.2.2.1+
 ↑(af
 (List.drop
 x.2.2.1.toNat
 l)))))=
 pad
 acc∧
 (-1:Int)≤x.1+(1:Int)∧
 x.1+(1:Int)≤
 x.1+(1:Int)∧
 (0:Int)≤
 x.2.2.1+
 ↑(af
 (List.drop
 x.2.2.1.toNat
 l))+
 (1:Int)+
 (1:Int)∧
 x.2.2.1+
 ↑(af
 (List.drop
 x.2.2.1.toNat
 l))+
 (1:Int)+
 (1:Int)≤
 ↑(List.length l)∧
 fM
 l
 ((9:Nat)-
 acc.length)
 acc
 (x.1+(1:Int))
 (x.2.2.1+
 ↑(af
 (List.drop
 x.2.2.1.toNat
 l))+
 (1:Int)+
 (1:
 Int)).toNat=
 ia
 l)∧
 ((9:Int)-
 (x.1+(1:Int))).toNat<
 ((9:Int)-x.1).toNat)∧
 (decide
 (x.2.2.1+
 ↑(af
 (List.drop
 x.2.2.1.toNat l))+
 (1:Int)+
 (1:Int)<
 ak l)=
 false→
 ((bif
 decide
 (x.1+(1:Int)<
 (0:Int))then
 decide
 (x.1+(1:Int)=(8:Int))
 else false)=
 true→
 k
 (PV.tup
 [PV.arr (8:Nat)
 (aq.ints .u16
 (bg x.2.2.2
 x.1
 (bW
 (bU l
 x.2.2.1
 (x.2.2.1+
 ↑(af
 (List.drop
 x.2.2.1.toNat
 l))))))),
 PV.bool true]))∧
 ((bif
 decide
 (x.1+(1:Int)<
 (0:Int))then
 decide
 (x.1+(1:Int)=(8:Int))
 else false)=
 false→
 ((bif
 decide
 ((0:Int)≤
 x.1+(1:Int))then
 decide
 (x.1+(1:Int)<
 (8:Int))
 else false)=
 true→
 ((bg x.2.2.2 x.1
 (bW
 (bU l
 x.2.2.1
 (x.2.2.1+
 ↑(af
 (List.drop
 x.2.2.1.toNat
 l)))))).length=
 (8:Nat)∧
 (0:Int)≤x.1+(1:Int)∧
 x.1+(1:Int)≤
 x.1+(1:Int)∧
 x.1+(1:Int)≤
 (7:Int))∧
 k
 (PV.tup
 [PV.arr (8:Nat)
 (aq.ints
 .u16
 (bH
 (bg
 x.2.2.2 x.1
 (bW
 (bU l
 x.2.2.1
 (x.2.2.1+
 ↑(af
 (List.drop
 x.2.2.1.toNat
 l))))))
 (x.1+
 (1:Int)).toNat
 (x.1+
 (1:
 Int)).toNat)),
 PV.bool true]))∧
 ((bif
 decide
 ((0:Int)≤
 x.1+(1:Int))then
 decide
 (x.1+(1:Int)<
 (8:Int))
 else false)=
 false→
 k
 (PV.tup
 [PV.arr (8:Nat)
 (aq.ints
 .u16
 (List.replicate (8:Nat)
 (0:Int))),
 PV.bool
 false])))))))))))∧
 ((!decide
 (al l
 ((2:Int)+↑(af (List.drop (Int.toNat (2:Int)) l))+
 (1:Int))=
 (58:Int)))=
 false→
 (decide ((0:Int)≤(0:Int))=true→
 k
 (PV.tup
 [PV.arr (8:Nat) (aq.ints .u16 (List.replicate (8:Nat) (0:Int))),
 PV.bool false]))∧
 (decide ((0:Int)≤(0:Int))=false→
 aD
 ((2:Int)+↑(af (List.drop (Int.toNat (2:Int)) l))+
 (1:Int)+
 (1:Int))∧
 (decide
 ((2:Int)+
 ↑(af (List.drop (Int.toNat (2:Int)) l))+
 (1:Int)+
 (1:Int)<
 ak l)=
 true→
 VS.mk []
 [(0,PV.str l),
 (2,PV.ptr ((2:Nat)+(32:Nat)) (0:Nat)),
 (3,PV.bool false),
 (4,PV.ptr ((4:Nat)+(32:Nat)) (0:Nat)),
 (5,PV.int .u32 (0:Int)),(6,PV.bool false),
 (7,PV.int .i64 ((0:Int)+(1:Int))),
 (8,PV.int .i64 ((0:Int)+(1:Int))),
 (9,
 PV.int .i64
 ((2:Int)+
 ↑(af
 (List.drop (Int.toNat (2:Int)) l))+
 (1:Int)+
 (1:Int))),
 ((10:Nat),PV.undef),((13:Nat),PV.undef),
 ((17:Nat),PV.undef),((30:Nat),PV.undef),
 ((43:Nat),PV.undef),((56:Nat),PV.undef),
 ((67:Nat),PV.undef),((73:Nat),PV.undef),
 ((75:Nat),PV.undef),((82:Nat),PV.undef),
 (95,PV.undef),(113,PV.undef),
 (120,PV.undef)]
 [((4:Nat)+(32:Nat),
 PV.arr (8:Nat)
 (aq.ints .u16
 (bg (List.replicate (8:Nat) (0:Int)) (0:Int)
 (bW
 (bU l (2:Int)
 ((2:Int)+
 ↑(af
 (List.drop (Int.toNat (2:Int)) l)))))))),
 ((2:Nat)+(32:Nat),
 PV.arr (8:Nat)
 (aq.ints .u16 (List.replicate (8:Nat) (0:Int))))]=
 VS.mk []
 [((0:Nat),PV.str l),((2:Nat),PV.ptr (34:Nat) (0:Nat)),
 ((3:Nat),PV.bool false),((4:Nat),PV.ptr (36:Nat) (0:Nat)),
 ((5:Nat),PV.int .u32 (0:Int)),((6:Nat),PV.bool false),
 ((7:Nat),PV.int .i64 ((0:Int)+(1:Int))),
 ((8:Nat),PV.int .i64 ((0:Int)+(1:Int))),
 ((9:Nat),
 PV.int .i64
 ((2:Int)+
 ↑(af
 (List.drop (Int.toNat (2:Int)) l))+
 (1:Int)+
 (1:Int))),
 ((10:Nat),PV.undef),((13:Nat),PV.undef),
 ((17:Nat),PV.undef),((30:Nat),PV.undef),
 ((43:Nat),PV.undef),((56:Nat),PV.undef),
 ((67:Nat),PV.undef),((73:Nat),PV.undef),
 ((75:Nat),PV.undef),((82:Nat),PV.undef),
 ((95:Nat),PV.undef),((113:Nat),PV.undef),
 ((120:Nat),PV.undef)]
 [((36:Nat),
 PV.arr (8:Nat)
 (aq.ints .u16
 (bg (List.replicate (8:Nat) (0:Int)) (0:Int)
 (bW
 (bU l (2:Int)
 ((2:Int)+
 ↑(af
 (List.drop (Int.toNat (2:Int)) l)))))))),
 ((34:Nat),
 PV.arr (8:Nat)
 (aq.ints .u16 (List.replicate (8:Nat) (0:Int))))]∧
 (∃(acc:List Int),
 (0:Int)+(1:Int)=↑acc.length∧
 acc.length≤(8:Nat)∧
 bg (List.replicate (8:Nat) (0:Int)) (0:Int)
 (bW
 (bU l (2:Int)
 ((2:Int)+
 ↑(af
 (List.drop (Int.toNat (2:Int)) l)))))=
 pad acc∧
 (-1:Int)≤(0:Int)+(1:Int)∧
 (0:Int)+(1:Int)≤(0:Int)+(1:Int)∧
 (0:Int)≤
 (2:Int)+
 ↑(af
 (List.drop (Int.toNat (2:Int)) l))+
 (1:Int)+
 (1:Int)∧
 (2:Int)+
 ↑(af
 (List.drop (Int.toNat (2:Int)) l))+
 (1:Int)+
 (1:Int)≤
 ↑(List.length l)∧
 fM l ((9:Nat)-acc.length) acc
 ((0:Int)+(1:Int))
 ((2:Int)+
 ↑(af
 (List.drop (Int.toNat (2:Int)) l))+
 (1:Int)+
 (1:Int)).toNat=
 ia l)∧
 ∀(x:Int×Int×Int×List Int),
 (∃(acc:List Int),
 x.1=↑acc.length∧
 acc.length≤(8:Nat)∧
 x.2.2.2=pad acc∧
 (-1:Int)≤x.2.1∧
 x.2.1≤x.1∧
 (0:Int)≤x.2.2.1∧
 x.2.2.1≤↑(List.length l)∧
 fM l ((9:Nat)-acc.length) acc
 x.2.1 x.2.2.1.toNat=
 ia l)→
 ((0:Int)≤x.2.2.1∧
 x.2.2.1≤↑(List.length l)∧List.length l≤(1000000:Nat))∧
 (decide
 (x.2.2.1+
 ↑(af
 (List.drop x.2.2.1.toNat l))<
 ak l)=
 true→
 within
 (x.2.2.1+
 ↑(af
 (List.drop x.2.2.1.toNat l)))
 (ak l))∧
 ((bif
 decide
 (x.2.2.1+
 ↑(af
 (List.drop x.2.2.1.toNat l))<
 ak l)then
 decide
 (al l
 (x.2.2.1+
 ↑(af
 (List.drop x.2.2.1.toNat l)))=
 (46:Int))
 else false)=
 true→
 upto x.2.2.1 (ak l) (ak l)∧
 (aa l x.2.2.1).length.le (1000000:Nat)∧
 ((bif
 !ks
 (aa l x.2.2.1)then
 true
 else decide ((6:Int)<x.1))=
 true→
 k
 (PV.tup
 [PV.arr (8:Nat)
 (aq.ints .u16
 (List.replicate (8:Nat) (0:Int))),
 PV.bool false]))∧
 ((bif
 !ks
 (aa l x.2.2.1)then
 true
 else decide ((6:Int)<x.1))=
 false→
 aD (x.1+(1:Int))∧
 (0:Int)≤(16:Int)∧
 within x.1 ↑(8:Nat)∧
 (within x.1 ↑(8:Nat)∧True)∧
 within (x.1+(1:Int)) ↑(8:Nat)∧
 (within (x.1+(1:Int)) ↑(8:Nat)∧True)∧
 aD (x.1+(2:Int))∧
 ((bif decide (x.2.1<(0:Int))then
 decide (x.1+(2:Int)=(8:Int))
 else false)=
 true→
 k
 (PV.tup
 [PV.arr (8:Nat)
 (aq.ints .u16
 (bg
 (bg x.2.2.2 x.1
 (Go.IntKind.u16.wrap
 (iL .u32
 (ct
 (aa l x.2.2.1))
 (16:Int))))
 (x.1+(1:Int))
 (Go.IntKind.u16.wrap
 (ct
 (aa l x.2.2.1))))),
 PV.bool true]))∧
 ((bif decide (x.2.1<(0:Int))then
 decide (x.1+(2:Int)=(8:Int))
 else false)=
 false→
 ((bif decide ((0:Int)≤x.2.1)then
 decide (x.1+(2:Int)<(8:Int))
 else false)=
 true→
 ((bg
 (bg x.2.2.2 x.1
 (Go.IntKind.u16.wrap
 (iL .u32
 (ct
 (aa l x.2.2.1))
 (16:Int))))
 (x.1+(1:Int))
 (Go.IntKind.u16.wrap
 (ct
 (aa l
 x.2.2.1)))).length=
 (8:Nat)∧
 (0:Int)≤x.2.1∧
 x.2.1≤x.1+(2:Int)∧
 x.1+(2:Int)≤(7:Int))∧
 k
 (PV.tup
 [PV.arr (8:Nat)
 (aq.ints .u16
 (bH
 (bg
 (bg x.2.2.2 x.1
 (Go.IntKind.u16.wrap
 (iL .u32
 (ct
 (aa l
 x.2.2.1))
 (16:Int))))
 (x.1+(1:Int))
 (Go.IntKind.u16.wrap
 (ct
 (aa l
 x.2.2.1))))
 (x.1+(2:Int)).toNat
 x.2.1.toNat)),
 PV.bool true]))∧
 ((bif decide ((0:Int)≤x.2.1)then
 decide (x.1+(2:Int)<(8:Int))
 else false)=
 false→
 k
 (PV.tup
 [PV.arr (8:Nat)
 (aq.ints .u16
 (List.replicate (8:Nat) (0:Int))),
 PV.bool false])))))∧
 ((bif
 decide
 (x.2.2.1+
 ↑(af
 (List.drop x.2.2.1.toNat l))<
 ak l)then
 decide
 (al l
 (x.2.2.1+
 ↑(af
 (List.drop x.2.2.1.toNat l)))=
 (46:Int))
 else false)=
 false→
 ((bif decide (x.1=(8:Int))then true
 else
 decide
 (x.2.2.1+
 ↑(af
 (List.drop x.2.2.1.toNat l))=
 x.2.2.1))=
 false→
 aD (x.2.2.1+(4:Int)))∧
 ((bif
 bif decide (x.1=(8:Int))then true
 else
 decide
 (x.2.2.1+
 ↑(af
 (List.drop x.2.2.1.toNat l))=
 x.2.2.1)then
 true
 else
 decide
 (x.2.2.1+(4:Int)<
 x.2.2.1+
 ↑(af
 (List.drop x.2.2.1.toNat l))))=
 true→
 k
 (PV.tup
 [PV.arr (8:Nat)
 (aq.ints .u16
 (List.replicate (8:Nat) (0:Int))),
 PV.bool false]))∧
 ((bif
 bif decide (x.1=(8:Int))then true
 else
 decide
 (x.2.2.1+
 ↑(af
 (List.drop x.2.2.1.toNat l))=
 x.2.2.1)then
 true
 else
 decide
 (x.2.2.1+(4:Int)<
 x.2.2.1+
 ↑(af
 (List.drop x.2.2.1.toNat l))))=
 false→
 upto x.2.2.1
 (x.2.2.1+
 ↑(af
 (List.drop x.2.2.1.toNat l)))
 (ak l)∧
 ((bU l x.2.2.1
 (x.2.2.1+
 ↑(af
 (List.drop x.2.2.1.toNat l)))).length≤
 (4:Nat)∧
 ∀(i:Nat),
 i<
 (bU l x.2.2.1
 (x.2.2.1+
 ↑(af
 (List.drop x.2.2.1.toNat l)))).length→
 (0:Int)≤
 cQ
 (aK
 (bU l x.2.2.1
 (x.2.2.1+
 ↑(af
 (List.drop x.2.2.1.toNat l))))
 i))∧
 within x.1 ↑(8:Nat)∧
 (within x.1 ↑(8:Nat)∧True)∧
 aD (x.1+(1:Int))∧
 (decide
 (x.2.2.1+
 ↑(af
 (List.drop x.2.2.1.toNat l))=
 ak l)=
 true→
 ((bif decide (x.2.1<(0:Int))then
 decide (x.1+(1:Int)=(8:Int))
 else false)=
 true→
 k
 (PV.tup
 [PV.arr (8:Nat)
 (aq.ints .u16
 (bg x.2.2.2 x.1
 (bW
 (bU l x.2.2.1
 (x.2.2.1+
 ↑(af
 (List.drop x.2.2.1.toNat
 l))))))),
 PV.bool true]))∧
 ((bif decide (x.2.1<(0:Int))then
 decide (x.1+(1:Int)=(8:Int))
 else false)=
 false→
 ((bif decide ((0:Int)≤x.2.1)then
 decide (x.1+(1:Int)<(8:Int))
 else false)=
 true→
 ((bg x.2.2.2 x.1
 (bW
 (bU l x.2.2.1
 (x.2.2.1+
 ↑(af
 (List.drop x.2.2.1.toNat
 l)))))).length=
 (8:Nat)∧
 (0:Int)≤x.2.1∧
 x.2.1≤x.1+(1:Int)∧
 x.1+(1:Int)≤(7:Int))∧
 k
 (PV.tup
 [PV.arr (8:Nat)
 (aq.ints .u16
 (bH
 (bg x.2.2.2 x.1
 (bW
 (bU l x.2.2.1
 (x.2.2.1+
 ↑(af
 (List.drop
 x.2.2.1.toNat
 l))))))
 (x.1+(1:Int)).toNat
 x.2.1.toNat)),
 PV.bool true]))∧
 ((bif decide ((0:Int)≤x.2.1)then
 decide (x.1+(1:Int)<(8:Int))
 else false)=
 false→
 k
 (PV.tup
 [PV.arr (8:Nat)
 (aq.ints .u16
 (List.replicate (8:Nat) (0:Int))),
 PV.bool false]))))∧
 (decide
 (x.2.2.1+
 ↑(af
 (List.drop x.2.2.1.toNat l))=
 ak l)=
 false→
 within
 (x.2.2.1+
 ↑(af
 (List.drop x.2.2.1.toNat l)))
 (ak l)∧
 ((!decide
 (al l
 (x.2.2.1+
 ↑(af
 (List.drop x.2.2.1.toNat l)))=
 (58:Int)))=
 false→
 aD
 (x.2.2.1+
 ↑(af
 (List.drop x.2.2.1.toNat l))+
 (1:Int)))∧
 ((bif
 !decide
 (al l
 (x.2.2.1+
 ↑(af
 (List.drop x.2.2.1.toNat
 l)))=
 (58:Int))then
 true
 else
 decide
 (x.2.2.1+
 ↑(af
 (List.drop x.2.2.1.toNat l))+
 (1:Int)=
 ak l))=
 true→
 k
 (PV.tup
 [PV.arr (8:Nat)
 (aq.ints .u16
 (List.replicate (8:Nat) (0:Int))),
 PV.bool false]))∧
 ((bif
 !decide
 (al l
 (x.2.2.1+
 ↑(af
 (List.drop x.2.2.1.toNat
 l)))=
 (58:Int))then
 true
 else
 decide
 (x.2.2.1+
 ↑(af
 (List.drop x.2.2.1.toNat l))+
 (1:Int)=
 ak l))=
 false→
 aD
 (x.2.2.1+
 ↑(af
 (List.drop x.2.2.1.toNat l))+
 (1:Int))∧
 within
 (x.2.2.1+
 ↑(af
 (List.drop x.2.2.1.toNat l))+
 (1:Int))
 (ak l)∧
 ((!decide
 (al l
 (x.2.2.1+
 ↑(af
 (List.drop
 x.2.2.1.toNat
 l))+
 (1:Int))=
 (58:Int)))=
 true→
 r6 (VS.mk []
 [((0:Nat),PV.str l),
 ((2:Nat),
 PV.ptr (34:Nat)
 (0:Nat)),
 ((3:Nat),PV.bool false),
 ((4:Nat),
 PV.ptr (36:Nat)
 (0:Nat)),
 ((5:Nat),
 PV.int .u32
 (0:Int)),
 ((6:Nat),PV.bool false),
 ((7:Nat),
 PV.int .i64
 (x.1+(1:Int))),
 ((8:Nat),
 PV.int .i64
 x.2.1),
 ((9:Nat),
 PV.int .i64
 (x.2.2.1+
 ↑(af
 (List.drop
 x.2.2.1.toNat
 l))+
 (1:Int))),
 ((10:Nat),PV.undef),
 ((13:Nat),PV.undef),
 ((17:Nat),PV.undef),
 ((30:Nat),PV.undef),
 ((43:Nat),PV.undef),
 ((56:Nat),PV.undef),
 ((67:Nat),PV.undef),
 ((73:Nat),PV.undef),
 ((75:Nat),PV.undef),
 ((82:Nat),PV.undef),
 ((95:Nat),PV.undef),
 ((113:Nat),PV.undef),
 ((120:Nat),PV.undef)]
 [((36:Nat),
 PV.arr (8:Nat)
 (aq.ints .u16
 (bg x.2.2.2
 x.1
 (bW
 (bU l
 x.2.2.1
 (x.2.2.1+
 ↑(af
 (List.drop
 x.2.2.1.toNat
 l)))))))),
 ((34:Nat),
 PV.arr (8:Nat)
 (aq.ints .u16
 (List.replicate (8:Nat)
 (0:Int))))])∧
 (∃(acc:List Int),
 x.1+(1:Int)=↑acc.length∧
 acc.length≤(8:Nat)∧
 bg x.2.2.2 x.1
 (bW
 (bU l
 x.2.2.1
 (x.2.2.1+
 ↑(af
 (List.drop
 x.2.2.1.toNat
 l)))))=
 pad
 acc∧
 (-1:Int)≤x.2.1∧
 x.2.1≤
 x.1+(1:Int)∧
 (0:Int)≤
 x.2.2.1+
 ↑(af
 (List.drop
 x.2.2.1.toNat
 l))+
 (1:Int)∧
 x.2.2.1+
 ↑(af
 (List.drop
 x.2.2.1.toNat
 l))+
 (1:Int)≤
 ↑(List.length l)∧
 fM
 l
 ((9:Nat)-
 acc.length)
 acc x.2.1
 (x.2.2.1+
 ↑(af
 (List.drop
 x.2.2.1.toNat
 l))+
 (1:
 Int)).toNat=
 ia
 l)∧
 ((9:Int)-
 (x.1+(1:Int))).toNat<
 ((9:Int)-x.1).toNat)∧
 ((!decide
 (al l
 (x.2.2.1+
 ↑(af
 (List.drop
 x.2.2.1.toNat
 l))+
 (1:Int))=
 (58:Int)))=
 false→
 (decide ((0:Int)≤x.2.1)=true→
 k
 (PV.tup
 [PV.arr (8:Nat)
 (aq.ints .u16
 (List.replicate (8:Nat)
 (0:Int))),
 PV.bool false]))∧
 (decide ((0:Int)≤x.2.1)=false→
 aD
 (x.2.2.1+
 ↑(af
 (List.drop
 x.2.2.1.toNat
 l))+
 (1:Int)+
 (1:Int))∧
 (decide
 (x.2.2.1+
 ↑(af
 (List.drop
 x.2.2.1.toNat
 l))+
 (1:Int)+
 (1:Int)<
 ak l)=
 true→
 r6 (VS.mk []
 [((0:Nat),
 PV.str l),
 ((2:Nat),
 PV.ptr (34:Nat)
 (0:Nat)),
 ((3:Nat),
 PV.bool false),
 ((4:Nat),
 PV.ptr (36:Nat)
 (0:Nat)),
 ((5:Nat),
 PV.int
 .u32
 (0:Int)),
 ((6:Nat),
 PV.bool false),
 ((7:Nat),
 PV.int
 .i64
 (x.1+(1:Int))),
 ((8:Nat),
 PV.int
 .i64
 (x.1+(1:Int))),
 ((9:Nat),
 PV.int
 .i64
 (x.2.2.1+
 ↑(af
 (List.drop
 x.2.2.1.toNat
 l))+
 (1:Int)+
 (1:Int))),
 ((10:Nat),
 PV.undef),
 ((13:Nat),
 PV.undef),
 ((17:Nat),
 PV.undef),
 ((30:Nat),
 PV.undef),
 ((43:Nat),
 PV.undef),
 ((56:Nat),
 PV.undef),
 ((67:Nat),
 PV.undef),
 ((73:Nat),
 PV.undef),
 ((75:Nat),
 PV.undef),
 ((82:Nat),
 PV.undef),
 ((95:Nat),
 PV.undef),
 ((113:Nat),
 PV.undef),
 ((120:Nat),
 PV.undef)]
 [((36:Nat),
 PV.arr (8:Nat)
 (aq.ints
 .u16
 (bg
 x.2.2.2
 x.1
 (bW
 (bU l
 x.2.2.1
 (x.2.2.1+
 ↑(af
 (List.drop
 x.2.2.1.toNat
 l)))))))),
 ((34:Nat),
 PV.arr (8:Nat)
 (aq.ints
 .u16
 (List.replicate
 (8:Nat)
 (0:Int))))])∧
 (∃(acc:List Int),
 x.1+(1:Int)=
 ↑acc.length∧
 acc.length≤(8:Nat)∧
 bg x.2.2.2
 x.1
 (bW
 (bU l
 x.2.2.1
 (x.2.2.1+
 ↑(af
 (List.drop
 x.2.2.1.toNat
 l)))))=
 pad
 acc∧
 (-1:Int)≤
 x.1+
 (1:Int)∧
 x.1+(1:Int)≤
 x.1+
 (1:Int)∧
 (0:Int)≤
 x.2.2.1+
 ↑(af
 (List.drop
 x.2.2.1.toNat
 l))+
 (1:
 Int)+
 (1:Int)∧
 x.2.2.1+
 ↑(af
 (List.drop
 x.2.2.1.toNat
 l))+
 (1:
 Int)+
 (1:
 Int)≤
 ↑(List.length
 l)∧
 fM
 l
 ((9:
 Nat)-
 acc.length)
 acc
 (x.1+
 (1:
 Int))
 (x.2.2.1+
 ↑(af
 (List.drop
 x.2.2.1.toNat
 l))+
 (1:
 Int)+
 (1:
 Int)).toNat=
 ia
 l)∧
 ((9:Int)-
 (x.1+
 (1:Int))).toNat<
 ((9:Int)-x.1).toNat)∧
 (decide
 (x.2.2.1+
 ↑(af
 (List.drop
 x.2.2.1.toNat
 l))+
 (1:Int)+
 (1:Int)<
 ak l)=
 false→
 ((bif
 decide
 (x.1+(1:Int)<
 (0:Int))then
 decide
 (x.1+(1:Int)=
 (8:Int))
 else false)=
 true→
 k
 (PV.tup
 [PV.arr (8:Nat)
 (aq.ints
 .u16
 (bg
 x.2.2.2
 x.1
 (bW
 (bU l
 x.2.2.1
 (x.2.2.1+
 ↑(af
 (List.drop
 x.2.2.1.toNat
 l))))))),
 PV.bool true]))∧
 ((bif
 decide
 (x.1+(1:Int)<
 (0:Int))then
 decide
 (x.1+(1:Int)=
 (8:Int))
 else false)=
 false→
 ((bif
 decide
 ((0:Int)≤
 x.1+
 (1:
 Int))then
 decide
 (x.1+(1:Int)<
 (8:Int))
 else false)=
 true→
 ((bg x.2.2.2
 x.1
 (bW
 (bU l
 x.2.2.1
 (x.2.2.1+
 ↑(af
 (List.drop
 x.2.2.1.toNat
 l)))))).length=
 (8:Nat)∧
 (0:Int)≤
 x.1+
 (1:Int)∧
 x.1+(1:Int)≤
 x.1+
 (1:Int)∧
 x.1+
 (1:Int)≤
 (7:Int))∧
 k
 (PV.tup
 [PV.arr
 (8:Nat)
 (aq.ints
 .u16
 (bH
 (bg
 x.2.2.2
 x.1
 (bW
 (bU
 l
 x.2.2.1
 (x.2.2.1+
 ↑(af
 (List.drop
 x.2.2.1.toNat
 l))))))
 (x.1+
 (1:
 Int)).toNat
 (x.1+
 (1:
 Int)).toNat)),
 PV.bool
 true]))∧
 ((bif
 decide
 ((0:Int)≤
 x.1+
 (1:
 Int))then
 decide
 (x.1+(1:Int)<
 (8:Int))
 else false)=
 false→
 k
 (PV.tup
 [PV.arr
 (8:Nat)
 (aq.ints
 .u16
 (List.replicate
 (8:Nat)
 (0:Int))),
 PV.bool
 false])))))))))))∧
 (decide
 ((2:Int)+
 ↑(af (List.drop (Int.toNat (2:Int)) l))+
 (1:Int)+
 (1:Int)<
 ak l)=
 false→
 (false=true→
 k
 (PV.tup
 [PV.arr (8:Nat)
 (aq.ints .u16
 (bg (List.replicate (8:Nat) (0:Int)) (0:Int)
 (bW
 (bU l (2:Int)
 ((2:Int)+
 ↑(af
 (List.drop (Int.toNat (2:Int)) l))))))),
 PV.bool true]))∧
 (false=false→
 (decide ((0:Int)+(1:Int)<(8:Int))=true→
 ((bg (List.replicate (8:Nat) (0:Int)) (0:Int)
 (bW
 (bU l (2:Int)
 ((2:Int)+
 ↑(af
 (List.drop (Int.toNat (2:Int)) l)))))).length=
 (8:Nat)∧
 (0:Int)≤(0:Int)+(1:Int)∧
 (0:Int)+(1:Int)≤(0:Int)+(1:Int)∧
 (0:Int)+(1:Int)≤(7:Int))∧
 k
 (PV.tup
 [PV.arr (8:Nat)
 (aq.ints .u16
 (bH
 (bg (List.replicate (8:Nat) (0:Int)) (0:Int)
 (bW
 (bU l (2:Int)
 ((2:Int)+
 ↑(af
 (List.drop (Int.toNat (2:Int)) l))))))
 ((0:Int)+(1:Int)).toNat ((0:Int)+(1:Int)).toNat)),
 PV.bool true]))∧
 (decide ((0:Int)+(1:Int)<(8:Int))=false→
 k
 (PV.tup
 [PV.arr (8:Nat)
 (aq.ints .u16 (List.replicate (8:Nat) (0:Int))),
 PV.bool false]))))))))))))):=by kernel_rfl
attribute [local irreducible] Go.Vc.cC
theorem CP(l:Bs):ag Tryz.prog ay 170 [.str l] ⟨l.length≤1000000,.tup [.arr 8 (.ints .u16 (ia l).1),.bool (ia l).2]⟩:=cj (by kernel_rfl) wP (H:=wO l) (fuel:=1000) Tryz.func170 (by kernel_rfl) fun hpre=>(CO l _).mpr (by
 refine ⟨trivial,fun hp=>⟨rfl,⟨[],rfl,by decide,rfl,by omega,by omega,by omega,by omega,?_⟩,fun x hx=>?_⟩,fun hp=>⟨fun h2=>?_,fun h2=>?_⟩⟩
 ·rw [I3]at hp
  have hp2:¬Lib.hasPrefix l [58,58]=true:=hp
  show fM l 9 [] (-1) 0=ia l
  unfold ia
  rw [if_neg hp2]
 ·obtain ⟨c,g,a,p⟩:=x
  obtain ⟨acc,hC,h8,hp',g1,g2,a0,a1,hs⟩:=hx
  dsimp only at hC hp' g1 g2 a0 a1 hs
  subst hC hp'
  obtain ⟨i,rfl⟩:=Int.eq_ofNat_of_zero_le a0
  rw [Int.toNat_natCast]at hs
  have hE:(i:Int)+((af (l.drop ((i:Int).toNat)):Nat):Int)=((i+af (l.drop i):Nat):Int):=by rw [Int.toNat_natCast];push_cast;rfl
  refine mh (fun v=>v=.tup [.arr 8 (.ints .u16 (ia l).1),.bool (ia l).2]) _ _ l g i (i+af (l.drop i)) acc (ia l) hpre h8 g1 g2 (by omega) rfl hs rfl (fun a h1 h2 h3 h4 h5=>?_) (fun a h1 h2 h3 h4 h5=>?_)
  ·exact ⟨rfl,⟨a,by rw [h1];push_cast;rfl,h3,by rw [hE];exact h2,g1,by dsimp only;omega,by dsimp only;omega,by dsimp only;rw [hE];omega,by rw [hE,show((i+af (l.drop i):Nat):Int)+1=((i+af (l.drop i)+1:Nat):Int) by push_cast;rfl,Int.toNat_natCast];exact h5⟩,by dsimp only;omega⟩
  ·exact ⟨rfl,⟨a,by rw [h1];push_cast;rfl,h3,by rw [hE];exact h2,by dsimp only;omega,by dsimp only;omega,by dsimp only;omega,by dsimp only;rw [hE];omega,by rw [hE,show((i+af (l.drop i):Nat):Int)+1+1=((i+af (l.drop i)+2:Nat):Int) by push_cast;omega,Int.toNat_natCast];exact h5⟩,by dsimp only;omega⟩
 ·have hp2:Lib.hasPrefix l [58,58]=true:=by
   have hp3:(!Lib.hasPrefix l [58,58])=false:=hp
   rw [Bool.not_eq_false']at hp3
   exact hp3
  have h3:l.length=2:=by have h4:(2:Int)=(l.length:Int):=of_decide_eq_true h2;omega
  have h5:ia l=(bH (pad []) 0 0,true):=by unfold ia;rw [if_pos hp2,if_pos h3];rfl
  refine ⟨(fun h=>by cases h),fun _=>⟨fun _=>⟨⟨rfl,by omega,by omega,by omega⟩,?_⟩,(fun h=>by cases h)⟩⟩
  show PV.tup _=PV.tup _
  rw [h5]
  rfl
 ·have hp2:Lib.hasPrefix l [58,58]=true:=by
   have hp3:(!Lib.hasPrefix l [58,58])=false:=hp
   rw [Bool.not_eq_false']at hp3
   exact hp3
  have h3:¬l.length=2:=by have h4:¬(2:Int)=(l.length:Int):=of_decide_eq_false h2;omega
  have h5:fM l 9 [] 0 2=ia l:=by unfold ia;rw [if_pos hp2,if_neg h3]
  have h6:2≤l.length:=Hn hp2
  refine mh (fun v=>v=.tup [.arr 8 (.ints .u16 (ia l).1),.bool (ia l).2]) _ _ l 0 2 (2+af (l.drop 2)) [] (ia l) hpre (by decide) (by omega) (by simp) h6 rfl h5 rfl (fun a h1 h2 h3 h4 h5=>?_) (fun a h1 h2 h3 h4 h5=>?_)
  ·refine ⟨rfl,⟨a,by rw [h1];rfl,h3,h2,by omega,by omega,by omega,by show(2:Int)+((af (l.drop 2):Nat):Int)+1≤_;omega,?_⟩,fun x hx=>?_⟩
   ·rw [show((2:Int)+((af (l.drop (Int.toNat 2)):Nat):Int)+1).toNat=2+af (l.drop 2)+1 by show((2:Int)+((af (l.drop 2):Nat):Int)+1).toNat=_;omega]
    exact h5
   ·obtain ⟨c,g,a,p⟩:=x
    obtain ⟨acc,hC,h8,hp',g1,g2,a0,a1,hs⟩:=hx
    dsimp only at hC hp' g1 g2 a0 a1 hs
    subst hC hp'
    obtain ⟨i,rfl⟩:=Int.eq_ofNat_of_zero_le a0
    rw [Int.toNat_natCast]at hs
    have hE:(i:Int)+((af (l.drop ((i:Int).toNat)):Nat):Int)=((i+af (l.drop i):Nat):Int):=by rw [Int.toNat_natCast];push_cast;rfl
    refine mh (fun v=>v=.tup [.arr 8 (.ints .u16 (ia l).1),.bool (ia l).2]) _ _ l g i (i+af (l.drop i)) acc (ia l) hpre h8 g1 g2 (by omega) rfl hs rfl (fun a h1 h2 h3 h4 h5=>?_) (fun a h1 h2 h3 h4 h5=>?_)
    ·exact ⟨rfl,⟨a,by rw [h1];push_cast;rfl,h3,by rw [hE];exact h2,g1,by dsimp only;omega,by dsimp only;omega,by dsimp only;rw [hE];omega,by rw [hE,show((i+af (l.drop i):Nat):Int)+1=((i+af (l.drop i)+1:Nat):Int) by push_cast;rfl,Int.toNat_natCast];exact h5⟩,by dsimp only;omega⟩
    ·exact ⟨rfl,⟨a,by rw [h1];push_cast;rfl,h3,by rw [hE];exact h2,by dsimp only;omega,by dsimp only;omega,by dsimp only;omega,by dsimp only;rw [hE];omega,by rw [hE,show((i+af (l.drop i):Nat):Int)+1+1=((i+af (l.drop i)+2:Nat):Int) by push_cast;omega,Int.toNat_natCast];exact h5⟩,by dsimp only;omega⟩
  ·refine ⟨rfl,⟨a,by rw [h1];rfl,h3,h2,by omega,by omega,by omega,by show(2:Int)+((af (l.drop 2):Nat):Int)+1+1≤_;omega,?_⟩,fun x hx=>?_⟩
   ·rw [show((2:Int)+((af (l.drop (Int.toNat 2)):Nat):Int)+1+1).toNat=2+af (l.drop 2)+2 by show((2:Int)+((af (l.drop 2):Nat):Int)+1+1).toNat=_;omega]
    exact h5
   ·obtain ⟨c,g,a,p⟩:=x
    obtain ⟨acc,hC,h8,hp',g1,g2,a0,a1,hs⟩:=hx
    dsimp only at hC hp' g1 g2 a0 a1 hs
    subst hC hp'
    obtain ⟨i,rfl⟩:=Int.eq_ofNat_of_zero_le a0
    rw [Int.toNat_natCast]at hs
    have hE:(i:Int)+((af (l.drop ((i:Int).toNat)):Nat):Int)=((i+af (l.drop i):Nat):Int):=by rw [Int.toNat_natCast];push_cast;rfl
    refine mh (fun v=>v=.tup [.arr 8 (.ints .u16 (ia l).1),.bool (ia l).2]) _ _ l g i (i+af (l.drop i)) acc (ia l) hpre h8 g1 g2 (by omega) rfl hs rfl (fun a h1 h2 h3 h4 h5=>?_) (fun a h1 h2 h3 h4 h5=>?_)
    ·exact ⟨rfl,⟨a,by rw [h1];push_cast;rfl,h3,by rw [hE];exact h2,g1,by dsimp only;omega,by dsimp only;omega,by dsimp only;rw [hE];omega,by rw [hE,show((i+af (l.drop i):Nat):Int)+1=((i+af (l.drop i)+1:Nat):Int) by push_cast;rfl,Int.toNat_natCast];exact h5⟩,by dsimp only;omega⟩
    ·exact ⟨rfl,⟨a,by rw [h1];push_cast;rfl,h3,by rw [hE];exact h2,by dsimp only;omega,by dsimp only;omega,by dsimp only;omega,by dsimp only;rw [hE];omega,by rw [hE,show((i+af (l.drop i):Nat):Int)+1+1=((i+af (l.drop i)+2:Nat):Int) by push_cast;omega,Int.toNat_natCast];exact h5⟩,by dsimp only;omega⟩)
def lg:List PV→Option aI:=fun xs=>match xs with
 |[.str l]=>some ⟨l.length≤1000000,.tup [.arr 8 (.ints .u16 (ia l).1),.bool (ia l).2]⟩
 |_=>none
theorem rD:∀xs c,lg xs=some c→ag Tryz.prog ay 170 xs c:=fun xs c h=>by
 unfold lg at h
 split at h
 ·injection h with h;subst h;exact CP _
 ·cases h
end
section
def Bc:cq:=bN []
def Bd(z:Int):aY:=fun i=>none
theorem zm:cS Tryz.prog ay Bc:=ax
theorem E5(z:Int)(k:PV→Prop):cC Tryz.prog Bc ay (Bd z) 1000 Tryz.f155 [.int .u8 z] k=(
 k (PV.bool (bif decide ((48:Int)≤z)then decide (z≤(57:Int))else false))):=by kernel_rfl
attribute [local irreducible] Go.Vc.cC
theorem E6(z:Int):ag Tryz.prog ay 155 [.int .u8 z] ⟨True,.bool (decide (48≤z∧z≤57))⟩:=cj (by kernel_rfl) zm (H:=Bd z) (fuel:=1000) Tryz.func155 (by kernel_rfl) fun hpre=>(E5 z _).mpr (by
 show PV.bool _=PV.bool _
 congr 1
 by_cases h:48≤z<;>simp [h])
def iG:List PV→Option aI:=fun xs=>match xs with
 |[.int .u8 z]=>some ⟨True,.bool (decide (48≤z∧z≤57))⟩
 |_=>none
theorem jd:∀xs c,iG xs=some c→ag Tryz.prog ay 155 xs c:=fun xs c h=>by
 unfold iG at h
 split at h
 ·injection h with h;subst h;exact E6 _
 ·cases h
end
section
def fU(z:Int):Int:=if 48≤z∧z≤57 then z-48 else if 97≤z∧z≤102 then z-87 else if 65≤z∧z≤70 then z-55 else -1
def I4:cq:=bN [(155,iG)]
def I5(z:Int):aY:=fun i=>none
theorem E7:cS Tryz.prog ay I4:=ai jd (ax)
theorem JT(z:Int)(k:PV→Prop):cC Tryz.prog I4 ay (I5 z) 1000 Tryz.f184 [.int .u8 z] k=(
 True∧
 (decide ((48:Int)≤z∧z≤(57:Int))=true→k (PV.int .i64 (Go.IntKind.i64.wrap (Go.IntKind.u8.wrap (z-(48:Int))))))∧
 (decide ((48:Int)≤z∧z≤(57:Int))=false→
 ((bif decide ((97:Int)≤z)then decide (z≤(102:Int))else false)=true→
 aD (Go.IntKind.i64.wrap (Go.IntKind.u8.wrap (z-(97:Int)))+(10:Int))∧
 k (PV.int .i64 (Go.IntKind.i64.wrap (Go.IntKind.u8.wrap (z-(97:Int)))+(10:Int))))∧
 ((bif decide ((97:Int)≤z)then decide (z≤(102:Int))else false)=false→
 ((bif decide ((65:Int)≤z)then decide (z≤(70:Int))else false)=true→
 aD (Go.IntKind.i64.wrap (Go.IntKind.u8.wrap (z-(65:Int)))+(10:Int))∧
 k (PV.int .i64 (Go.IntKind.i64.wrap (Go.IntKind.u8.wrap (z-(65:Int)))+(10:Int))))∧
 ((bif decide ((65:Int)≤z)then decide (z≤(70:Int))else false)=false→k (PV.int .i64 (-1:Int)))))):=by kernel_rfl
attribute [local irreducible] Go.Vc.cC
theorem JU(z:Int):ag Tryz.prog ay 184 [.int .u8 z] ⟨0≤z∧z≤255,.int .i64 (fU z)⟩:=cj (by kernel_rfl) E7 (H:=I5 z) (fuel:=1000) Tryz.func184 (by kernel_rfl) fun hpre=>(JT z _).mpr (by
 have w8:∀a:Int,0≤a∧a≤15→IntKind.u8.wrap a=a:=fun a h=>IntWalk.u8_in _ (by omega)
 have w64:∀a:Int,0≤a∧a≤15→IntKind.i64.wrap a=a:=fun a h=>IntWalk.i64_in _ (by omega)
 have yes:∀a b:Int,(bif decide (a≤z)then decide (z≤b)else false)=true→a≤z∧z≤b:=fun a b h=>by
  cases e:decide (a≤z)with
  |false=>rw [e]at h;cases h
  |true=>rw [e]at h;exact ⟨of_decide_eq_true e,of_decide_eq_true h⟩
 have no:∀a b:Int,(bif decide (a≤z)then decide (z≤b)else false)=false→¬(a≤z∧z≤b):=fun a b h g=>by
  rw [decide_eq_true g.1,decide_eq_true g.2]at h
  cases h
 refine ⟨trivial,fun h=>?_,fun h=>⟨fun h2=>?_,fun h2=>⟨fun h3=>?_,fun h3=>?_⟩⟩⟩
 ·have h1:=of_decide_eq_true h
  rw [w8 _ (by omega),w64 _ (by omega)]
  unfold fU;rw [if_pos h1]
 ·have h1:=of_decide_eq_false h
  have h4:=yes _ _ h2
  rw [w8 _ (by omega),w64 _ (by omega)]
  refine ⟨by unfold aD;omega,?_⟩
  unfold fU;rw [if_neg h1,if_pos h4];congr 1;omega
 ·have h1:=of_decide_eq_false h
  have h5:=no _ _ h2
  have h4:=yes _ _ h3
  rw [w8 _ (by omega),w64 _ (by omega)]
  refine ⟨by unfold aD;omega,?_⟩
  unfold fU;rw [if_neg h1,if_neg h5,if_pos h4];congr 1;omega
 ·have h1:=of_decide_eq_false h
  unfold fU;rw [if_neg h1,if_neg (no _ _ h2),if_neg (no _ _ h3)])
def uC:List PV→Option aI:=fun xs=>match xs with
 |[.int .u8 z]=>some ⟨0≤z∧z≤255,.int .i64 (fU z)⟩
 |_=>none
theorem zn:∀xs c,uC xs=some c→ag Tryz.prog ay 184 xs c:=fun xs c h=>by
 unfold uC at h
 split at h
 ·injection h with h;subst h;exact JU _
 ·cases h
end
section
def cl:Bs→Bs
 |[]=>[]
 |b::r=>match r with
  |h::g::t=>if b.toNat=37∧0≤fU h.toNat∧0≤fU g.toNat then bR (fU h.toNat*16+fU g.toNat)::cl t else b::cl (h::g::t)
  |[h]=>[b,h]
  |[]=>[b]
theorem CQ(b:UInt8)(r:Bs):cl (b::r)=if b.toNat=37∧2≤r.length∧0≤fU (aK r 0)∧0≤fU (aK r 1)then bR (fU (aK r 0)*16+fU (aK r 1))::cl (r.drop 2)else b::cl r:=by
 match r with
 |[]=>rw [if_neg (fun h=>by have:=h.2.1;simp at this)];rfl
 |[h]=>rw [if_neg (fun h=>by have:=h.2.1;simp at this)];rfl
 |h::g::t=>
  show(if b.toNat=37∧0≤fU h.toNat∧0≤fU g.toNat then bR (fU h.toNat*16+fU g.toNat)::cl t else b::cl (h::g::t))=_
  have e0:aK (h::g::t) 0=(h.toNat:Int):=rfl
  have e1:aK (h::g::t) 1=(g.toNat:Int):=rfl
  rw [e0,e1]
  by_cases hc:b.toNat=37∧0≤fU h.toNat∧0≤fU g.toNat
  ·rw [if_pos hc,if_pos ⟨hc.1,by simp,hc.2.1,hc.2.2⟩];rfl
  ·rw [if_neg hc,if_neg (fun h=>hc ⟨h.1,h.2.2.1,h.2.2.2⟩)]
theorem E8(z:Int):fU z≤15:=by unfold fU;repeat' split;all_goals omega
theorem JV {h g:Int}(h0:0≤h)(h1:h≤15)(g0:0≤g)(g1:g≤15):IntKind.u8.wrap (fB .or .i64 (vH .i64 h 4) g)=h*16+g:=by
 have key:∀a b:Fin 16,IntKind.u8.wrap (fB .or .i64 (vH .i64 (a.val:Int) 4) (b.val:Int))=(a.val:Int)*16+(b.val:Int):=by decide+kernel
 have:=key ⟨h.toNat,by omega⟩ ⟨g.toNat,by omega⟩
 dsimp only at this
 rw [show((h.toNat:Nat):Int)=h by omega,show((g.toNat:Nat):Int)=g by omega]at this
 exact this
theorem zo(l:Bs)(j:Nat):al l (j:Int)=aK l j:=rfl
theorem E9(l:Bs)(j:Nat)(h:j<l.length):l.drop j=bR (aK l j)::l.drop (j+1):=by
 rw [List.drop_eq_getElem_cons h]
 congr 1
 show _=bR (al l (j:Int))
 rw [jH]
 rw [List.getD_eq_getElem?_getD,Int.toNat_natCast,List.getElem?_eq_getElem h];rfl
theorem sX(l:Bs)(i j:Nat):aK (l.drop i) j=aK l (i+j):=by unfold aK;rw [List.getD_eq_getElem?_getD,List.getD_eq_getElem?_getD,List.getElem?_drop]
theorem JW {b:Int}(h0:0≤b)(h1:b≤255):(((bR b).toNat:Nat):Int)=b:=by
 unfold bR
 rw [show(UInt8.ofNat b.toNat).toNat=b.toNat %256 from UInt8.toNat_ofNat' ..]
 omega
theorem kj(l:Bs)(j:Nat):0≤aK l j∧aK l j≤255:=gN l (j:Int)
theorem Be(l:Bs)(j:Nat)(h:j<l.length):cl (l.drop j)=if aK l j=37∧j+2<l.length∧0≤fU (aK l (j+1))∧0≤fU (aK l (j+2))then bR (fU (aK l (j+1))*16+fU (aK l (j+2)))::cl (l.drop (j+3))else bR (aK l j)::cl (l.drop (j+1)):=by
 have hr:=kj l j
 have e:((bR (aK l j)).toNat=37)↔aK l j=37:=by have:=JW hr.1 hr.2;omega
 rw [E9 l j h,CQ,sX,sX,List.length_drop,List.drop_drop]
 by_cases hc:aK l j=37∧j+2<l.length∧0≤fU (aK l (j+1))∧0≤fU (aK l (j+2))
 ·rw [if_pos hc,if_pos ⟨e.2 hc.1,by omega,hc.2.2.1,hc.2.2.2⟩]
 ·rw [if_neg hc,if_neg (fun g=>hc ⟨e.1 g.1,by omega,g.2.2.1,g.2.2.2⟩)]
def zp(l:Bs)(o:Bool×Bs)(i:Int):Prop:=∃j:Nat,i=j∧j≤l.length∧o.1=false∧o.2++cl (l.drop j)=cl l∧o.2.length≤j
def Fa:cq:=bN [(184,uC)]
def Fb(l:Bs):aY:=fun i=>bif Nat.beq i 3 then some ⟨(Bool×Bs)×(Int),(fun s x=>(((((((s.row s 3 x.1.1 (.bytes x.1.2)).put 4 (.int .i64 x.2)).put 5 .undef).put 6 .undef).put 13 .undef).put 26 .undef).put 42 .undef)),(fun s=>((s.nil 3,s.bytes 3),s.int 4)),(fun s x=>let b:=x.1;let i:=x.2;zp l b i),(fun s x=>let b:=x.1;let i:=x.2;((l.length:Int)-i).toNat),[5,6,13,26,42]⟩else none
theorem CR:cS Tryz.prog ay Fa:=ai zn (ax)
theorem Ho(l:Bs)(k:PV→Prop):cC Tryz.prog Fa ay (Fb l) 1000 Tryz.f171 [.str l] k=(
 ((0:Int)≤(0:Int)∧(0:Int)≤ak l∧ak l≤dd)∧
 VS.mk []
 [(0,PV.str l),(2,PV.row true (aq.bytes []) ((2:Nat)+(32:Nat))),
 (3,PV.row false (aq.bytes (List.replicate (Int.toNat (0:Int)) (0:UInt8))) ((9:Nat)+(32:Nat))),
 (4,PV.int .i64 (0:Int)),((5:Nat),PV.undef),((6:Nat),PV.undef),((13:Nat),PV.undef),
 ((26:Nat),PV.undef),((42:Nat),PV.undef)]
 []=
 VS.mk []
 [(0,PV.str l),(2,PV.row true (aq.bytes []) ((2:Nat)+(32:Nat))),
 ((3:Nat),PV.row false (aq.bytes (List.replicate (Int.toNat (0:Int)) (0:UInt8))) ((9:Nat)+(32:Nat))),
 ((4:Nat),PV.int .i64 (0:Int)),((5:Nat),PV.undef),((6:Nat),PV.undef),((13:Nat),PV.undef),
 ((26:Nat),PV.undef),((42:Nat),PV.undef)]
 []∧
 zp l (false,List.replicate (Int.toNat (0:Int)) (0:UInt8)) (0:Int)∧
 ∀(x:(Bool×Bs)×Int),
 zp l x.1 x.2→
 (decide (x.2<ak l)=true→
 within x.2 (ak l)∧
 (decide (al l x.2=(37:Int))=true→aD (x.2+(2:Int)))∧
 ((bif decide (al l x.2=(37:Int))then decide (x.2+(2:Int)<ak l)else false)=true→
 aD (x.2+(1:Int))∧
 within (x.2+(1:Int)) (ak l)∧
 ((0:Int)≤al l (x.2+(1:Int))∧al l (x.2+(1:Int))≤(255:Int))∧
 aD (x.2+(2:Int))∧
 within (x.2+(2:Int)) (ak l)∧
 ((0:Int)≤al l (x.2+(2:Int))∧al l (x.2+(2:Int))≤(255:Int))∧
 ((bif decide ((0:Int)≤fU (al l (x.2+(1:Int))))then
 decide ((0:Int)≤fU (al l (x.2+(2:Int))))
 else false)=
 true→
 (0:Int)≤(4:Int)∧
 lD
 [PV.int .u8
 (Go.IntKind.u8.wrap
 (fB Go.BinOp.or .i64
 (vH .i64 (fU (al l (x.2+(1:Int))))
 (4:Int))
 (fU (al l (x.2+(2:Int))))))]∧
 Int.ofNat
 (List.length
 (x.1.2++
 [bR
 (Go.IntKind.u8.wrap
 (fB Go.BinOp.or .i64
 (vH .i64
 (fU (al l (x.2+(1:Int)))) (4:Int))
 (fU (al l (x.2+(2:Int))))))]))≤
 dd∧
 aD (x.2+(2:Int))∧
 aD (x.2+(2:Int)+(1:Int))∧
 VS.mk []
 [(0,PV.str l),
 (2,PV.row true (aq.bytes []) ((2:Nat)+(32:Nat))),
 ((3:Nat),
 PV.row false
 (aq.bytes
 (x.1.2++
 [bR
 (Go.IntKind.u8.wrap
 (fB Go.BinOp.or .i64
 (vH .i64
 (fU (al l (x.2+(1:Int))))
 (4:Int))
 (fU (al l (x.2+(2:Int))))))]))
 (nat_lit 40+(1:Nat))),
 ((4:Nat),PV.int .i64 (x.2+(2:Int)+(1:Int))),((5:Nat),PV.undef),
 ((6:Nat),PV.undef),((13:Nat),PV.undef),((26:Nat),PV.undef),
 ((42:Nat),PV.undef)]
 []=
 VS.mk []
 [(0,PV.str l),
 (2,PV.row true (aq.bytes []) ((2:Nat)+(32:Nat))),
 ((3:Nat),
 PV.row false
 (aq.bytes
 (x.1.2++
 [bR
 (Go.IntKind.u8.wrap
 (fB Go.BinOp.or .i64
 (vH .i64
 (fU (al l (x.2+(1:Int))))
 (4:Int))
 (fU (al l (x.2+(2:Int))))))]))
 ((9:Nat)+(32:Nat))),
 ((4:Nat),PV.int .i64 (x.2+(2:Int)+(1:Int))),((5:Nat),PV.undef),
 ((6:Nat),PV.undef),((13:Nat),PV.undef),((26:Nat),PV.undef),
 ((42:Nat),PV.undef)]
 []∧
 zp l
 (false,
 x.1.2++
 [bR
 (Go.IntKind.u8.wrap
 (fB Go.BinOp.or .i64
 (vH .i64
 (fU (al l (x.2+(1:Int)))) (4:Int))
 (fU (al l (x.2+(2:Int))))))])
 (x.2+(2:Int)+(1:Int))∧
 (↑(List.length l)-(x.2+(2:Int)+(1:Int))).toNat<(↑(List.length l)-x.2).toNat)∧
 ((bif decide ((0:Int)≤fU (al l (x.2+(1:Int))))then
 decide ((0:Int)≤fU (al l (x.2+(2:Int))))
 else false)=
 false→
 within x.2 (ak l)∧
 lD [PV.int .u8 (al l x.2)]∧
 Int.ofNat (List.length (x.1.2++[bR (al l x.2)]))≤dd∧
 aD (x.2+(1:Int))∧
 VS.mk []
 [(0,PV.str l),(2,PV.row true (aq.bytes []) ((2:Nat)+(32:Nat))),
 ((3:Nat),
 PV.row false (aq.bytes (x.1.2++[bR (al l x.2)]))
 (nat_lit 40+(1:Nat))),
 ((4:Nat),PV.int .i64 (x.2+(1:Int))),((5:Nat),PV.undef),
 ((6:Nat),PV.undef),((13:Nat),PV.undef),((26:Nat),PV.undef),
 ((42:Nat),PV.undef)]
 []=
 VS.mk []
 [(0,PV.str l),(2,PV.row true (aq.bytes []) ((2:Nat)+(32:Nat))),
 ((3:Nat),
 PV.row false (aq.bytes (x.1.2++[bR (al l x.2)]))
 ((9:Nat)+(32:Nat))),
 ((4:Nat),PV.int .i64 (x.2+(1:Int))),((5:Nat),PV.undef),
 ((6:Nat),PV.undef),((13:Nat),PV.undef),((26:Nat),PV.undef),
 ((42:Nat),PV.undef)]
 []∧
 zp l (false,x.1.2++[bR (al l x.2)])
 (x.2+(1:Int))∧
 (↑(List.length l)-(x.2+(1:Int))).toNat<(↑(List.length l)-x.2).toNat))∧
 ((bif decide (al l x.2=(37:Int))then decide (x.2+(2:Int)<ak l)else false)=false→
 within x.2 (ak l)∧
 lD [PV.int .u8 (al l x.2)]∧
 Int.ofNat (List.length (x.1.2++[bR (al l x.2)]))≤dd∧
 aD (x.2+(1:Int))∧
 VS.mk []
 [(0,PV.str l),(2,PV.row true (aq.bytes []) ((2:Nat)+(32:Nat))),
 ((3:Nat),
 PV.row false (aq.bytes (x.1.2++[bR (al l x.2)])) (nat_lit 40+(1:Nat))),
 ((4:Nat),PV.int .i64 (x.2+(1:Int))),((5:Nat),PV.undef),((6:Nat),PV.undef),
 ((13:Nat),PV.undef),((26:Nat),PV.undef),((42:Nat),PV.undef)]
 []=
 VS.mk []
 [(0,PV.str l),(2,PV.row true (aq.bytes []) ((2:Nat)+(32:Nat))),
 ((3:Nat),
 PV.row false (aq.bytes (x.1.2++[bR (al l x.2)])) ((9:Nat)+(32:Nat))),
 ((4:Nat),PV.int .i64 (x.2+(1:Int))),((5:Nat),PV.undef),((6:Nat),PV.undef),
 ((13:Nat),PV.undef),((26:Nat),PV.undef),((42:Nat),PV.undef)]
 []∧
 zp l (false,x.1.2++[bR (al l x.2)]) (x.2+(1:Int))∧
 (↑(List.length l)-(x.2+(1:Int))).toNat<(↑(List.length l)-x.2).toNat))∧
 (decide (x.2<ak l)=false→k (PV.row x.1.1 (aq.bytes x.1.2) (0:Nat)))):=by kernel_rfl
attribute [local irreducible] Go.Vc.cC
theorem Hp(l:Bs):ag Tryz.prog ay 171 [.str l] ⟨l.length≤1000000,.row false (.bytes (cl l)) 0⟩:=cj (by kernel_rfl) CR (H:=Fb l) (fuel:=1000) Tryz.func171 (by kernel_rfl) fun hpre=>(Ho l _).mpr (by
 obtain hl:=hpre
 refine ⟨⟨by omega,by unfold ak;omega,by unfold ak;show _ ≤(16777216:Int);omega⟩,rfl,⟨0,rfl,by omega,rfl,rfl,by show 0≤0;omega⟩,fun x hx=>?_⟩
 obtain ⟨⟨nl,o⟩,i⟩:=x
 obtain ⟨j,h1,h2,h3,h4,h5⟩:=hx
 dsimp only at h1 h2 h3 h4 h5⊢
 subst h1 h3
 have e1:(j:Int)+1=((j+1:Nat):Int):=by push_cast;rfl
 have e2:(j:Int)+2=((j+2:Nat):Int):=by push_cast;rfl
 have e3:((j+2:Nat):Int)+1=((j+3:Nat):Int):=by push_cast;rfl
 have hu:∀z:Int,0≤z∧z≤255→lD [.int .u8 z]:=fun z hz=>by simp [lD];exact hz
 rw [e1,e2,e3,zo l j,zo l (j+1),zo l (j+2)]
 have r0:=kj l j
 have r1:=kj l (j+1)
 have r2:=kj l (j+2)
 have hm:(o++[bR 0]).length=o.length+1:=by rw [List.length_append];rfl
 have stay:j<l.length→(aK l j=37∧j+2<l.length∧0≤fU (aK l (j+1))∧0≤fU (aK l (j+2))→False)→zp l (false,o++[bR (aK l j)]) ((j+1:Nat):Int):=fun hj hc=>by
  refine ⟨j+1,rfl,by omega,rfl,?_,by show(o++[_]).length≤_;rw [List.length_append];show o.length+1≤_;omega⟩
  show(o++[_])++_=_
  rw [←h4,Be l j hj,if_neg hc,List.append_assoc];rfl
 refine ⟨fun h=>?_,fun h=>?_⟩
 ·have hj:j<l.length:=by have:=of_decide_eq_true h;unfold ak at this;omega
  refine ⟨by unfold within ak;omega,fun _=>by unfold aD;omega,fun hc=>?_,fun hc=>?_⟩
  ·have hb:aK l j=37∧j+2<l.length:=by
    cases e:decide (aK l j=37)with
    |false=>rw [e]at hc;cases hc
    |true=>rw [e]at hc;exact ⟨of_decide_eq_true e,by have:=of_decide_eq_true hc;unfold ak at this;omega⟩
   refine ⟨by unfold aD;omega,by unfold within ak;omega,r1,by unfold aD;omega,by unfold within ak;omega,r2,fun hd=>?_,fun hd=>?_⟩
   ·have hh:0≤fU (aK l (j+1))∧0≤fU (aK l (j+2)):=by
     cases e:decide (0≤fU (aK l (j+1)))with
     |false=>rw [e]at hd;cases hd
     |true=>rw [e]at hd;exact ⟨of_decide_eq_true e,of_decide_eq_true hd⟩
    have le1:=E8 (aK l (j+1))
    have le2:=E8 (aK l (j+2))
    rw [JV hh.1 le1 hh.2 le2]
    refine ⟨by omega,hu _ (by omega),?_,by unfold aD;omega,by unfold aD;omega,rfl,⟨j+3,rfl,by omega,rfl,?_,?_⟩,by omega⟩
    ·rw [List.length_append];show((o.length+1:Nat):Int)≤16777216;omega
    ·show(o++[_])++_=_
     rw [←h4,Be l j hj,if_pos ⟨hb.1,hb.2,hh.1,hh.2⟩,List.append_assoc];rfl
    ·show(o++[_]).length≤_;rw [List.length_append];show o.length+1≤_;omega
   ·refine ⟨by unfold within ak;omega,hu _ r0,?_,by unfold aD;omega,rfl,stay hj (fun g=>?_),by omega⟩
    ·rw [List.length_append];show((o.length+1:Nat):Int)≤16777216;omega
    ·rw [decide_eq_true g.2.2.1,decide_eq_true g.2.2.2]at hd;cases hd
  ·refine ⟨by unfold within ak;omega,hu _ r0,?_,by unfold aD;omega,rfl,stay hj (fun g=>?_),by omega⟩
   ·rw [List.length_append];show((o.length+1:Nat):Int)≤16777216;omega
   ·rw [decide_eq_true g.1,decide_eq_true (show((j+2:Nat):Int)<ak l by unfold ak;omega)]at hc;cases hc
 ·have hj:j=l.length:=by have:=of_decide_eq_false h;unfold ak at this;omega
  subst hj
  rw [List.drop_length]at h4
  have:o=cl l:=by rw [←h4];exact (List.append_nil o).symm
  show PV.row false _ _=PV.row false _ _
  rw [this])
def qj:List PV→Option aI:=fun xs=>match xs with
 |[.str l]=>some ⟨l.length≤1000000,.row false (.bytes (cl l)) 0⟩
 |_=>none
theorem wQ:∀xs c,qj xs=some c→ag Tryz.prog ay 171 xs c:=fun xs c h=>by
 unfold qj at h
 split at h
 ·injection h with h;subst h;exact Hp _
 ·cases h
end
section
theorem JX {n:Nat}{i:Int}(h:decide (i<(n:Int))=true):i<n:=of_decide_eq_true h
def qk(c:UInt8):UInt8:=if 65≤c.toNat∧c.toNat≤90 then c+32 else c
def cc(l:Bs):Bs:=l.map qk
theorem Hq {l:Bs}{z:Int}(h0:0≤z)(h1:z<(l.length:Int)):(cc l)[z.toNat]?=some (qk (l.getD z.toNat 0)):=by
 have:z.toNat<l.length:=by omega
 unfold cc
 rw [List.getElem?_map,List.getElem?_eq_getElem this,List.getD_eq_getElem?_getD,List.getElem?_eq_getElem this]
 rfl
theorem Hr {l:Bs}{z:Int}(h:(bif decide ((65:Int)≤al l z)then decide (al l z≤(90:Int))else false)=true):IntKind.u8.wrap (al l z+(32:Int))=al l z+32∧al l z≤90∧bR (al l z+32)=qk (l.getD z.toNat 0):=by
 have hr:=gN l z
 cases h1:decide ((65:Int)≤al l z)with
 |false=>rw [h1]at h;cases h
 |true=>
  rw [h1]at h
  have h2:al l z≤90:=of_decide_eq_true h
  have h3:65≤al l z:=of_decide_eq_true h1
  refine ⟨IntWalk.u8_in _ (by omega),h2,?_⟩
  unfold al at h2 h3
  unfold qk bR al
  rw [if_pos (by omega)]
  apply UInt8.toNat_inj.1
  rw [UInt8.toNat_add]
  have e:(((l.getD z.toNat 0).toNat:Int)+32).toNat=(l.getD z.toNat 0).toNat+32:=by omega
  rw [e]
  simp
theorem JY {l:Bs}{z:Int}(h:(bif decide ((65:Int)≤al l z)then decide (al l z≤(90:Int))else false)=false):bR (al l z)=qk (l.getD z.toNat 0):=by
 rw [jH]
 unfold qk
 rw [if_neg]
 intro hh
 have h3:(65:Int)≤al l z:=by unfold al;omega
 have h4:al l z≤(90:Int):=by unfold al;omega
 rw [decide_eq_true h3,decide_eq_true h4]at h
 cases h
def Bf:cq:=bN []
def Bg(nl:Bool)(l:Bs):aY:=fun i=>bif Nat.beq i 3 then some ⟨(Bool×Bs)×(Int),(fun s x=>((((((s.row s 3 x.1.1 (.bytes x.1.2)).put 11 (.int .i64 x.2)).put 4 .undef).put 5 .undef).put 12 .undef).put 21 .undef)),(fun s=>((s.nil 3,s.bytes 3),s.int 11)),(fun s x=>let low:=x.1;let i:=x.2;0≤i∧i≤l.length∧low.1=false∧low.2=(cc l).take i.toNat++List.replicate (l.length-i.toNat) 0),(fun s x=>let low:=x.1;let i:=x.2;((l.length:Int)-i).toNat),[4,5,12,21]⟩else none
theorem zq:cS Tryz.prog ay Bf:=ax
theorem Fc(nl:Bool)(l:Bs)(k:PV→Prop):cC Tryz.prog Bf ay (Bg nl l) 1000 Tryz.f154 [.row nl (.bytes l) 0] k=(
 ((0:Int)≤Int.ofNat (List.length l)∧Int.ofNat (List.length l)≤Int.ofNat (List.length l)∧Int.ofNat (List.length l)≤dd)∧
 VS.mk []
 [(0,PV.row nl (aq.bytes l) (0:Nat)),(2,PV.str (ByteArray.mk #[]).data.toList),
 (3,PV.row false (aq.bytes (List.replicate (Int.ofNat (List.length l)).toNat (0:UInt8))) ((8:Nat)+(32:Nat))),
 ((4:Nat),PV.undef),((5:Nat),PV.undef),(9,PV.row nl (aq.bytes l) (0:Nat)),
 (10,PV.int .i64 (Int.ofNat (List.length l))),(11,PV.int .i64 (0:Int)),
 ((12:Nat),PV.undef),((21:Nat),PV.undef)]
 []=
 VS.mk []
 [(0,PV.row nl (aq.bytes l) (0:Nat)),(2,PV.str (ByteArray.mk #[]).data.toList),
 ((3:Nat),PV.row false (aq.bytes (List.replicate (Int.ofNat (List.length l)).toNat (0:UInt8))) ((8:Nat)+(32:Nat))),
 ((4:Nat),PV.undef),((5:Nat),PV.undef),(9,PV.row nl (aq.bytes l) (0:Nat)),
 (10,PV.int .i64 (Int.ofNat (List.length l))),((11:Nat),PV.int .i64 (0:Int)),
 ((12:Nat),PV.undef),((21:Nat),PV.undef)]
 []∧
 ((0:Int)≤(0:Int)∧
 (0:Int)≤↑(List.length l)∧
 false=false∧
 List.replicate (Int.ofNat (List.length l)).toNat (0:UInt8)=
 List.take (Int.toNat (0:Int)) (cc l)++
 List.replicate (List.length l-Int.toNat (0:Int)) (0:UInt8))∧
 ∀(x:(Bool×Bs)×Int),
 (0:Int)≤x.2∧
 x.2≤↑(List.length l)∧
 x.1.1=false∧
 x.1.2=List.take x.2.toNat (cc l)++List.replicate (List.length l-x.2.toNat) (0:UInt8)→
 (decide (x.2<Int.ofNat (List.length l))=true→
 within x.2 (Int.ofNat (List.length l))∧
 ((bif decide ((65:Int)≤al l x.2)then decide (al l x.2≤(90:Int))else false)=true→
 within x.2 (Int.ofNat (List.length x.1.2))∧
 ((0:Int)≤Go.IntKind.u8.wrap (al l x.2+(32:Int))∧
 Go.IntKind.u8.wrap (al l x.2+(32:Int))≤(255:Int))∧
 aD (x.2+(1:Int))∧
 VS.mk []
 [(0,PV.row nl (aq.bytes l) (0:Nat)),(2,PV.str (ByteArray.mk #[]).data.toList),
 ((3:Nat),
 PV.row x.1.1
 (aq.bytes (bg x.1.2 x.2 (bR (Go.IntKind.u8.wrap (al l x.2+(32:Int))))))
 ((8:Nat)+(32:Nat))),
 ((4:Nat),PV.undef),((5:Nat),PV.undef),(9,PV.row nl (aq.bytes l) (0:Nat)),
 (10,PV.int .i64 (Int.ofNat (List.length l))),
 ((11:Nat),PV.int .i64 (x.2+(1:Int))),((12:Nat),PV.undef),((21:Nat),PV.undef)]
 []=
 VS.mk []
 [(0,PV.row nl (aq.bytes l) (0:Nat)),(2,PV.str (ByteArray.mk #[]).data.toList),
 ((3:Nat),
 PV.row x.1.1
 (aq.bytes (bg x.1.2 x.2 (bR (Go.IntKind.u8.wrap (al l x.2+(32:Int))))))
 ((8:Nat)+(32:Nat))),
 ((4:Nat),PV.undef),((5:Nat),PV.undef),(9,PV.row nl (aq.bytes l) (0:Nat)),
 (10,PV.int .i64 (Int.ofNat (List.length l))),
 ((11:Nat),PV.int .i64 (x.2+(1:Int))),((12:Nat),PV.undef),((21:Nat),PV.undef)]
 []∧
 ((0:Int)≤x.2+(1:Int)∧
 x.2+(1:Int)≤↑(List.length l)∧
 x.1.1=false∧
 bg x.1.2 x.2 (bR (Go.IntKind.u8.wrap (al l x.2+(32:Int))))=
 List.take (x.2+(1:Int)).toNat (cc l)++
 List.replicate (List.length l-(x.2+(1:Int)).toNat) (0:UInt8))∧
 (↑(List.length l)-(x.2+(1:Int))).toNat<(↑(List.length l)-x.2).toNat)∧
 ((bif decide ((65:Int)≤al l x.2)then decide (al l x.2≤(90:Int))else false)=false→
 within x.2 (Int.ofNat (List.length x.1.2))∧
 ((0:Int)≤al l x.2∧al l x.2≤(255:Int))∧
 aD (x.2+(1:Int))∧
 VS.mk []
 [(0,PV.row nl (aq.bytes l) (0:Nat)),(2,PV.str (ByteArray.mk #[]).data.toList),
 ((3:Nat),
 PV.row x.1.1 (aq.bytes (bg x.1.2 x.2 (bR (al l x.2))))
 ((8:Nat)+(32:Nat))),
 ((4:Nat),PV.undef),((5:Nat),PV.undef),(9,PV.row nl (aq.bytes l) (0:Nat)),
 (10,PV.int .i64 (Int.ofNat (List.length l))),
 ((11:Nat),PV.int .i64 (x.2+(1:Int))),((12:Nat),PV.undef),((21:Nat),PV.undef)]
 []=
 VS.mk []
 [(0,PV.row nl (aq.bytes l) (0:Nat)),(2,PV.str (ByteArray.mk #[]).data.toList),
 ((3:Nat),
 PV.row x.1.1 (aq.bytes (bg x.1.2 x.2 (bR (al l x.2))))
 ((8:Nat)+(32:Nat))),
 ((4:Nat),PV.undef),((5:Nat),PV.undef),(9,PV.row nl (aq.bytes l) (0:Nat)),
 (10,PV.int .i64 (Int.ofNat (List.length l))),
 ((11:Nat),PV.int .i64 (x.2+(1:Int))),((12:Nat),PV.undef),((21:Nat),PV.undef)]
 []∧
 ((0:Int)≤x.2+(1:Int)∧
 x.2+(1:Int)≤↑(List.length l)∧
 x.1.1=false∧
 bg x.1.2 x.2 (bR (al l x.2))=
 List.take (x.2+(1:Int)).toNat (cc l)++
 List.replicate (List.length l-(x.2+(1:Int)).toNat) (0:UInt8))∧
 (↑(List.length l)-(x.2+(1:Int))).toNat<(↑(List.length l)-x.2).toNat))∧
 (decide (x.2<Int.ofNat (List.length l))=false→k (PV.str x.1.2))):=by kernel_rfl
attribute [local irreducible] Go.Vc.cC
theorem Fe(nl:Bool)(l:Bs):ag Tryz.prog ay 154 [.row nl (.bytes l) 0] ⟨l.length≤1000000,.str (cc l)⟩:=cj (by kernel_rfl) zq (H:=Bg nl l) (fuel:=1000) Tryz.func154 (by kernel_rfl) fun hpre=>(Fc nl l _).mpr (by
 have hll:(cc l).length=l.length:=by unfold cc;simp
 simp only [Int.ofNat_eq_natCast]at *
 refine ⟨⟨by omega,by omega,by unfold dd;omega⟩,trivial,⟨by omega,by omega,trivial,by simp⟩,fun x hx=>⟨fun h=>?_,fun h=>?_⟩⟩
 ·obtain ⟨h0,h1,h2,h3⟩:=hx
  have hlt:=JX h
  have hbr:=gN l x.2
  have hlen:x.1.2.length=l.length:=by rw [h3,List.length_append,List.length_take,List.length_replicate,hll];omega
  have step:∀b,b=qk (l.getD x.2.toNat 0)→bg x.1.2 x.2 b=List.take (x.2+1).toNat (cc l)++List.replicate (List.length l-(x.2+1).toNat) 0:=fun b hb=>by
   unfold bg
   rw [show(x.2+1).toNat=x.2.toNat+1 by omega,h3]
   exact Ez hll.symm (by rw [Hq h0 hlt,hb])
  refine ⟨⟨h0,hlt⟩,fun hc=>?_,fun hc=>?_⟩
  ·obtain ⟨c1,c2,c3⟩:=Hr hc
   rw [c1]
   refine ⟨⟨h0,by rw [hlen];exact hlt⟩,⟨by omega,by omega⟩,⟨by omega,by omega⟩,trivial,⟨by omega,by omega,h2,step _ c3⟩,by omega⟩
  ·refine ⟨⟨h0,by rw [hlen];exact hlt⟩,⟨by omega,by omega⟩,⟨by omega,by omega⟩,trivial,⟨by omega,by omega,h2,step _ (JY hc)⟩,by omega⟩
 ·obtain ⟨h0,h1,h2,h3⟩:=hx
  have hge:¬x.2<(l.length:Int):=of_decide_eq_false h
  show PV.str _=PV.str _
  rw [h3,show x.2.toNat=l.length by omega,←hll,List.take_length]
  simp)
def kk:List PV→Option aI:=fun xs=>match xs with
 |[.row nl (.bytes l) 0]=>some ⟨l.length≤1000000,.str (cc l)⟩
 |_=>none
theorem mi:∀xs c,kk xs=some c→ag Tryz.prog ay 154 xs c:=fun xs c h=>by
 unfold kk at h
 split at h
 ·injection h with h;subst h;exact Fe _ _
 ·cases h
end
section
def nu:Bs:=[0,9,10,13,32,35,47,58,60,62,63,64,91,92,93,94,124]
def Hs(r:Int):Bool:=decide (r<32)||decide (r=37)||decide (r=127)||CM nu r
def Bh:cq:=bN [(187,nt)]
def Bi(r:Int):aY:=fun i=>none
theorem zr:cS Tryz.prog ay Bh:=ai uB (ax)
theorem Ff(r:Int)(k:PV→Prop):cC Tryz.prog Bh ay (Bi r) 1000 Tryz.f174 [.int .i32 r] k=(
 ((bif bif decide (r<(32:Int))then true else decide (r=(37:Int))then true else decide (r=(127:Int)))=false→
 (0:Int)≤r∧
 r≤(2147483647:Int)∧
 ∀(b:UInt8),
 b∈
 (ByteArray.mk
 #[0,9,10,13,32,35,47,58,60,62,63,64,91,92,93,94,124]).data.toList→
 b.toNat<(128:Nat))∧
 k
 (PV.bool
 (bif bif bif decide (r<(32:Int))then true else decide (r=(37:Int))then true else decide (r=(127:Int))then true
 else
 CM
 (ByteArray.mk
 #[0,9,10,13,32,35,47,58,60,62,63,64,91,92,93,94,124]).data.toList
 r))):=by kernel_rfl
attribute [local irreducible] Go.Vc.cC
theorem Fg(r:Int):ag Tryz.prog ay 174 [.int .i32 r] ⟨0≤r∧r≤1114111,.bool (Hs r)⟩:=cj (by kernel_rfl) zr (H:=Bi r) (fuel:=1000) Tryz.func174 (by kernel_rfl) fun hpre=>(Ff r _).mpr (by
 refine ⟨fun _=>⟨by omega,by omega,by decide⟩,?_⟩
 show PV.bool _=PV.bool _
 unfold Hs nu
 cases decide (r<32)<;>cases decide (r=37)<;>cases decide (r=127)<;>rfl)
end
section
def wR:cq:=bN []
def wS(z:Int):aY:=fun i=>none
theorem wT:cS Tryz.prog ay wR:=ax
theorem CT(z:Int)(k:PV→Prop):cC Tryz.prog wR ay (wS z) 1000 Tryz.f153 [.int .u8 z] k=(
 k
 (PV.bool
 (bif decide ((97:Int)≤fB Go.BinOp.or .u8 z (32:Int))then decide (fB Go.BinOp.or .u8 z (32:Int)≤(122:Int))
 else false))):=by kernel_rfl
attribute [local irreducible] Go.Vc.cC
theorem CU(z:Int):ag Tryz.prog ay 153 [.int .u8 z] ⟨0≤z∧z≤255,.bool (decide (97≤z∧z≤122∨65≤z∧z≤90))⟩:=cj (by kernel_rfl) wT (H:=wS z) (fuel:=1000) Tryz.func153 (by kernel_rfl) fun hpre=>(CT z _).mpr (by
 show PV.bool _=PV.bool _
 congr 1
 obtain ⟨n,rfl⟩:∃n:Nat,z=n:=⟨z.toNat,by omega⟩
 have all:∀m:Fin 256,(bif decide ((97:Int)≤fB BinOp.or IntKind.u8 (m.val:Int) (32:Int))then decide (fB BinOp.or IntKind.u8 (m.val:Int) (32:Int)≤(122:Int))else false)=decide (97≤(m.val:Int)∧(m.val:Int)≤122∨65≤(m.val:Int)∧(m.val:Int)≤90):=by decide+kernel
 exact all ⟨n,by omega⟩)
def je:List PV→Option aI:=fun xs=>match xs with
 |[.int .u8 z]=>some ⟨0≤z∧z≤255,.bool (decide (97≤z∧z≤122∨65≤z∧z≤90))⟩
 |_=>none
theorem kC:∀xs c,je xs=some c→ag Tryz.prog ay 153 xs c:=fun xs c h=>by
 unfold je at h
 split at h
 ·injection h with h;subst h;exact CU _
 ·cases h
end
section
def fF:Bs:=[102,116,112]
def fL:Bs:=[102,105,108,101]
def fH:Bs:=[104,116,116,112]
def fW:Bs:=[119,115]
def fS:Bs:=[104,116,116,112,115]
def fV:Bs:=[119,115,115]
def Ht(l:Bs):Int:=if l=fF then 21 else if l=fH∨l=fW then 80 else if l=fS∨l=fV then 443 else 0
def aw(l:Bs):Bool:=decide (l=fF∨l=fL∨l=fH∨l=fW∨l=fS∨l=fV)
def sY:cq:=bN []
def sZ(l:Bs):aY:=fun i=>none
theorem uD:cS Tryz.prog ay sY:=ax
theorem zt(l:Bs)(k:PV→Prop):cC Tryz.prog sY ay (sZ l) 1000 Tryz.f27 [.str l] k=(
 (decide (l=(ByteArray.mk #[102,116,112]).data.toList)=true→
 k (PV.tup [PV.int .i64 (21:Int),PV.bool true]))∧
 (decide (l=(ByteArray.mk #[102,116,112]).data.toList)=false→
 (decide (l=(ByteArray.mk #[102,105,108,101]).data.toList)=true→
 k (PV.tup [PV.int .i64 (0:Int),PV.bool true]))∧
 (decide (l=(ByteArray.mk #[102,105,108,101]).data.toList)=false→
 (decide (l=(ByteArray.mk #[104,116,116,112]).data.toList)=true→
 (decide (l=(ByteArray.mk #[104,116,116,112]).data.toList)=true→
 k (PV.tup [PV.int .i64 (80:Int),PV.bool true]))∧
 (decide (l=(ByteArray.mk #[104,116,116,112]).data.toList)=false→
 (decide (l=(ByteArray.mk #[104,116,116,112,115]).data.toList)=true→
 (decide (l=(ByteArray.mk #[104,116,116,112,115]).data.toList)=true→
 k (PV.tup [PV.int .i64 (443:Int),PV.bool true]))∧
 (decide (l=(ByteArray.mk #[104,116,116,112,115]).data.toList)=false→
 k (PV.tup [PV.int .i64 (0:Int),PV.bool false])))∧
 (decide (l=(ByteArray.mk #[104,116,116,112,115]).data.toList)=false→
 (decide (l=(ByteArray.mk #[119,115,115]).data.toList)=true→
 k (PV.tup [PV.int .i64 (443:Int),PV.bool true]))∧
 (decide (l=(ByteArray.mk #[119,115,115]).data.toList)=false→
 k (PV.tup [PV.int .i64 (0:Int),PV.bool false])))))∧
 (decide (l=(ByteArray.mk #[104,116,116,112]).data.toList)=false→
 (decide (l=(ByteArray.mk #[119,115]).data.toList)=true→
 k (PV.tup [PV.int .i64 (80:Int),PV.bool true]))∧
 (decide (l=(ByteArray.mk #[119,115]).data.toList)=false→
 (decide (l=(ByteArray.mk #[104,116,116,112,115]).data.toList)=true→
 (decide (l=(ByteArray.mk #[104,116,116,112,115]).data.toList)=true→
 k (PV.tup [PV.int .i64 (443:Int),PV.bool true]))∧
 (decide (l=(ByteArray.mk #[104,116,116,112,115]).data.toList)=false→
 k (PV.tup [PV.int .i64 (0:Int),PV.bool false])))∧
 (decide (l=(ByteArray.mk #[104,116,116,112,115]).data.toList)=false→
 (decide (l=(ByteArray.mk #[119,115,115]).data.toList)=true→
 k (PV.tup [PV.int .i64 (443:Int),PV.bool true]))∧
 (decide (l=(ByteArray.mk #[119,115,115]).data.toList)=false→
 k (PV.tup [PV.int .i64 (0:Int),PV.bool false])))))))):=by kernel_rfl
attribute [local irreducible] Go.Vc.cC
theorem zu(l:Bs):ag Tryz.prog ay 27 [.str l] ⟨True,.tup [.int .i64 (Ht l),.bool (aw l)]⟩:=cj (by kernel_rfl) uD (H:=sZ l) (fuel:=1000) Tryz.func27 (by kernel_rfl) fun hpre=>(zt l _).mpr (by
 have leaf:∀(a b:Int) (c d:Bool),a=b→c=d→PV.tup [.int .i64 a,.bool c]=PV.tup [.int .i64 b,.bool d]:=fun a b c d h1 h2=>by rw [h1,h2]
 simp only [decide_eq_true_eq,decide_eq_false_iff_not]
 repeat' (first|constructor|intro h)
 all_goals first
  |(subst_vars;contradiction)
  |(refine leaf _ _ _ _ ?_ ?_ <;>simp_all [Ht,aw,fF,fL,fH,fW,fS,fV]))
def dN:List PV→Option aI:=fun xs=>match xs with
 |[.str l]=>some ⟨True,.tup [.int .i64 (Ht l),.bool (aw l)]⟩
 |_=>none
theorem dO:∀xs c,dN xs=some c→ag Tryz.prog ay 27 xs c:=fun xs c h=>by
 unfold dN at h
 split at h
 ·injection h with h;subst h;exact zu _
 ·cases h
end
section
def wU(c:UInt8):Bool:=decide ((97≤c.toNat∧c.toNat≤122)∨(65≤c.toNat∧c.toNat≤90))
def Fh(c:UInt8):Bool:=decide (48≤c.toNat∧c.toNat≤57)
theorem Fi(a b:Bool):(bif a then b else false)=(a&&b):=by cases a<;>rfl
theorem Lg(a b:Bool):(bif a then true else b)=(a||b):=by cases a<;>rfl
def ab(l:Bs):Bs→Nat→Bs×Bs×Bool
 |[],_=>([],[],false)
 |c::r,i=>if wU c=true then ab l r (i+1)else if i=0 then([],[],false)else if c.toNat=58 then(cc (l.take i),l.drop (i+1),true)else if c.toNat=43∨c.toNat=45∨c.toNat=46∨Fh c=true then ab l r (i+1)else([],[],false)
def wV:cq:=bN [(153,je),(154,kk),(155,iG)]
def wW(l:Bs):aY:=fun i=>bif Nat.beq i 2 then some ⟨(Int),(fun s x=>((((((((s.put 9 (.int .i64 x)).put 5 .undef).put 6 .undef).put 10 .undef).put 15 .undef).put 18 .undef).put 21 .undef).put 33 .undef)),(fun s=>s.int 9),(fun s x=>let i:=x;0≤i∧i≤l.length∧ab l (l.drop i.toNat) i.toNat=ab l l 0),(fun s x=>let i:=x;((l.length:Int)-i).toNat),[5,6,10,15,18,21,33]⟩else none
theorem wX:cS Tryz.prog ay wV:=ai kC (ai mi (ai jd (ax)))
theorem CV(l:Bs)(k:PV→Prop):cC Tryz.prog wV ay (wW l) 1000 Tryz.f119 [.str l] k=(
 VS.mk []
 [(0,PV.str l),(2,PV.str (ByteArray.mk #[]).data.toList),(3,PV.str (ByteArray.mk #[]).data.toList),
 (4,PV.bool false),((5:Nat),PV.undef),((6:Nat),PV.undef),(8,PV.int .i64 (ak l)),
 (9,PV.int .i64 (0:Int)),((10:Nat),PV.undef),((15:Nat),PV.undef),((18:Nat),PV.undef),
 ((21:Nat),PV.undef),((33:Nat),PV.undef)]
 []=
 VS.mk []
 [(0,PV.str l),(2,PV.str (ByteArray.mk #[]).data.toList),(3,PV.str (ByteArray.mk #[]).data.toList),
 (4,PV.bool false),((5:Nat),PV.undef),((6:Nat),PV.undef),(8,PV.int .i64 (ak l)),
 ((9:Nat),PV.int .i64 (0:Int)),((10:Nat),PV.undef),((15:Nat),PV.undef),((18:Nat),PV.undef),
 ((21:Nat),PV.undef),((33:Nat),PV.undef)]
 []∧
 ((0:Int)≤(0:Int)∧
 (0:Int)≤↑(List.length l)∧
 ab l (List.drop (Int.toNat (0:Int)) l) (Int.toNat (0:Int))=
 ab l l (0:Nat))∧
 ∀(x:Int),
 (0:Int)≤x∧
 x≤↑(List.length l)∧
 ab l (List.drop x.toNat l) x.toNat=ab l l (0:Nat)→
 (decide (x<ak l)=true→
 within x (ak l)∧
 ((0:Int)≤al l x∧al l x≤(255:Int))∧
 (decide ((97:Int)≤al l x∧al l x≤(122:Int)∨(65:Int)≤al l x∧al l x≤(90:Int))=true→
 aD (x+(1:Int))∧
 VS.mk []
 [(0,PV.str l),(2,PV.str (ByteArray.mk #[]).data.toList),
 (3,PV.str (ByteArray.mk #[]).data.toList),(4,PV.bool false),((5:Nat),PV.undef),
 ((6:Nat),PV.undef),(8,PV.int .i64 (ak l)),
 ((9:Nat),PV.int .i64 (x+(1:Int))),((10:Nat),PV.undef),((15:Nat),PV.undef),
 ((18:Nat),PV.undef),((21:Nat),PV.undef),((33:Nat),PV.undef)]
 []=
 VS.mk []
 [(0,PV.str l),(2,PV.str (ByteArray.mk #[]).data.toList),
 (3,PV.str (ByteArray.mk #[]).data.toList),(4,PV.bool false),((5:Nat),PV.undef),
 ((6:Nat),PV.undef),(8,PV.int .i64 (ak l)),
 ((9:Nat),PV.int .i64 (x+(1:Int))),((10:Nat),PV.undef),((15:Nat),PV.undef),
 ((18:Nat),PV.undef),((21:Nat),PV.undef),((33:Nat),PV.undef)]
 []∧
 ((0:Int)≤x+(1:Int)∧
 x+(1:Int)≤↑(List.length l)∧
 ab l (List.drop (x+(1:Int)).toNat l) (x+(1:Int)).toNat=
 ab l l (0:Nat))∧
 (↑(List.length l)-(x+(1:Int))).toNat<(↑(List.length l)-x).toNat)∧
 (decide ((97:Int)≤al l x∧al l x≤(122:Int)∨(65:Int)≤al l x∧al l x≤(90:Int))=false→
 (decide (x=(0:Int))=true→
 k (PV.tup [PV.str (ByteArray.mk #[]).data.toList,PV.str (ByteArray.mk #[]).data.toList,PV.bool false]))∧
 (decide (x=(0:Int))=false→
 (decide (al l x=(58:Int))=true→
 upto (0:Int) x (ak l)∧
 (ae l x).length≤Go.Vc.maxLen∧
 (ae l x).length.le (1000000:Nat)∧
 aD (x+(1:Int))∧
 upto (x+(1:Int)) (ak l) (ak l)∧
 k
 (PV.tup
 [PV.str (cc (ae l x)),
 PV.str (aa l (x+(1:Int))),PV.bool true]))∧
 (decide (al l x=(58:Int))=false→
 ((bif bif !decide (al l x=(43:Int))then !decide (al l x=(45:Int))else false then
 !decide (al l x=(46:Int))
 else false)=
 true→
 True)∧
 ((bif
 bif bif !decide (al l x=(43:Int))then !decide (al l x=(45:Int))else false then
 !decide (al l x=(46:Int))
 else false then
 !decide ((48:Int)≤al l x∧al l x≤(57:Int))
 else false)=
 true→
 k
 (PV.tup
 [PV.str (ByteArray.mk #[]).data.toList,PV.str (ByteArray.mk #[]).data.toList,PV.bool false]))∧
 ((bif
 bif bif !decide (al l x=(43:Int))then !decide (al l x=(45:Int))else false then
 !decide (al l x=(46:Int))
 else false then
 !decide ((48:Int)≤al l x∧al l x≤(57:Int))
 else false)=
 false→
 aD (x+(1:Int))∧
 VS.mk []
 [(0,PV.str l),(2,PV.str (ByteArray.mk #[]).data.toList),
 (3,PV.str (ByteArray.mk #[]).data.toList),(4,PV.bool false),
 ((5:Nat),PV.undef),((6:Nat),PV.undef),(8,PV.int .i64 (ak l)),
 ((9:Nat),PV.int .i64 (x+(1:Int))),((10:Nat),PV.undef),
 ((15:Nat),PV.undef),((18:Nat),PV.undef),((21:Nat),PV.undef),
 ((33:Nat),PV.undef)]
 []=
 VS.mk []
 [(0,PV.str l),(2,PV.str (ByteArray.mk #[]).data.toList),
 (3,PV.str (ByteArray.mk #[]).data.toList),(4,PV.bool false),
 ((5:Nat),PV.undef),((6:Nat),PV.undef),(8,PV.int .i64 (ak l)),
 ((9:Nat),PV.int .i64 (x+(1:Int))),((10:Nat),PV.undef),
 ((15:Nat),PV.undef),((18:Nat),PV.undef),((21:Nat),PV.undef),
 ((33:Nat),PV.undef)]
 []∧
 ((0:Int)≤x+(1:Int)∧
 x+(1:Int)≤↑(List.length l)∧
 ab l (List.drop (x+(1:Int)).toNat l) (x+(1:Int)).toNat=
 ab l l (0:Nat))∧
 (↑(List.length l)-(x+(1:Int))).toNat<(↑(List.length l)-x).toNat)))))∧
 (decide (x<ak l)=false→
 k (PV.tup [PV.str (ByteArray.mk #[]).data.toList,PV.str (ByteArray.mk #[]).data.toList,PV.bool false]))):=by kernel_rfl
attribute [local irreducible] Go.Vc.cC
theorem s3(l:Bs):ag Tryz.prog ay 119 [.str l] ⟨l.length≤300000,.tup [.str (ab l l 0).1,.str (ab l l 0).2.1,.bool (ab l l 0).2.2]⟩:=cj (by kernel_rfl) wX (H:=wW l) (fuel:=1000) Tryz.func119 (by kernel_rfl) fun hpre=>(CV l _).mpr (by
 refine ⟨rfl,⟨by omega,by omega,rfl⟩,fun x hx=>⟨fun h=>?_,fun h=>?_⟩⟩
 ·obtain ⟨h0,h1,h2⟩:=hx
  have hlt:x<(l.length:Int):=of_decide_eq_true h
  obtain ⟨c,hc⟩:∃c,c=l.getD x.toNat 0:=⟨_,rfl⟩
  have hby:al l x=(c.toNat:Int):=by rw [hc];rfl
  have hd:l.drop x.toNat=c::l.drop (x.toNat+1):=by
   rw [List.drop_eq_getElem_cons (by omega),hc,List.getD_eq_getElem?_getD,List.getElem?_eq_getElem (by omega)]
   rfl
  have hs:(x+1).toNat=x.toNat+1:=by omega
  have hcr:=c.toNat_lt
  rw [hd,ab]at h2
  rw [hs,hby]
  refine ⟨⟨h0,hlt⟩,⟨by omega,by omega⟩,fun hl=>?_,fun hl=>?_⟩
  ·have e:wU c=true:=decide_eq_true (by have:=of_decide_eq_true hl;omega)
   rw [if_pos e]at h2
   exact ⟨⟨by omega,by omega⟩,rfl,⟨by omega,by omega,h2⟩,by omega⟩
  ·have e:¬wU c=true:=fun e=>by
    have h3:=of_decide_eq_true e
    have h4:=of_decide_eq_false hl
    omega
   rw [if_neg e]at h2
   refine ⟨fun h3=>?_,fun h3=>⟨fun h4=>?_,fun h4=>⟨fun _=>trivial,fun h5=>?_,fun h5=>?_⟩⟩⟩
   ·have:=of_decide_eq_true h3
    rw [if_pos (by omega)]at h2
    show PV.tup _=PV.tup _
    rw [←h2]
    try rfl
   ·have g3:=of_decide_eq_false h3
    have g4:=of_decide_eq_true h4
    rw [if_neg (by omega),if_pos (by omega)]at h2
    have hl1:(ae l x).length≤300000:=by unfold ae;rw [List.length_take];omega
    refine ⟨⟨by omega,h0,h1⟩,Nat.le_trans hl1 (by decide),Nat.le_trans hl1 (by decide),⟨by omega,by omega⟩,⟨by omega,by unfold ak;omega,Int.le_refl _⟩,?_⟩
    show PV.tup _=PV.tup _
    rw [←h2]
    unfold ae aa
    rw [hs]
   ·have g3:=of_decide_eq_false h3
    have g4:=of_decide_eq_false h4
    rw [if_neg (by omega),if_neg (by omega),if_neg]at h2
    ·show PV.tup _=PV.tup _
     rw [←h2]
     try rfl
    ·intro hh
     have:Fh c=true↔(48≤c.toNat∧c.toNat≤57):=by unfold Fh;exact decide_eq_true_iff
     rw [this]at hh
     revert h5
     rcases hh with hh|hh|hh|⟨q1,q2⟩
     ·rw [hh];decide
     ·rw [hh];decide
     ·rw [hh];decide
     ·rw [decide_eq_true (show(48:Int)≤c.toNat∧(c.toNat:Int)≤57 by omega)]
      cases (bif bif !decide ((c.toNat:Int)=(43:Int))then !decide ((c.toNat:Int)=(45:Int))else false then !decide ((c.toNat:Int)=(46:Int))else false)<;>decide
   ·have g3:=of_decide_eq_false h3
    have g4:=of_decide_eq_false h4
    rw [if_neg (by omega),if_neg (by omega),if_pos]at h2
    ·exact ⟨⟨by omega,by omega⟩,rfl,⟨by omega,by omega,h2⟩,by omega⟩
    ·refine Classical.byContradiction fun hh=>?_
     have:Fh c=true↔(48≤c.toNat∧c.toNat≤57):=by unfold Fh;exact decide_eq_true_iff
     rw [this]at hh
     rw [decide_eq_false (show ¬(c.toNat:Int)=43 by omega),decide_eq_false (show ¬(c.toNat:Int)=45 by omega),decide_eq_false (show ¬(c.toNat:Int)=46 by omega),decide_eq_false (show ¬((48:Int)≤c.toNat∧(c.toNat:Int)≤57) by omega)]at h5
     cases h5
 ·have hge:¬x<(l.length:Int):=of_decide_eq_false h
  obtain ⟨h0,h1,h2⟩:=hx
  rw [show x.toNat=l.length by omega,List.drop_length]at h2
  show PV.tup _=PV.tup _
  rw [←h2]
  rfl)
end
end Go.Proofs.YtmfapopclbnlpaaGreatDoor
