import Derived.ProofKit
import Derived.Test.YtmfapopclbnlpaaGreatDoorProg
import Derived.Test.YtmfapopclbnlpaaGreatDoorHx5
import Derived.Test.YtmfapopclbnlpaaGreatDoorHx6
import Derived.Test.YtmfapopclbnlpaaGreatDoorHx7
import Derived.Test.YtmfapopclbnlpaaGreatDoorHx11
import Derived.Test.YtmfapopclbnlpaaGreatDoorHx12
import Derived.Test.YtmfapopclbnlpaaGreatDoorHx16
set_option linter.unusedVariables false
set_option linter.unusedSimpArgs false
set_option maxRecDepth 100000
set_option maxHeartbeats 4000000
namespace Go.Proofs.YtmfapopclbnlpaaGreatDoor
open Go Go.Proofs Go.RowKit Go.Vc
def De(w:World)(g:Nat)(k:IntKind)(zs:List Int):Prop:=∃t,w.heap[g]?=some (.cells (zs.map fun z=>Value.int k z).toArray t (0,0))
theorem De.lt {w:World}{g:Nat}{k:IntKind}{zs:List Int}(h:De w g k zs):g<w.heap.size:=by
 obtain ⟨t,h⟩:=h;exact (Array.getElem?_eq_some_iff.1 h).1
theorem De.same {w w':World}{g:Nat}{k:IntKind}{zs:List Int}(h:De w g k zs)(hb:w'.heap[g]?=w.heap[g]?):De w' g k zs:=by
 obtain ⟨t,h⟩:=h;exact ⟨t,by rw [hb];exact h⟩
def GY(w:World)(g:Nat):Prop:=∃m,w.cell? ⟨g,0,none⟩=some (.int .i64 m)
theorem GY.lt {w:World}{g:Nat}(h:GY w g):g<w.heap.size:=by
 obtain ⟨m,h⟩:=h;refine Classical.byContradiction fun hn=>?_;unfold World.cell? at h;rw [Array.getElem?_eq_none (show w.heap.size<=g by omega)]at h;cases h
theorem GY.same {w w':World}{g:Nat}(h:GY w g)(hb:w'.heap[g]?=w.heap[g]?):GY w' g:=by
 obtain ⟨m,h⟩:=h;refine ⟨m,?_⟩;unfold World.cell? at h⊢;rw [hb];exact h
def qX(w:World):Prop:=De w 1 .u64 Lib.pow10Tab/\GY w 0
instance PW:Wd:=⟨qX,max 1 0+1,fun w h=>by have:=h.1.lt;have:=h.2.lt;omega,fun w w' _ _ _ _ hb h=>⟨h.1.same (hb _ (by omega)),h.2.same (hb _ (by omega))⟩⟩
theorem qX.QU {w:World}(h:qX w):Oj w:=by
 obtain ⟨⟨t,h⟩,-⟩:=h;unfold Oj Lib.TabIs World.var?;rw [show Program.globalNamed Tryz.prog "internal/strconv.uint64pow10" =some 1 by kernel_rfl];simp only [Option.bind_some,h]
theorem GZ(l:Bs)(i:Int):ae Tryz.prog az 180 [.str l,.int .i64 i] ⟨0<=i/\i<=l.length/\l.length<=1000000,.int .i64 (i+(af (l.drop i.toNat):Int))⟩:=
 ae.cm Tryz.func180 (by kernel_rfl) rfl fun⟨h0,h1,h2⟩ F w vs _ _ hw hx=>by
  obtain ⟨_,_,rfl,r1,_,_,rfl,r2,rfl⟩:=hx;obtain rfl:=r1;obtain rfl:=r2;obtain ⟨n,rfl⟩:=Int.eq_ofNat_of_zero_le h0;refine ⟨_,(C5 l n w h2 (by omega)).mono fun e w' ⟨he,hw'⟩=>⟨he,hw'▸Below.refl _ _⟩,fun G w=>?_⟩;show Value.int _ _=Value.int _ _;rw [Int.toNat_natCast];push_cast;rfl
theorem G3(l:Bs):ae Tryz.prog az 181 [.str l] ⟨l.length<=4/\∀i,i<l.length->0<=aR (ar l i),.int .u16 (bO l)⟩:=
 ae.cm Tryz.func181 (by kernel_rfl) rfl fun⟨h0,h1⟩ F w vs _ _ hw hx=>by
  obtain ⟨_,_,rfl,r1,rfl⟩:=hx;obtain rfl:=r1;exact ⟨_,(GV l w h0 h1).mono fun e w' ⟨he,hw'⟩=>⟨he,hw'▸Below.refl _ _⟩,fun G w=>rfl⟩
theorem G4(l:Bs):ae Tryz.prog az 182 [.str l] ⟨l.length<=1000000,.tup [.int .u32 (cj l),.bool (gT l)]⟩:=
 ae.cm Tryz.func182 (by kernel_rfl) rfl fun h F w vs _ _ hw hx=>by
  obtain ⟨_,_,rfl,r1,rfl⟩:=hx;obtain rfl:=r1;exact ⟨_,C7 l w h (qX.QU hw),fun G w=>⟨_,⟨_,_,rfl,rfl,_,_,rfl,rfl,rfl⟩,rfl⟩⟩
theorem G5(p:List Int)(c g:Int):ae Tryz.prog az 183 [.arr 8 (.ints .u16 p),.int .i64 c,.int .i64 g] ⟨p.length=8/\0<=g/\g<=c/\c<=7,.arr 8 (.ints .u16 (bY p c.toNat g.toNat))⟩:=
 ae.cm Tryz.func183 (by kernel_rfl) rfl fun⟨hp,h0,h1,h2⟩ F w vs _ _ hw hx=>by
  obtain ⟨_,_,rfl,r1,_,_,rfl,r2,_,_,rfl,r3,rfl⟩:=hx;obtain ⟨-,rfl⟩:=r1;obtain rfl:=r2;obtain rfl:=r3;have:=C6 p c.toNat g.toNat w hp (by omega) (by omega);rw [Int.toNat_of_nonneg (by omega),Int.toNat_of_nonneg h0]at this;exact ⟨_,this,fun G w=>⟨by show List.length (List.map _ _)=8;rw [List.length_map];unfold bY;simp;omega,rfl⟩⟩
def preB(l m:Bs):Bool:=Lib.hasPrefix l m
theorem G6(l m:Bs):ae Tryz.prog az 78 [.str l,.str m] ⟨True,.bool (preB l m)⟩:=
 ae.cm Tryz.func78 (by kernel_rfl) rfl fun _ F w vs _ _ hw hx=>by
  obtain ⟨_,_,rfl,r1,_,_,rfl,r2,rfl⟩:=hx;obtain rfl:=r1;obtain rfl:=r2;exact ⟨_,(Tryz.strings_HasPrefix ⟨l.toArray⟩ ⟨m.toArray⟩ w).mono fun e w' ⟨he,hw'⟩=>⟨he,hw'▸Below.refl _ _⟩,fun G w=>rfl⟩
def jc(l m:Bs):Bool:=Lib.containsAny l m
theorem Pf(l m:Bs):ae Tryz.prog az 74 [.str l,.str m] ⟨l.length<=1000000/\m.length<=1000000/\(∀b∈m,b.toNat<128),.bool (jc l m)⟩:=
 ae.cm Tryz.func74 (by kernel_rfl) rfl fun⟨h0,h1,h2⟩ F w vs _ _ hw hx=>by
  obtain ⟨_,_,rfl,r1,_,_,rfl,r2,rfl⟩:=hx;obtain rfl:=r1;obtain rfl:=r2;exact ⟨_,O4 Tryz.MF (by kernel_rfl) ⟨l.toArray⟩ ⟨m.toArray⟩ w (by show l.length<4294967281;omega) (by show m.length<4294967281;omega) (fun j b hj=>h2 b (List.mem_of_getElem? hj)),fun G w=>rfl⟩
def hasB(l m:Bs):Bool:=Lib.contains l m
theorem Pg(l m:Bs):ae Tryz.prog az 185 [.str l,.str m] ⟨l.length<=1000000,.bool (hasB l m)⟩:=
 ae.cm Tryz.func185 (by kernel_rfl) rfl fun h0 F w vs _ _ hw hx=>by
  obtain ⟨_,_,rfl,r1,_,_,rfl,r2,rfl⟩:=hx;obtain rfl:=r1;obtain rfl:=r2;obtain ⟨k,hk⟩:=(show qX w from hw).2;exact ⟨_,(Tryz.strings_Contains ⟨l.toArray⟩ ⟨m.toArray⟩ k w (by show l.length<4294967281;omega) hk).mono fun e w' ⟨he,hw'⟩=>⟨he,hw'▸Below.refl _ _⟩,fun G w=>rfl⟩
def qY(l:Bs):Bool:=kv ((bG l).drop (di (bG l)))
theorem MS(l:Bs):ae Tryz.prog az 175 [.str l] ⟨l.length<=1000000,.bool (qY l)⟩:=
 ae.cm Tryz.func175 (by kernel_rfl) rfl fun h F w vs _ _ hw hx=>by
  obtain ⟨_,_,rfl,r1,rfl⟩:=hx;obtain rfl:=r1;exact ⟨_,(JT l w h).mono fun e w' ⟨he,hw'⟩=>⟨he,hw'▸Below.refl _ _⟩,fun G w=>rfl⟩
def jP(l:Bs):Bool:=(aT (splitB 46 (bG l)) 4 0).2
theorem J5(l:Bs):ae Tryz.prog az 176 [.str l] ⟨l.length<=1000000,.tup [.int .u32 (cj l),.bool (jP l)]⟩:=
 ae.cm Tryz.func176 (by kernel_rfl) rfl fun h F w vs _ _ hw hx=>by
  obtain ⟨_,_,rfl,r1,rfl⟩:=hx;obtain rfl:=r1;exact ⟨_,vQ l w h,fun G w=>⟨_,⟨_,_,rfl,rfl,_,_,rfl,rfl,rfl⟩,rfl⟩⟩
def G7(l:Bs)(r:Int):Bool:=decide (r<128)&&decide (0<=Lib.indexByte l r.toNat.toUInt8)
theorem J6(l:Bs)(r:Int):ae Tryz.prog az 187 [.str l,.int .i32 r] ⟨0<=r/\r<=2147483647/\(∀b∈l,b.toNat<128),.bool (G7 l r)⟩:=
 ae.cm Tryz.func187 (by kernel_rfl) rfl fun⟨h0,h1,h2⟩ F w vs _ _ hw hx=>by
  obtain ⟨_,_,rfl,r1,_,_,rfl,r2,rfl⟩:=hx;obtain rfl:=r1;obtain rfl:=r2;by_cases h:r<128
  ·refine ⟨_,(Tryz.strings_ContainsRune_ascii ⟨l.toArray⟩ r w h0 h).mono fun e w' ⟨he,hw'⟩=>⟨he,hw'▸Below.refl _ _⟩,fun G w=>?_⟩
   show Value.bool _=Value.bool _;unfold G7;rw [decide_eq_true h];rfl
  ·refine ⟨_,zI Tryz.Fa ⟨l.toArray⟩ r w (fun j b hj=>h2 b (List.mem_of_getElem? hj)) (by omega) h1,fun G w=>?_⟩
   show Value.bool _=Value.bool _;unfold G7;rw [decide_eq_false h];rfl
def mB:List PV->Option aD:=fun xs=>match xs with |[.str l,.int .i64 i]=>some ⟨0<=i/\i<=l.length/\l.length<=1000000,.int .i64 (i+(af (l.drop i.toNat):Int))⟩|_=>none
theorem uu:∀xs c,mB xs=some c->ae Tryz.prog az 180 xs c:=fun xs c h=>by
 unfold mB at h;split at h
 ·injection h with h;subst h;exact GZ _ _
 ·cases h
def mC:List PV->Option aD:=fun xs=>match xs with |[.str l]=>some ⟨l.length<=4/\∀i,i<l.length->0<=aR (ar l i),.int .u16 (bO l)⟩|_=>none
theorem uv:∀xs c,mC xs=some c->ae Tryz.prog az 181 xs c:=fun xs c h=>by
 unfold mC at h;split at h
 ·injection h with h;subst h;exact G3 _
 ·cases h
def mD:List PV->Option aD:=fun xs=>match xs with |[.str l]=>some ⟨l.length<=1000000,.tup [.int .u32 (cj l),.bool (gT l)]⟩|_=>none
theorem uw:∀xs c,mD xs=some c->ae Tryz.prog az 182 xs c:=fun xs c h=>by
 unfold mD at h;split at h
 ·injection h with h;subst h;exact G4 _
 ·cases h
def mE:List PV->Option aD:=fun xs=>match xs with |[.arr 8 (.ints .u16 p),.int .i64 c,.int .i64 g]=>some ⟨p.length=8/\0<=g/\g<=c/\c<=7,.arr 8 (.ints .u16 (bY p c.toNat g.toNat))⟩|_=>none
theorem ux:∀xs c,mE xs=some c->ae Tryz.prog az 183 xs c:=fun xs c h=>by
 unfold mE at h;split at h
 ·injection h with h;subst h;exact G5 _ _ _
 ·cases h
def dP:List PV->Option aD:=fun xs=>match xs with |[.str l,.str m]=>some ⟨True,.bool (preB l m)⟩|_=>none
theorem dq:∀xs c,dP xs=some c->ae Tryz.prog az 78 xs c:=fun xs c h=>by
 unfold dP at h;split at h
 ·injection h with h;subst h;exact G6 _ _
 ·cases h
def nW:List PV->Option aD:=fun xs=>match xs with |[.str l,.str m]=>some ⟨l.length<=1000000/\m.length<=1000000/\(∀b∈m,b.toNat<128),.bool (jc l m)⟩|_=>none
theorem mF:∀xs c,nW xs=some c->ae Tryz.prog az 74 xs c:=fun xs c h=>by
 unfold nW at h;split at h
 ·injection h with h;subst h;exact Pf _ _
 ·cases h
def xU:List PV->Option aD:=fun xs=>match xs with |[.str l,.str m]=>some ⟨l.length<=1000000,.bool (hasB l m)⟩|_=>none
theorem Df:∀xs c,xU xs=some c->ae Tryz.prog az 185 xs c:=fun xs c h=>by
 unfold xU at h;split at h
 ·injection h with h;subst h;exact Pg _ _
 ·cases h
def sH:List PV->Option aD:=fun xs=>match xs with |[.str l]=>some ⟨l.length<=1000000,.bool (qY l)⟩|_=>none
theorem Ae:∀xs c,sH xs=some c->ae Tryz.prog az 175 xs c:=fun xs c h=>by
 unfold sH at h;split at h
 ·injection h with h;subst h;exact MS _
 ·cases h
def po:List PV->Option aD:=fun xs=>match xs with |[.str l]=>some ⟨l.length<=1000000,.tup [.int .u32 (cj l),.bool (jP l)]⟩|_=>none
theorem xV:∀xs c,po xs=some c->ae Tryz.prog az 176 xs c:=fun xs c h=>by
 unfold po at h;split at h
 ·injection h with h;subst h;exact J5 _
 ·cases h
def pq:List PV->Option aD:=fun xs=>match xs with |[.str l,.int .i32 r]=>some ⟨0<=r/\r<=2147483647/\(∀b∈l,b.toNat<128),.bool (G7 l r)⟩|_=>none
theorem xW:∀xs c,pq xs=some c->ae Tryz.prog az 187 xs c:=fun xs c h=>by
 unfold pq at h;split at h
 ·injection h with h;subst h;exact J6 _ _
 ·cases h
def Ol(k:PV->Prop)(J1 J2:Prop)(l:Bs)(C G A:Int)(p:List Int):Prop:=
 ((0:Int)<=A/\A<=↑(List.length l)/\List.length l<=(1000000:Nat))/\(decide (A+↑(af (List.drop A.toNat l))<ai l)=true->within (A+↑(af (List.drop A.toNat l))) (ai l))/\((bif decide (A+↑(af (List.drop A.toNat l))<ai l)then decide (ag l (A+↑(af (List.drop A.toNat l)))=(46:Int))else false)=true->upto A (ai l) (ai l)/\(aa l A).length.le (1000000:Nat)/\((bif !gT (aa l A)then true else decide ((6:Int)<C))=true->k (PV.tup [PV.arr (8:Nat) (al.ints IntKind.u16 (List.replicate (8:Nat) (0:Int))),PV.bool false]))/\((bif !gT (aa l A)then true else decide ((6:Int)<C))=false->av (C+(1:Int))/\(0:Int)<=(16:Int)/\within C ↑(8:Nat)/\(within C ↑(8:Nat)/\True)/\within (C+(1:Int)) ↑(8:Nat)/\(within (C+(1:Int)) ↑(8:Nat)/\True)/\av (C+(2:Int))/\((bif decide (G<(0:Int))then decide (C+(2:Int)=(8:Int))else false)=true->k (PV.tup [PV.arr (8:Nat) (al.ints IntKind.u16 (aS (aS p C (IntKind.u16.wrap (jX IntKind.u32 (cj (aa l A)) (16:Int)))) (C+(1:Int)) (IntKind.u16.wrap (cj (aa l A))))),PV.bool true]))/\((bif decide (G<(0:Int))then decide (C+(2:Int)=(8:Int))else false)=false->((bif decide ((0:Int)<=G)then decide (C+(2:Int)<(8:Int))else false)=true->((aS (aS p C (IntKind.u16.wrap (jX IntKind.u32 (cj (aa l A)) (16:Int)))) (C+(1:Int)) (IntKind.u16.wrap (cj (aa l A)))).length=(8:Nat)/\(0:Int)<=G/\G<=C+(2:Int)/\C+(2:Int)<=(7:Int))/\k (PV.tup [PV.arr (8:Nat) (al.ints IntKind.u16 (bY (aS (aS p C (IntKind.u16.wrap (jX IntKind.u32 (cj (aa l A)) (16:Int)))) (C+(1:Int)) (IntKind.u16.wrap (cj (aa l A)))) (C+(2:Int)).toNat G.toNat)),PV.bool true]))/\((bif decide ((0:Int)<=G)then decide (C+(2:Int)<(8:Int))else false)=false->k (PV.tup [PV.arr (8:Nat) (al.ints IntKind.u16 (List.replicate (8:Nat) (0:Int))),PV.bool false])))))/\((bif decide (A+↑(af (List.drop A.toNat l))<ai l)then decide (ag l (A+↑(af (List.drop A.toNat l)))=(46:Int))else false)=false->((bif decide (C=(8:Int))then true else decide (A+↑(af (List.drop A.toNat l))=A))=false->av (A+(4:Int)))/\((bif bif decide (C=(8:Int))then true else decide (A+↑(af (List.drop A.toNat l))=A)then true else decide (A+(4:Int)<A+↑(af (List.drop A.toNat l))))=true->k (PV.tup [PV.arr (8:Nat) (al.ints IntKind.u16 (List.replicate (8:Nat) (0:Int))),PV.bool false]))/\((bif bif decide (C=(8:Int))then true else decide (A+↑(af (List.drop A.toNat l))=A)then true else decide (A+(4:Int)<A+↑(af (List.drop A.toNat l))))=false->upto A (A+↑(af (List.drop A.toNat l))) (ai l)/\((bZ l A (A+↑(af (List.drop A.toNat l)))).length<=(4:Nat)/\∀(i:Nat),i<(bZ l A (A+↑(af (List.drop A.toNat l)))).length->(0:Int)<=aR (ar (bZ l A (A+↑(af (List.drop A.toNat l)))) i))/\within C ↑(8:Nat)/\(within C ↑(8:Nat)/\True)/\av (C+(1:Int))/\(decide (A+↑(af (List.drop A.toNat l))=ai l)=true->((bif decide (G<(0:Int))then decide (C+(1:Int)=(8:Int))else false)=true->k (PV.tup [PV.arr (8:Nat) (al.ints IntKind.u16 (aS p C (bO (bZ l A (A+↑(af (List.drop A.toNat l))))))),PV.bool true]))/\((bif decide (G<(0:Int))then decide (C+(1:Int)=(8:Int))else false)=false->((bif decide ((0:Int)<=G)then decide (C+(1:Int)<(8:Int))else false)=true->((aS p C (bO (bZ l A (A+↑(af (List.drop A.toNat l)))))).length=(8:Nat)/\(0:Int)<=G/\G<=C+(1:Int)/\C+(1:Int)<=(7:Int))/\k (PV.tup [PV.arr (8:Nat) (al.ints IntKind.u16 (bY (aS p C (bO (bZ l A (A+↑(af (List.drop A.toNat l)))))) (C+(1:Int)).toNat G.toNat)),PV.bool true]))/\((bif decide ((0:Int)<=G)then decide (C+(1:Int)<(8:Int))else false)=false->k (PV.tup [PV.arr (8:Nat) (al.ints IntKind.u16 (List.replicate (8:Nat) (0:Int))),PV.bool false]))))/\(decide (A+↑(af (List.drop A.toNat l))=ai l)=false->within (A+↑(af (List.drop A.toNat l))) (ai l)/\((!decide (ag l (A+↑(af (List.drop A.toNat l)))=(58:Int)))=false->av (A+↑(af (List.drop A.toNat l))+(1:Int)))/\((bif !decide (ag l (A+↑(af (List.drop A.toNat l)))=(58:Int))then true else decide (A+↑(af (List.drop A.toNat l))+(1:Int)=ai l))=true->k (PV.tup [PV.arr (8:Nat) (al.ints IntKind.u16 (List.replicate (8:Nat) (0:Int))),PV.bool false]))/\((bif !decide (ag l (A+↑(af (List.drop A.toNat l)))=(58:Int))then true else decide (A+↑(af (List.drop A.toNat l))+(1:Int)=ai l))=false->av (A+↑(af (List.drop A.toNat l))+(1:Int))/\within (A+↑(af (List.drop A.toNat l))+(1:Int)) (ai l)/\((!decide (ag l (A+↑(af (List.drop A.toNat l))+(1:Int))=(58:Int)))=true->J1)/\((!decide (ag l (A+↑(af (List.drop A.toNat l))+(1:Int))=(58:Int)))=false->(decide ((0:Int)<=G)=true->k (PV.tup [PV.arr (8:Nat) (al.ints IntKind.u16 (List.replicate (8:Nat) (0:Int))),PV.bool false]))/\(decide ((0:Int)<=G)=false->av (A+↑(af (List.drop A.toNat l))+(1:Int)+(1:Int))/\(decide (A+↑(af (List.drop A.toNat l))+(1:Int)+(1:Int)<ai l)=true->J2)/\(decide (A+↑(af (List.drop A.toNat l))+(1:Int)+(1:Int)<ai l)=false->((bif decide (C+(1:Int)<(0:Int))then decide (C+(1:Int)=(8:Int))else false)=true->k (PV.tup [PV.arr (8:Nat) (al.ints IntKind.u16 (aS p C (bO (bZ l A (A+↑(af (List.drop A.toNat l))))))),PV.bool true]))/\((bif decide (C+(1:Int)<(0:Int))then decide (C+(1:Int)=(8:Int))else false)=false->((bif decide ((0:Int)<=C+(1:Int))then decide (C+(1:Int)<(8:Int))else false)=true->((aS p C (bO (bZ l A (A+↑(af (List.drop A.toNat l)))))).length=(8:Nat)/\(0:Int)<=C+(1:Int)/\C+(1:Int)<=C+(1:Int)/\C+(1:Int)<=(7:Int))/\k (PV.tup [PV.arr (8:Nat) (al.ints IntKind.u16 (bY (aS p C (bO (bZ l A (A+↑(af (List.drop A.toNat l)))))) (C+(1:Int)).toNat (C+(1:Int)).toNat)),PV.bool true]))/\((bif decide ((0:Int)<=C+(1:Int))then decide (C+(1:Int)<(8:Int))else false)=false->k (PV.tup [PV.arr (8:Nat) (al.ints IntKind.u16 (List.replicate (8:Nat) (0:Int))),PV.bool false]))))))))))
theorem qn(a b:Bool):(bif a then b else false)=(a&&b):=by cases a<;>rfl
theorem J7(a b:Bool):(bif a then true else b)=(a||b):=by cases a<;>rfl
theorem qo(a:Bool):((!a)=true)=¬(a=true):=by cases a<;>simp
theorem qp(a:Bool):(a=false)=¬(a=true):=by cases a<;>simp
theorem kW(acc:List Int)(x:Int)(h:acc.length<8):aS (pad acc) (acc.length:Int) x=pad (acc++[x]):=by
 unfold aS pad;rw [Int.toNat_natCast,List.set_append_right _ _ (by simp),Nat.sub_self,show 8-acc.length=(8-(acc++[x]).length)+1 by simp;omega,List.replicate_succ,List.set_cons_zero,List.append_assoc];rfl
theorem jQ(l:Bs)(e:Nat):ag l (e:Int)=ar l e:=by unfold ag ar;rw [Int.toNat_natCast]
theorem J8(acc:List Int)(h:acc.length=8):pad acc=acc:=by unfold pad;rw [h];simp
theorem nX(k:PV->Prop)(J1 J2:Prop)(l:Bs)(G:Int)(i e:Nat)(acc:List Int)(R:List Int×Bool)(hl:l.length<=1000000)(h8:acc.length<=8)(g1:-1<=G)(g2:G<=acc.length)(hi:i<=l.length)(he:i+af (l.drop i)=e)
 (hs:eE l (9-acc.length) acc G i=R)(hk:k (.tup [.arr 8 (.ints .u16 R.1),.bool R.2]))
 (H1:∀a,a.length=acc.length+1->aS (pad acc) (acc.length:Int) (bO (bZ l (i:Int) (e:Int)))=pad a->a.length<=8->e+1<=l.length->eE l (9-a.length) a G (e+1)=R->J1)
 (H2:∀a,a.length=acc.length+1->aS (pad acc) (acc.length:Int) (bO (bZ l (i:Int) (e:Int)))=pad a->a.length<=8->e+2<=l.length->eE l (9-a.length) a (acc.length+1:Nat) (e+2)=R->J2):
 Ol k J1 J2 l acc.length G i (pad acc):=by
 unfold Ol;have hE:(i:Int)+((af (l.drop i):Nat):Int)=(e:Int):=by omega
 have hcut:bZ l (i:Int) (e:Int)=(l.take e).drop i:=by unfold bZ;rw [Int.toNat_natCast,Int.toNat_natCast]
 have hdr:aa l (i:Int)=l.drop i:=by unfold aa;rw [Int.toNat_natCast]
 have hel:e<=l.length:=by have:=vT (l.drop i);rw [List.length_drop]at this;omega
 have hb2:ag l ((e:Int)+1)=ar l (e+1):=by rw [<-jQ];push_cast;rfl
 rw [eD l acc G i e h8 he]at hs;have leaf:∀(L:List Int) (b:Bool),R=(L,b)->k (.tup [.arr 8 (.ints .u16 L),.bool b]):=fun L b h=>by rw [h]at hk;exact hk
 have lw:R=db->k (.tup [.arr 8 (.ints .u16 (List.replicate 8 0)),.bool false]):=fun h=>leaf _ _ h;simp only [Int.toNat_natCast,hE,hcut,hdr,jQ,hb2,qn,J7,qp,qo,Bool.and_eq_true,Bool.or_eq_true,decide_eq_true_eq,ai,within,upto,av]at H1 H2⊢;have fin:∀(a:List Int) (g C':Int) (P:List Int),a.length<=8->C'=a.length->P=pad a->g<=C'->kB a g=R->((g<0/\C'=8->k (.tup [.arr 8 (.ints .u16 P),.bool true]))/\(¬(g<0/\C'=8)->((0<=g/\C'<8->(P.length=8/\0<=g/\g<=C'/\C'<=7)/\k (.tup [.arr 8 (.ints .u16 (bY P C'.toNat g.toNat)),.bool true]))/\(¬(0<=g/\C'<8)->k (.tup [.arr 8 (.ints .u16 (List.replicate 8 0)),.bool false]))))):=by
  intro a g C' P ha hC hP hg hf;subst hC hP;unfold kB at hf;refine ⟨fun h=>?_,fun h=>⟨fun h2=>⟨⟨MN ha,h2.1,hg,by omega⟩,?_⟩,fun h2=>lw ?_⟩⟩
  ·rw [if_pos ⟨h.1,by omega⟩]at hf
   rw [J8 a (by omega)];exact leaf _ _ hf.symm
  ·rw [if_neg (by omega),if_pos ⟨h2.1,by omega⟩]at hf
   rw [Int.toNat_natCast];exact leaf _ _ hf.symm
  ·rw [if_neg (by omega),if_neg (by omega)]at hf
   exact hf.symm
 refine ⟨⟨by omega,by omega,hl⟩,fun h=>⟨by omega,h⟩,fun h46=>?_,fun h46=>?_⟩
 ·rw [if_pos ⟨by omega,h46.2⟩]at hs
  unfold xP at hs;refine ⟨⟨by omega,by omega,by omega⟩,?_,fun hd=>?_,fun hd=>?_⟩
  ·show(l.drop i).length<=1000000
   rw [List.length_drop];omega
  ·rw [if_pos (by rcases hd with hd|hd;exact .inl (by simpa using hd);exact .inr (by omega))]at hs
   exact lw hs.symm
  ·have hd1:gT (l.drop i)=true:=Classical.byContradiction fun h=>hd (.inl h)
   have hd2:acc.length<=6:=by omega
   rw [if_neg (by rw [hd1];intro h;rcases h with h|h;cases h;omega)]at hs
   obtain ⟨v0,v1⟩:=xO (l.drop i);have e1:IntKind.u16.wrap (jX IntKind.u32 (cj (l.drop i)) 16)=cj (l.drop i)/65536:=by
    have:jX IntKind.u32 (cj (l.drop i)) 16=cj (l.drop i)/65536:=by
     unfold jX;rw [show(2:Int)^min (Int.toNat 16) IntKind.u32.bits=65536 by decide,Int.fdiv_eq_ediv_of_nonneg _ (by decide)]
    rw [this];exact IntWalk.u16_in _ (by omega)
   have e2:IntKind.u16.wrap (cj (l.drop i))=cj (l.drop i) %65536:=by
    simp [IntKind.wrap,IntKind.bits,IntKind.signed]
   have e3:aS (aS (pad acc) (acc.length:Int) (cj (l.drop i)/65536)) ((acc.length:Int)+1) (cj (l.drop i) %65536)=pad (acc++[cj (l.drop i)/65536]++[cj (l.drop i) %65536]):=by
    rw [kW _ _ (by omega),show(acc.length:Int)+1=((acc++[cj (l.drop i)/65536]).length:Int) by simp,kW _ _ (by simp;omega)]
   rw [e1,e2,e3];exact ⟨⟨by omega,by omega⟩,by omega,⟨by omega,by omega⟩,⟨⟨by omega,by omega⟩,trivial⟩,⟨by omega,by omega⟩,⟨⟨by omega,by omega⟩,trivial⟩,⟨by omega,by omega⟩,fin _ G _ _ (by simp;omega) (by simp) rfl (by omega) hs⟩
 ·rw [if_neg (by intro h;exact h46 ⟨by omega,h.2⟩)]at hs
  refine ⟨fun _=>⟨by omega,by omega⟩,fun h=>?_,fun h=>?_⟩
  ·rw [if_pos (by omega)]at hs
   exact lw hs.symm
  ·rw [if_neg (by omega)]at hs
   have h7:acc.length<8:=by omega
   obtain ⟨d1,d2⟩:=xQ l i e he (by omega);have hl1:(acc++[bO ((l.take e).drop i)]).length=acc.length+1:=by simp
   rw [kW _ _ h7];refine ⟨⟨by omega,by omega,by omega⟩,⟨d1,d2⟩,⟨by omega,by omega⟩,⟨⟨by omega,by omega⟩,trivial⟩,⟨by omega,by omega⟩,fun hq=>?_,fun hq=>?_⟩
   ·rw [if_pos (by omega)]at hs
    exact fin _ G _ _ (by omega) (by rw [hl1];push_cast;rfl) rfl (by omega) hs
   ·rw [if_neg (by omega)]at hs
    refine ⟨⟨by omega,by omega⟩,fun _=>⟨by omega,by omega⟩,fun h5=>?_,fun h5=>?_⟩
    ·rw [if_pos (by rcases h5 with h5|h5;exact .inl h5;exact .inr (by omega))]at hs
     exact lw hs.symm
    ·rw [if_neg (by intro h6;exact h5 (by rcases h6 with h6|h6;exact .inl h6;exact .inr (by omega)))]at hs
     refine ⟨⟨by omega,by omega⟩,⟨by omega,by omega⟩,fun h9=>?_,fun h9=>⟨fun hg=>?_,fun hg=>⟨⟨by omega,by omega⟩,fun hlt=>?_,fun hlt=>?_⟩⟩⟩
     ·rw [if_pos h9,<-hl1]at hs
      exact H1 _ hl1 (kW _ _ h7) (by omega) (by omega) hs
     ·rw [if_neg h9,if_pos hg]at hs
      exact lw hs.symm
     ·rw [if_neg h9,if_neg hg,if_pos (by omega)]at hs
      exact H2 _ hl1 (kW _ _ h7) (by omega) (by omega) (by rw [hl1];exact hs)
     ·rw [if_neg h9,if_neg hg,if_neg (by omega)]at hs
      exact fin _ _ _ _ (by omega) (by rw [hl1];push_cast;rfl) rfl (by omega) hs
section
theorem MT {l:Bs}(h:Lib.hasPrefix l [58,58]=true):2<=l.length:=by
 match l,h with
 |[],h=>cases h
 |[a],h=>unfold Lib.hasPrefix at h;simp [List.isPrefixOf]at h
 |_::_::_,_=>simp
def Af:cM:=bS [(180,mB),(181,mC),(182,mD),(183,mE),(78,dP)]
def Ag(l:Bs):aP:=fun i=>bif Nat.beq i 1000000 then some ⟨(Int)×(Int)×(Int)×(List Int),(fun s x=>VS.mk [] [(0,.str l),(2,.ptr 34 0),(3,.bool false),(4,.ptr 36 0),(5,.int .u32 0),(6,.bool false),(7,.int .i64 x.1),(8,.int .i64 x.2.1),(9,.int .i64 x.2.2.1),(10,.undef),(13,.undef),(17,.undef),(30,.undef),(43,.undef),(56,.undef),(67,.undef),(73,.undef),(75,.undef),(82,.undef),(95,.undef),(113,.undef),(120,.undef)] [(36,.arr 8 (.ints .u16 x.2.2.2)),(34,.arr 8 (.ints .u16 (List.replicate 8 0)))]),(fun s=>(s.int 7,s.int 8,s.int 9,VS.ints (VS.mk [] s.lh []) 36)),(fun s x=>let c:=x.1;let g:=x.2.1;let a:=x.2.2.1;let p:=x.2.2.2;∃acc:List Int,c=acc.length/\acc.length<=8/\p=pad acc/\-1<=g/\g<=c/\0<=a/\a<=l.length/\eE l (9-acc.length) acc g a.toNat=gq l),(fun s x=>let c:=x.1;let g:=x.2.1;let a:=x.2.2.1;let p:=x.2.2.2;(9-c).toNat),[10,13,17,30,43,56,67,73,75,82]⟩else none
theorem Ah:df Tryz.prog az Af:=ah uu (ah uv (ah uw (ah ux (ah dq (ax)))))
theorem G8(l:Bs)(k:PV->Prop):cD Tryz.prog Af az (Ag l) 1000 Tryz.f170 [.str l] k=(
 True/\
 ((!preB l (bL #[58,58]))=true->
 VS.mk []
 [(0,PV.str l),(2,PV.ptr 34 0),(3,PV.bool false),
 (4,PV.ptr 36 0),(5,PV.int .u32 0),
 (6,PV.bool false),(7,PV.int .i64 0),(8,PV.int .i64 (-1:Int)),
 (9,PV.int .i64 0),uZ 10,uZ 13,uZ 17,
 uZ 30,uZ 43,uZ 56,uZ 67,
 uZ 73,uZ 75,uZ 82,uZ 95,
 uZ 113,uZ 120]
 [(36,PV.arr 8 (al.ints .u16 (List.replicate (8:Nat) 0))),
 (34,PV.arr 8 (al.ints .u16 (List.replicate (8:Nat) 0)))]=
 VS.mk []
 [(0,PV.str l),(2,PV.ptr 34 0),(3,PV.bool false),
 (4,PV.ptr 36 0),(5,PV.int .u32 0),(6,PV.bool false),
 (7,PV.int .i64 0),(8,PV.int .i64 (-1:Int)),
 (9,PV.int .i64 0),uZ 10,uZ 13,uZ 17,
 uZ 30,uZ 43,uZ 56,uZ 67,
 uZ 73,uZ 75,uZ 82,uZ 95,
 uZ 113,uZ 120]
 [(36,PV.arr 8 (al.ints .u16 (List.replicate (8:Nat) 0))),
 (34,PV.arr 8 (al.ints .u16 (List.replicate (8:Nat) 0)))]/\
 (∃(acc:List Int),
 (0:Int)=↑acc.length/\
 acc.length<=(8:Nat)/\
 List.replicate (8:Nat) 0=pad acc/\
 (-1:Int)<=(-1:Int)/\
 (-1:Int)<=0/\
 (0:Int)<=0/\
 (0:Int)<=↑(List.length l)/\
 eE l ((9:Nat)-acc.length) acc (-1:Int) (Int.toNat (0:Int))=
 gq l)/\
 ∀(x:Int×Int×Int×List Int),
 (∃(acc:List Int),
 x.1=↑acc.length/\
 acc.length<=(8:Nat)/\
 x.2.2.2=pad acc/\
 (-1:Int)<=x.2.1/\
 x.2.1<=x.1/\
 (0:Int)<=x.2.2.1/\
 x.2.2.1<=↑(List.length l)/\
 eE l ((9:Nat)-acc.length) acc x.2.1 x.2.2.1.toNat=
 gq l)->
 ((0:Int)<=x.2.2.1/\x.2.2.1<=↑(List.length l)/\List.length l<=(1000000:Nat))/\
 (decide (x.2.2.1+↑(af (List.drop x.2.2.1.toNat l))<ai l)=true->
 within (x.2.2.1+↑(af (List.drop x.2.2.1.toNat l))) (ai l))/\
 ((bif decide (x.2.2.1+↑(af (List.drop x.2.2.1.toNat l))<ai l)then
 decide (ag l (x.2.2.1+↑(af (List.drop x.2.2.1.toNat l)))=(46:Int))
 else false)=
 true->
 upto x.2.2.1 (ai l) (ai l)/\
 (aa l x.2.2.1).length.le 1000000/\
 ((bif !gT (aa l x.2.2.1)then true else decide ((6:Int)<x.1))=true->
 k
 (PV.tup
 [PV.arr 8 (al.ints .u16 (List.replicate (8:Nat) 0)),PV.bool false]))/\
 ((bif !gT (aa l x.2.2.1)then true else decide ((6:Int)<x.1))=false->
 av (x.1+1)/\
 (0:Int)<=16/\
 within x.1 ↑(8:Nat)/\
 (within x.1 ↑(8:Nat)/\True)/\
 within (x.1+(1:Int)) ↑(8:Nat)/\
 (within (x.1+(1:Int)) ↑(8:Nat)/\True)/\
 av (x.1+(2:Int))/\
 ((bif decide (x.2.1<0)then decide (x.1+2=8)else false)=true->
 k
 (PV.tup
 [PV.arr 8
 (al.ints .u16
 (aS
 (aS x.2.2.2 x.1
 (Go.IntKind.u16.wrap
 (jX .u32
 (cj (aa l x.2.2.1)) 16)))
 (x.1+1)
 (Go.IntKind.u16.wrap (cj (aa l x.2.2.1))))),
 PV.bool true]))/\
 ((bif decide (x.2.1<0)then decide (x.1+2=8)else false)=false->
 ((bif decide ((0:Int)<=x.2.1)then decide (x.1+2<8)else false)=true->
 ((aS
 (aS x.2.2.2 x.1
 (Go.IntKind.u16.wrap
 (jX .u32
 (cj (aa l x.2.2.1)) 16)))
 (x.1+1)
 (Go.IntKind.u16.wrap
 (cj (aa l x.2.2.1)))).length=
 (8:Nat)/\
 (0:Int)<=x.2.1/\x.2.1<=x.1+2/\x.1+2<=7)/\
 k
 (PV.tup
 [PV.arr 8
 (al.ints .u16
 (bY
 (aS
 (aS x.2.2.2 x.1
 (Go.IntKind.u16.wrap
 (jX .u32
 (cj (aa l x.2.2.1)) 16)))
 (x.1+1)
 (Go.IntKind.u16.wrap
 (cj (aa l x.2.2.1))))
 (x.1+2).toNat x.2.1.toNat)),
 PV.bool true]))/\
 ((bif decide ((0:Int)<=x.2.1)then decide (x.1+2<8)else false)=false->
 k
 (PV.tup
 [PV.arr 8 (al.ints .u16 (List.replicate (8:Nat) 0)),
 PV.bool false])))))/\
 ((bif decide (x.2.2.1+↑(af (List.drop x.2.2.1.toNat l))<ai l)then
 decide (ag l (x.2.2.1+↑(af (List.drop x.2.2.1.toNat l)))=(46:Int))
 else false)=
 false->
 ((bif decide (x.1=8)then true
 else decide (x.2.2.1+↑(af (List.drop x.2.2.1.toNat l))=x.2.2.1))=
 false->
 av (x.2.2.1+4))/\
 ((bif
 bif decide (x.1=8)then true
 else
 decide
 (x.2.2.1+↑(af (List.drop x.2.2.1.toNat l))=x.2.2.1)then
 true
 else
 decide
 (x.2.2.1+4<
 x.2.2.1+↑(af (List.drop x.2.2.1.toNat l))))=
 true->
 k
 (PV.tup
 [PV.arr 8 (al.ints .u16 (List.replicate (8:Nat) 0)),PV.bool false]))/\
 ((bif
 bif decide (x.1=8)then true
 else
 decide
 (x.2.2.1+↑(af (List.drop x.2.2.1.toNat l))=x.2.2.1)then
 true
 else
 decide
 (x.2.2.1+4<
 x.2.2.1+↑(af (List.drop x.2.2.1.toNat l))))=
 false->
 upto x.2.2.1 (x.2.2.1+↑(af (List.drop x.2.2.1.toNat l)))
 (ai l)/\
 ((bZ l x.2.2.1
 (x.2.2.1+↑(af (List.drop x.2.2.1.toNat l)))).length<=
 (4:Nat)/\
 ∀(i:Nat),
 i<
 (bZ l x.2.2.1
 (x.2.2.1+↑(af (List.drop x.2.2.1.toNat l)))).length->
 (0:Int)<=
 aR
 (ar
 (bZ l x.2.2.1
 (x.2.2.1+↑(af (List.drop x.2.2.1.toNat l))))
 i))/\
 within x.1 ↑(8:Nat)/\
 (within x.1 ↑(8:Nat)/\True)/\
 av (x.1+(1:Int))/\
 (decide (x.2.2.1+↑(af (List.drop x.2.2.1.toNat l))=ai l)=
 true->
 ((bif decide (x.2.1<0)then decide (x.1+1=8)else false)=true->
 k
 (PV.tup
 [PV.arr 8
 (al.ints .u16
 (aS x.2.2.2 x.1
 (bO
 (bZ l x.2.2.1
 (x.2.2.1+
 ↑(af (List.drop x.2.2.1.toNat l))))))),
 PV.bool true]))/\
 ((bif decide (x.2.1<0)then decide (x.1+1=8)else false)=false->
 ((bif decide ((0:Int)<=x.2.1)then decide (x.1+1<8)else false)=true->
 ((aS x.2.2.2 x.1
 (bO
 (bZ l x.2.2.1
 (x.2.2.1+
 ↑(af (List.drop x.2.2.1.toNat l)))))).length=
 (8:Nat)/\
 (0:Int)<=x.2.1/\x.2.1<=x.1+1/\x.1+1<=7)/\
 k
 (PV.tup
 [PV.arr 8
 (al.ints .u16
 (bY
 (aS x.2.2.2 x.1
 (bO
 (bZ l x.2.2.1
 (x.2.2.1+
 ↑(af (List.drop x.2.2.1.toNat l))))))
 (x.1+(1:Int)).toNat x.2.1.toNat)),
 PV.bool true]))/\
 ((bif decide ((0:Int)<=x.2.1)then decide (x.1+1<8)else false)=false->
 k
 (PV.tup
 [PV.arr 8 (al.ints .u16 (List.replicate (8:Nat) 0)),
 PV.bool false]))))/\
 (decide
 (x.2.2.1+↑(af (List.drop x.2.2.1.toNat l))=ai l)=
 false->
 within (x.2.2.1+↑(af (List.drop x.2.2.1.toNat l)))
 (ai l)/\
 ((!decide
 (ag l
 (x.2.2.1+↑(af (List.drop x.2.2.1.toNat l)))=
 (58:Int)))=
 false->
 av
 (x.2.2.1+↑(af (List.drop x.2.2.1.toNat l))+
 (1:Int)))/\
 ((bif
 !decide
 (ag l
 (x.2.2.1+
 ↑(af (List.drop x.2.2.1.toNat l)))=
 (58:Int))then
 true
 else
 decide
 (x.2.2.1+↑(af (List.drop x.2.2.1.toNat l))+
 (1:Int)=
 ai l))=
 true->
 k
 (PV.tup
 [PV.arr 8 (al.ints .u16 (List.replicate (8:Nat) 0)),
 PV.bool false]))/\
 ((bif
 !decide
 (ag l
 (x.2.2.1+
 ↑(af (List.drop x.2.2.1.toNat l)))=
 (58:Int))then
 true
 else
 decide
 (x.2.2.1+↑(af (List.drop x.2.2.1.toNat l))+
 (1:Int)=
 ai l))=
 false->
 av
 (x.2.2.1+↑(af (List.drop x.2.2.1.toNat l))+
 (1:Int))/\
 within
 (x.2.2.1+↑(af (List.drop x.2.2.1.toNat l))+
 (1:Int))
 (ai l)/\
 ((!decide
 (ag l
 (x.2.2.1+
 ↑(af (List.drop x.2.2.1.toNat l))+
 (1:Int))=
 (58:Int)))=
 true->
 eK (VS.mk []
 [(0,PV.str l),(2,PV.ptr 34 0),
 (3,PV.bool false),(4,PV.ptr 36 0),
 (5,PV.int .u32 0),(6,PV.bool false),
 (7,PV.int .i64 (x.1+1)),
 (8,PV.int .i64 x.2.1),
 ((9:Nat),
 PV.int .i64
 (x.2.2.1+
 ↑(af (List.drop x.2.2.1.toNat l))+
 (1:Int))),
 uZ 10,uZ 13,uZ 17,
 uZ 30,uZ 43,uZ 56,
 uZ 67,uZ 73,uZ 75,
 uZ 82,uZ 95,uZ 113,
 uZ 120]
 [((36:Nat),
 PV.arr 8
 (al.ints .u16
 (aS x.2.2.2 x.1
 (bO
 (bZ l x.2.2.1
 (x.2.2.1+
 ↑(af
 (List.drop x.2.2.1.toNat l)))))))),
 ((34:Nat),
 PV.arr 8
 (al.ints .u16 (List.replicate (8:Nat) 0)))])/\
 (∃(acc:List Int),
 x.1+1=↑acc.length/\
 acc.length<=(8:Nat)/\
 aS x.2.2.2 x.1
 (bO
 (bZ l x.2.2.1
 (x.2.2.1+
 ↑(af
 (List.drop x.2.2.1.toNat l)))))=
 pad acc/\
 (-1:Int)<=x.2.1/\
 x.2.1<=x.1+1/\
 (0:Int)<=
 x.2.2.1+
 ↑(af
 (List.drop x.2.2.1.toNat l))+
 (1:Int)/\
 x.2.2.1+
 ↑(af
 (List.drop x.2.2.1.toNat l))+
 (1:Int)<=
 ↑(List.length l)/\
 eE l ((9:Nat)-acc.length) acc x.2.1
 (x.2.2.1+
 ↑(af
 (List.drop x.2.2.1.toNat l))+
 (1:Int)).toNat=
 gq l)/\
 ((9:Int)-(x.1+1)).toNat<((9:Int)-x.1).toNat)/\
 ((!decide
 (ag l
 (x.2.2.1+
 ↑(af (List.drop x.2.2.1.toNat l))+
 (1:Int))=
 (58:Int)))=
 false->
 (decide ((0:Int)<=x.2.1)=true->
 k
 (PV.tup
 [PV.arr 8 (al.ints .u16 (List.replicate (8:Nat) 0)),
 PV.bool false]))/\
 (decide ((0:Int)<=x.2.1)=false->
 av
 (x.2.2.1+
 ↑(af (List.drop x.2.2.1.toNat l))+
 (1:Int)+
 (1:Int))/\
 (decide
 (x.2.2.1+
 ↑(af
 (List.drop x.2.2.1.toNat l))+
 (1:Int)+
 (1:Int)<
 ai l)=
 true->
 eK (VS.mk []
 [(0,PV.str l),(2,PV.ptr 34 0),
 (3,PV.bool false),(4,PV.ptr 36 0),
 (5,PV.int .u32 0),
 (6,PV.bool false),
 (7,PV.int .i64 (x.1+1)),
 (8,PV.int .i64 (x.1+1)),
 ((9:Nat),
 PV.int .i64
 (x.2.2.1+
 ↑(af
 (List.drop x.2.2.1.toNat l))+
 (1:Int)+
 (1:Int))),
 uZ 10,uZ 13,
 uZ 17,uZ 30,
 uZ 43,uZ 56,
 uZ 67,uZ 73,
 uZ 75,uZ 82,
 uZ 95,uZ 113,
 uZ 120]
 [((36:Nat),
 PV.arr 8
 (al.ints .u16
 (aS x.2.2.2 x.1
 (bO
 (bZ l x.2.2.1
 (x.2.2.1+
 ↑(af
 (List.drop x.2.2.1.toNat l)))))))),
 ((34:Nat),
 PV.arr 8
 (al.ints .u16 (List.replicate (8:Nat) 0)))])/\
 (∃(acc:List Int),
 x.1+1=↑acc.length/\
 acc.length<=(8:Nat)/\
 aS x.2.2.2 x.1
 (bO
 (bZ l x.2.2.1
 (x.2.2.1+
 ↑(af
 (List.drop x.2.2.1.toNat l)))))=
 pad acc/\
 (-1:Int)<=x.1+1/\
 x.1+1<=x.1+1/\
 (0:Int)<=
 x.2.2.1+
 ↑(af
 (List.drop x.2.2.1.toNat l))+
 (1:Int)+
 (1:Int)/\
 x.2.2.1+
 ↑(af
 (List.drop x.2.2.1.toNat l))+
 (1:Int)+
 (1:Int)<=
 ↑(List.length l)/\
 eE l ((9:Nat)-acc.length) acc
 (x.1+1)
 (x.2.2.1+
 ↑(af
 (List.drop x.2.2.1.toNat l))+
 (1:Int)+
 (1:Int)).toNat=
 gq l)/\
 ((9:Int)-(x.1+1)).toNat<((9:Int)-x.1).toNat)/\
 (decide
 (x.2.2.1+
 ↑(af
 (List.drop x.2.2.1.toNat l))+
 (1:Int)+
 (1:Int)<
 ai l)=
 false->
 ((bif decide (x.1+1<0)then decide (x.1+1=8)
 else false)=
 true->
 k
 (PV.tup
 [PV.arr 8
 (al.ints .u16
 (aS x.2.2.2 x.1
 (bO
 (bZ l x.2.2.1
 (x.2.2.1+
 ↑(af
 (List.drop x.2.2.1.toNat l))))))),
 PV.bool true]))/\
 ((bif decide (x.1+1<0)then decide (x.1+1=8)
 else false)=
 false->
 ((bif decide ((0:Int)<=x.1+1)then decide (x.1+1<8)
 else false)=
 true->
 ((aS x.2.2.2 x.1
 (bO
 (bZ l x.2.2.1
 (x.2.2.1+
 ↑(af
 (List.drop x.2.2.1.toNat l)))))).length=
 (8:Nat)/\
 (0:Int)<=x.1+1/\
 x.1+1<=x.1+1/\x.1+1<=7)/\
 k
 (PV.tup
 [PV.arr 8
 (al.ints .u16
 (bY
 (aS x.2.2.2 x.1
 (bO
 (bZ l x.2.2.1
 (x.2.2.1+
 ↑(af
 (List.drop x.2.2.1.toNat l))))))
 (x.1+(1:Int)).toNat (x.1+1).toNat)),
 PV.bool true]))/\
 ((bif decide ((0:Int)<=x.1+1)then
 decide (x.1+1<8)
 else false)=
 false->
 k
 (PV.tup
 [PV.arr 8
 (al.ints .u16 (List.replicate (8:Nat) 0)),
 PV.bool false])))))))))))/\
 ((!preB l (bL #[58,58]))=false->
 (decide ((2:Int)=ai l)=true->
 (false=true->k (PV.tup [PV.arr 8 (al.ints .u16 (List.replicate (8:Nat) 0)),PV.bool true]))/\
 (false=false->
 (decide ((0:Int)<8)=true->
 ((List.replicate (8:Nat) 0).length=8/\(0:Int)<=0/\(0:Int)<=0/\(0:Int)<=7)/\
 k
 (PV.tup
 [PV.arr 8
 (al.ints .u16
 (bY (List.replicate (8:Nat) 0) (Int.toNat (0:Int)) (Int.toNat (0:Int)))),
 PV.bool true]))/\
 (decide ((0:Int)<8)=false->
 k (PV.tup [PV.arr 8 (al.ints .u16 (List.replicate (8:Nat) 0)),PV.bool false]))))/\
 (decide ((2:Int)=ai l)=false->
 ((0:Int)<=2/\(2:Int)<=↑(List.length l)/\List.length l<=(1000000:Nat))/\
 (decide ((2:Int)+↑(af (List.drop (Int.toNat (2:Int)) l))<ai l)=true->
 within ((2:Int)+↑(af (List.drop (Int.toNat (2:Int)) l))) (ai l))/\
 ((bif decide ((2:Int)+↑(af (List.drop (Int.toNat (2:Int)) l))<ai l)then
 decide (ag l ((2:Int)+↑(af (List.drop (Int.toNat (2:Int)) l)))=(46:Int))
 else false)=
 true->
 upto 2 (ai l) (ai l)/\
 (aa l 2).length.le 1000000/\
 ((bif !gT (aa l 2)then true else decide ((6:Int)<0))=true->
 k
 (PV.tup
 [PV.arr 8 (al.ints .u16 (List.replicate (8:Nat) 0)),PV.bool false]))/\
 ((bif !gT (aa l 2)then true else decide ((6:Int)<0))=false->
 av ((0:Int)+1)/\
 (0:Int)<=16/\
 within (0:Int) ↑(8:Nat)/\
 (within (0:Int) ↑(8:Nat)/\True)/\
 within ((0:Int)+(1:Int)) ↑(8:Nat)/\
 (within ((0:Int)+(1:Int)) ↑(8:Nat)/\True)/\
 av ((0:Int)+(2:Int))/\
 (false=true->
 k
 (PV.tup
 [PV.arr 8
 (al.ints .u16
 (aS
 (aS (List.replicate (8:Nat) 0) 0
 (Go.IntKind.u16.wrap
 (jX .u32 (cj (aa l 2))
 (16:Int))))
 ((0:Int)+1)
 (Go.IntKind.u16.wrap (cj (aa l 2))))),
 PV.bool true]))/\
 (false=false->
 (decide ((0:Int)+2<8)=true->
 ((aS
 (aS (List.replicate (8:Nat) 0) 0
 (Go.IntKind.u16.wrap
 (jX .u32 (cj (aa l 2))
 (16:Int))))
 ((0:Int)+1)
 (Go.IntKind.u16.wrap (cj (aa l 2)))).length=
 (8:Nat)/\
 (0:Int)<=0/\(0:Int)<=0+2/\(0:Int)+2<=7)/\
 k
 (PV.tup
 [PV.arr 8
 (al.ints .u16
 (bY
 (aS
 (aS (List.replicate (8:Nat) 0) 0
 (Go.IntKind.u16.wrap
 (jX .u32
 (cj (aa l 2)) 16)))
 ((0:Int)+1)
 (Go.IntKind.u16.wrap (cj (aa l 2))))
 ((0:Int)+2).toNat (Int.toNat (0:Int)))),
 PV.bool true]))/\
 (decide ((0:Int)+2<8)=false->
 k
 (PV.tup
 [PV.arr 8 (al.ints .u16 (List.replicate (8:Nat) 0)),
 PV.bool false])))))/\
 ((bif decide ((2:Int)+↑(af (List.drop (Int.toNat (2:Int)) l))<ai l)then
 decide (ag l ((2:Int)+↑(af (List.drop (Int.toNat (2:Int)) l)))=(46:Int))
 else false)=
 false->
 (decide ((2:Int)+↑(af (List.drop (Int.toNat (2:Int)) l))=(2:Int))=false->
 av ((2:Int)+4))/\
 ((bif decide ((2:Int)+↑(af (List.drop (Int.toNat (2:Int)) l))=(2:Int))then true
 else decide ((2:Int)+4<2+↑(af (List.drop (Int.toNat (2:Int)) l))))=
 true->
 k (PV.tup [PV.arr 8 (al.ints .u16 (List.replicate (8:Nat) 0)),PV.bool false]))/\
 ((bif decide ((2:Int)+↑(af (List.drop (Int.toNat (2:Int)) l))=(2:Int))then true
 else decide ((2:Int)+4<2+↑(af (List.drop (Int.toNat (2:Int)) l))))=
 false->
 upto 2 ((2:Int)+↑(af (List.drop (Int.toNat (2:Int)) l))) (ai l)/\
 ((bZ l 2 ((2:Int)+↑(af (List.drop (Int.toNat (2:Int)) l)))).length<=
 (4:Nat)/\
 ∀(i:Nat),
 i<
 (bZ l 2
 ((2:Int)+↑(af (List.drop (Int.toNat (2:Int)) l)))).length->
 (0:Int)<=
 aR
 (ar
 (bZ l 2 ((2:Int)+↑(af (List.drop (Int.toNat (2:Int)) l))))
 i))/\
 within (0:Int) ↑(8:Nat)/\
 (within (0:Int) ↑(8:Nat)/\True)/\
 av ((0:Int)+(1:Int))/\
 (decide ((2:Int)+↑(af (List.drop (Int.toNat (2:Int)) l))=ai l)=
 true->
 (false=true->
 k
 (PV.tup
 [PV.arr 8
 (al.ints .u16
 (aS (List.replicate (8:Nat) 0) 0
 (bO
 (bZ l 2
 ((2:Int)+↑(af (List.drop (Int.toNat (2:Int)) l))))))),
 PV.bool true]))/\
 (false=false->
 (decide ((0:Int)+1<8)=true->
 ((aS (List.replicate (8:Nat) 0) 0
 (bO
 (bZ l 2
 ((2:Int)+
 ↑(af (List.drop (Int.toNat (2:Int)) l)))))).length=
 (8:Nat)/\
 (0:Int)<=0/\(0:Int)<=0+1/\(0:Int)+1<=7)/\
 k
 (PV.tup
 [PV.arr 8
 (al.ints .u16
 (bY
 (aS (List.replicate (8:Nat) 0) 0
 (bO
 (bZ l 2
 ((2:Int)+
 ↑(af (List.drop (Int.toNat (2:Int)) l))))))
 ((0:Int)+1).toNat (Int.toNat (0:Int)))),
 PV.bool true]))/\
 (decide ((0:Int)+1<8)=false->
 k
 (PV.tup
 [PV.arr 8 (al.ints .u16 (List.replicate (8:Nat) 0)),
 PV.bool false]))))/\
 (decide ((2:Int)+↑(af (List.drop (Int.toNat (2:Int)) l))=ai l)=
 false->
 within ((2:Int)+↑(af (List.drop (Int.toNat (2:Int)) l)))
 (ai l)/\
 ((!decide
 (ag l
 ((2:Int)+↑(af (List.drop (Int.toNat (2:Int)) l)))=
 (58:Int)))=
 false->
 av
 ((2:Int)+↑(af (List.drop (Int.toNat (2:Int)) l))+(1:Int)))/\
 ((bif
 !decide
 (ag l
 ((2:Int)+↑(af (List.drop (Int.toNat (2:Int)) l)))=
 (58:Int))then
 true
 else
 decide
 ((2:Int)+↑(af (List.drop (Int.toNat (2:Int)) l))+(1:Int)=
 ai l))=
 true->
 k
 (PV.tup
 [PV.arr 8 (al.ints .u16 (List.replicate (8:Nat) 0)),
 PV.bool false]))/\
 ((bif
 !decide
 (ag l
 ((2:Int)+↑(af (List.drop (Int.toNat (2:Int)) l)))=
 (58:Int))then
 true
 else
 decide
 ((2:Int)+↑(af (List.drop (Int.toNat (2:Int)) l))+(1:Int)=
 ai l))=
 false->
 av
 ((2:Int)+↑(af (List.drop (Int.toNat (2:Int)) l))+(1:Int))/\
 within
 ((2:Int)+↑(af (List.drop (Int.toNat (2:Int)) l))+(1:Int))
 (ai l)/\
 ((!decide
 (ag l
 ((2:Int)+↑(af (List.drop (Int.toNat (2:Int)) l))+
 (1:Int))=
 (58:Int)))=
 true->
 VS.mk []
 [(0,PV.str l),(2,PV.ptr 34 0),
 (3,PV.bool false),(4,PV.ptr 36 0),
 (5,PV.int .u32 0),(6,PV.bool false),
 (7,PV.int .i64 ((0:Int)+1)),
 (8,PV.int .i64 0),
 (9,
 PV.int .i64
 ((2:Int)+
 ↑(af (List.drop (Int.toNat (2:Int)) l))+
 (1:Int))),
 uZ 10,uZ 13,uZ 17,
 uZ 30,uZ 43,uZ 56,
 uZ 67,uZ 73,uZ 75,
 uZ 82,uZ 95,uZ 113,
 uZ 120]
 [((4:Nat)+32,
 PV.arr 8
 (al.ints .u16
 (aS (List.replicate (8:Nat) 0) 0
 (bO
 (bZ l 2
 ((2:Int)+
 ↑(af
 (List.drop (Int.toNat (2:Int)) l)))))))),
 ((2:Nat)+32,
 PV.arr 8 (al.ints .u16 (List.replicate (8:Nat) 0)))]=
 VS.mk []
 [(0,PV.str l),(2,PV.ptr 34 0),
 (3,PV.bool false),(4,PV.ptr 36 0),
 (5,PV.int .u32 0),(6,PV.bool false),
 (7,PV.int .i64 ((0:Int)+1)),
 (8,PV.int .i64 0),
 ((9:Nat),
 PV.int .i64
 ((2:Int)+
 ↑(af (List.drop (Int.toNat (2:Int)) l))+
 (1:Int))),
 uZ 10,uZ 13,uZ 17,
 uZ 30,uZ 43,uZ 56,
 uZ 67,uZ 73,uZ 75,
 uZ 82,uZ 95,uZ 113,
 uZ 120]
 [((36:Nat),
 PV.arr 8
 (al.ints .u16
 (aS (List.replicate (8:Nat) 0) 0
 (bO
 (bZ l 2
 ((2:Int)+
 ↑(af
 (List.drop (Int.toNat (2:Int)) l)))))))),
 ((34:Nat),
 PV.arr 8 (al.ints .u16 (List.replicate (8:Nat) 0)))]/\
 (∃(acc:List Int),
 (0:Int)+1=↑acc.length/\
 acc.length<=(8:Nat)/\
 aS (List.replicate (8:Nat) 0) 0
 (bO
 (bZ l 2
 ((2:Int)+
 ↑(af
 (List.drop (Int.toNat (2:Int)) l)))))=
 pad acc/\
 (-1:Int)<=0/\
 (0:Int)<=0+1/\
 (0:Int)<=
 (2:Int)+
 ↑(af
 (List.drop (Int.toNat (2:Int)) l))+
 (1:Int)/\
 (2:Int)+
 ↑(af
 (List.drop (Int.toNat (2:Int)) l))+
 (1:Int)<=
 ↑(List.length l)/\
 eE l ((9:Nat)-acc.length) acc 0
 ((2:Int)+
 ↑(af
 (List.drop (Int.toNat (2:Int)) l))+
 (1:Int)).toNat=
 gq l)/\
 ∀(x:Int×Int×Int×List Int),
 (∃(acc:List Int),
 x.1=↑acc.length/\
 acc.length<=(8:Nat)/\
 x.2.2.2=pad acc/\
 (-1:Int)<=x.2.1/\
 x.2.1<=x.1/\
 (0:Int)<=x.2.2.1/\
 x.2.2.1<=↑(List.length l)/\
 eE l ((9:Nat)-acc.length) acc x.2.1
 x.2.2.1.toNat=
 gq l)->
 ((0:Int)<=x.2.2.1/\x.2.2.1<=↑(List.length l)/\List.length l<=(1000000:Nat))/\
 (decide
 (x.2.2.1+
 ↑(af (List.drop x.2.2.1.toNat l))<
 ai l)=
 true->
 within
 (x.2.2.1+
 ↑(af (List.drop x.2.2.1.toNat l)))
 (ai l))/\
 ((bif
 decide
 (x.2.2.1+
 ↑(af
 (List.drop x.2.2.1.toNat l))<
 ai l)then
 decide
 (ag l
 (x.2.2.1+
 ↑(af
 (List.drop x.2.2.1.toNat l)))=
 (46:Int))
 else false)=
 true->
 upto x.2.2.1 (ai l) (ai l)/\
 (aa l x.2.2.1).length.le 1000000/\
 ((bif !gT (aa l x.2.2.1)then
 true
 else decide ((6:Int)<x.1))=
 true->
 k
 (PV.tup
 [PV.arr 8
 (al.ints .u16 (List.replicate (8:Nat) 0)),
 PV.bool false]))/\
 ((bif !gT (aa l x.2.2.1)then
 true
 else decide ((6:Int)<x.1))=
 false->
 av (x.1+1)/\
 (0:Int)<=16/\
 within x.1 ↑(8:Nat)/\
 (within x.1 ↑(8:Nat)/\True)/\
 within (x.1+(1:Int)) ↑(8:Nat)/\
 (within (x.1+(1:Int)) ↑(8:Nat)/\True)/\
 av (x.1+(2:Int))/\
 ((bif decide (x.2.1<0)then
 decide (x.1+2=8)
 else false)=
 true->
 k
 (PV.tup
 [PV.arr 8
 (al.ints .u16
 (aS
 (aS x.2.2.2 x.1
 (Go.IntKind.u16.wrap
 (jX .u32
 (cj
 (aa l x.2.2.1))
 (16:Int))))
 (x.1+1)
 (Go.IntKind.u16.wrap
 (cj
 (aa l x.2.2.1))))),
 PV.bool true]))/\
 ((bif decide (x.2.1<0)then
 decide (x.1+2=8)
 else false)=
 false->
 ((bif decide ((0:Int)<=x.2.1)then
 decide (x.1+2<8)
 else false)=
 true->
 ((aS
 (aS x.2.2.2 x.1
 (Go.IntKind.u16.wrap
 (jX .u32
 (cj
 (aa l x.2.2.1))
 (16:Int))))
 (x.1+1)
 (Go.IntKind.u16.wrap
 (cj
 (aa l x.2.2.1)))).length=
 (8:Nat)/\
 (0:Int)<=x.2.1/\
 x.2.1<=x.1+2/\
 x.1+2<=7)/\
 k
 (PV.tup
 [PV.arr 8
 (al.ints .u16
 (bY
 (aS
 (aS x.2.2.2 x.1
 (Go.IntKind.u16.wrap
 (jX .u32
 (cj
 (aa l x.2.2.1))
 (16:Int))))
 (x.1+1)
 (Go.IntKind.u16.wrap
 (cj
 (aa l x.2.2.1))))
 (x.1+2).toNat x.2.1.toNat)),
 PV.bool true]))/\
 ((bif decide ((0:Int)<=x.2.1)then
 decide (x.1+2<8)
 else false)=
 false->
 k
 (PV.tup
 [PV.arr 8
 (al.ints .u16
 (List.replicate (8:Nat) 0)),
 PV.bool false])))))/\
 ((bif
 decide
 (x.2.2.1+
 ↑(af
 (List.drop x.2.2.1.toNat l))<
 ai l)then
 decide
 (ag l
 (x.2.2.1+
 ↑(af
 (List.drop x.2.2.1.toNat l)))=
 (46:Int))
 else false)=
 false->
 ((bif decide (x.1=8)then true
 else
 decide
 (x.2.2.1+
 ↑(af
 (List.drop x.2.2.1.toNat l))=
 x.2.2.1))=
 false->
 av (x.2.2.1+4))/\
 ((bif
 bif decide (x.1=8)then true
 else
 decide
 (x.2.2.1+
 ↑(af
 (List.drop x.2.2.1.toNat l))=
 x.2.2.1)then
 true
 else
 decide
 (x.2.2.1+4<
 x.2.2.1+
 ↑(af
 (List.drop x.2.2.1.toNat l))))=
 true->
 k
 (PV.tup
 [PV.arr 8
 (al.ints .u16 (List.replicate (8:Nat) 0)),
 PV.bool false]))/\
 ((bif
 bif decide (x.1=8)then true
 else
 decide
 (x.2.2.1+
 ↑(af
 (List.drop x.2.2.1.toNat l))=
 x.2.2.1)then
 true
 else
 decide
 (x.2.2.1+4<
 x.2.2.1+
 ↑(af
 (List.drop x.2.2.1.toNat l))))=
 false->
 upto x.2.2.1
 (x.2.2.1+
 ↑(af
 (List.drop x.2.2.1.toNat l)))
 (ai l)/\
 ((bZ l x.2.2.1
 (x.2.2.1+
 ↑(af
 (List.drop x.2.2.1.toNat l)))).length<=
 (4:Nat)/\
 ∀(i:Nat),
 i<
 (bZ l x.2.2.1
 (x.2.2.1+
 ↑(af
 (List.drop x.2.2.1.toNat l)))).length->
 (0:Int)<=
 aR
 (ar
 (bZ l x.2.2.1
 (x.2.2.1+
 ↑(af
 (List.drop x.2.2.1.toNat l))))
 i))/\
 within x.1 ↑(8:Nat)/\
 (within x.1 ↑(8:Nat)/\True)/\
 av (x.1+(1:Int))/\
 (decide
 (x.2.2.1+
 ↑(af
 (List.drop x.2.2.1.toNat l))=
 ai l)=
 true->
 ((bif decide (x.2.1<0)then
 decide (x.1+1=8)
 else false)=
 true->
 k
 (PV.tup
 [PV.arr 8
 (al.ints .u16
 (aS x.2.2.2 x.1
 (bO
 (bZ l x.2.2.1
 (x.2.2.1+
 ↑(af
 (List.drop x.2.2.1.toNat l))))))),
 PV.bool true]))/\
 ((bif decide (x.2.1<0)then
 decide (x.1+1=8)
 else false)=
 false->
 ((bif decide ((0:Int)<=x.2.1)then
 decide (x.1+1<8)
 else false)=
 true->
 ((aS x.2.2.2 x.1
 (bO
 (bZ l x.2.2.1
 (x.2.2.1+
 ↑(af
 (List.drop x.2.2.1.toNat
 l)))))).length=
 (8:Nat)/\
 (0:Int)<=x.2.1/\
 x.2.1<=x.1+1/\
 x.1+1<=7)/\
 k
 (PV.tup
 [PV.arr 8
 (al.ints .u16
 (bY
 (aS x.2.2.2 x.1
 (bO
 (bZ l x.2.2.1
 (x.2.2.1+
 ↑(af
 (List.drop x.2.2.1.toNat
 l))))))
 (x.1+(1:Int)).toNat x.2.1.toNat)),
 PV.bool true]))/\
 ((bif decide ((0:Int)<=x.2.1)then
 decide (x.1+1<8)
 else false)=
 false->
 k
 (PV.tup
 [PV.arr 8
 (al.ints .u16
 (List.replicate (8:Nat) 0)),
 PV.bool false]))))/\
 (decide
 (x.2.2.1+
 ↑(af
 (List.drop x.2.2.1.toNat l))=
 ai l)=
 false->
 within
 (x.2.2.1+
 ↑(af
 (List.drop x.2.2.1.toNat l)))
 (ai l)/\
 ((!decide
 (ag l
 (x.2.2.1+
 ↑(af
 (List.drop x.2.2.1.toNat l)))=
 (58:Int)))=
 false->
 av
 (x.2.2.1+
 ↑(af
 (List.drop x.2.2.1.toNat l))+
 (1:Int)))/\
 ((bif
 !decide
 (ag l
 (x.2.2.1+
 ↑(af
 (List.drop x.2.2.1.toNat l)))=
 (58:Int))then
 true
 else
 decide
 (x.2.2.1+
 ↑(af
 (List.drop x.2.2.1.toNat l))+
 (1:Int)=
 ai l))=
 true->
 k
 (PV.tup
 [PV.arr 8
 (al.ints .u16
 (List.replicate (8:Nat) 0)),
 PV.bool false]))/\
 ((bif
 !decide
 (ag l
 (x.2.2.1+
 ↑(af
 (List.drop x.2.2.1.toNat l)))=
 (58:Int))then
 true
 else
 decide
 (x.2.2.1+
 ↑(af
 (List.drop x.2.2.1.toNat l))+
 (1:Int)=
 ai l))=
 false->
 av
 (x.2.2.1+
 ↑(af
 (List.drop x.2.2.1.toNat l))+
 (1:Int))/\
 within
 (x.2.2.1+
 ↑(af
 (List.drop x.2.2.1.toNat l))+
 (1:Int))
 (ai l)/\
 ((!decide
 (ag l
 (x.2.2.1+
 ↑(af
 (List.drop x.2.2.1.toNat l))+
 (1:Int))=
 (58:Int)))=
 true->
 eK (VS.mk []
 [(0,PV.str l),
 ((2:Nat),
 PV.ptr 34 0),
 (3,PV.bool false),
 ((4:Nat),
 PV.ptr 36 0),
 ((5:Nat),
 PV.int .u32 0),
 (6,PV.bool false),
 ((7:Nat),
 PV.int .i64
 (x.1+1)),
 ((8:Nat),
 PV.int .i64 x.2.1),
 ((9:Nat),
 PV.int .i64
 (x.2.2.1+
 ↑(af
 (List.drop x.2.2.1.toNat
 l))+
 (1:Int))),
 uZ 10,
 uZ 13,
 uZ 17,
 uZ 30,
 uZ 43,
 uZ 56,
 uZ 67,
 uZ 73,
 uZ 75,
 uZ 82,
 uZ 95,
 uZ 113,
 uZ 120]
 [((36:Nat),
 PV.arr 8
 (al.ints .u16
 (aS x.2.2.2 x.1
 (bO
 (bZ l x.2.2.1
 (x.2.2.1+
 ↑(af
 (List.drop
 x.2.2.1.toNat
 l)))))))),
 ((34:Nat),
 PV.arr 8
 (al.ints .u16
 (List.replicate (8:Nat)
 (0:Int))))])/\
 (∃(acc:List Int),
 x.1+1=↑acc.length/\
 acc.length<=(8:Nat)/\
 aS x.2.2.2 x.1
 (bO
 (bZ l x.2.2.1
 (x.2.2.1+
 ↑(af
 (List.drop
 x.2.2.1.toNat
 l)))))=
 pad
 acc/\
 (-1:Int)<=x.2.1/\
 x.2.1<=x.1+1/\
 (0:Int)<=
 x.2.2.1+
 ↑(af
 (List.drop
 x.2.2.1.toNat
 l))+
 (1:Int)/\
 x.2.2.1+
 ↑(af
 (List.drop
 x.2.2.1.toNat
 l))+
 (1:Int)<=
 ↑(List.length l)/\
 eE
 l ((9:Nat)-acc.length) acc
 x.2.1
 (x.2.2.1+
 ↑(af
 (List.drop
 x.2.2.1.toNat
 l))+
 (1:Int)).toNat=
 gq
 l)/\
 ((9:Int)-(x.1+1)).toNat<
 ((9:Int)-x.1).toNat)/\
 ((!decide
 (ag l
 (x.2.2.1+
 ↑(af
 (List.drop x.2.2.1.toNat l))+
 (1:Int))=
 (58:Int)))=
 false->
 (decide ((0:Int)<=x.2.1)=true->
 k
 (PV.tup
 [PV.arr 8
 (al.ints .u16
 (List.replicate (8:Nat) 0)),
 PV.bool false]))/\
 (decide ((0:Int)<=x.2.1)=false->
 av
 (x.2.2.1+
 ↑(af
 (List.drop x.2.2.1.toNat l))+
 (1:Int)+
 (1:Int))/\
 (decide
 (x.2.2.1+
 ↑(af
 (List.drop
 x.2.2.1.toNat l))+
 (1:Int)+
 (1:Int)<
 ai l)=
 true->
 eK (VS.mk []
 [(0,PV.str l),
 ((2:Nat),
 PV.ptr 34
 (0:Nat)),
 (3,PV.bool false),
 ((4:Nat),
 PV.ptr 36
 (0:Nat)),
 ((5:Nat),
 PV.int .u32
 (0:Int)),
 (6,PV.bool false),
 ((7:Nat),
 PV.int .i64
 (x.1+1)),
 ((8:Nat),
 PV.int .i64
 (x.1+1)),
 ((9:Nat),
 PV.int .i64
 (x.2.2.1+
 ↑(af
 (List.drop
 x.2.2.1.toNat
 l))+
 (1:Int)+
 (1:Int))),
 uZ 10,
 uZ 13,
 uZ 17,
 uZ 30,
 uZ 43,
 uZ 56,
 uZ 67,
 uZ 73,
 uZ 75,
 uZ 82,
 uZ 95,
 uZ 113,
 uZ 120]
 [((36:Nat),
 PV.arr 8
 (al.ints .u16
 (aS x.2.2.2
 x.1
 (bO
 (bZ l
 x.2.2.1
 (x.2.2.1+
 ↑(af
 (List.drop
 x.2.2.1.toNat
 l)))))))),
 ((34:Nat),
 PV.arr 8
 (al.ints .u16
 (List.replicate (8:Nat)
 (0:Int))))])/\
 (∃(acc:List Int),
 x.1+1=↑acc.length/\
 acc.length<=(8:Nat)/\
 aS x.2.2.2 x.1
 (bO
 (bZ l
 x.2.2.1
 (x.2.2.1+
 ↑(af
 (List.drop
 x.2.2.1.toNat
 l)))))=
 pad
 acc/\
 (-1:Int)<=x.1+1/\
 x.1+1<=
 x.1+1/\
 (0:Int)<=
 x.2.2.1+
 ↑(af
 (List.drop
 x.2.2.1.toNat
 l))+
 (1:Int)+
 (1:Int)/\
 x.2.2.1+
 ↑(af
 (List.drop
 x.2.2.1.toNat
 l))+
 (1:Int)+
 (1:Int)<=
 ↑(List.length l)/\
 eE
 l
 ((9:Nat)-
 acc.length)
 acc
 (x.1+1)
 (x.2.2.1+
 ↑(af
 (List.drop
 x.2.2.1.toNat
 l))+
 (1:Int)+
 (1:
 Int)).toNat=
 gq
 l)/\
 ((9:Int)-
 (x.1+1)).toNat<
 ((9:Int)-x.1).toNat)/\
 (decide
 (x.2.2.1+
 ↑(af
 (List.drop
 x.2.2.1.toNat l))+
 (1:Int)+
 (1:Int)<
 ai l)=
 false->
 ((bif
 decide
 (x.1+1<
 (0:Int))then
 decide
 (x.1+1=8)
 else false)=
 true->
 k
 (PV.tup
 [PV.arr 8
 (al.ints .u16
 (aS x.2.2.2
 x.1
 (bO
 (bZ l
 x.2.2.1
 (x.2.2.1+
 ↑(af
 (List.drop
 x.2.2.1.toNat
 l))))))),
 PV.bool true]))/\
 ((bif
 decide
 (x.1+1<
 (0:Int))then
 decide
 (x.1+1=8)
 else false)=
 false->
 ((bif
 decide
 ((0:Int)<=
 x.1+1)then
 decide
 (x.1+1<
 (8:Int))
 else false)=
 true->
 ((aS x.2.2.2 x.1
 (bO
 (bZ l
 x.2.2.1
 (x.2.2.1+
 ↑(af
 (List.drop
 x.2.2.1.toNat
 l)))))).length=
 (8:Nat)/\
 (0:Int)<=x.1+1/\
 x.1+1<=
 x.1+1/\
 x.1+1<=
 (7:Int))/\
 k
 (PV.tup
 [PV.arr 8
 (al.ints
 .u16
 (bY
 (aS
 x.2.2.2 x.1
 (bO
 (bZ l
 x.2.2.1
 (x.2.2.1+
 ↑(af
 (List.drop
 x.2.2.1.toNat
 l))))))
 (x.1+
 (1:Int)).toNat
 (x.1+
 (1:
 Int)).toNat)),
 PV.bool true]))/\
 ((bif
 decide
 ((0:Int)<=
 x.1+1)then
 decide
 (x.1+1<
 (8:Int))
 else false)=
 false->
 k
 (PV.tup
 [PV.arr 8
 (al.ints
 .u16
 (List.replicate (8:Nat)
 (0:Int))),
 PV.bool
 false])))))))))))/\
 ((!decide
 (ag l
 ((2:Int)+↑(af (List.drop (Int.toNat (2:Int)) l))+
 (1:Int))=
 (58:Int)))=
 false->
 (decide ((0:Int)<=0)=true->
 k
 (PV.tup
 [PV.arr 8 (al.ints .u16 (List.replicate (8:Nat) 0)),
 PV.bool false]))/\
 (decide ((0:Int)<=0)=false->
 av
 ((2:Int)+↑(af (List.drop (Int.toNat (2:Int)) l))+
 (1:Int)+
 (1:Int))/\
 (decide
 ((2:Int)+
 ↑(af (List.drop (Int.toNat (2:Int)) l))+
 (1:Int)+
 (1:Int)<
 ai l)=
 true->
 VS.mk []
 [(0,PV.str l),
 (2,PV.ptr 34 0),
 (3,PV.bool false),
 (4,PV.ptr 36 0),
 (5,PV.int .u32 0),(6,PV.bool false),
 (7,PV.int .i64 ((0:Int)+1)),
 (8,PV.int .i64 ((0:Int)+1)),
 (9,
 PV.int .i64
 ((2:Int)+
 ↑(af
 (List.drop (Int.toNat (2:Int)) l))+
 (1:Int)+
 (1:Int))),
 uZ 10,uZ 13,
 uZ 17,uZ 30,
 uZ 43,uZ 56,
 uZ 67,uZ 73,
 uZ 75,uZ 82,
 uZ 95,uZ 113,
 uZ 120]
 [((4:Nat)+32,
 PV.arr 8
 (al.ints .u16
 (aS (List.replicate (8:Nat) 0) 0
 (bO
 (bZ l 2
 ((2:Int)+
 ↑(af
 (List.drop (Int.toNat (2:Int)) l)))))))),
 ((2:Nat)+32,
 PV.arr 8
 (al.ints .u16 (List.replicate (8:Nat) 0)))]=
 VS.mk []
 [(0,PV.str l),(2,PV.ptr 34 0),
 (3,PV.bool false),(4,PV.ptr 36 0),
 (5,PV.int .u32 0),(6,PV.bool false),
 (7,PV.int .i64 ((0:Int)+1)),
 (8,PV.int .i64 ((0:Int)+1)),
 ((9:Nat),
 PV.int .i64
 ((2:Int)+
 ↑(af
 (List.drop (Int.toNat (2:Int)) l))+
 (1:Int)+
 (1:Int))),
 uZ 10,uZ 13,
 uZ 17,uZ 30,
 uZ 43,uZ 56,
 uZ 67,uZ 73,
 uZ 75,uZ 82,
 uZ 95,uZ 113,
 uZ 120]
 [((36:Nat),
 PV.arr 8
 (al.ints .u16
 (aS (List.replicate (8:Nat) 0) 0
 (bO
 (bZ l 2
 ((2:Int)+
 ↑(af
 (List.drop (Int.toNat (2:Int)) l)))))))),
 ((34:Nat),
 PV.arr 8
 (al.ints .u16 (List.replicate (8:Nat) 0)))]/\
 (∃(acc:List Int),
 (0:Int)+1=↑acc.length/\
 acc.length<=(8:Nat)/\
 aS (List.replicate (8:Nat) 0) 0
 (bO
 (bZ l 2
 ((2:Int)+
 ↑(af
 (List.drop (Int.toNat (2:Int)) l)))))=
 pad acc/\
 (-1:Int)<=0+1/\
 (0:Int)+1<=0+1/\
 (0:Int)<=
 (2:Int)+
 ↑(af
 (List.drop (Int.toNat (2:Int)) l))+
 (1:Int)+
 (1:Int)/\
 (2:Int)+
 ↑(af
 (List.drop (Int.toNat (2:Int)) l))+
 (1:Int)+
 (1:Int)<=
 ↑(List.length l)/\
 eE l ((9:Nat)-acc.length) acc
 ((0:Int)+1)
 ((2:Int)+
 ↑(af
 (List.drop (Int.toNat (2:Int)) l))+
 (1:Int)+
 (1:Int)).toNat=
 gq l)/\
 ∀(x:Int×Int×Int×List Int),
 (∃(acc:List Int),
 x.1=↑acc.length/\
 acc.length<=(8:Nat)/\
 x.2.2.2=pad acc/\
 (-1:Int)<=x.2.1/\
 x.2.1<=x.1/\
 (0:Int)<=x.2.2.1/\
 x.2.2.1<=↑(List.length l)/\
 eE l ((9:Nat)-acc.length) acc
 x.2.1 x.2.2.1.toNat=
 gq l)->
 ((0:Int)<=x.2.2.1/\
 x.2.2.1<=↑(List.length l)/\List.length l<=(1000000:Nat))/\
 (decide
 (x.2.2.1+
 ↑(af
 (List.drop x.2.2.1.toNat l))<
 ai l)=
 true->
 within
 (x.2.2.1+
 ↑(af
 (List.drop x.2.2.1.toNat l)))
 (ai l))/\
 ((bif
 decide
 (x.2.2.1+
 ↑(af
 (List.drop x.2.2.1.toNat l))<
 ai l)then
 decide
 (ag l
 (x.2.2.1+
 ↑(af
 (List.drop x.2.2.1.toNat l)))=
 (46:Int))
 else false)=
 true->
 upto x.2.2.1 (ai l) (ai l)/\
 (aa l x.2.2.1).length.le 1000000/\
 ((bif
 !gT
 (aa l x.2.2.1)then
 true
 else decide ((6:Int)<x.1))=
 true->
 k
 (PV.tup
 [PV.arr 8
 (al.ints .u16
 (List.replicate (8:Nat) 0)),
 PV.bool false]))/\
 ((bif
 !gT
 (aa l x.2.2.1)then
 true
 else decide ((6:Int)<x.1))=
 false->
 av (x.1+1)/\
 (0:Int)<=16/\
 within x.1 ↑(8:Nat)/\
 (within x.1 ↑(8:Nat)/\True)/\
 within (x.1+(1:Int)) ↑(8:Nat)/\
 (within (x.1+(1:Int)) ↑(8:Nat)/\True)/\
 av (x.1+(2:Int))/\
 ((bif decide (x.2.1<0)then
 decide (x.1+2=8)
 else false)=
 true->
 k
 (PV.tup
 [PV.arr 8
 (al.ints .u16
 (aS
 (aS x.2.2.2 x.1
 (Go.IntKind.u16.wrap
 (jX .u32
 (cj
 (aa l x.2.2.1))
 (16:Int))))
 (x.1+1)
 (Go.IntKind.u16.wrap
 (cj
 (aa l x.2.2.1))))),
 PV.bool true]))/\
 ((bif decide (x.2.1<0)then
 decide (x.1+2=8)
 else false)=
 false->
 ((bif decide ((0:Int)<=x.2.1)then
 decide (x.1+2<8)
 else false)=
 true->
 ((aS
 (aS x.2.2.2 x.1
 (Go.IntKind.u16.wrap
 (jX .u32
 (cj
 (aa l x.2.2.1))
 (16:Int))))
 (x.1+1)
 (Go.IntKind.u16.wrap
 (cj
 (aa l
 x.2.2.1)))).length=
 (8:Nat)/\
 (0:Int)<=x.2.1/\
 x.2.1<=x.1+2/\
 x.1+2<=7)/\
 k
 (PV.tup
 [PV.arr 8
 (al.ints .u16
 (bY
 (aS
 (aS x.2.2.2 x.1
 (Go.IntKind.u16.wrap
 (jX .u32
 (cj
 (aa l
 x.2.2.1))
 (16:Int))))
 (x.1+1)
 (Go.IntKind.u16.wrap
 (cj
 (aa l
 x.2.2.1))))
 (x.1+2).toNat
 x.2.1.toNat)),
 PV.bool true]))/\
 ((bif decide ((0:Int)<=x.2.1)then
 decide (x.1+2<8)
 else false)=
 false->
 k
 (PV.tup
 [PV.arr 8
 (al.ints .u16
 (List.replicate (8:Nat) 0)),
 PV.bool false])))))/\
 ((bif
 decide
 (x.2.2.1+
 ↑(af
 (List.drop x.2.2.1.toNat l))<
 ai l)then
 decide
 (ag l
 (x.2.2.1+
 ↑(af
 (List.drop x.2.2.1.toNat l)))=
 (46:Int))
 else false)=
 false->
 ((bif decide (x.1=8)then true
 else
 decide
 (x.2.2.1+
 ↑(af
 (List.drop x.2.2.1.toNat l))=
 x.2.2.1))=
 false->
 av (x.2.2.1+4))/\
 ((bif
 bif decide (x.1=8)then true
 else
 decide
 (x.2.2.1+
 ↑(af
 (List.drop x.2.2.1.toNat l))=
 x.2.2.1)then
 true
 else
 decide
 (x.2.2.1+4<
 x.2.2.1+
 ↑(af
 (List.drop x.2.2.1.toNat l))))=
 true->
 k
 (PV.tup
 [PV.arr 8
 (al.ints .u16
 (List.replicate (8:Nat) 0)),
 PV.bool false]))/\
 ((bif
 bif decide (x.1=8)then true
 else
 decide
 (x.2.2.1+
 ↑(af
 (List.drop x.2.2.1.toNat l))=
 x.2.2.1)then
 true
 else
 decide
 (x.2.2.1+4<
 x.2.2.1+
 ↑(af
 (List.drop x.2.2.1.toNat l))))=
 false->
 upto x.2.2.1
 (x.2.2.1+
 ↑(af
 (List.drop x.2.2.1.toNat l)))
 (ai l)/\
 ((bZ l x.2.2.1
 (x.2.2.1+
 ↑(af
 (List.drop x.2.2.1.toNat l)))).length<=
 (4:Nat)/\
 ∀(i:Nat),
 i<
 (bZ l x.2.2.1
 (x.2.2.1+
 ↑(af
 (List.drop x.2.2.1.toNat l)))).length->
 (0:Int)<=
 aR
 (ar
 (bZ l x.2.2.1
 (x.2.2.1+
 ↑(af
 (List.drop x.2.2.1.toNat l))))
 i))/\
 within x.1 ↑(8:Nat)/\
 (within x.1 ↑(8:Nat)/\True)/\
 av (x.1+(1:Int))/\
 (decide
 (x.2.2.1+
 ↑(af
 (List.drop x.2.2.1.toNat l))=
 ai l)=
 true->
 ((bif decide (x.2.1<0)then
 decide (x.1+1=8)
 else false)=
 true->
 k
 (PV.tup
 [PV.arr 8
 (al.ints .u16
 (aS x.2.2.2 x.1
 (bO
 (bZ l x.2.2.1
 (x.2.2.1+
 ↑(af
 (List.drop x.2.2.1.toNat
 l))))))),
 PV.bool true]))/\
 ((bif decide (x.2.1<0)then
 decide (x.1+1=8)
 else false)=
 false->
 ((bif decide ((0:Int)<=x.2.1)then
 decide (x.1+1<8)
 else false)=
 true->
 ((aS x.2.2.2 x.1
 (bO
 (bZ l x.2.2.1
 (x.2.2.1+
 ↑(af
 (List.drop x.2.2.1.toNat
 l)))))).length=
 (8:Nat)/\
 (0:Int)<=x.2.1/\
 x.2.1<=x.1+1/\
 x.1+1<=7)/\
 k
 (PV.tup
 [PV.arr 8
 (al.ints .u16
 (bY
 (aS x.2.2.2 x.1
 (bO
 (bZ l x.2.2.1
 (x.2.2.1+
 ↑(af
 (List.drop
 x.2.2.1.toNat
 l))))))
 (x.1+(1:Int)).toNat
 x.2.1.toNat)),
 PV.bool true]))/\
 ((bif decide ((0:Int)<=x.2.1)then
 decide (x.1+1<8)
 else false)=
 false->
 k
 (PV.tup
 [PV.arr 8
 (al.ints .u16
 (List.replicate (8:Nat) 0)),
 PV.bool false]))))/\
 (decide
 (x.2.2.1+
 ↑(af
 (List.drop x.2.2.1.toNat l))=
 ai l)=
 false->
 within
 (x.2.2.1+
 ↑(af
 (List.drop x.2.2.1.toNat l)))
 (ai l)/\
 ((!decide
 (ag l
 (x.2.2.1+
 ↑(af
 (List.drop x.2.2.1.toNat l)))=
 (58:Int)))=
 false->
 av
 (x.2.2.1+
 ↑(af
 (List.drop x.2.2.1.toNat l))+
 (1:Int)))/\
 ((bif
 !decide
 (ag l
 (x.2.2.1+
 ↑(af
 (List.drop x.2.2.1.toNat
 l)))=
 (58:Int))then
 true
 else
 decide
 (x.2.2.1+
 ↑(af
 (List.drop x.2.2.1.toNat l))+
 (1:Int)=
 ai l))=
 true->
 k
 (PV.tup
 [PV.arr 8
 (al.ints .u16
 (List.replicate (8:Nat) 0)),
 PV.bool false]))/\
 ((bif
 !decide
 (ag l
 (x.2.2.1+
 ↑(af
 (List.drop x.2.2.1.toNat
 l)))=
 (58:Int))then
 true
 else
 decide
 (x.2.2.1+
 ↑(af
 (List.drop x.2.2.1.toNat l))+
 (1:Int)=
 ai l))=
 false->
 av
 (x.2.2.1+
 ↑(af
 (List.drop x.2.2.1.toNat l))+
 (1:Int))/\
 within
 (x.2.2.1+
 ↑(af
 (List.drop x.2.2.1.toNat l))+
 (1:Int))
 (ai l)/\
 ((!decide
 (ag l
 (x.2.2.1+
 ↑(af
 (List.drop
 x.2.2.1.toNat
 l))+
 (1:Int))=
 (58:Int)))=
 true->
 eK (VS.mk []
 [(0,PV.str l),
 ((2:Nat),
 PV.ptr 34
 (0:Nat)),
 (3,PV.bool false),
 ((4:Nat),
 PV.ptr 36
 (0:Nat)),
 ((5:Nat),
 PV.int .u32
 (0:Int)),
 (6,PV.bool false),
 ((7:Nat),
 PV.int .i64
 (x.1+1)),
 ((8:Nat),
 PV.int .i64
 x.2.1),
 ((9:Nat),
 PV.int .i64
 (x.2.2.1+
 ↑(af
 (List.drop
 x.2.2.1.toNat
 l))+
 (1:Int))),
 uZ 10,
 uZ 13,
 uZ 17,
 uZ 30,
 uZ 43,
 uZ 56,
 uZ 67,
 uZ 73,
 uZ 75,
 uZ 82,
 uZ 95,
 uZ 113,
 uZ 120]
 [((36:Nat),
 PV.arr 8
 (al.ints .u16
 (aS x.2.2.2
 x.1
 (bO
 (bZ l
 x.2.2.1
 (x.2.2.1+
 ↑(af
 (List.drop
 x.2.2.1.toNat
 l)))))))),
 ((34:Nat),
 PV.arr 8
 (al.ints .u16
 (List.replicate (8:Nat)
 (0:Int))))])/\
 (∃(acc:List Int),
 x.1+1=↑acc.length/\
 acc.length<=(8:Nat)/\
 aS x.2.2.2 x.1
 (bO
 (bZ l
 x.2.2.1
 (x.2.2.1+
 ↑(af
 (List.drop
 x.2.2.1.toNat
 l)))))=
 pad
 acc/\
 (-1:Int)<=x.2.1/\
 x.2.1<=
 x.1+1/\
 (0:Int)<=
 x.2.2.1+
 ↑(af
 (List.drop
 x.2.2.1.toNat
 l))+
 (1:Int)/\
 x.2.2.1+
 ↑(af
 (List.drop
 x.2.2.1.toNat
 l))+
 (1:Int)<=
 ↑(List.length l)/\
 eE
 l
 ((9:Nat)-
 acc.length)
 acc x.2.1
 (x.2.2.1+
 ↑(af
 (List.drop
 x.2.2.1.toNat
 l))+
 (1:
 Int)).toNat=
 gq
 l)/\
 ((9:Int)-
 (x.1+1)).toNat<
 ((9:Int)-x.1).toNat)/\
 ((!decide
 (ag l
 (x.2.2.1+
 ↑(af
 (List.drop
 x.2.2.1.toNat
 l))+
 (1:Int))=
 (58:Int)))=
 false->
 (decide ((0:Int)<=x.2.1)=true->
 k
 (PV.tup
 [PV.arr 8
 (al.ints .u16
 (List.replicate (8:Nat)
 (0:Int))),
 PV.bool false]))/\
 (decide ((0:Int)<=x.2.1)=false->
 av
 (x.2.2.1+
 ↑(af
 (List.drop
 x.2.2.1.toNat
 l))+
 (1:Int)+
 (1:Int))/\
 (decide
 (x.2.2.1+
 ↑(af
 (List.drop
 x.2.2.1.toNat
 l))+
 (1:Int)+
 (1:Int)<
 ai l)=
 true->
 eK (VS.mk []
 [((0:Nat),
 PV.str l),
 ((2:Nat),
 PV.ptr 34
 (0:Nat)),
 ((3:Nat),
 PV.bool false),
 ((4:Nat),
 PV.ptr 36
 (0:Nat)),
 ((5:Nat),
 PV.int
 .u32
 (0:Int)),
 ((6:Nat),
 PV.bool false),
 ((7:Nat),
 PV.int
 .i64
 (x.1+1)),
 ((8:Nat),
 PV.int
 .i64
 (x.1+1)),
 ((9:Nat),
 PV.int
 .i64
 (x.2.2.1+
 ↑(af
 (List.drop
 x.2.2.1.toNat
 l))+
 (1:Int)+
 (1:Int))),
 ((10:Nat),
 PV.undef),
 ((13:Nat),
 PV.undef),
 ((17:Nat),
 PV.undef),
 ((30:Nat),
 PV.undef),
 ((43:Nat),
 PV.undef),
 ((56:Nat),
 PV.undef),
 ((67:Nat),
 PV.undef),
 ((73:Nat),
 PV.undef),
 ((75:Nat),
 PV.undef),
 ((82:Nat),
 PV.undef),
 ((95:Nat),
 PV.undef),
 ((113:Nat),
 PV.undef),
 ((120:Nat),
 PV.undef)]
 [((36:Nat),
 PV.arr 8
 (al.ints
 .u16
 (aS
 x.2.2.2
 x.1
 (bO
 (bZ l
 x.2.2.1
 (x.2.2.1+
 ↑(af
 (List.drop
 x.2.2.1.toNat
 l)))))))),
 ((34:Nat),
 PV.arr 8
 (al.ints
 .u16
 (List.replicate
 (8:Nat)
 (0:Int))))])/\
 (∃(acc:List Int),
 x.1+1=
 ↑acc.length/\
 acc.length<=(8:Nat)/\
 aS x.2.2.2
 x.1
 (bO
 (bZ l
 x.2.2.1
 (x.2.2.1+
 ↑(af
 (List.drop
 x.2.2.1.toNat
 l)))))=
 pad
 acc/\
 (-1:Int)<=
 x.1+
 (1:Int)/\
 x.1+1<=
 x.1+
 (1:Int)/\
 (0:Int)<=
 x.2.2.1+
 ↑(af
 (List.drop
 x.2.2.1.toNat
 l))+
 (1:
 Int)+
 (1:Int)/\
 x.2.2.1+
 ↑(af
 (List.drop
 x.2.2.1.toNat
 l))+
 (1:
 Int)+
 (1:
 Int)<=
 ↑(List.length
 l)/\
 eE
 l
 ((9:
 Nat)-
 acc.length)
 acc
 (x.1+
 (1:
 Int))
 (x.2.2.1+
 ↑(af
 (List.drop
 x.2.2.1.toNat
 l))+
 (1:
 Int)+
 (1:
 Int)).toNat=
 gq
 l)/\
 ((9:Int)-
 (x.1+
 (1:Int))).toNat<
 ((9:Int)-x.1).toNat)/\
 (decide
 (x.2.2.1+
 ↑(af
 (List.drop
 x.2.2.1.toNat
 l))+
 (1:Int)+
 (1:Int)<
 ai l)=
 false->
 ((bif
 decide
 (x.1+1<
 (0:Int))then
 decide
 (x.1+1=
 (8:Int))
 else false)=
 true->
 k
 (PV.tup
 [PV.arr 8
 (al.ints
 .u16
 (aS
 x.2.2.2
 x.1
 (bO
 (bZ l
 x.2.2.1
 (x.2.2.1+
 ↑(af
 (List.drop
 x.2.2.1.toNat
 l))))))),
 PV.bool true]))/\
 ((bif
 decide
 (x.1+1<
 (0:Int))then
 decide
 (x.1+1=
 (8:Int))
 else false)=
 false->
 ((bif
 decide
 ((0:Int)<=
 x.1+
 (1:
 Int))then
 decide
 (x.1+1<
 (8:Int))
 else false)=
 true->
 ((aS x.2.2.2
 x.1
 (bO
 (bZ l
 x.2.2.1
 (x.2.2.1+
 ↑(af
 (List.drop
 x.2.2.1.toNat
 l)))))).length=
 (8:Nat)/\
 (0:Int)<=
 x.1+
 (1:Int)/\
 x.1+1<=
 x.1+
 (1:Int)/\
 x.1+
 (1:Int)<=
 (7:Int))/\
 k
 (PV.tup
 [PV.arr
 (8:Nat)
 (al.ints
 .u16
 (bY
 (aS
 x.2.2.2
 x.1
 (bO
 (bZ
 l
 x.2.2.1
 (x.2.2.1+
 ↑(af
 (List.drop
 x.2.2.1.toNat
 l))))))
 (x.1+
 (1:
 Int)).toNat
 (x.1+
 (1:
 Int)).toNat)),
 PV.bool
 true]))/\
 ((bif
 decide
 ((0:Int)<=
 x.1+
 (1:
 Int))then
 decide
 (x.1+1<
 (8:Int))
 else false)=
 false->
 k
 (PV.tup
 [PV.arr
 (8:Nat)
 (al.ints
 .u16
 (List.replicate
 (8:Nat)
 (0:Int))),
 PV.bool
 false])))))))))))/\
 (decide
 ((2:Int)+
 ↑(af (List.drop (Int.toNat (2:Int)) l))+
 (1:Int)+
 (1:Int)<
 ai l)=
 false->
 (false=true->
 k
 (PV.tup
 [PV.arr 8
 (al.ints .u16
 (aS (List.replicate (8:Nat) 0) 0
 (bO
 (bZ l 2
 ((2:Int)+
 ↑(af
 (List.drop (Int.toNat (2:Int)) l))))))),
 PV.bool true]))/\
 (false=false->
 (decide ((0:Int)+1<8)=true->
 ((aS (List.replicate (8:Nat) 0) 0
 (bO
 (bZ l 2
 ((2:Int)+
 ↑(af
 (List.drop (Int.toNat (2:Int)) l)))))).length=
 (8:Nat)/\
 (0:Int)<=0+1/\
 (0:Int)+1<=0+1/\
 (0:Int)+1<=7)/\
 k
 (PV.tup
 [PV.arr 8
 (al.ints .u16
 (bY
 (aS (List.replicate (8:Nat) 0) 0
 (bO
 (bZ l 2
 ((2:Int)+
 ↑(af
 (List.drop (Int.toNat (2:Int)) l))))))
 ((0:Int)+1).toNat ((0:Int)+1).toNat)),
 PV.bool true]))/\
 (decide ((0:Int)+1<8)=false->
 k
 (PV.tup
 [PV.arr 8
 (al.ints .u16 (List.replicate (8:Nat) 0)),
 PV.bool false]))))))))))))):=by kernel_rfl
attribute [local irreducible] Go.Vc.cD
theorem G9(l:Bs):ae Tryz.prog az 170 [.str l] ⟨l.length<=1000000,.tup [.arr 8 (.ints .u16 (gq l).1),.bool (gq l).2]⟩:=bR (by kernel_rfl) Ah (H:=Ag l) (fuel:=1000) Tryz.func170 (by kernel_rfl) fun hpre=>(G8 l _).mpr (by
 refine ⟨trivial,fun hp=>⟨rfl,⟨[],rfl,by decide,rfl,by omega,by omega,by omega,by omega,?_⟩,fun x hx=>?_⟩,fun hp=>⟨fun h2=>?_,fun h2=>?_⟩⟩
 ·rw [qo]at hp
  have hp2:¬Lib.hasPrefix l [58,58]=true:=hp;show eE l 9 [] (-1) 0=gq l;unfold gq;rw [if_neg hp2]
 ·obtain ⟨c,g,a,p⟩:=x
  obtain ⟨acc,hC,h8,hp',g1,g2,a0,a1,hs⟩:=hx;dsimp only at hC hp' g1 g2 a0 a1 hs;subst hC hp';obtain ⟨i,rfl⟩:=Int.eq_ofNat_of_zero_le a0;rw [Int.toNat_natCast]at hs;have hE:(i:Int)+((af (l.drop ((i:Int).toNat)):Nat):Int)=((i+af (l.drop i):Nat):Int):=by rw [Int.toNat_natCast];push_cast;rfl
  refine nX (fun v=>v=.tup [.arr 8 (.ints .u16 (gq l).1),.bool (gq l).2]) _ _ l g i (i+af (l.drop i)) acc (gq l) hpre h8 g1 g2 (by omega) rfl hs rfl (fun a h1 h2 h3 h4 h5=>?_) (fun a h1 h2 h3 h4 h5=>?_)
  ·exact ⟨rfl,⟨a,by rw [h1];push_cast;rfl,h3,by rw [hE];exact h2,g1,by dsimp only;omega,by dsimp only;omega,by dsimp only;rw [hE];omega,by rw [hE,show((i+af (l.drop i):Nat):Int)+1=((i+af (l.drop i)+1:Nat):Int) by push_cast;rfl,Int.toNat_natCast];exact h5⟩,by dsimp only;omega⟩
  ·exact ⟨rfl,⟨a,by rw [h1];push_cast;rfl,h3,by rw [hE];exact h2,by dsimp only;omega,by dsimp only;omega,by dsimp only;omega,by dsimp only;rw [hE];omega,by rw [hE,show((i+af (l.drop i):Nat):Int)+1+1=((i+af (l.drop i)+2:Nat):Int) by push_cast;omega,Int.toNat_natCast];exact h5⟩,by dsimp only;omega⟩
 ·have hp2:Lib.hasPrefix l [58,58]=true:=by
   have hp3:(!Lib.hasPrefix l [58,58])=false:=hp;rw [Bool.not_eq_false']at hp3;exact hp3
  have h3:l.length=2:=by have h4:(2:Int)=(l.length:Int):=of_decide_eq_true h2;omega
  have h5:gq l=(bY (pad []) 0 0,true):=by unfold gq;rw [if_pos hp2,if_pos h3];rfl
  refine ⟨(fun h=>by cases h),fun _=>⟨fun _=>⟨⟨rfl,by omega,by omega,by omega⟩,?_⟩,(fun h=>by cases h)⟩⟩;show PV.tup _=PV.tup _;rw [h5];rfl
 ·have hp2:Lib.hasPrefix l [58,58]=true:=by
   have hp3:(!Lib.hasPrefix l [58,58])=false:=hp;rw [Bool.not_eq_false']at hp3;exact hp3
  have h3:¬l.length=2:=by have h4:¬(2:Int)=(l.length:Int):=of_decide_eq_false h2;omega
  have h5:eE l 9 [] 0 2=gq l:=by unfold gq;rw [if_pos hp2,if_neg h3]
  have h6:2<=l.length:=MT hp2;refine nX (fun v=>v=.tup [.arr 8 (.ints .u16 (gq l).1),.bool (gq l).2]) _ _ l 0 2 (2+af (l.drop 2)) [] (gq l) hpre (by decide) (by omega) (by simp) h6 rfl h5 rfl (fun a h1 h2 h3 h4 h5=>?_) (fun a h1 h2 h3 h4 h5=>?_)
  ·refine ⟨rfl,⟨a,by rw [h1];rfl,h3,h2,by omega,by omega,by omega,by show(2:Int)+((af (l.drop 2):Nat):Int)+1<=_;omega,?_⟩,fun x hx=>?_⟩
   ·rw [show((2:Int)+((af (l.drop (Int.toNat 2)):Nat):Int)+1).toNat=2+af (l.drop 2)+1 by show((2:Int)+((af (l.drop 2):Nat):Int)+1).toNat=_;omega]
    exact h5
   ·obtain ⟨c,g,a,p⟩:=x
    obtain ⟨acc,hC,h8,hp',g1,g2,a0,a1,hs⟩:=hx;dsimp only at hC hp' g1 g2 a0 a1 hs;subst hC hp';obtain ⟨i,rfl⟩:=Int.eq_ofNat_of_zero_le a0;rw [Int.toNat_natCast]at hs;have hE:(i:Int)+((af (l.drop ((i:Int).toNat)):Nat):Int)=((i+af (l.drop i):Nat):Int):=by rw [Int.toNat_natCast];push_cast;rfl
    refine nX (fun v=>v=.tup [.arr 8 (.ints .u16 (gq l).1),.bool (gq l).2]) _ _ l g i (i+af (l.drop i)) acc (gq l) hpre h8 g1 g2 (by omega) rfl hs rfl (fun a h1 h2 h3 h4 h5=>?_) (fun a h1 h2 h3 h4 h5=>?_)
    ·exact ⟨rfl,⟨a,by rw [h1];push_cast;rfl,h3,by rw [hE];exact h2,g1,by dsimp only;omega,by dsimp only;omega,by dsimp only;rw [hE];omega,by rw [hE,show((i+af (l.drop i):Nat):Int)+1=((i+af (l.drop i)+1:Nat):Int) by push_cast;rfl,Int.toNat_natCast];exact h5⟩,by dsimp only;omega⟩
    ·exact ⟨rfl,⟨a,by rw [h1];push_cast;rfl,h3,by rw [hE];exact h2,by dsimp only;omega,by dsimp only;omega,by dsimp only;omega,by dsimp only;rw [hE];omega,by rw [hE,show((i+af (l.drop i):Nat):Int)+1+1=((i+af (l.drop i)+2:Nat):Int) by push_cast;omega,Int.toNat_natCast];exact h5⟩,by dsimp only;omega⟩
  ·refine ⟨rfl,⟨a,by rw [h1];rfl,h3,h2,by omega,by omega,by omega,by show(2:Int)+((af (l.drop 2):Nat):Int)+1+1<=_;omega,?_⟩,fun x hx=>?_⟩
   ·rw [show((2:Int)+((af (l.drop (Int.toNat 2)):Nat):Int)+1+1).toNat=2+af (l.drop 2)+2 by show((2:Int)+((af (l.drop 2):Nat):Int)+1+1).toNat=_;omega]
    exact h5
   ·obtain ⟨c,g,a,p⟩:=x
    obtain ⟨acc,hC,h8,hp',g1,g2,a0,a1,hs⟩:=hx;dsimp only at hC hp' g1 g2 a0 a1 hs;subst hC hp';obtain ⟨i,rfl⟩:=Int.eq_ofNat_of_zero_le a0;rw [Int.toNat_natCast]at hs;have hE:(i:Int)+((af (l.drop ((i:Int).toNat)):Nat):Int)=((i+af (l.drop i):Nat):Int):=by rw [Int.toNat_natCast];push_cast;rfl
    refine nX (fun v=>v=.tup [.arr 8 (.ints .u16 (gq l).1),.bool (gq l).2]) _ _ l g i (i+af (l.drop i)) acc (gq l) hpre h8 g1 g2 (by omega) rfl hs rfl (fun a h1 h2 h3 h4 h5=>?_) (fun a h1 h2 h3 h4 h5=>?_)
    ·exact ⟨rfl,⟨a,by rw [h1];push_cast;rfl,h3,by rw [hE];exact h2,g1,by dsimp only;omega,by dsimp only;omega,by dsimp only;rw [hE];omega,by rw [hE,show((i+af (l.drop i):Nat):Int)+1=((i+af (l.drop i)+1:Nat):Int) by push_cast;rfl,Int.toNat_natCast];exact h5⟩,by dsimp only;omega⟩
    ·exact ⟨rfl,⟨a,by rw [h1];push_cast;rfl,h3,by rw [hE];exact h2,by dsimp only;omega,by dsimp only;omega,by dsimp only;omega,by dsimp only;rw [hE];omega,by rw [hE,show((i+af (l.drop i):Nat):Int)+1+1=((i+af (l.drop i)+2:Nat):Int) by push_cast;omega,Int.toNat_natCast];exact h5⟩,by dsimp only;omega⟩)
def mG:List PV->Option aD:=fun xs=>match xs with
 |[.str l]=>some ⟨l.length<=1000000,.tup [.arr 8 (.ints .u16 (gq l).1),.bool (gq l).2]⟩
 |_=>none
theorem uy:∀xs c,mG xs=some c->ae Tryz.prog az 170 xs c:=fun xs c h=>by
 unfold mG at h;split at h
 ·injection h with h;subst h;exact G9 _
 ·cases h
end
section
def Fj:cM:=bS []
def Fk(z:Int):aP:=fun i=>none
theorem Dg:df Tryz.prog az Fj:=ax
theorem J9(z:Int)(k:PV->Prop):cD Tryz.prog Fj az (Fk z) 1000 Tryz.f155 [.int .u8 z] k=(
 k (PV.bool (bif decide ((48:Int)<=z)then decide (z<=57)else false))):=by kernel_rfl
attribute [local irreducible] Go.Vc.cD
theorem Ka(z:Int):ae Tryz.prog az 155 [.int .u8 z] ⟨True,.bool (decide (48<=z/\z<=57))⟩:=bR (by kernel_rfl) Dg (H:=Fk z) (fuel:=1000) Tryz.func155 (by kernel_rfl) fun hpre=>(J9 z _).mpr (by
 show PV.bool _=PV.bool _;congr 1;by_cases h:48<=z<;>simp [h])
def jR:List PV->Option aD:=fun xs=>match xs with
 |[.int .u8 z]=>some ⟨True,.bool (decide (48<=z/\z<=57))⟩
 |_=>none
theorem kg:∀xs c,jR xs=some c->ae Tryz.prog az 155 xs c:=fun xs c h=>by
 unfold jR at h;split at h
 ·injection h with h;subst h;exact Ka _
 ·cases h
end
section
def gV(z:Int):Int:=if 48<=z/\z<=57 then z-48 else if 97<=z/\z<=102 then z-87 else if 65<=z/\z<=70 then z-55 else -1
def Om:cM:=bS [(155,jR)]
def On(z:Int):aP:=fun i=>none
theorem Kb:df Tryz.prog az Om:=ah kg (ax)
theorem Ph(z:Int)(k:PV->Prop):cD Tryz.prog Om az (On z) 1000 Tryz.f184 [.int .u8 z] k=(
 True/\
 (decide ((48:Int)<=z/\z<=57)=true->k (PV.int .i64 (Go.IntKind.i64.wrap (Go.IntKind.u8.wrap (z-48)))))/\
 (decide ((48:Int)<=z/\z<=57)=false->
 ((bif decide ((97:Int)<=z)then decide (z<=102)else false)=true->
 av (Go.IntKind.i64.wrap (Go.IntKind.u8.wrap (z-97))+10)/\
 k (PV.int .i64 (Go.IntKind.i64.wrap (Go.IntKind.u8.wrap (z-97))+10)))/\
 ((bif decide ((97:Int)<=z)then decide (z<=102)else false)=false->
 ((bif decide ((65:Int)<=z)then decide (z<=70)else false)=true->
 av (Go.IntKind.i64.wrap (Go.IntKind.u8.wrap (z-65))+10)/\
 k (PV.int .i64 (Go.IntKind.i64.wrap (Go.IntKind.u8.wrap (z-65))+10)))/\
 ((bif decide ((65:Int)<=z)then decide (z<=70)else false)=false->k (PV.int .i64 (-1:Int)))))):=by kernel_rfl
attribute [local irreducible] Go.Vc.cD
theorem Pj(z:Int):ae Tryz.prog az 184 [.int .u8 z] ⟨0<=z/\z<=255,.int .i64 (gV z)⟩:=bR (by kernel_rfl) Kb (H:=On z) (fuel:=1000) Tryz.func184 (by kernel_rfl) fun hpre=>(Ph z _).mpr (by
 have w8:∀a:Int,0<=a/\a<=15->IntKind.u8.wrap a=a:=fun a h=>IntWalk.u8_in _ (by omega);have w64:∀a:Int,0<=a/\a<=15->IntKind.i64.wrap a=a:=fun a h=>IntWalk.i64_in _ (by omega);have yes:∀a b:Int,(bif decide (a<=z)then decide (z<=b)else false)=true->a<=z/\z<=b:=fun a b h=>by
  cases e:decide (a<=z)with
  |false=>rw [e]at h;cases h
  |true=>rw [e]at h;exact ⟨of_decide_eq_true e,of_decide_eq_true h⟩
 have no:∀a b:Int,(bif decide (a<=z)then decide (z<=b)else false)=false->¬(a<=z/\z<=b):=fun a b h g=>by
  rw [decide_eq_true g.1,decide_eq_true g.2]at h;cases h
 refine ⟨trivial,fun h=>?_,fun h=>⟨fun h2=>?_,fun h2=>⟨fun h3=>?_,fun h3=>?_⟩⟩⟩
 ·have h1:=of_decide_eq_true h
  rw [w8 _ (by omega),w64 _ (by omega)];unfold gV;rw [if_pos h1]
 ·have h1:=of_decide_eq_false h
  have h4:=yes _ _ h2;rw [w8 _ (by omega),w64 _ (by omega)];refine ⟨by unfold av;omega,?_⟩;unfold gV;rw [if_neg h1,if_pos h4];congr 1;omega
 ·have h1:=of_decide_eq_false h
  have h5:=no _ _ h2;have h4:=yes _ _ h3;rw [w8 _ (by omega),w64 _ (by omega)];refine ⟨by unfold av;omega,?_⟩;unfold gV;rw [if_neg h1,if_neg h5,if_pos h4];congr 1;omega
 ·have h1:=of_decide_eq_false h
  unfold gV;rw [if_neg h1,if_neg (no _ _ h2),if_neg (no _ _ h3)])
def xX:List PV->Option aD:=fun xs=>match xs with
 |[.int .u8 z]=>some ⟨0<=z/\z<=255,.int .i64 (gV z)⟩
 |_=>none
theorem Dh:∀xs c,xX xs=some c->ae Tryz.prog az 184 xs c:=fun xs c h=>by
 unfold xX at h;split at h
 ·injection h with h;subst h;exact Pj _
 ·cases h
end
section
def bI:Bs->Bs
 |[]=>[]
 |b::r=>match r with
  |h::g::t=>if b.toNat=37/\0<=gV h.toNat/\0<=gV g.toNat then b4 (gV h.toNat*16+gV g.toNat)::bI t else b::bI (h::g::t)
  |[h]=>[b,h]
  |[]=>[b]
theorem vY(b:UInt8)(r:Bs):bI (b::r)=if b.toNat=37/\2<=r.length/\0<=gV (ar r 0)/\0<=gV (ar r 1)then b4 (gV (ar r 0)*16+gV (ar r 1))::bI (r.drop 2)else b::bI r:=by
 match r with
 |[]=>rw [if_neg (fun h=>by have:=h.2.1;simp at this)];rfl
 |[h]=>rw [if_neg (fun h=>by have:=h.2.1;simp at this)];rfl
 |h::g::t=>
  show(if b.toNat=37/\0<=gV h.toNat/\0<=gV g.toNat then b4 (gV h.toNat*16+gV g.toNat)::bI t else b::bI (h::g::t))=_
  have e0:ar (h::g::t) 0=(h.toNat:Int):=rfl;have e1:ar (h::g::t) 1=(g.toNat:Int):=rfl;rw [e0,e1];by_cases hc:b.toNat=37/\0<=gV h.toNat/\0<=gV g.toNat
  ·rw [if_pos hc,if_pos ⟨hc.1,by simp,hc.2.1,hc.2.2⟩];rfl
  ·rw [if_neg hc,if_neg (fun h=>hc ⟨h.1,h.2.2.1,h.2.2.2⟩)]
theorem xY(z:Int):gV z<=15:=by unfold gV;repeat' split;all_goals omega
theorem Kc {h g:Int}(h0:0<=h)(h1:h<=15)(g0:0<=g)(g1:g<=15):IntKind.u8.wrap (eH .or .i64 (lT .i64 h 4) g)=h*16+g:=by
 have key:∀a b:Fin 16,IntKind.u8.wrap (eH .or .i64 (lT .i64 (a.val:Int) 4) (b.val:Int))=(a.val:Int)*16+(b.val:Int):=by decide+kernel
 have:=key ⟨h.toNat,by omega⟩ ⟨g.toNat,by omega⟩;dsimp only at this;rw [show((h.toNat:Nat):Int)=h by omega,show((g.toNat:Nat):Int)=g by omega]at this;exact this
theorem pr(l:Bs)(j:Nat):ag l (j:Int)=ar l j:=rfl
theorem Kd(l:Bs)(j:Nat)(h:j<l.length):l.drop j=b4 (ar l j)::l.drop (j+1):=by
 rw [List.drop_eq_getElem_cons h];congr 1;show _=b4 (ag l (j:Int));rw [jg];rw [List.getD_eq_getElem?_getD,Int.toNat_natCast,List.getElem?_eq_getElem h];rfl
theorem vZ(l:Bs)(i j:Nat):ar (l.drop i) j=ar l (i+j):=by unfold ar;rw [List.getD_eq_getElem?_getD,List.getD_eq_getElem?_getD,List.getElem?_drop]
theorem Pk {b:Int}(h0:0<=b)(h1:b<=255):(((b4 b).toNat:Nat):Int)=b:=by
 unfold b4;rw [show(UInt8.ofNat b.toNat).toNat=b.toNat %256 from UInt8.toNat_ofNat' ..];omega
theorem gD(l:Bs)(j:Nat):0<=ar l j/\ar l j<=255:=en l (j:Int)
theorem rE(l:Bs)(j:Nat)(h:j<l.length):bI (l.drop j)=if ar l j=37/\j+2<l.length/\0<=gV (ar l (j+1))/\0<=gV (ar l (j+2))then b4 (gV (ar l (j+1))*16+gV (ar l (j+2)))::bI (l.drop (j+3))else b4 (ar l j)::bI (l.drop (j+1)):=by
 have hr:=gD l j;have e:((b4 (ar l j)).toNat=37)↔ar l j=37:=by have:=Pk hr.1 hr.2;omega
 rw [Kd l j h,vY,vZ,vZ,List.length_drop,List.drop_drop];by_cases hc:ar l j=37/\j+2<l.length/\0<=gV (ar l (j+1))/\0<=gV (ar l (j+2))
 ·rw [if_pos hc,if_pos ⟨e.2 hc.1,by omega,hc.2.2.1,hc.2.2.2⟩]
 ·rw [if_neg hc,if_neg (fun g=>hc ⟨e.1 g.1,by omega,g.2.2.1,g.2.2.2⟩)]
def Di(l:Bs)(o:Bool×Bs)(i:Int):Prop:=∃j:Nat,i=j/\j<=l.length/\o.1=false/\o.2++bI (l.drop j)=bI l/\o.2.length<=j
def Ke:cM:=bS [(184,xX)]
def Kf(l:Bs):aP:=fun i=>bif Nat.beq i 3 then some ⟨(Bool×Bs)×(Int),(fun s x=>(((((((s.row s 3 x.1.1 (.bytes x.1.2)).put 4 (.int .i64 x.2)).put 5 .undef).put 6 .undef).put 13 .undef).put 26 .undef).put 42 .undef)),(fun s=>((s.nil 3,s.bytes 3),s.int 4)),(fun s x=>let b:=x.1;let i:=x.2;Di l b i),(fun s x=>let b:=x.1;let i:=x.2;((l.length:Int)-i).toNat),[5,6,13,26,42]⟩else none
theorem Ha:df Tryz.prog az Ke:=ah Dh (ax)
theorem MU(l:Bs)(k:PV->Prop):cD Tryz.prog Ke az (Kf l) 1000 Tryz.f171 [.str l] k=(
 ((0:Int)<=0/\(0:Int)<=ai l/\ai l<=cN)/\
 eK (VS.mk []
 [(0,PV.str l),(2,PV.row true (al.bytes []) 34),
 (3,PV.row false (al.bytes (List.replicate (Int.toNat (0:Int)) (0:UInt8))) 41),
 (4,PV.int .i64 0),uZ 5,uZ 6,uZ 13,
 uZ 26,uZ 42]
 [])/\
 Di l (false,List.replicate (Int.toNat (0:Int)) (0:UInt8)) 0/\
 ∀(x:(Bool×Bs)×Int),
 Di l x.1 x.2->
 (decide (x.2<ai l)=true->
 within x.2 (ai l)/\
 (decide (ag l x.2=37)=true->av (x.2+2))/\
 ((bif decide (ag l x.2=37)then decide (x.2+2<ai l)else false)=true->
 av (x.2+1)/\
 within (x.2+1) (ai l)/\
 ((0:Int)<=ag l (x.2+1)/\ag l (x.2+1)<=255)/\
 av (x.2+2)/\
 within (x.2+2) (ai l)/\
 ((0:Int)<=ag l (x.2+2)/\ag l (x.2+2)<=255)/\
 ((bif decide ((0:Int)<=gV (ag l (x.2+1)))then
 decide ((0:Int)<=gV (ag l (x.2+2)))
 else false)=
 true->
 (0:Int)<=4/\
 jz
 [PV.int .u8
 (Go.IntKind.u8.wrap
 (eH Go.BinOp.or .i64
 (lT .i64 (gV (ag l (x.2+1)))
 (4:Int))
 (gV (ag l (x.2+2)))))]/\
 Int.ofNat
 (List.length
 (x.1.2++
 [b4
 (Go.IntKind.u8.wrap
 (eH Go.BinOp.or .i64
 (lT .i64
 (gV (ag l (x.2+1))) 4)
 (gV (ag l (x.2+2)))))]))<=
 cN/\
 av (x.2+2)/\
 av (x.2+2+1)/\
 eK (VS.mk []
 [(0,PV.str l),
 (2,PV.row true (al.bytes []) 34),
 ((3:Nat),
 PV.row false
 (al.bytes
 (x.1.2++
 [b4
 (Go.IntKind.u8.wrap
 (eH Go.BinOp.or .i64
 (lT .i64
 (gV (ag l (x.2+1)))
 (4:Int))
 (gV (ag l (x.2+2)))))]))
 41),
 (4,PV.int .i64 (x.2+2+1)),uZ 5,
 uZ 6,uZ 13,uZ 26,
 uZ 42]
 [])/\
 Di l
 (false,
 x.1.2++
 [b4
 (Go.IntKind.u8.wrap
 (eH Go.BinOp.or .i64
 (lT .i64
 (gV (ag l (x.2+1))) 4)
 (gV (ag l (x.2+2)))))])
 (x.2+2+1)/\
 (↑(List.length l)-(x.2+(2:Int)+(1:Int))).toNat<(↑(List.length l)-x.2).toNat)/\
 ((bif decide ((0:Int)<=gV (ag l (x.2+1)))then
 decide ((0:Int)<=gV (ag l (x.2+2)))
 else false)=
 false->
 within x.2 (ai l)/\
 jz [PV.int .u8 (ag l x.2)]/\
 Int.ofNat (List.length (x.1.2++[b4 (ag l x.2)]))<=cN/\
 av (x.2+1)/\
 eK (VS.mk []
 [(0,PV.str l),(2,PV.row true (al.bytes []) 34),
 ((3:Nat),
 PV.row false (al.bytes (x.1.2++[b4 (ag l x.2)]))
 41),
 (4,PV.int .i64 (x.2+1)),uZ 5,
 uZ 6,uZ 13,uZ 26,
 uZ 42]
 [])/\
 Di l (false,x.1.2++[b4 (ag l x.2)])
 (x.2+1)/\
 (↑(List.length l)-(x.2+(1:Int))).toNat<(↑(List.length l)-x.2).toNat))/\
 ((bif decide (ag l x.2=37)then decide (x.2+2<ai l)else false)=false->
 within x.2 (ai l)/\
 jz [PV.int .u8 (ag l x.2)]/\
 Int.ofNat (List.length (x.1.2++[b4 (ag l x.2)]))<=cN/\
 av (x.2+1)/\
 eK (VS.mk []
 [(0,PV.str l),(2,PV.row true (al.bytes []) 34),
 ((3:Nat),
 PV.row false (al.bytes (x.1.2++[b4 (ag l x.2)])) 41),
 (4,PV.int .i64 (x.2+1)),uZ 5,uZ 6,
 uZ 13,uZ 26,uZ 42]
 [])/\
 Di l (false,x.1.2++[b4 (ag l x.2)]) (x.2+1)/\
 (↑(List.length l)-(x.2+(1:Int))).toNat<(↑(List.length l)-x.2).toNat))/\
 (decide (x.2<ai l)=false->k (PV.row x.1.1 (al.bytes x.1.2) 0))):=by kernel_rfl
attribute [local irreducible] Go.Vc.cD
theorem MV(l:Bs):ae Tryz.prog az 171 [.str l] ⟨l.length<=1000000,.row false (.bytes (bI l)) 0⟩:=bR (by kernel_rfl) Ha (H:=Kf l) (fuel:=1000) Tryz.func171 (by kernel_rfl) fun hpre=>(MU l _).mpr (by
 obtain hl:=hpre;refine ⟨⟨by omega,by unfold ai;omega,by unfold ai;show _ <=(16777216:Int);omega⟩,rfl,⟨0,rfl,by omega,rfl,rfl,by show 0<=0;omega⟩,fun x hx=>?_⟩;obtain ⟨⟨nl,o⟩,i⟩:=x;obtain ⟨j,h1,h2,h3,h4,h5⟩:=hx;dsimp only at h1 h2 h3 h4 h5⊢;subst h1 h3;have e1:(j:Int)+1=((j+1:Nat):Int):=by push_cast;rfl
 have e2:(j:Int)+2=((j+2:Nat):Int):=by push_cast;rfl
 have e3:((j+2:Nat):Int)+1=((j+3:Nat):Int):=by push_cast;rfl
 have hu:∀z:Int,0<=z/\z<=255->jz [.int .u8 z]:=fun z hz=>by simp [jz];exact hz
 rw [e1,e2,e3,pr l j,pr l (j+1),pr l (j+2)];have r0:=gD l j;have r1:=gD l (j+1);have r2:=gD l (j+2);have hm:(o++[b4 0]).length=o.length+1:=by rw [List.length_append];rfl
 have stay:j<l.length->(ar l j=37/\j+2<l.length/\0<=gV (ar l (j+1))/\0<=gV (ar l (j+2))->False)->Di l (false,o++[b4 (ar l j)]) ((j+1:Nat):Int):=fun hj hc=>by
  refine ⟨j+1,rfl,by omega,rfl,?_,by show(o++[_]).length<=_;rw [List.length_append];show o.length+1<=_;omega⟩;show(o++[_])++_=_;rw [<-h4,rE l j hj,if_neg hc,List.append_assoc];rfl
 refine ⟨fun h=>?_,fun h=>?_⟩
 ·have hj:j<l.length:=by have:=of_decide_eq_true h;unfold ai at this;omega
  refine ⟨by unfold within ai;omega,fun _=>by unfold av;omega,fun hc=>?_,fun hc=>?_⟩
  ·have hb:ar l j=37/\j+2<l.length:=by
    cases e:decide (ar l j=37)with
    |false=>rw [e]at hc;cases hc
    |true=>rw [e]at hc;exact ⟨of_decide_eq_true e,by have:=of_decide_eq_true hc;unfold ai at this;omega⟩
   refine ⟨by unfold av;omega,by unfold within ai;omega,r1,by unfold av;omega,by unfold within ai;omega,r2,fun hd=>?_,fun hd=>?_⟩
   ·have hh:0<=gV (ar l (j+1))/\0<=gV (ar l (j+2)):=by
     cases e:decide (0<=gV (ar l (j+1)))with
     |false=>rw [e]at hd;cases hd
     |true=>rw [e]at hd;exact ⟨of_decide_eq_true e,of_decide_eq_true hd⟩
    have le1:=xY (ar l (j+1));have le2:=xY (ar l (j+2));rw [Kc hh.1 le1 hh.2 le2];refine ⟨by omega,hu _ (by omega),?_,by unfold av;omega,by unfold av;omega,rfl,⟨j+3,rfl,by omega,rfl,?_,?_⟩,by omega⟩
    ·rw [List.length_append];show((o.length+1:Nat):Int)<=16777216;omega
    ·show(o++[_])++_=_
     rw [<-h4,rE l j hj,if_pos ⟨hb.1,hb.2,hh.1,hh.2⟩,List.append_assoc];rfl
    ·show(o++[_]).length<=_;rw [List.length_append];show o.length+1<=_;omega
   ·refine ⟨by unfold within ai;omega,hu _ r0,?_,by unfold av;omega,rfl,stay hj (fun g=>?_),by omega⟩
    ·rw [List.length_append];show((o.length+1:Nat):Int)<=16777216;omega
    ·rw [decide_eq_true g.2.2.1,decide_eq_true g.2.2.2]at hd;cases hd
  ·refine ⟨by unfold within ai;omega,hu _ r0,?_,by unfold av;omega,rfl,stay hj (fun g=>?_),by omega⟩
   ·rw [List.length_append];show((o.length+1:Nat):Int)<=16777216;omega
   ·rw [decide_eq_true g.1,decide_eq_true (show((j+2:Nat):Int)<ai l by unfold ai;omega)]at hc;cases hc
 ·have hj:j=l.length:=by have:=of_decide_eq_false h;unfold ai at this;omega
  subst hj;rw [List.drop_length]at h4;have:o=bI l:=by rw [<-h4];exact (List.append_nil o).symm
  show PV.row false _ _=PV.row false _ _;rw [this])
def sI:List PV->Option aD:=fun xs=>match xs with
 |[.str l]=>some ⟨l.length<=1000000,.row false (.bytes (bI l)) 0⟩
 |_=>none
theorem Ai:∀xs c,sI xs=some c->ae Tryz.prog az 171 xs c:=fun xs c h=>by
 unfold sI at h;split at h
 ·injection h with h;subst h;exact MV _
 ·cases h
end
section
theorem Kg {n:Nat}{i:Int}(h:decide (i<(n:Int))=true):i<n:=of_decide_eq_true h
def l8(c:UInt8):UInt8:=if 65<=c.toNat/\c.toNat<=90 then c+32 else c
def br(l:Bs):Bs:=l.map l8
theorem Fl {l:Bs}{z:Int}(h0:0<=z)(h1:z<(l.length:Int)):(br l)[z.toNat]?=some (l8 (l.getD z.toNat 0)):=by
 have:z.toNat<l.length:=by omega
 unfold br;rw [List.getElem?_map,List.getElem?_eq_getElem this,List.getD_eq_getElem?_getD,List.getElem?_eq_getElem this];rfl
theorem Fm {l:Bs}{z:Int}(h:(bif decide ((65:Int)<=ag l z)then decide (ag l z<=(90:Int))else false)=true):IntKind.u8.wrap (ag l z+(32:Int))=ag l z+32/\ag l z<=90/\b4 (ag l z+32)=l8 (l.getD z.toNat 0):=by
 have hr:=en l z;cases h1:decide ((65:Int)<=ag l z)with
 |false=>rw [h1]at h;cases h
 |true=>
  rw [h1]at h;have h2:ag l z<=90:=of_decide_eq_true h;have h3:65<=ag l z:=of_decide_eq_true h1;refine ⟨IntWalk.u8_in _ (by omega),h2,?_⟩;unfold ag at h2 h3;unfold l8 b4 ag;rw [if_pos (by omega)];apply UInt8.toNat_inj.1;rw [UInt8.toNat_add];have e:(((l.getD z.toNat 0).toNat:Int)+32).toNat=(l.getD z.toNat 0).toNat+32:=by omega
  rw [e];simp
theorem Kh {l:Bs}{z:Int}(h:(bif decide ((65:Int)<=ag l z)then decide (ag l z<=(90:Int))else false)=false):b4 (ag l z)=l8 (l.getD z.toNat 0):=by
 rw [jg];unfold l8;rw [if_neg];intro hh;have h3:(65:Int)<=ag l z:=by unfold ag;omega
 have h4:ag l z<=(90:Int):=by unfold ag;omega
 rw [decide_eq_true h3,decide_eq_true h4]at h;cases h
def Fo:cM:=bS []
def Fp(nl:Bool)(l:Bs):aP:=fun i=>bif Nat.beq i 3 then some ⟨(Bool×Bs)×(Int),(fun s x=>((((((s.row s 3 x.1.1 (.bytes x.1.2)).put 11 (.int .i64 x.2)).put 4 .undef).put 5 .undef).put 12 .undef).put 21 .undef)),(fun s=>((s.nil 3,s.bytes 3),s.int 11)),(fun s x=>let low:=x.1;let i:=x.2;0<=i/\i<=l.length/\low.1=false/\low.2=(br l).take i.toNat++List.replicate (l.length-i.toNat) 0),(fun s x=>let low:=x.1;let i:=x.2;((l.length:Int)-i).toNat),[4,5,12,21]⟩else none
theorem Dj:df Tryz.prog az Fo:=ax
theorem Ki(nl:Bool)(l:Bs)(k:PV->Prop):cD Tryz.prog Fo az (Fp nl l) 1000 Tryz.f154 [.row nl (.bytes l) 0] k=(
 ((0:Int)<=Int.ofNat (List.length l)/\Int.ofNat (List.length l)<=Int.ofNat (List.length l)/\Int.ofNat (List.length l)<=cN)/\
 VS.mk []
 [(0,PV.row nl (al.bytes l) 0),(2,PV.str (bL #[])),
 (3,PV.row false (al.bytes (List.replicate (Int.ofNat (List.length l)).toNat (0:UInt8))) 40),
 (4,PV.undef),(5,PV.undef),(9,PV.row nl (al.bytes l) 0),
 (10,PV.int .i64 (Int.ofNat (List.length l))),(11,PV.int .i64 0),
 (12,PV.undef),(21,PV.undef)]
 []=
 VS.mk []
 [(0,PV.row nl (al.bytes l) 0),(2,PV.str (bL #[])),
 (3,PV.row false (al.bytes (List.replicate (Int.ofNat (List.length l)).toNat (0:UInt8))) 40),
 (4,PV.undef),(5,PV.undef),(9,PV.row nl (al.bytes l) 0),
 (10,PV.int .i64 (Int.ofNat (List.length l))),(11,PV.int .i64 0),
 (12,PV.undef),(21,PV.undef)]
 []/\
 ((0:Int)<=0/\
 (0:Int)<=↑(List.length l)/\
 false=false/\
 List.replicate (Int.ofNat (List.length l)).toNat (0:UInt8)=
 List.take (Int.toNat (0:Int)) (br l)++
 List.replicate (List.length l-Int.toNat (0:Int)) (0:UInt8))/\
 ∀(x:(Bool×Bs)×Int),
 (0:Int)<=x.2/\
 x.2<=↑(List.length l)/\
 x.1.1=false/\
 x.1.2=List.take x.2.toNat (br l)++List.replicate (List.length l-x.2.toNat) (0:UInt8)->
 (decide (x.2<Int.ofNat (List.length l))=true->
 within x.2 (Int.ofNat (List.length l))/\
 ((bif decide ((65:Int)<=ag l x.2)then decide (ag l x.2<=90)else false)=true->
 within x.2 (Int.ofNat (List.length x.1.2))/\
 ((0:Int)<=Go.IntKind.u8.wrap (ag l x.2+32)/\
 Go.IntKind.u8.wrap (ag l x.2+32)<=255)/\
 av (x.2+1)/\
 VS.mk []
 [(0,PV.row nl (al.bytes l) 0),(2,PV.str (bL #[])),
 ((3:Nat),
 PV.row x.1.1
 (al.bytes (aS x.1.2 x.2 (b4 (Go.IntKind.u8.wrap (ag l x.2+32)))))
 40),
 (4,PV.undef),(5,PV.undef),(9,PV.row nl (al.bytes l) 0),
 (10,PV.int .i64 (Int.ofNat (List.length l))),
 (11,PV.int .i64 (x.2+1)),(12,PV.undef),(21,PV.undef)]
 []=
 VS.mk []
 [(0,PV.row nl (al.bytes l) 0),(2,PV.str (bL #[])),
 ((3:Nat),
 PV.row x.1.1
 (al.bytes (aS x.1.2 x.2 (b4 (Go.IntKind.u8.wrap (ag l x.2+32)))))
 40),
 (4,PV.undef),(5,PV.undef),(9,PV.row nl (al.bytes l) 0),
 (10,PV.int .i64 (Int.ofNat (List.length l))),
 (11,PV.int .i64 (x.2+1)),(12,PV.undef),(21,PV.undef)]
 []/\
 ((0:Int)<=x.2+1/\
 x.2+1<=↑(List.length l)/\
 x.1.1=false/\
 aS x.1.2 x.2 (b4 (Go.IntKind.u8.wrap (ag l x.2+32)))=
 List.take (x.2+1).toNat (br l)++
 List.replicate (List.length l-(x.2+1).toNat) (0:UInt8))/\
 (↑(List.length l)-(x.2+(1:Int))).toNat<(↑(List.length l)-x.2).toNat)/\
 ((bif decide ((65:Int)<=ag l x.2)then decide (ag l x.2<=90)else false)=false->
 within x.2 (Int.ofNat (List.length x.1.2))/\
 ((0:Int)<=ag l x.2/\ag l x.2<=255)/\
 av (x.2+1)/\
 VS.mk []
 [(0,PV.row nl (al.bytes l) 0),(2,PV.str (bL #[])),
 ((3:Nat),
 PV.row x.1.1 (al.bytes (aS x.1.2 x.2 (b4 (ag l x.2))))
 40),
 (4,PV.undef),(5,PV.undef),(9,PV.row nl (al.bytes l) 0),
 (10,PV.int .i64 (Int.ofNat (List.length l))),
 (11,PV.int .i64 (x.2+1)),(12,PV.undef),(21,PV.undef)]
 []=
 VS.mk []
 [(0,PV.row nl (al.bytes l) 0),(2,PV.str (bL #[])),
 ((3:Nat),
 PV.row x.1.1 (al.bytes (aS x.1.2 x.2 (b4 (ag l x.2))))
 40),
 (4,PV.undef),(5,PV.undef),(9,PV.row nl (al.bytes l) 0),
 (10,PV.int .i64 (Int.ofNat (List.length l))),
 (11,PV.int .i64 (x.2+1)),(12,PV.undef),(21,PV.undef)]
 []/\
 ((0:Int)<=x.2+1/\
 x.2+1<=↑(List.length l)/\
 x.1.1=false/\
 aS x.1.2 x.2 (b4 (ag l x.2))=
 List.take (x.2+1).toNat (br l)++
 List.replicate (List.length l-(x.2+1).toNat) (0:UInt8))/\
 (↑(List.length l)-(x.2+(1:Int))).toNat<(↑(List.length l)-x.2).toNat))/\
 (decide (x.2<Int.ofNat (List.length l))=false->k (PV.str x.1.2))):=by kernel_rfl
attribute [local irreducible] Go.Vc.cD
theorem Kj(nl:Bool)(l:Bs):ae Tryz.prog az 154 [.row nl (.bytes l) 0] ⟨l.length<=1000000,.str (br l)⟩:=bR (by kernel_rfl) Dj (H:=Fp nl l) (fuel:=1000) Tryz.func154 (by kernel_rfl) fun hpre=>(Ki nl l _).mpr (by
 have hll:(br l).length=l.length:=by unfold br;simp
 simp only [Int.ofNat_eq_natCast]at *;refine ⟨⟨by omega,by omega,by unfold cN;omega⟩,trivial,⟨by omega,by omega,trivial,by simp⟩,fun x hx=>⟨fun h=>?_,fun h=>?_⟩⟩
 ·obtain ⟨h0,h1,h2,h3⟩:=hx
  have hlt:=Kg h;have hbr:=en l x.2;have hlen:x.1.2.length=l.length:=by rw [h3,List.length_append,List.length_take,List.length_replicate,hll];omega
  have step:∀b,b=l8 (l.getD x.2.toNat 0)->aS x.1.2 x.2 b=List.take (x.2+1).toNat (br l)++List.replicate (List.length l-(x.2+1).toNat) 0:=fun b hb=>by
   unfold aS;rw [show(x.2+1).toNat=x.2.toNat+1 by omega,h3];exact JE hll.symm (by rw [Fl h0 hlt,hb])
  refine ⟨⟨h0,hlt⟩,fun hc=>?_,fun hc=>?_⟩
  ·obtain ⟨c1,c2,c3⟩:=Fm hc
   rw [c1];refine ⟨⟨h0,by rw [hlen];exact hlt⟩,⟨by omega,by omega⟩,⟨by omega,by omega⟩,trivial,⟨by omega,by omega,h2,step _ c3⟩,by omega⟩
  ·refine ⟨⟨h0,by rw [hlen];exact hlt⟩,⟨by omega,by omega⟩,⟨by omega,by omega⟩,trivial,⟨by omega,by omega,h2,step _ (Kh hc)⟩,by omega⟩
 ·obtain ⟨h0,h1,h2,h3⟩:=hx
  have hge:¬x.2<(l.length:Int):=of_decide_eq_false h;show PV.str _=PV.str _;rw [h3,show x.2.toNat=l.length by omega,<-hll,List.take_length];simp)
def lK:List PV->Option aD:=fun xs=>match xs with
 |[.row nl (.bytes l) 0]=>some ⟨l.length<=1000000,.str (br l)⟩
 |_=>none
theorem nY:∀xs c,lK xs=some c->ae Tryz.prog az 154 xs c:=fun xs c h=>by
 unfold lK at h;split at h
 ·injection h with h;subst h;exact Kj _ _
 ·cases h
end
section
def cL:Bs:=[0,9,10,13,32,35,47,58,60,62,63,64,91,92,93,94,124]
def Kk(r:Int):Bool:=decide (r<32)||decide (r=37)||decide (r=127)||G7 cL r
def Fq:cM:=bS [(187,pq)]
def Fs(r:Int):aP:=fun i=>none
theorem Dk:df Tryz.prog az Fq:=ah xW (ax)
theorem Kl(r:Int)(k:PV->Prop):cD Tryz.prog Fq az (Fs r) 1000 Tryz.f174 [.int .i32 r] k=(
 ((bif bif decide (r<32)then true else decide (r=37)then true else decide (r=127))=false->
 (0:Int)<=r/\
 r<=2147483647/\
 ∀(b:UInt8),
 b∈
 (ByteArray.mk
 #[0,9,10,13,32,35,47,58,60,62,63,64,91,92,93,94,124]).data.toList->
 b.toNat<128)/\
 k
 (PV.bool
 (bif bif bif decide (r<32)then true else decide (r=37)then true else decide (r=127)then true
 else
 G7
 (ByteArray.mk
 #[0,9,10,13,32,35,47,58,60,62,63,64,91,92,93,94,124]).data.toList
 r))):=by kernel_rfl
attribute [local irreducible] Go.Vc.cD
theorem Km(r:Int):ae Tryz.prog az 174 [.int .i32 r] ⟨0<=r/\r<=1114111,.bool (Kk r)⟩:=bR (by kernel_rfl) Dk (H:=Fs r) (fuel:=1000) Tryz.func174 (by kernel_rfl) fun hpre=>(Kl r _).mpr (by
 refine ⟨fun _=>⟨by omega,by omega,by decide⟩,?_⟩;show PV.bool _=PV.bool _;unfold Kk cL;cases decide (r<32)<;>cases decide (r=37)<;>cases decide (r=127)<;>rfl)
end
section
def Aj:cM:=bS []
def Ak(z:Int):aP:=fun i=>none
theorem Al:df Tryz.prog az Aj:=ax
theorem Hb(z:Int)(k:PV->Prop):cD Tryz.prog Aj az (Ak z) 1000 Tryz.f153 [.int .u8 z] k=(
 k
 (PV.bool
 (bif decide ((97:Int)<=eH Go.BinOp.or .u8 z 32)then decide (eH Go.BinOp.or .u8 z 32<=122)
 else false))):=by kernel_rfl
attribute [local irreducible] Go.Vc.cD
theorem Hc(z:Int):ae Tryz.prog az 153 [.int .u8 z] ⟨0<=z/\z<=255,.bool (decide (97<=z/\z<=122\/65<=z/\z<=90))⟩:=bR (by kernel_rfl) Al (H:=Ak z) (fuel:=1000) Tryz.func153 (by kernel_rfl) fun hpre=>(Hb z _).mpr (by
 show PV.bool _=PV.bool _;congr 1;obtain ⟨n,rfl⟩:∃n:Nat,z=n:=⟨z.toNat,by omega⟩;have all:∀m:Fin 256,(bif decide ((97:Int)<=eH BinOp.or IntKind.u8 (m.val:Int) (32:Int))then decide (eH BinOp.or IntKind.u8 (m.val:Int) (32:Int)<=(122:Int))else false)=decide (97<=(m.val:Int)/\(m.val:Int)<=122\/65<=(m.val:Int)/\(m.val:Int)<=90):=by decide+kernel
 exact all ⟨n,by omega⟩)
def kh:List PV->Option aD:=fun xs=>match xs with
 |[.int .u8 z]=>some ⟨0<=z/\z<=255,.bool (decide (97<=z/\z<=122\/65<=z/\z<=90))⟩
 |_=>none
theorem l9:∀xs c,kh xs=some c->ae Tryz.prog az 153 xs c:=fun xs c h=>by
 unfold kh at h;split at h
 ·injection h with h;subst h;exact Hc _
 ·cases h
end
section
def fF:Bs:=[102,116,112]
def fL:Bs:=[102,105,108,101]
def fH:Bs:=[104,116,116,112]
def fW:Bs:=[119,115]
def fS:Bs:=[104,116,116,112,115]
def fV:Bs:=[119,115,115]
def MW(l:Bs):Int:=if l=fF then 21 else if l=fH\/l=fW then 80 else if l=fS\/l=fV then 443 else 0
def bK(l:Bs):Bool:=decide (l=fF\/l=fL\/l=fH\/l=fW\/l=fS\/l=fV)
def v7:cM:=bS []
def v8(l:Bs):aP:=fun i=>none
theorem xZ:df Tryz.prog az v7:=ax
theorem Dl(l:Bs)(k:PV->Prop):cD Tryz.prog v7 az (v8 l) 1000 Tryz.f27 [.str l] k=(
 (decide (l=(bL #[102,116,112]))=true->
 k (PV.tup [PV.int .i64 21,PV.bool true]))/\
 (decide (l=(bL #[102,116,112]))=false->
 (decide (l=(bL #[102,105,108,101]))=true->
 k (PV.tup [PV.int .i64 0,PV.bool true]))/\
 (decide (l=(bL #[102,105,108,101]))=false->
 (decide (l=(bL #[104,116,116,112]))=true->
 (decide (l=(bL #[104,116,116,112]))=true->
 k (PV.tup [PV.int .i64 80,PV.bool true]))/\
 (decide (l=(bL #[104,116,116,112]))=false->
 (decide (l=(bL #[104,116,116,112,115]))=true->
 (decide (l=(bL #[104,116,116,112,115]))=true->
 k (PV.tup [PV.int .i64 443,PV.bool true]))/\
 (decide (l=(bL #[104,116,116,112,115]))=false->
 k (PV.tup [PV.int .i64 0,PV.bool false])))/\
 (decide (l=(bL #[104,116,116,112,115]))=false->
 (decide (l=(bL #[119,115,115]))=true->
 k (PV.tup [PV.int .i64 443,PV.bool true]))/\
 (decide (l=(bL #[119,115,115]))=false->
 k (PV.tup [PV.int .i64 0,PV.bool false])))))/\
 (decide (l=(bL #[104,116,116,112]))=false->
 (decide (l=(bL #[119,115]))=true->
 k (PV.tup [PV.int .i64 80,PV.bool true]))/\
 (decide (l=(bL #[119,115]))=false->
 (decide (l=(bL #[104,116,116,112,115]))=true->
 (decide (l=(bL #[104,116,116,112,115]))=true->
 k (PV.tup [PV.int .i64 443,PV.bool true]))/\
 (decide (l=(bL #[104,116,116,112,115]))=false->
 k (PV.tup [PV.int .i64 0,PV.bool false])))/\
 (decide (l=(bL #[104,116,116,112,115]))=false->
 (decide (l=(bL #[119,115,115]))=true->
 k (PV.tup [PV.int .i64 443,PV.bool true]))/\
 (decide (l=(bL #[119,115,115]))=false->
 k (PV.tup [PV.int .i64 0,PV.bool false])))))))):=by kernel_rfl
attribute [local irreducible] Go.Vc.cD
theorem Dm(l:Bs):ae Tryz.prog az 27 [.str l] ⟨True,.tup [.int .i64 (MW l),.bool (bK l)]⟩:=bR (by kernel_rfl) xZ (H:=v8 l) (fuel:=1000) Tryz.func27 (by kernel_rfl) fun hpre=>(Dl l _).mpr (by
 have leaf:∀(a b:Int) (c d:Bool),a=b->c=d->PV.tup [.int .i64 a,.bool c]=PV.tup [.int .i64 b,.bool d]:=fun a b c d h1 h2=>by rw [h1,h2]
 simp only [decide_eq_true_eq,decide_eq_false_iff_not]
 repeat' (first|constructor|intro h)
 all_goals first
  |(subst_vars;contradiction)
  |(refine leaf _ _ _ _ ?_ ?_ <;>simp_all [bL,MW,bK,fF,fL,fH,fW,fS,fV]))
def eR:List PV->Option aD:=fun xs=>match xs with
 |[.str l]=>some ⟨True,.tup [.int .i64 (MW l),.bool (bK l)]⟩
 |_=>none
theorem eS:∀xs c,eR xs=some c->ae Tryz.prog az 27 xs c:=fun xs c h=>by
 unfold eR at h;split at h
 ·injection h with h;subst h;exact Dm _
 ·cases h
end
section
def x4(c:UInt8):Bool:=decide ((97<=c.toNat/\c.toNat<=122)\/(65<=c.toNat/\c.toNat<=90))
def Kn(c:UInt8):Bool:=decide (48<=c.toNat/\c.toNat<=57)
theorem x5(a b:Bool):(bif a then b else false)=(a&&b):=by cases a<;>rfl
theorem QH(a b:Bool):(bif a then true else b)=(a||b):=by cases a<;>rfl
def ak(l:Bs):Bs->Nat->Bs×Bs×Bool
 |[],_=>([],[],false)
 |c::r,i=>if x4 c=true then ak l r (i+1)else if i=0 then([],[],false)else if c.toNat=58 then(br (l.take i),l.drop (i+1),true)else if c.toNat=43\/c.toNat=45\/c.toNat=46\/Kn c=true then ak l r (i+1)else([],[],false)
def Am:cM:=bS [(153,kh),(154,lK),(155,jR)]
def An(l:Bs):aP:=fun i=>bif Nat.beq i 2 then some ⟨(Int),(fun s x=>((((((((s.put 9 (.int .i64 x)).put 5 .undef).put 6 .undef).put 10 .undef).put 15 .undef).put 18 .undef).put 21 .undef).put 33 .undef)),(fun s=>s.int 9),(fun s x=>let i:=x;0<=i/\i<=l.length/\ak l (l.drop i.toNat) i.toNat=ak l l 0),(fun s x=>let i:=x;((l.length:Int)-i).toNat),[5,6,10,15,18,21,33]⟩else none
theorem Ao:df Tryz.prog az Am:=ah l9 (ah nY (ah kg (ax)))
theorem Hd(l:Bs)(k:PV->Prop):cD Tryz.prog Am az (An l) 1000 Tryz.f119 [.str l] k=(
 eK (VS.mk []
 [(0,PV.str l),(2,PV.str (bL #[])),(3,PV.str (bL #[])),
 (4,PV.bool false),uZ 5,uZ 6,(8,PV.int .i64 (ai l)),
 (9,PV.int .i64 0),uZ 10,uZ 15,uZ 18,
 uZ 21,uZ 33]
 [])/\
 ((0:Int)<=0/\
 (0:Int)<=↑(List.length l)/\
 ak l (List.drop (Int.toNat (0:Int)) l) (Int.toNat (0:Int))=
 ak l l 0)/\
 ∀(x:Int),
 (0:Int)<=x/\
 x<=↑(List.length l)/\
 ak l (List.drop x.toNat l) x.toNat=ak l l 0->
 (decide (x<ai l)=true->
 within x (ai l)/\
 ((0:Int)<=ag l x/\ag l x<=255)/\
 (decide ((97:Int)<=ag l x/\ag l x<=122\/(65:Int)<=ag l x/\ag l x<=90)=true->
 av (x+1)/\
 eK (VS.mk []
 [(0,PV.str l),(2,PV.str (bL #[])),
 (3,PV.str (bL #[])),(4,PV.bool false),uZ 5,
 uZ 6,(8,PV.int .i64 (ai l)),
 (9,PV.int .i64 (x+1)),uZ 10,uZ 15,
 uZ 18,uZ 21,uZ 33]
 [])/\
 ((0:Int)<=x+1/\
 x+1<=↑(List.length l)/\
 ak l (List.drop (x+(1:Int)).toNat l) (x+1).toNat=
 ak l l 0)/\
 (↑(List.length l)-(x+(1:Int))).toNat<(↑(List.length l)-x).toNat)/\
 (decide ((97:Int)<=ag l x/\ag l x<=122\/(65:Int)<=ag l x/\ag l x<=90)=false->
 (decide (x=0)=true->
 k (PV.tup [PV.str (bL #[]),PV.str (bL #[]),PV.bool false]))/\
 (decide (x=0)=false->
 (decide (ag l x=58)=true->
 upto 0 x (ai l)/\
 (ab l x).length<=Go.Vc.maxLen/\
 (ab l x).length.le 1000000/\
 av (x+1)/\
 upto (x+1) (ai l) (ai l)/\
 k
 (PV.tup
 [PV.str (br (ab l x)),
 PV.str (aa l (x+1)),PV.bool true]))/\
 (decide (ag l x=58)=false->
 ((bif bif !decide (ag l x=43)then !decide (ag l x=45)else false then
 !decide (ag l x=46)
 else false)=
 true->
 True)/\
 ((bif
 bif bif !decide (ag l x=43)then !decide (ag l x=45)else false then
 !decide (ag l x=46)
 else false then
 !decide ((48:Int)<=ag l x/\ag l x<=57)
 else false)=
 true->
 k
 (PV.tup
 [PV.str (bL #[]),PV.str (bL #[]),PV.bool false]))/\
 ((bif
 bif bif !decide (ag l x=43)then !decide (ag l x=45)else false then
 !decide (ag l x=46)
 else false then
 !decide ((48:Int)<=ag l x/\ag l x<=57)
 else false)=
 false->
 av (x+1)/\
 eK (VS.mk []
 [(0,PV.str l),(2,PV.str (bL #[])),
 (3,PV.str (bL #[])),(4,PV.bool false),
 uZ 5,uZ 6,(8,PV.int .i64 (ai l)),
 (9,PV.int .i64 (x+1)),uZ 10,
 uZ 15,uZ 18,uZ 21,
 uZ 33]
 [])/\
 ((0:Int)<=x+1/\
 x+1<=↑(List.length l)/\
 ak l (List.drop (x+(1:Int)).toNat l) (x+1).toNat=
 ak l l 0)/\
 (↑(List.length l)-(x+(1:Int))).toNat<(↑(List.length l)-x).toNat)))))/\
 (decide (x<ai l)=false->
 k (PV.tup [PV.str (bL #[]),PV.str (bL #[]),PV.bool false]))):=by kernel_rfl
attribute [local irreducible] Go.Vc.cD
theorem wa(l:Bs):ae Tryz.prog az 119 [.str l] ⟨l.length<=300000,.tup [.str (ak l l 0).1,.str (ak l l 0).2.1,.bool (ak l l 0).2.2]⟩:=bR (by kernel_rfl) Ao (H:=An l) (fuel:=1000) Tryz.func119 (by kernel_rfl) fun hpre=>(Hd l _).mpr (by
 refine ⟨rfl,⟨by omega,by omega,rfl⟩,fun x hx=>⟨fun h=>?_,fun h=>?_⟩⟩
 ·obtain ⟨h0,h1,h2⟩:=hx
  have hlt:x<(l.length:Int):=of_decide_eq_true h;obtain ⟨c,hc⟩:∃c,c=l.getD x.toNat 0:=⟨_,rfl⟩;have hby:ag l x=(c.toNat:Int):=by rw [hc];rfl
  have hd:l.drop x.toNat=c::l.drop (x.toNat+1):=by
   rw [List.drop_eq_getElem_cons (by omega),hc,List.getD_eq_getElem?_getD,List.getElem?_eq_getElem (by omega)];rfl
  have hs:(x+1).toNat=x.toNat+1:=by omega
  have hcr:=c.toNat_lt;rw [hd,ak]at h2;rw [hs,hby];refine ⟨⟨h0,hlt⟩,⟨by omega,by omega⟩,fun hl=>?_,fun hl=>?_⟩
  ·have e:x4 c=true:=decide_eq_true (by have:=of_decide_eq_true hl;omega)
   rw [if_pos e]at h2;exact ⟨⟨by omega,by omega⟩,rfl,⟨by omega,by omega,h2⟩,by omega⟩
  ·have e:¬x4 c=true:=fun e=>by
    have h3:=of_decide_eq_true e;have h4:=of_decide_eq_false hl;omega
   rw [if_neg e]at h2;refine ⟨fun h3=>?_,fun h3=>⟨fun h4=>?_,fun h4=>⟨fun _=>trivial,fun h5=>?_,fun h5=>?_⟩⟩⟩
   ·have:=of_decide_eq_true h3
    rw [if_pos (by omega)]at h2;show PV.tup _=PV.tup _;rw [<-h2]
    try rfl
   ·have g3:=of_decide_eq_false h3
    have g4:=of_decide_eq_true h4;rw [if_neg (by omega),if_pos (by omega)]at h2;have hl1:(ab l x).length<=300000:=by unfold ab;rw [List.length_take];omega
    refine ⟨⟨by omega,h0,h1⟩,Nat.le_trans hl1 (by decide),Nat.le_trans hl1 (by decide),⟨by omega,by omega⟩,⟨by omega,by unfold ai;omega,Int.le_refl _⟩,?_⟩;show PV.tup _=PV.tup _;rw [<-h2];unfold ab aa;rw [hs]
   ·have g3:=of_decide_eq_false h3
    have g4:=of_decide_eq_false h4;rw [if_neg (by omega),if_neg (by omega),if_neg]at h2
    ·show PV.tup _=PV.tup _
     rw [<-h2]
     try rfl
    ·intro hh
     have:Kn c=true↔(48<=c.toNat/\c.toNat<=57):=by unfold Kn;exact decide_eq_true_iff
     rw [this]at hh;revert h5;rcases hh with hh|hh|hh|⟨q1,q2⟩
     ·rw [hh];decide
     ·rw [hh];decide
     ·rw [hh];decide
     ·rw [decide_eq_true (show(48:Int)<=c.toNat/\(c.toNat:Int)<=57 by omega)]
      cases (bif bif !decide ((c.toNat:Int)=(43:Int))then !decide ((c.toNat:Int)=(45:Int))else false then !decide ((c.toNat:Int)=(46:Int))else false)<;>decide
   ·have g3:=of_decide_eq_false h3
    have g4:=of_decide_eq_false h4;rw [if_neg (by omega),if_neg (by omega),if_pos]at h2
    ·exact ⟨⟨by omega,by omega⟩,rfl,⟨by omega,by omega,h2⟩,by omega⟩
    ·refine Classical.byContradiction fun hh=>?_
     have:Kn c=true↔(48<=c.toNat/\c.toNat<=57):=by unfold Kn;exact decide_eq_true_iff
     rw [this]at hh;rw [decide_eq_false (show ¬(c.toNat:Int)=43 by omega),decide_eq_false (show ¬(c.toNat:Int)=45 by omega),decide_eq_false (show ¬(c.toNat:Int)=46 by omega),decide_eq_false (show ¬((48:Int)<=c.toNat/\(c.toNat:Int)<=57) by omega)]at h5;cases h5
 ·have hge:¬x<(l.length:Int):=of_decide_eq_false h
  obtain ⟨h0,h1,h2⟩:=hx;rw [show x.toNat=l.length by omega,List.drop_length]at h2;show PV.tup _=PV.tup _;rw [<-h2];rfl)
end
section
def Ko:cM:=bS []
def Kp(z:Int):aP:=fun i=>none
theorem He:df Tryz.prog az Ko:=ax
theorem MX(z:Int)(k:PV->Prop):cD Tryz.prog Ko az (Kp z) 1000 Tryz.f56 [.int .u8 z] k=(
 ((bif decide ((48:Int)<=z)then decide (z<=57)else false)=true->
 k (PV.int .i64 (Go.IntKind.i64.wrap (Go.IntKind.u8.wrap (z-48)))))/\
 ((bif decide ((48:Int)<=z)then decide (z<=57)else false)=false->
 ((bif decide ((97:Int)<=z)then decide (z<=102)else false)=true->
 av (Go.IntKind.i64.wrap (Go.IntKind.u8.wrap (z-97))+10)/\
 k (PV.int .i64 (Go.IntKind.i64.wrap (Go.IntKind.u8.wrap (z-97))+10)))/\
 ((bif decide ((97:Int)<=z)then decide (z<=102)else false)=false->
 ((bif decide ((65:Int)<=z)then decide (z<=70)else false)=true->
 av (Go.IntKind.i64.wrap (Go.IntKind.u8.wrap (z-65))+10)/\
 k (PV.int .i64 (Go.IntKind.i64.wrap (Go.IntKind.u8.wrap (z-65))+10)))/\
 ((bif decide ((65:Int)<=z)then decide (z<=70)else false)=false->k (PV.int .i64 (-1:Int)))))):=by kernel_rfl
attribute [local irreducible] Go.Vc.cD
theorem MY(z:Int):ae Tryz.prog az 56 [.int .u8 z] ⟨0<=z/\z<=255,.int .i64 (aR z)⟩:=bR (by kernel_rfl) He (H:=Kp z) (fuel:=1000) Tryz.func56 (by kernel_rfl) fun hpre=>(MX z _).mpr (by
 have w8:∀x:Int,0<=x/\x<=255->IntKind.u8.wrap x=x:=fun x h=>IntWalk.u8_in x h;have w64:∀x:Int,-9223372036854775808<=x/\x<=9223372036854775807->IntKind.i64.wrap x=x:=fun x h=>IntWalk.i64_in x h;have leaf:∀a b:Int,a=b->PV.int .i64 a=PV.int .i64 b:=fun a b h=>by rw [h]
 simp only [qn,qp,Bool.and_eq_true,decide_eq_true_eq];refine ⟨fun h=>leaf _ _ ?_,fun h=>⟨fun h2=>?_,fun h2=>⟨fun h3=>?_,fun h3=>leaf _ _ ?_⟩⟩⟩
 ·rw [w8 _ (by omega),w64 _ (by omega)];unfold aR;rw [if_pos h]
 ·rw [w8 _ (by omega),w64 _ (by omega)]
  refine ⟨⟨by omega,by omega⟩,leaf _ _ ?_⟩;unfold aR;rw [if_neg h,if_pos h2];omega
 ·rw [w8 _ (by omega),w64 _ (by omega)]
  refine ⟨⟨by omega,by omega⟩,leaf _ _ ?_⟩;unfold aR;rw [if_neg h,if_neg h2,if_pos h3];omega
 ·unfold aR;rw [if_neg h,if_neg h2,if_neg h3])
def nZ:List PV->Option aD:=fun xs=>match xs with
 |[.int .u8 z]=>some ⟨0<=z/\z<=255,.int .i64 (aR z)⟩
 |_=>none
theorem qq:∀xs c,nZ xs=some c->ae Tryz.prog az 56 xs c:=fun xs c h=>by
 unfold nZ at h;split at h
 ·injection h with h;subst h;exact MY _
 ·cases h
end
section
def ey:Nat->Int->Bs->Int×Bool
 |0,n,_=>(n,true)
 |_ +1,n,[]=>(n,true)
 |k+1,n,c::r=>if aR (c.toNat:Int)<0 then(0,false)else ey k (n*16+aR (c.toNat:Int)) r
def eT(l:Bs):Int×Bool:=((ey 5 0 l).1,(ey 5 0 l).2&&decide (1<=l.length/\l.length<=4))
def x6(l:Bs)(n i:Int):Prop:=0<=i/\i<=5/\i<=l.length/\0<=n/\n<16^i.toNat/\ey (5-i.toNat) n (l.drop i.toNat)=ey 5 0 l
theorem drop_one {l:Bs}{z:Int}(h0:0<=z)(h1:z<(l.length:Int)):l.drop z.toNat=l.getD z.toNat 0::l.drop (z.toNat+1):=by
 rw [List.drop_eq_getElem_cons (by omega),List.getD_eq_getElem?_getD,List.getElem?_eq_getElem (by omega)];rfl
def Ft:cM:=bS [(56,nZ)]
def Fu(l:Bs):aP:=fun i=>bif Nat.beq i 3 then some ⟨(Int)×(Int),(fun s x=>(((((s.put 4 (.int .i64 x.1)).put 5 (.int .i64 x.2)).put 6 .undef).put 14 .undef).put 22 .undef)),(fun s=>(s.int 4,s.int 5)),(fun s x=>let n:=x.1;let i:=x.2;x6 l n i),(fun s x=>let n:=x.1;let i:=x.2;(5-i).toNat),[6,14,22]⟩else none
theorem Dn:df Tryz.prog az Ft:=ah qq (ax)
theorem Kq(l:Bs)(k:PV->Prop):cD Tryz.prog Ft az (Fu l) 1000 Tryz.f96 [.str l] k=(
 eK (VS.mk []
 [(0,PV.str l),(2,PV.int .i64 0),(3,PV.bool false),
 (4,PV.int .i64 0),(5,PV.int .i64 0),uZ 6,
 uZ 14,uZ 22]
 [])/\
 x6 l 0 0/\
 ∀(x:Int×Int),
 x6 l x.1 x.2->
 ((bif decide (x.2<ai l)then decide (x.2<5)else false)=true->
 within x.2 (ai l)/\
 ((0:Int)<=ag l x.2/\ag l x.2<=255)/\
 (decide (aR (ag l x.2)<0)=true->
 k (PV.tup [PV.int .i64 0,PV.bool false]))/\
 (decide (aR (ag l x.2)<0)=false->
 av (x.1*16)/\
 av (x.1*16+aR (ag l x.2))/\
 av (x.2+1)/\
 eK (VS.mk []
 [(0,PV.str l),(2,PV.int .i64 0),(3,PV.bool false),
 ((4:Nat),
 PV.int .i64 (x.1*16+aR (ag l x.2))),
 (5,PV.int .i64 (x.2+1)),uZ 6,uZ 14,
 uZ 22]
 [])/\
 x6 l (x.1*16+aR (ag l x.2))
 (x.2+1)/\
 ((5:Int)-(x.2+1)).toNat<((5:Int)-x.2).toNat))/\
 ((bif decide (x.2<ai l)then decide (x.2<5)else false)=false->
 k
 (PV.tup
 [PV.int .i64 x.1,PV.bool (bif decide ((1:Int)<=ai l)then decide (ai l<=4)else false)]))):=by kernel_rfl
attribute [local irreducible] Go.Vc.cD
theorem Kr(l:Bs):ae Tryz.prog az 96 [.str l] ⟨l.length<=1000000,.tup [.int .i64 (eT l).1,.bool (eT l).2]⟩:=bR (by kernel_rfl) Dn (H:=Fu l) (fuel:=1000) Tryz.func96 (by kernel_rfl) fun hpre=>(Kq l _).mpr (by
 refine ⟨rfl,⟨by omega,by omega,by omega,by omega,by decide,rfl⟩,fun x hx=>⟨fun h=>?_,fun h=>?_⟩⟩
 ·obtain ⟨n,i⟩:=x
  obtain ⟨h0,h1,h2,h3,h4,h5⟩:=hx;dsimp only at h0 h1 h2 h3 h4 h5 h⊢;simp only [qn,Bool.and_eq_true,decide_eq_true_eq]at h;have hlt:i<(l.length:Int):=h.1;obtain ⟨k,hk⟩:∃k,5-i.toNat=k+1:=⟨4-i.toNat,by omega⟩;have hd:=gI (ag l i);rw [hk,drop_one h0 hlt,ey]at h5;have hby:ag l i=((l.getD i.toNat 0).toNat:Int):=rfl;have hp16:n<1048576:=Int.lt_of_lt_of_le h4 (by
   have:i.toNat=0\/i.toNat=1\/i.toNat=2\/i.toNat=3\/i.toNat=4:=by omega
   rcases this with e|e|e|e|e<;>rw [e]<;>decide)
  refine ⟨⟨h0,hlt⟩,en l i,fun hn=>?_,fun hn=>?_⟩
  ·have hn':=of_decide_eq_true hn
   rw [if_pos (by rw [<-hby];exact hn')]at h5;show PV.tup _=PV.tup _;unfold eT;rw [<-h5];rfl
  ·have hn':=of_decide_eq_false hn
   rw [if_neg (by rw [<-hby];exact hn')]at h5;refine ⟨⟨by omega,by omega⟩,⟨by omega,by omega⟩,⟨by omega,by omega⟩,rfl,⟨by omega,by omega,by omega,by omega,?_,?_⟩,by omega⟩
   ·rw [show(i+1).toNat=i.toNat+1 by omega,Int.pow_succ]
    omega
   ·rw [show(i+1).toNat=i.toNat+1 by omega,show 5-(i.toNat+1)=k by omega,hby]
    exact h5
 ·obtain ⟨n,i⟩:=x
  obtain ⟨h0,h1,h2,h3,h4,h5⟩:=hx;dsimp only at h0 h1 h2 h3 h4 h5 h⊢;simp only [qn,qp,Bool.and_eq_true,decide_eq_true_eq]at h;have h6:ey 5 0 l=(n,true):=by
   rw [<-h5];by_cases hi:i<(l.length:Int)
   ·have:i=5:=by have:¬i<5:=fun e=>h ⟨hi,e⟩;omega
    rw [this];rfl
   ·rw [List.drop_eq_nil_of_le (by omega)]
    cases hk:5-i.toNat<;>rfl
  show PV.tup _=PV.tup _;unfold eT;rw [h6];show PV.tup [.int .i64 n,.bool (bif decide ((1:Int)<=(l.length:Int))then decide ((l.length:Int)<=4)else false)]=PV.tup [.int .i64 n,.bool (true&&decide (1<=l.length/\l.length<=4))]
  congr 3;rw [qn,Bool.true_and,<-Bool.decide_and];congr 2;apply propext;constructor<;>intro ⟨a,b⟩<;>exact ⟨by omega,by omega⟩)
def pv:List PV->Option aD:=fun xs=>match xs with
 |[.str l]=>some ⟨l.length<=1000000,.tup [.int .i64 (eT l).1,.bool (eT l).2]⟩
 |_=>none
theorem x7:∀xs c,pv xs=some c->ae Tryz.prog az 96 xs c:=fun xs c h=>by
 unfold pv at h;split at h
 ·injection h with h;subst h;exact Kr _
 ·cases h
end
section
def sJ(p:Bs):List Bs->List Bs
 |[]=>[]
 |h::t=>(p++h)::t
def sK(l:Bs)(z:Int)(nl:Bool)(o:List Bs)(a i:Int):Prop:=0<=a/\0<=i/\nl=decide (o=[])/\(o.length:Int)<=i/\((i<=l.length/\a<=i/\splitB z l=o++sJ ((l.take i.toNat).drop a.toNat) (splitB z (l.drop i.toNat)))\/(i=l.length+1/\o=splitB z l))
theorem Ap(S:List Bs):sJ [] S=S:=by cases S<;>rfl
theorem dJ(c:Int):∀l:Bs,∃h t,splitB c l=h::t
 |[]=>⟨_,_,rfl⟩
 |b::t=>by
  obtain ⟨h,r,e⟩:=dJ c t;by_cases hb:(b.toNat:Int)=c
  ·exact ⟨_,_,dO hb t⟩
  ·exact ⟨_,_,eC hb e⟩
def Fv:cM:=bS []
def Fw(l:Bs)(z:Int):aP:=fun i=>bif Nat.beq i 4 then some ⟨(Bool×List Bs)×(Int)×(Int),(fun s x=>(((((s.row s 5 x.1.1 (.strs x.1.2)).put 6 (.int .i64 x.2.1)).put 7 (.int .i64 x.2.2)).put 11 .undef).put 24 .undef)),(fun s=>((s.nil 5,s.strs 5),s.int 6,s.int 7)),(fun s x=>let o:=x.1;let a:=x.2.1;let i:=x.2.2;sK l z o.1 o.2 a i),(fun s x=>let o:=x.1;let a:=x.2.1;let i:=x.2.2;((l.length:Int)+1-i).toNat),[11,24]⟩else none
theorem Dp:df Tryz.prog az Fv:=ax
theorem Ks(l:Bs)(z:Int)(k:PV->Prop):cD Tryz.prog Fv az (Fw l z) 1000 Tryz.f57 [.str l,.int .u8 z] k=(
 eK (VS.mk []
 [(0,PV.str l),(1,PV.int .u8 z),(4,PV.row true (al.strs []) 36),
 (5,PV.row true (al.strs []) 37),(6,PV.int .i64 0),
 (7,PV.int .i64 0),uZ 11,uZ 24]
 [])/\
 sK l z true [] 0 0/\
 ∀(x:(Bool×List Bs)×Int×Int),
 sK l z x.1.1 x.1.2 x.2.1 x.2.2->
 (decide (x.2.2<=ai l)=true->
 (decide (x.2.2=ai l)=false->within x.2.2 (ai l))/\
 ((bif decide (x.2.2=ai l)then true else decide (ag l x.2.2=z))=true->
 upto x.2.1 x.2.2 (ai l)/\
 Int.ofNat (x.1.2++[bZ l x.2.1 x.2.2]).length<=cN/\
 av (x.2.2+1)/\
 av (x.2.2+1)/\
 eK (VS.mk []
 [(0,PV.str l),(1,PV.int .u8 z),
 (4,PV.row true (al.strs []) 36),
 (5,PV.row false (al.strs (x.1.2++[bZ l x.2.1 x.2.2])) 37),
 (6,PV.int .i64 (x.2.2+1)),
 (7,PV.int .i64 (x.2.2+1)),uZ 11,uZ 24]
 [])/\
 sK l z false (x.1.2++[bZ l x.2.1 x.2.2]) (x.2.2+1)
 (x.2.2+1)/\
 (↑(List.length l)+(1:Int)-(x.2.2+(1:Int))).toNat<(↑(List.length l)+(1:Int)-x.2.2).toNat)/\
 ((bif decide (x.2.2=ai l)then true else decide (ag l x.2.2=z))=false->
 av (x.2.2+1)/\
 eK (VS.mk []
 [(0,PV.str l),(1,PV.int .u8 z),
 (4,PV.row true (al.strs []) 36),
 (5,PV.row x.1.1 (al.strs x.1.2) 37),
 (6,PV.int .i64 x.2.1),(7,PV.int .i64 (x.2.2+1)),
 uZ 11,uZ 24]
 [])/\
 sK l z x.1.1 x.1.2 x.2.1 (x.2.2+1)/\
 (↑(List.length l)+(1:Int)-(x.2.2+(1:Int))).toNat<(↑(List.length l)+(1:Int)-x.2.2).toNat))/\
 (decide (x.2.2<=ai l)=false->k (PV.row x.1.1 (al.strs x.1.2) 0))):=by kernel_rfl
attribute [local irreducible] Go.Vc.cD
theorem Kt(l:Bs)(z:Int):ae Tryz.prog az 57 [.str l,.int .u8 z] ⟨l.length<=1000/\0<=z/\z<=255,.row false (.strs (splitB z l)) 0⟩:=bR (by kernel_rfl) Dp (H:=Fw l z) (fuel:=1000) Tryz.func57 (by kernel_rfl) fun hpre=>(Ks l z _).mpr (by
 refine ⟨rfl,⟨by omega,by omega,rfl,by decide,.inl ⟨by omega,by omega,by show splitB z l=[]++sJ [] (splitB z l);rw [Ap];rfl⟩⟩,fun x hx=>⟨fun h=>?_,fun h=>?_⟩⟩
 ·obtain ⟨⟨nl,o⟩,a,i⟩:=x
  obtain ⟨h0,h1,h2,h3,h4⟩:=hx;dsimp only at h0 h1 h2 h3 h4 h⊢;have hle:i<=(l.length:Int):=of_decide_eq_true h;rcases h4 with⟨-,hai,hs⟩|⟨h4,-⟩
  ·have hcut:bZ l a i=(l.take i.toNat).drop a.toNat:=rfl
   have hne:∀p:Bs,false=decide (o++[p]=[]):=fun p=>by simp
   refine ⟨fun hq=>?_,fun hq=>?_,fun hq=>?_⟩
   ·have:¬i=(l.length:Int):=of_decide_eq_false hq
    exact ⟨h1,by unfold ai;omega⟩
   ·rw [J7,Bool.or_eq_true,decide_eq_true_eq,decide_eq_true_eq]at hq
    refine ⟨⟨h0,hai,hle⟩,?_,⟨by omega,by omega⟩,⟨by omega,by omega⟩,rfl,⟨by omega,by omega,hne _,?_,?_⟩,by omega⟩
    ·show((o++[bZ l a i]).length:Int)<=16777216
     rw [List.length_append,List.length_singleton];omega
    ·rw [List.length_append,List.length_singleton];omega
    ·by_cases he:i=(l.length:Int)
     ·refine .inr ⟨by omega,?_⟩
      rw [hs,hcut,show l.drop i.toNat=[]from List.drop_eq_nil_of_le (by omega)];show _=o++sJ _ [[]];simp [sJ]
     ·have hlt:i<(l.length:Int):=by omega
      have hby:ag l i=z:=by rcases hq with hq|hq;exact absurd hq he;exact hq
      refine .inl ⟨by omega,by omega,?_⟩;rw [hs,hcut,drop_one h1 hlt,dO (show((l.getD i.toNat 0).toNat:Int)=z from hby)];rw [show(i+1).toNat=i.toNat+1 by omega,show(l.take (i.toNat+1)).drop (i.toNat+1)=[]from List.drop_eq_nil_of_le (by rw [List.length_take];omega),Ap];simp [sJ]
   ·rw [J7,qp,Bool.or_eq_true,decide_eq_true_eq,decide_eq_true_eq]at hq
    have hlt:i<(l.length:Int):=by have:¬i=ai l:=fun e=>hq (.inl e);unfold ai at this;omega
    refine ⟨⟨by omega,by omega⟩,rfl,⟨by omega,by omega,h2,by omega,.inl ⟨by omega,by omega,?_⟩⟩,by omega⟩;obtain ⟨hh,tt,e⟩:=dJ z (l.drop (i.toNat+1));rw [hs,drop_one h1 hlt,eC (fun e2=>hq (.inr e2)) e,show(i+1).toNat=i.toNat+1 by omega,e];have ht:(l.take (i.toNat+1)).drop a.toNat=(l.take i.toNat).drop a.toNat++[l.getD i.toNat 0]:=by
     rw [List.take_add_one,List.getElem?_eq_getElem (by omega),List.drop_append_of_le_length (by rw [List.length_take];omega),List.getD_eq_getElem?_getD,List.getElem?_eq_getElem (by omega)];rfl
    rw [ht];simp [sJ]
  ·omega
 ·obtain ⟨⟨nl,o⟩,a,i⟩:=x
  obtain ⟨h0,h1,h2,h3,h4⟩:=hx;dsimp only at h0 h1 h2 h3 h4 h⊢;have hgt:¬i<=(l.length:Int):=of_decide_eq_false h;rcases h4 with⟨h4,-⟩|⟨-,h4⟩
  ·omega
  ·obtain ⟨hh,tt,e⟩:=dJ z l
   have hn:nl=false:=by rw [h2,h4,e];rfl
   show PV.row _ _ _=PV.row _ _ _;rw [hn,h4])
def jS:List PV->Option aD:=fun xs=>match xs with
 |[.str l,.int .u8 z]=>some ⟨l.length<=1000/\0<=z/\z<=255,.row false (.strs (splitB z l)) 0⟩
 |_=>none
theorem ki:∀xs c,jS xs=some c->ae Tryz.prog az 57 xs c:=fun xs c h=>by
 unfold jS at h;split at h
 ·injection h with h;subst h;exact Kt _ _
 ·cases h
end
section
def x8(c:UInt8):Bool:=decide (48<=c.toNat/\c.toNat<=57)
def aU(p:Bs):Int:=p.foldl (fun v c=>v*10+((c.toNat:Int)-48)) 0
def sL(p:Bs):Bool:=decide (1<=p.length/\p.length<=3)&&!(decide (1<p.length)&&decide (ag p 0=48))
def dK(p:Bs):Bool:=sL p&&p.all x8&&decide (aU p<=255)
def bm(l:Bs):Int×Int×Bool:=match splitB 46 l with
 |[a,b,c,d]=>if(dK a&&dK b&&dK c&&dK d)=true then(aU a*256+aU b,aU c*256+aU d,true)else(0,0,false)
 |_=>(0,0,false)
def Fx(L:List Bs)(n:List Int)(i:Int):Prop:=0<=i/\i<=4/\L.length=4/\n=(L.take i.toNat).map aU++List.replicate (4-i.toNat) 0/\∀p∈L.take i.toNat,dK p=true
def Fy(L:List Bs)(i:Int)(n:List Int)(k:Int):Prop:=0<=k/\k<=(bt L i).length/\sL (bt L i)=true/\n=(L.take i.toNat).map aU++aU ((bt L i).take k.toNat)::List.replicate (3-i.toNat) 0/\∀c∈(bt L i).take k.toNat,x8 c=true
theorem qu(q:Bs)(c:UInt8):aU (q++[c])=aU q*10+((c.toNat:Int)-48):=by unfold aU;rw [List.foldl_append];rfl
theorem lL:∀(n:Nat) (p:Bs),p.length=n->(∀c∈p,x8 c=true)->0<=aU p/\aU p<10^n
 |0,p,hn,_=>by rw [List.length_eq_zero_iff.1 hn];exact ⟨by decide,by decide⟩
 |n+1,p,hn,h=>by
  rcases List.eq_nil_or_concat p with rfl|⟨q,c,rfl⟩
  ·simp at hn
  ·rw [List.concat_eq_append]at h hn⊢
   obtain ⟨a,b⟩:=lL n q (by simpa using hn) (fun d hd=>h d (by simp [hd]));have hc:=of_decide_eq_true (h c (by simp));rw [qu,Int.pow_succ];omega
theorem Ku {l:Bs}(h4:(splitB 46 l).length=4){p:Bs}(hp:p∈splitB 46 l)(hg:¬dK p=true):bm l=(0,0,false):=by
 unfold bm
 match hq:splitB 46 l,h4,hp with
 |[a,b,c,d],_,hp=>
  dsimp only;rw [if_neg];intro h;simp only [Bool.and_eq_true]at h;simp only [List.mem_cons,List.not_mem_nil,or_false]at hp;rcases hp with rfl|rfl|rfl|rfl
  ·exact hg h.1.1.1
  ·exact hg h.1.1.2
  ·exact hg h.1.2
  ·exact hg h.2
theorem Aq {l:Bs}(h4:¬(splitB 46 l).length=4):bm l=(0,0,false):=by
 unfold bm;split
 ·rename_i h;rw [h]at h4;exact absurd rfl h4
 ·rfl
theorem Kv(a b:Int)(ha0:0<=a)(ha:a<=255)(hb0:0<=b)(hb:b<=255):eH BinOp.or IntKind.i64 (lT IntKind.i64 a 8) b=a*256+b:=by
 obtain ⟨x,rfl⟩:=Int.eq_ofNat_of_zero_le ha0;obtain ⟨y,rfl⟩:=Int.eq_ofNat_of_zero_le hb0;have e1:lT IntKind.i64 (x:Int) 8=((x*256:Nat):Int):=by
  unfold lT;rw [show(2:Int)^min (Int.toNat 8) IntKind.i64.bits=256 by decide];exact (IntWalk.i64_in _ (by omega)).trans (by omega)
 rw [e1,show eH BinOp.or IntKind.i64 ((x*256:Nat):Int) (y:Int)=IntKind.i64.wrap ((BitVec.ofInt 64 ((x*256:Nat):Int)|||BitVec.ofInt 64 (y:Int)).toNat:Int)from rfl,BitVec.ofInt_natCast,BitVec.ofInt_natCast,BitVec.toNat_or,BitVec.toNat_ofNat,BitVec.toNat_ofNat,Nat.mod_eq_of_lt (by omega),Nat.mod_eq_of_lt (by omega)];have e2:x*256|||y=x*256+y:=by
  have:=Nat.shiftLeft_add_eq_or_of_lt (i:=8) (b:=y) (by omega) x;rw [Nat.shiftLeft_eq]at this;exact this.symm
 rw [e2,IntWalk.i64_in _ (by omega)];omega
def Kw:cM:=bS [(57,jS)]
def Kx(l:Bs):aP:=fun i=>bif Nat.beq i 6 then some ⟨(List Int)×(Int),(fun s x=>((((((((VS.mk s.loc s.env (iI 38 (.arr 4 (.ints .i64 x.1)) s.lh)).put 7 (.int .i64 x.2)).put 8 .undef).put 15 .undef).put 47 .undef).put 54 .undef).put 72 .undef).put 91 .undef)),(fun s=>(VS.ints (VS.mk [] s.lh []) 38,s.int 7)),(fun s x=>let n:=x.1;let i:=x.2;Fx (s.strs 5) n i),(fun s x=>let n:=x.1;let i:=x.2;(4-i).toNat),[8,15,47,54,72,91]⟩else bif Nat.beq i 11 then some ⟨(List Int)×(Int),(fun s x=>((((VS.mk s.loc s.env (iI 38 (.arr 4 (.ints .i64 x.1)) s.lh)).put 8 (.int .i64 x.2)).put 54 .undef).put 72 .undef)),(fun s=>(VS.ints (VS.mk [] s.lh []) 38,s.int 8)),(fun s x=>let n:=x.1;let k:=x.2;Fy (s.strs 5) (s.int 7) n k),(fun s x=>let n:=x.1;let k:=x.2;((bt (s.strs 5) (s.int 7)).length+1-k:Int).toNat),[54,72]⟩else none
theorem Hf:df Tryz.prog az Kw:=ah ki (ax)
theorem MZ(l:Bs)(k:PV->Prop):cD Tryz.prog Kw az (Kx l) 1000 Tryz.f95 [.str l] k=(
 (List.length l<=1000/\(0:Int)<=46/\(46:Int)<=255)/\
 ((!decide (Int.ofNat (splitB 46 l).length=4))=true->
 k (PV.tup [PV.int .i64 0,PV.int .i64 0,PV.bool false]))/\
 ((!decide (Int.ofNat (splitB 46 l).length=4))=false->
 eK (VS.mk []
 [(0,PV.str l),(2,PV.int .i64 0),(3,PV.int .i64 0),
 (4,PV.bool false),
 (5,PV.row false (al.strs (splitB 46 l)) 0),
 (6,PV.ptr 38 0),(7,PV.int .i64 0),uZ 8,
 (13,PV.bool !decide (Int.ofNat (splitB 46 l).length=4)),
 uZ 15,uZ 47,uZ 54,uZ 72,
 uZ 91]
 [(38,PV.arr 4 (al.ints .i64 (List.replicate (4:Nat) 0)))])/\
 Fx (splitB 46 l) (List.replicate (4:Nat) 0) 0/\
 ∀(x:List Int×Int),
 Fx (splitB 46 l) x.1 x.2->
 (decide (x.2<4)=true->
 within x.2 (Int.ofNat (splitB 46 l).length)/\
 (decide (ai (bt (splitB 46 l) x.2)<1)=false->
 within x.2 (Int.ofNat (splitB 46 l).length))/\
 ((bif decide (ai (bt (splitB 46 l) x.2)<1)then true
 else decide ((3:Int)<ai (bt (splitB 46 l) x.2)))=
 false->
 within x.2 (Int.ofNat (splitB 46 l).length))/\
 ((bif decide (ai (bt (splitB 46 l) x.2)<1)then true
 else decide ((3:Int)<ai (bt (splitB 46 l) x.2)))=
 false->
 decide ((1:Int)<ai (bt (splitB 46 l) x.2))=true->
 within x.2 (Int.ofNat (splitB 46 l).length))/\
 ((bif decide (ai (bt (splitB 46 l) x.2)<1)then true
 else decide ((3:Int)<ai (bt (splitB 46 l) x.2)))=
 false->
 decide ((1:Int)<ai (bt (splitB 46 l) x.2))=true->
 within (0:Int) (ai (bt (splitB 46 l) x.2)))/\
 ((bif
 bif decide (ai (bt (splitB 46 l) x.2)<1)then true
 else decide ((3:Int)<ai (bt (splitB 46 l) x.2))then
 true
 else
 bif decide ((1:Int)<ai (bt (splitB 46 l) x.2))then
 decide (ag (bt (splitB 46 l) x.2) 0=48)
 else false)=
 true->
 k (PV.tup [PV.int .i64 0,PV.int .i64 0,PV.bool false]))/\
 ((bif
 bif decide (ai (bt (splitB 46 l) x.2)<1)then true
 else decide ((3:Int)<ai (bt (splitB 46 l) x.2))then
 true
 else
 bif decide ((1:Int)<ai (bt (splitB 46 l) x.2))then
 decide (ag (bt (splitB 46 l) x.2) 0=48)
 else false)=
 false->
 eK (VS.mk []
 [(0,PV.str l),(2,PV.int .i64 0),
 (3,PV.int .i64 0),(4,PV.bool false),
 (5,PV.row false (al.strs (splitB 46 l)) 0),
 (6,PV.ptr 38 0),(7,PV.int .i64 x.2),
 (8,PV.int .i64 0),
 (13,
 PV.bool !decide (Int.ofNat (splitB 46 l).length=4)),
 (15,PV.bool (decide (x.2<4))),
 ((47:Nat),
 PV.bool
 (bif
 bif
 decide
 (ai (bt (splitB 46 l) x.2)<1)then
 true
 else
 decide
 ((3:Int)<ai (bt (splitB 46 l) x.2))then
 true
 else
 bif
 decide
 ((1:Int)<ai (bt (splitB 46 l) x.2))then
 decide
 (ag (bt (splitB 46 l) x.2) 0=
 (48:Int))
 else false)),
 uZ 54,uZ 72,uZ 91]
 [(38,PV.arr 4 (al.ints .i64 x.1))])/\
 Fy (splitB 46 l) x.2 x.1 0/\
 ∀(x_1:List Int×Int),
 Fy (splitB 46 l) x.2 x_1.1
 x_1.2->
 within x.2 (Int.ofNat (splitB 46 l).length)/\
 (decide (x_1.2<ai (bt (splitB 46 l) x.2))=true->
 within x.2 (Int.ofNat (splitB 46 l).length)/\
 within x_1.2 (ai (bt (splitB 46 l) x.2))/\
 (decide
 (ag (bt (splitB 46 l) x.2) x_1.2<
 (48:Int))=
 false->
 within x.2 (Int.ofNat (splitB 46 l).length))/\
 (decide
 (ag (bt (splitB 46 l) x.2) x_1.2<
 (48:Int))=
 false->
 within x_1.2
 (ai (bt (splitB 46 l) x.2)))/\
 ((bif
 decide
 (ag (bt (splitB 46 l) x.2)
 x_1.2<
 (48:Int))then
 true
 else
 decide
 ((57:Int)<
 ag (bt (splitB 46 l) x.2)
 x_1.2))=
 true->
 k
 (PV.tup
 [PV.int .i64 0,PV.int .i64 0,
 PV.bool false]))/\
 ((bif
 decide
 (ag (bt (splitB 46 l) x.2)
 x_1.2<
 (48:Int))then
 true
 else
 decide
 ((57:Int)<
 ag (bt (splitB 46 l) x.2)
 x_1.2))=
 false->
 within x.2 ↑(4:Nat)/\
 within x.2 ↑(4:Nat)/\
 av (fi x_1.1 x.2*(10:Int))/\
 within x.2
 (Int.ofNat (splitB 46 l).length)/\
 within x_1.2
 (ai
 (bt (splitB 46 l) x.2))/\
 av
 (fi x_1.1 x.2*10+
 Go.IntKind.i64.wrap
 (Go.IntKind.u8.wrap
 (ag
 (bt (splitB 46 l) x.2)
 x_1.2-
 (48:Int))))/\
 within x.2 ↑(4:Nat)/\
 (within x.2 ↑(4:Nat)/\True)/\
 av (x_1.2+(1:Int))/\
 VS.mk []
 [(0,PV.str l),
 (2,PV.int .i64 0),
 (3,PV.int .i64 0),
 (4,PV.bool false),
 (5,
 PV.row false
 (al.strs
 (splitB 46 l))
 (0:Nat)),
 (6,PV.ptr 38 0),
 (7,PV.int .i64 x.2),
 (8,PV.int .i64 (x_1.2+1)),
 (13,
 PV.bool
 !decide
 (Int.ofNat
 (splitB 46
 l).length=
 (4:Int))),
 (15,PV.bool (decide (x.2<4))),
 ((47:Nat),
 PV.bool
 (bif
 bif
 decide
 (ai
 (bt
 (splitB 46
 l)
 x.2)<
 (1:Int))then
 true
 else
 decide
 ((3:Int)<
 ai
 (bt
 (splitB 46 l)
 x.2))then
 true
 else
 bif
 decide
 ((1:Int)<
 ai
 (bt
 (splitB 46 l)
 x.2))then
 decide
 (ag
 (bt
 (splitB 46 l)
 x.2)
 (0:Int)=
 (48:Int))
 else false)),
 uZ 54,uZ 72,
 uZ 91]
 [((6:Nat)+32,
 PV.arr 4
 (al.ints .i64
 (aS x_1.1 x.2
 (fi x_1.1 x.2*10+
 Go.IntKind.i64.wrap
 (Go.IntKind.u8.wrap
 (ag
 (bt
 (splitB 46
 l)
 x.2)
 x_1.2-
 (48:Int)))))))]=
 VS.mk []
 [(0,PV.str l),
 (2,PV.int .i64 0),
 (3,PV.int .i64 0),
 (4,PV.bool false),
 (5,
 PV.row false
 (al.strs
 (splitB 46 l))
 (0:Nat)),
 (6,PV.ptr 38 0),
 (7,PV.int .i64 x.2),
 (8,PV.int .i64 (x_1.2+1)),
 (13,
 PV.bool
 !decide
 (Int.ofNat
 (splitB 46
 l).length=
 (4:Int))),
 (15,PV.bool (decide (x.2<4))),
 ((47:Nat),
 PV.bool
 (bif
 bif
 decide
 (ai
 (bt
 (splitB 46
 l)
 x.2)<
 (1:Int))then
 true
 else
 decide
 ((3:Int)<
 ai
 (bt
 (splitB 46 l)
 x.2))then
 true
 else
 bif
 decide
 ((1:Int)<
 ai
 (bt
 (splitB 46 l)
 x.2))then
 decide
 (ag
 (bt
 (splitB 46 l)
 x.2)
 (0:Int)=
 (48:Int))
 else false)),
 uZ 54,uZ 72,
 uZ 91]
 [((38:Nat),
 PV.arr 4
 (al.ints .i64
 (aS x_1.1 x.2
 (fi x_1.1 x.2*10+
 Go.IntKind.i64.wrap
 (Go.IntKind.u8.wrap
 (ag
 (bt
 (splitB 46
 l)
 x.2)
 x_1.2-
 (48:Int)))))))]/\
 Fy
 (splitB 46 l) x.2
 (aS x_1.1 x.2
 (fi x_1.1 x.2*10+
 Go.IntKind.i64.wrap
 (Go.IntKind.u8.wrap
 (ag
 (bt
 (splitB 46 l) x.2)
 x_1.2-
 (48:Int)))))
 (x_1.2+1)/\
 (↑(List.length
 (bt
 (splitB 46 l)
 x.2))+
 (1:Int)-
 (x_1.2+1)).toNat<
 (↑(List.length
 (bt
 (splitB 46 l)
 x.2))+
 (1:Int)-
 x_1.2).toNat))/\
 (decide (x_1.2<ai (bt (splitB 46 l) x.2))=
 false->
 within x.2 ↑(4:Nat)/\
 within x.2 ↑(4:Nat)/\
 (decide ((255:Int)<fi x_1.1 x.2)=true->
 k
 (PV.tup
 [PV.int .i64 0,PV.int .i64 0,
 PV.bool false]))/\
 (decide ((255:Int)<fi x_1.1 x.2)=false->
 av (x.2+1)/\
 eK (VS.mk []
 [(0,PV.str l),(2,PV.int .i64 0),
 (3,PV.int .i64 0),(4,PV.bool false),
 (5,
 PV.row false (al.strs (splitB 46 l))
 (0:Nat)),
 (6,PV.ptr 38 0),
 (7,PV.int .i64 (x.2+1)),uZ 8,
 (13,
 PV.bool
 !decide
 (Int.ofNat (splitB 46 l).length=
 (4:Int))),
 uZ 15,uZ 47,uZ 54,
 uZ 72,uZ 91]
 [(38,PV.arr 4 (al.ints .i64 x_1.1))])/\
 Fx (splitB 46 l)
 x_1.1 (x.2+1)/\
 ((4:Int)-(x.2+1)).toNat<((4:Int)-x.2).toNat))))/\
 (decide (x.2<4)=false->
 within (0:Int) ↑(4:Nat)/\
 within (0:Int) ↑(4:Nat)/\
 (0:Int)<=(8:Int)/\
 within (1:Int) ↑(4:Nat)/\
 within (1:Int) ↑(4:Nat)/\
 within (2:Int) ↑(4:Nat)/\
 within (2:Int) ↑(4:Nat)/\
 (0:Int)<=(8:Int)/\
 within (3:Int) ↑(4:Nat)/\
 within (3:Int) ↑(4:Nat)/\
 k
 (PV.tup
 [PV.int .i64
 (eH Go.BinOp.or .i64 (lT .i64 (fi x.1 0) 8)
 (fi x.1 1)),
 PV.int .i64
 (eH Go.BinOp.or .i64 (lT .i64 (fi x.1 2) 8)
 (fi x.1 3)),
 PV.bool true])))):=by kernel_rfl
attribute [local irreducible] Go.Vc.cD
theorem M0(l:Bs):ae Tryz.prog az 95 [.str l] ⟨l.length<=1000,.tup [.int .i64 (bm l).1,.int .i64 (bm l).2.1,.bool (bm l).2.2]⟩:=bR (by kernel_rfl) Hf (H:=Kx l) (fuel:=1000) Tryz.func95 (by kernel_rfl) fun hpre=>(MZ l _).mpr (by
 have leaf0:bm l=(0,0,false)->PV.tup [PV.int .i64 0,PV.int .i64 0,PV.bool false]=PV.tup [.int .i64 (bm l).1,.int .i64 (bm l).2.1,.bool (bm l).2.2]:=fun h=>by rw [h]
 refine ⟨⟨hpre,by omega,by omega⟩,fun h=>leaf0 ?_,fun h=>?_⟩
 ·rw [qo,decide_eq_true_eq]at h
  exact Aq (fun e=>h (by rw [e];rfl))
 ·rw [qp,qo,decide_eq_true_eq]at h
  have h4:(splitB 46 l).length=4:=by
   exact Int.ofNat.inj (Classical.not_not.1 h:Int.ofNat (splitB 46 l).length=Int.ofNat 4)
  have hbad:∀p∈splitB 46 l,¬dK p=true->bm l=(0,0,false):=fun p hp hg=>Ku h4 hp hg;have hgood:(∀p∈splitB 46 l,dK p=true)->∃a b c d,splitB 46 l=[a,b,c,d]/\bm l=(aU a*256+aU b,aU c*256+aU d,true):=fun hg=>by
   match hq:splitB 46 l,h4,hg with
   |[a,b,c,d],_,hg=>
    refine ⟨a,b,c,d,rfl,?_⟩;unfold bm;rw [hq];dsimp only;rw [if_pos (by rw [hg a (by simp),hg b (by simp),hg c (by simp),hg d (by simp)];rfl)]
  generalize splitB 46 l=L at *;clear h;refine ⟨rfl,⟨by omega,by omega,h4,rfl,fun p hp=>by cases hp⟩,fun x hx=>⟨fun h=>?_,fun h=>?_⟩⟩
  ·obtain ⟨n,i⟩:=x
   obtain ⟨i0,i4,-,hn,hg⟩:=hx;dsimp only at i0 i4 hn hg h⊢;have hi:i<4:=of_decide_eq_true h;have wi:within i (Int.ofNat L.length):=⟨i0,by show i<(L.length:Int);omega⟩;have wi4:within i ((4:Nat):Int):=⟨i0,by omega⟩;have hmem:bt L i∈L:=by
    unfold bt;rw [List.getD_eq_getElem?_getD,List.getElem?_eq_getElem (by omega)];exact List.getElem_mem _
   have htk:L.take (i+1).toNat=L.take i.toNat++[bt L i]:=by
    unfold bt;rw [show(i+1).toNat=i.toNat+1 by omega,List.take_add_one,List.getElem?_eq_getElem (by omega),List.getD_eq_getElem?_getD,List.getElem?_eq_getElem (by omega)];rfl
   have hlA:((L.take i.toNat).map aU).length=i.toNat:=by rw [List.length_map,List.length_take];omega
   have hbp:=hbad _ hmem;generalize hP:bt L i=P at *;have hsh:sL P=true↔¬(((ai P<1\/3<ai P))\/(1<ai P/\ag P 0=48)):=by
    unfold sL ai;rw [Bool.and_eq_true,decide_eq_true_eq,qo,Bool.and_eq_true,decide_eq_true_eq,decide_eq_true_eq];constructor
    ·intro ⟨a,b⟩ c
     rcases c with c|⟨c,d⟩
     ·omega
     ·exact b ⟨by omega,d⟩
    ·intro a
     refine ⟨?_,fun⟨b,c⟩=>a (.inr ⟨by omega,c⟩)⟩;have:=fun b=>a (.inl b);omega
   simp only [qn,J7,qp,Bool.and_eq_true,Bool.or_eq_true,decide_eq_true_eq];refine ⟨wi,fun _=>wi,fun _=>wi,fun _ _=>wi,fun _ h1=>⟨by omega,by omega⟩,fun hb=>leaf0 (hbp fun hgp=>?_),fun hb=>?_⟩
   ·unfold dK at hgp
    rw [Bool.and_eq_true,Bool.and_eq_true]at hgp;exact (hsh.1 hgp.1.1) hb
   ·have hs:=hsh.2 hb
    have hlp:P.length<=3:=by have h3:¬(3<ai P):=fun c=>hb (.inl (.inr c));unfold ai at h3;omega
    refine ⟨trivial,⟨by omega,by omega,by rw [hP];exact hs,?_,fun c hc=>by cases hc⟩,fun y hy=>?_⟩
    ·rw [hn,show 4-i.toNat=(3-i.toNat)+1 by omega,List.replicate_succ]
     rfl
    ·obtain ⟨n2,k⟩:=y
     obtain ⟨k0,k1,-,hn2,hd⟩:=hy;dsimp only at k0 k1 hn2 hd⊢;rw [hP]at k1 hn2 hd;have hget:fi n2 i=aU (P.take k.toNat):=by
      unfold fi;rw [hn2,List.getD_eq_getElem?_getD,List.getElem?_append_right (by omega),hlA,Nat.sub_self];rfl
     have hset:∀v:Int,aS n2 i v=(L.take i.toNat).map aU++v::List.replicate (3-i.toNat) 0:=fun v=>by
      unfold aS;rw [hn2,List.set_append_right _ _ (by omega),hlA,Nat.sub_self,List.set_cons_zero]
     obtain ⟨v0,v1⟩:=lL _ (P.take k.toNat) rfl hd;have v2:aU (P.take k.toNat)<1000:=Int.lt_of_lt_of_le v1 (by
      rw [List.length_take];have:min k.toNat P.length=0\/min k.toNat P.length=1\/min k.toNat P.length=2\/min k.toNat P.length=3:=by omega
      rcases this with e|e|e|e<;>rw [e]<;>decide)
     rw [hget];refine ⟨wi,fun hlt=>?_,fun hge=>?_⟩
     ·have hlt':k<(P.length:Int):=hlt
      have wk:within k (ai P):=⟨k0,hlt'⟩;have hby:ag P k=((P.getD k.toNat 0).toNat:Int):=rfl;have hbr:=en P k;have htk2:P.take (k+1).toNat=P.take k.toNat++[P.getD k.toNat 0]:=by
       rw [show(k+1).toNat=k.toNat+1 by omega,List.take_add_one,List.getElem?_eq_getElem (by omega),List.getD_eq_getElem?_getD,List.getElem?_eq_getElem (by omega)];rfl
      refine ⟨wi,wk,fun _=>wi,fun _=>wk,fun hb2=>leaf0 (hbp fun hgp=>?_),fun hb2=>?_⟩
      ·unfold dK at hgp
       rw [Bool.and_eq_true,Bool.and_eq_true,List.all_eq_true]at hgp;have hm:P.getD k.toNat 0∈P:=by
        rw [List.getD_eq_getElem?_getD,List.getElem?_eq_getElem (by omega)];exact List.getElem_mem _
       have:=of_decide_eq_true (hgp.1.2 _ hm);omega
      ·have e8:IntKind.i64.wrap (IntKind.u8.wrap (ag P k-48))=ag P k-48:=by
        rw [IntWalk.u8_in _ (by omega),IntWalk.i64_in _ (by omega)]
       rw [e8,hset];refine ⟨wi4,wi4,⟨by omega,by omega⟩,wi,wk,⟨by omega,by omega⟩,wi4,⟨wi4,trivial⟩,⟨by omega,by omega⟩,trivial,⟨by omega,by rw [hP];omega,by rw [hP];exact hs,?_,?_⟩,by omega⟩
       ·rw [hP,htk2,qu,hby]
       ·rw [hP,htk2]
        intro c hc;rw [List.mem_append,List.mem_singleton]at hc;rcases hc with hc|rfl
        ·exact hd c hc
        ·exact decide_eq_true (by omega)
     ·have hge':¬k<(P.length:Int):=hge
      have hall:P.take k.toNat=P:=List.take_of_length_le (by omega);rw [hall]at hd v0 v1 v2 hn2⊢;refine ⟨wi4,wi4,fun hb2=>leaf0 (hbp fun hgp=>?_),fun hb2=>⟨⟨by omega,by omega⟩,trivial,⟨by omega,by omega,h4,?_,?_⟩,by omega⟩⟩
      ·unfold dK at hgp
       rw [Bool.and_eq_true,decide_eq_true_eq]at hgp;omega
      ·rw [htk,hn2,List.map_append,show 4-(i+1).toNat=3-i.toNat by omega]
       simp
      ·rw [htk]
       intro p hp;rw [List.mem_append,List.mem_singleton]at hp;rcases hp with hp|rfl
       ·exact hg p hp
       ·unfold dK
        rw [hs,List.all_eq_true.2 hd,decide_eq_true (by omega)];rfl
  ·obtain ⟨n,i⟩:=x
   obtain ⟨i0,i4,-,hn,hg⟩:=hx;dsimp only at i0 i4 hn hg h⊢;have hi:¬i<4:=of_decide_eq_false h;obtain rfl:i=4:=by omega
   have hg2:∀p∈L,dK p=true:=by rw [show Int.toNat 4=L.length by omega,List.take_length]at hg;exact hg
   obtain ⟨a,b,c,d,hL,hr⟩:=hgood hg2;have bd:∀p,p∈L->0<=aU p/\aU p<=255:=fun p hp=>by
    have:=hg2 p hp;unfold dK at this;rw [Bool.and_eq_true,Bool.and_eq_true,List.all_eq_true,decide_eq_true_eq]at this;exact ⟨(lL _ p rfl this.1.2).1,this.2⟩
   have ba:=bd a (by rw [hL];simp);have bb:=bd b (by rw [hL];simp);have bc:=bd c (by rw [hL];simp);have bdd:=bd d (by rw [hL];simp);rw [hL]at hn;replace hn:n=[aU a,aU b,aU c,aU d]:=hn;have w:∀j:Int,0<=j->j<4->within j ((4:Nat):Int):=fun j a b=>⟨a,by omega⟩;refine ⟨w _ (by omega) (by omega),w _ (by omega) (by omega),by omega,w _ (by omega) (by omega),w _ (by omega) (by omega),w _ (by omega) (by omega),w _ (by omega) (by omega),by omega,w _ (by omega) (by omega),w _ (by omega) (by omega),?_⟩;rw [hn,show fi [aU a,aU b,aU c,aU d] 0=aU a from rfl,show fi [aU a,aU b,aU c,aU d] 1=aU b from rfl,show fi [aU a,aU b,aU c,aU d] 2=aU c from rfl,show fi [aU a,aU b,aU c,aU d] 3=aU d from rfl,
    Kv _ _ ba.1 ba.2 bb.1 bb.2,Kv _ _ bc.1 bc.2 bdd.1 bdd.2]
   show PV.tup _=PV.tup _;rw [hr])
def sM:List PV->Option aD:=fun xs=>match xs with
 |[.str l]=>some ⟨l.length<=1000,.tup [.int .i64 (bm l).1,.int .i64 (bm l).2.1,.bool (bm l).2.2]⟩
 |_=>none
theorem Ar:∀xs c,sM xs=some c->ae Tryz.prog az 95 xs c:=fun xs c h=>by
 unfold sM at h;split at h
 ·injection h with h;subst h;exact M0 _
 ·cases h
end
section
def bP(last:Bool):List Bs->List Int->List Int×Bool
 |[],out=>(out,true)
 |p::ps,out=>if((bm p).2.2=true/\last=true)/\ps=[]then(out++[(bm p).1,(bm p).2.1],true)else if(eT p).2=true then bP last ps (out++[(eT p).1])else(out,false)
def aA(l:Bs)(last:Bool):List Int×Bool:=if l=[]then([],true)else if 8<(splitB 58 l).length then([],false)else bP last (splitB 58 l) []
def Ky(l:Bs)(last:Bool)(nl:Bool)(o:List Int)(i:Int):Prop:=0<=i/\i<=(splitB 58 l).length/\nl=decide (o=[])/\o.length<=2*i.toNat/\bP last ((splitB 58 l).drop i.toNat) o=aA l last
theorem qv(c:Int):∀(l:Bs),∀p∈splitB c l,p.length<=l.length
 |[],p,hp=>by
  have:p=[]:=by simpa [splitB]using hp
  rw [this];simp
 |b::t,p,hp=>by
  obtain ⟨h,r,e⟩:=dJ c t;have ih:=qv c t;by_cases hb:(b.toNat:Int)=c
  ·rw [dO hb,List.mem_cons]at hp
   rcases hp with rfl|hp
   ·simp
   ·have:=ih p hp;rw [List.length_cons];omega
  ·rw [eC hb e,List.mem_cons]at hp
   rw [e]at ih;rcases hp with rfl|hp
   ·have:=ih h (by simp);rw [List.length_cons,List.length_cons];omega
   ·have:=ih p (by simp [hp]);rw [List.length_cons];omega
def Oo:cM:=bS [(57,jS),(95,sM),(96,pv)]
def Oq(l:Bs)(last:Bool):aP:=fun i=>bif Nat.beq i 8 then some ⟨(Bool×List Int)×(Int),(fun s x=>((((((((((s.row s 6 x.1.1 (.ints .i64 x.1.2)).put 8 (.int .i64 x.2)).put 9 .undef).put 10 .undef).put 11 .undef).put 12 .undef).put 13 .undef).put 26 .undef).put 48 .undef).put 63 .undef)),(fun s=>((s.nil 6,s.ints 6),s.int 8)),(fun s x=>let o:=x.1;let i:=x.2;Ky l last o.1 o.2 i),(fun s x=>let o:=x.1;let i:=x.2;((splitB 58 l).length+1-i:Int).toNat),[9,10,11,12,13,26,48,63]⟩else none
theorem Kz:df Tryz.prog az Oo:=ah ki (ah Ar (ah x7 (ax)))
theorem Pm(l:Bs)(last:Bool)(k:PV->Prop):cD Tryz.prog Oo az (Oq l last) 1000 Tryz.f50 [.str l,.bool last] k=(
 (decide (l=(bL #[]))=true->k (PV.tup [PV.row true (al.ints .i64 []) 0,PV.bool true]))/\
 (decide (l=(bL #[]))=false->
 (List.length l<=1000/\(0:Int)<=58/\(58:Int)<=255)/\
 (decide ((8:Int)<Int.ofNat (splitB 58 l).length)=true->
 k (PV.tup [PV.row true (al.ints .i64 []) 0,PV.bool false]))/\
 (decide ((8:Int)<Int.ofNat (splitB 58 l).length)=false->
 eK (VS.mk []
 [(0,PV.str l),(1,PV.bool last),
 (4,PV.row true (al.ints .i64 []) 36),(5,PV.bool false),
 (6,PV.row true (al.ints .i64 []) 38),
 (7,PV.row false (al.strs (splitB 58 l)) 0),
 (8,PV.int .i64 0),uZ 9,uZ 10,uZ 11,
 uZ 12,uZ 13,(15,PV.bool (decide (l=(bL #[])))),
 (21,PV.bool (decide ((8:Int)<Int.ofNat (splitB 58 l).length))),
 uZ 26,uZ 48,uZ 63]
 [])/\
 Ky l last true [] 0/\
 ∀(x:(Bool×List Int)×Int),
 Ky l last x.1.1 x.1.2 x.2->
 (decide (x.2<Int.ofNat (splitB 58 l).length)=true->
 within x.2 (Int.ofNat (splitB 58 l).length)/\
 (List.length (bt (splitB 58 l) x.2)).le 1000/\
 ((bif
 (bm
 (bt (splitB 58 l) x.2)).2.2 then
 last
 else false)=
 true->
 av (Int.ofNat (splitB 58 l).length-1))/\
 ((bif
 bif
 (bm
 (bt (splitB 58 l) x.2)).2.2 then
 last
 else false then
 decide (x.2=Int.ofNat (splitB 58 l).length-1)
 else false)=
 true->
 Int.ofNat
 (x.1.2++
 [(bm
 (bt (splitB 58 l) x.2)).1,
 (bm
 (bt (splitB 58 l) x.2)).2.1]).length<=
 cN/\
 av (x.2+1)/\
 eK (VS.mk []
 [(0,PV.str l),(1,PV.bool last),
 (4,PV.row true (al.ints .i64 []) 36),
 (5,PV.bool false),
 ((6:Nat),
 PV.row false
 (al.ints .i64
 (x.1.2++
 [(bm
 (bt (splitB 58 l) x.2)).1,
 (bm
 (bt (splitB 58 l) x.2)).2.1]))
 38),
 (7,
 PV.row false (al.strs (splitB 58 l)) 0),
 (8,PV.int .i64 (x.2+1)),uZ 9,
 uZ 10,uZ 11,uZ 12,
 uZ 13,(15,PV.bool (decide (l=(bL #[])))),
 (21,
 PV.bool (decide ((8:Int)<Int.ofNat (splitB 58 l).length))),
 uZ 26,uZ 48,uZ 63]
 [])/\
 Ky l last false
 (x.1.2++
 [(bm
 (bt (splitB 58 l) x.2)).1,
 (bm
 (bt (splitB 58 l) x.2)).2.1])
 (x.2+1)/\
 (↑(splitB 58 l).length+(1:Int)-(x.2+(1:Int))).toNat<
 (↑(splitB 58 l).length+(1:Int)-x.2).toNat)/\
 ((bif
 bif
 (bm
 (bt (splitB 58 l) x.2)).2.2 then
 last
 else false then
 decide (x.2=Int.ofNat (splitB 58 l).length-1)
 else false)=
 false->
 within x.2 (Int.ofNat (splitB 58 l).length)/\
 (List.length (bt (splitB 58 l) x.2)).le 1000000/\
 ((!((ey 5 0
 (bt (splitB 58 l) x.2)).2&&
 decide
 ((1:Nat)<=List.length (bt (splitB 58 l) x.2)/\
 List.length (bt (splitB 58 l) x.2)<=4)))=
 true->
 k (PV.tup [PV.row x.1.1 (al.ints .i64 x.1.2) 0,PV.bool false]))/\
 ((!((ey 5 0
 (bt (splitB 58 l) x.2)).2&&
 decide
 ((1:Nat)<=List.length (bt (splitB 58 l) x.2)/\
 List.length (bt (splitB 58 l) x.2)<=4)))=
 false->
 Int.ofNat
 (x.1.2++
 [(ey 5 0
 (bt (splitB 58 l) x.2)).1]).length<=
 cN/\
 av (x.2+1)/\
 eK (VS.mk []
 [(0,PV.str l),(1,PV.bool last),
 (4,PV.row true (al.ints .i64 []) 36),
 (5,PV.bool false),
 ((6:Nat),
 PV.row false
 (al.ints .i64
 (x.1.2++
 [(ey 5 0
 (bt (splitB 58 l) x.2)).1]))
 38),
 (7,
 PV.row false (al.strs (splitB 58 l)) 0),
 (8,PV.int .i64 (x.2+1)),uZ 9,
 uZ 10,uZ 11,uZ 12,
 uZ 13,(15,PV.bool (decide (l=(bL #[])))),
 (21,
 PV.bool
 (decide ((8:Int)<Int.ofNat (splitB 58 l).length))),
 uZ 26,uZ 48,uZ 63]
 [])/\
 Ky l last false
 (x.1.2++
 [(ey 5 0
 (bt (splitB 58 l) x.2)).1])
 (x.2+1)/\
 (↑(splitB 58 l).length+(1:Int)-(x.2+(1:Int))).toNat<
 (↑(splitB 58 l).length+(1:Int)-x.2).toNat)))/\
 (decide (x.2<Int.ofNat (splitB 58 l).length)=false->
 k (PV.tup [PV.row x.1.1 (al.ints .i64 x.1.2) 0,PV.bool true]))))):=by kernel_rfl
attribute [local irreducible] Go.Vc.cD
theorem Pn(l:Bs)(last:Bool):ae Tryz.prog az 50 [.str l,.bool last] ⟨l.length<=1000,.tup [.row (decide ((aA l last).1=[])) (.ints .i64 (aA l last).1) 0,.bool (aA l last).2]⟩:=bR (by kernel_rfl) Kz (H:=Oq l last) (fuel:=1000) Tryz.func50 (by kernel_rfl) fun hpre=>(Pm l last _).mpr (by
 have leaf:∀(nl:Bool) (o:List Int) (b:Bool),nl=decide (o=[])->aA l last=(o,b)->PV.tup [.row nl (.ints .i64 o) 0,.bool b]=PV.tup [.row (decide ((aA l last).1=[])) (.ints .i64 (aA l last).1) 0,.bool (aA l last).2]:=fun nl o b h1 h2=>by rw [h2,h1]
 refine ⟨fun h=>leaf _ _ _ rfl ?_,fun h=>⟨⟨hpre,by omega,by omega⟩,fun h8=>leaf _ _ _ rfl ?_,fun h8=>?_⟩⟩
 ·have:l=[]:=of_decide_eq_true h
  unfold aA;rw [if_pos this]
 ·have h1:¬l=[]:=of_decide_eq_false h
  have h2:(8:Int)<((splitB 58 l).length:Int):=of_decide_eq_true h8;unfold aA;rw [if_neg h1,if_pos (by omega)]
 ·have h1:¬l=[]:=of_decide_eq_false h
  have h2:¬(8:Int)<((splitB 58 l).length:Int):=of_decide_eq_false h8;have hpl:=qv 58 l;have hr0:bP last (splitB 58 l) []=aA l last:=by unfold aA;rw [if_neg h1,if_neg (by omega)]
  refine ⟨rfl,⟨by omega,by omega,rfl,by simp,hr0⟩,fun x hx=>⟨fun hlt=>?_,fun hge=>?_⟩⟩
  ·obtain ⟨⟨nl,o⟩,i⟩:=x
   obtain ⟨i0,i1,hn,ho,hg⟩:=hx;dsimp only at i0 i1 hn ho hg hlt⊢;have hi:i<((splitB 58 l).length:Int):=of_decide_eq_true hlt;have wi:within i (Int.ofNat (splitB 58 l).length):=⟨i0,hi⟩;have hmem:bt (splitB 58 l) i∈splitB 58 l:=by
    unfold bt;rw [List.getD_eq_getElem?_getD,List.getElem?_eq_getElem (by omega)];exact List.getElem_mem _
   have hdr:(splitB 58 l).drop i.toNat=bt (splitB 58 l) i::(splitB 58 l).drop (i.toNat+1):=by
    unfold bt;rw [List.drop_eq_getElem_cons (by omega),List.getD_eq_getElem?_getD,List.getElem?_eq_getElem (by omega)];rfl
   have hps:(splitB 58 l).drop (i.toNat+1)=[]↔i=((splitB 58 l).length:Int)-1:=by
    rw [<-List.length_eq_zero_iff,List.length_drop];omega
   have hp:=hpl _ hmem;rw [hdr,bP]at hg;have e1:(i+1).toNat=i.toNat+1:=by omega
   generalize hP:bt (splitB 58 l) i=P at *;have hpc:eT P=((ey 5 0 P).1,(ey 5 0 P).2&&decide (1<=P.length/\P.length<=4)):=rfl;have hml:cN=16777216:=rfl;simp only [qn,qp,Bool.and_eq_true,decide_eq_true_eq];refine ⟨wi,by show P.length<=1000;omega,fun _=>⟨by show _ <=((splitB 58 l).length:Int)-1;omega,by show((splitB 58 l).length:Int)-1<=_;omega⟩,fun hc=>?_,fun hc=>?_⟩
   ·have hc2:(splitB 58 l).drop (i.toNat+1)=[]:=hps.2 hc.2
    rw [if_pos ⟨hc.1,hc2⟩]at hg;refine ⟨?_,⟨by omega,by omega⟩,trivial,⟨by omega,by omega,by simp,?_,?_⟩,by omega⟩
    ·show((o++[(bm P).1,(bm P).2.1]).length:Int)<=cN
     rw [List.length_append];show((o.length+2:Nat):Int)<=_;omega
    ·rw [List.length_append];show o.length+2<=_;omega
    ·rw [e1,hc2]
     exact hg
   ·rw [if_neg (fun hh=>hc ⟨hh.1,hps.1 hh.2⟩)]at hg
    refine ⟨wi,by show P.length<=1000000;omega,fun hb=>leaf _ _ _ hn ?_,fun hb=>?_⟩
    ·rw [if_neg (fun hh=>by rw [hpc]at hh;rw [qo]at hb;exact hb hh)]at hg
     exact hg.symm
    ·rw [if_pos (by rw [hpc];rw [qo]at hb;exact Classical.not_not.1 hb)]at hg
     refine ⟨?_,⟨by omega,by omega⟩,trivial,⟨by omega,by omega,by simp,?_,?_⟩,by omega⟩
     ·show((o++[(ey 5 0 P).1]).length:Int)<=cN
      rw [List.length_append];show((o.length+1:Nat):Int)<=_;omega
     ·rw [List.length_append];show o.length+1<=_;omega
     ·rw [e1]
      exact hg
  ·obtain ⟨⟨nl,o⟩,i⟩:=x
   obtain ⟨i0,i1,hn,ho,hg⟩:=hx;dsimp only at i0 i1 hn ho hg hge⊢;have hi:¬i<((splitB 58 l).length:Int):=of_decide_eq_false hge;rw [List.drop_eq_nil_of_le (by omega)]at hg;exact leaf _ _ _ hn hg.symm)
def x9:List PV->Option aD:=fun xs=>match xs with
 |[.str l,.bool last]=>some ⟨l.length<=1000,.tup [.row (decide ((aA l last).1=[])) (.ints .i64 (aA l last).1) 0,.bool (aA l last).2]⟩
 |_=>none
theorem Dq:∀xs c,x9 xs=some c->ae Tryz.prog az 50 xs c:=fun xs c h=>by
 unfold x9 at h;split at h
 ·injection h with h;subst h;exact Pn _ _
 ·cases h
end
section
def px:Bs->Int->Int
 |c::d::r,i=>if c=58/\d=58 then i else px (d::r) (i+1)
 |_,_=>-1
def fO(l:Bs):Int:=px l 0
def As(l:List Int):List Int:=l.map fun z=>IntKind.u16.wrap z
def dj(l:Bs):List Int×Bool:=if fO l<0 then(if(aA l true).2=true/\(aA l true).1.length=8 then(As (aA l true).1,true)else(List.replicate 8 0,false))
 else if((aA (ab l (fO l)) false).2=true/\(aA (aa l (fO l+2)) true).2=true)/\(aA (ab l (fO l)) false).1.length+(aA (aa l (fO l+2)) true).1.length<=7 then
  (As (aA (ab l (fO l)) false).1++List.replicate (8-((aA (ab l (fO l)) false).1.length+(aA (aa l (fO l+2)) true).1.length)) 0++As (aA (aa l (fO l+2)) true).1,true)else(List.replicate 8 0,false)
def KA(l:Bs)(at' i:Int):Prop:=0<=i/\i<=l.length/\((at'=-1/\px (l.drop i.toNat) i=fO l)\/(0<=at'/\at'+2<=l.length/\at'=fO l))
def lV(r:List Int)(p0 p:List Int)(from' i:Int):Prop:=0<=i/\i<=r.length/\p=p0.take from'.toNat++(As r).take i.toNat++p0.drop (from'.toNat+i.toNat)
theorem sN(r p0:List Int)(f:Int):lV r p0 p0 f 0:=⟨by omega,by omega,by
 rw [show Int.toNat 0=0 from rfl,List.take_zero,List.append_nil,Nat.add_zero,List.take_append_drop]⟩
theorem lM(r:List Int):(As r).length=r.length:=List.length_map _
theorem sO {r p0 p:List Int}{f i:Int}(h:lV r p0 p f i)(hi:i<(r.length:Int))(hf:0<=f)(hl:f+r.length<=(p0.length:Int)):lV r p0 (aS p (f+i) (IntKind.u16.wrap (fi r i))) f (i+1):=by
 obtain ⟨h0,h1,h2⟩:=h;refine ⟨by omega,by omega,?_⟩;have hln:(p0.take f.toNat++(As r).take i.toNat).length=(f+i).toNat:=by
  rw [List.length_append,List.length_take,List.length_take,lM];omega
 have hv:(As r)[i.toNat]?=some (IntKind.u16.wrap (fi r i)):=by
  unfold As fi;rw [List.getElem?_map,List.getElem?_eq_getElem (by omega),List.getD_eq_getElem?_getD,List.getElem?_eq_getElem (by omega)];rfl
 have hw:(As r).take (i+1).toNat=(As r).take i.toNat++[IntKind.u16.wrap (fi r i)]:=by
  rw [show(i+1).toNat=i.toNat+1 by omega,List.take_add_one,hv];rfl
 unfold aS;rw [h2,hw,List.set_append_right _ _ (by omega),hln,Nat.sub_self,List.drop_eq_getElem_cons (by omega),List.set_cons_zero,show f.toNat+(i+1).toNat=f.toNat+i.toNat+1 by omega];simp
theorem ya {r p0 p:List Int}{f i:Int}(h:lV r p0 p f i)(hi:¬i<(r.length:Int)):p=p0.take f.toNat++As r++p0.drop (f.toNat+r.length):=by
 obtain ⟨h0,h1,h2⟩:=h;rw [h2,show i.toNat=r.length by omega,<-lM r,List.take_length]
theorem wb(last:Bool):∀(ps:List Bs) (o:List Int),(bP last ps o).1.length<=o.length+2*ps.length
 |[],o=>by unfold bP;simp
 |p::ps,o=>by
  unfold bP;split
  ·have e:(o++[(bm p).1,(bm p).2.1]).length=o.length+2:=by simp
   rw [e,List.length_cons];omega
  ·split
   ·have:=wb last ps (o++[(eT p).1])
    rw [List.length_append,List.length_singleton]at this;rw [List.length_cons];omega
   ·rw [List.length_cons];show o.length<=_;omega
theorem Au(l:Bs)(last:Bool):(aA l last).1.length<=2*(l.length+1):=by
 unfold aA;split
 ·simp
 ·split
  ·simp
  ·have h1:=wb last (splitB 58 l) []
   have h2:=(et 58 l).1;rw [List.length_nil]at h1;omega
theorem KB {l:Bs}{i:Int}(h0:0<=i)(h1:i+1<(l.length:Int)):px (l.drop i.toNat) i=if ag l i=58/\ag l (i+1)=58 then i else px (l.drop (i+1).toNat) (i+1):=by
 have e2:l.drop (i+1).toNat=l.getD (i+1).toNat 0::l.drop ((i+1).toNat+1):=drop_one (by omega) h1;rw [drop_one h0 (by omega),show i.toNat+1=(i+1).toNat by omega,e2,px];have e:∀c:UInt8,((c.toNat:Int)=58)=(c=58):=fun c=>by
  apply propext;constructor
  ·intro h;apply UInt8.toNat_inj.1;show c.toNat=58;omega
  ·intro h;rw [h];rfl
 unfold ag;simp only [e]
theorem M4 {l:Bs}{i:Int}(h0:0<=i)(h1:¬i+1<(l.length:Int)):px (l.drop i.toNat) i=-1:=by
 have:(l.drop i.toNat).length<=1:=by rw [List.length_drop];omega
 match l.drop i.toNat,this with
 |[],_=>rfl
 |[_],_=>rfl
def Av:cM:=bS [(50,x9)]
def Aw(l:Bs):aP:=fun i=>bif Nat.beq i 4 then some ⟨(Int)×(Int),(fun s x=>((((s.put 5 (.int .i64 x.1)).put 6 (.int .i64 x.2)).put 24 .undef).put 37 .undef)),(fun s=>(s.int 5,s.int 6)),(fun s x=>let a:=x.1;let i:=x.2;KA l a i),(fun s x=>let a:=x.1;let i:=x.2;((l.length:Int)+1-i).toNat),[24,37]⟩else bif Nat.beq i 13 then some ⟨(List Int)×(Int),(fun s x=>(((VS.mk s.loc s.env (iI 36 (.arr 8 (.ints .u16 x.1)) s.lh)).put 9 (.int .i64 x.2)).put 55 .undef)),(fun s=>(VS.ints (VS.mk [] s.lh []) 36,s.int 9)),(fun s x=>let p:=x.1;let i:=x.2;0<=i/\i<=8/\lV (s.ints 7) (List.replicate 8 0) p 0 i),(fun s x=>let p:=x.1;let i:=x.2;(8-i).toNat),[55]⟩else bif Nat.beq i 22 then some ⟨(List Int)×(Int),(fun s x=>(((VS.mk s.loc s.env (iI 36 (.arr 8 (.ints .u16 x.1)) s.lh)).put 14 (.int .i64 x.2)).put 99 .undef)),(fun s=>(VS.ints (VS.mk [] s.lh []) 36,s.int 14)),(fun s x=>let p:=x.1;let i:=x.2;lV (s.ints 10) (List.replicate 8 0) p 0 i),(fun s x=>let p:=x.1;let i:=x.2;((s.ints 10).length+1-i:Int).toNat),[99]⟩else bif Nat.beq i 26 then some ⟨(List Int)×(Int),(fun s x=>(((VS.mk s.loc s.env (iI 36 (.arr 8 (.ints .u16 x.1)) s.lh)).put 15 (.int .i64 x.2)).put 112 .undef)),(fun s=>(VS.ints (VS.mk [] s.lh []) 36,s.int 15)),(fun s x=>let p:=x.1;let i:=x.2;lV (s.ints 12) (VS.ints (VS.mk [] s.lh []) 36) p (8-(s.ints 12).length) i),(fun s x=>let p:=x.1;let i:=x.2;((s.ints 12).length+1-i:Int).toNat),[112]⟩else none
theorem Ax:df Tryz.prog az Av:=ah Dq (ax)
theorem Hg(l:Bs)(k:PV->Prop):cD Tryz.prog Av az (Aw l) 1000 Tryz.f33 [.str l] k=(
 eK (VS.mk []
 [(0,PV.str l),(2,PV.ptr 34 0),(3,PV.bool false),
 (4,PV.ptr 36 0),(5,PV.int .i64 (-1:Int)),
 (6,PV.int .i64 0),uZ 7,uZ 8,uZ 9,
 uZ 10,uZ 11,uZ 12,uZ 13,uZ 14,
 uZ 15,uZ 24,uZ 37,uZ 40,uZ 52,
 uZ 55,uZ 94,uZ 99,uZ 112]
 [(36,PV.arr 8 (al.ints .u16 (List.replicate (8:Nat) 0))),
 (34,PV.arr 8 (al.ints .u16 (List.replicate (8:Nat) 0)))])/\
 KA l (-1:Int) 0/\
 ∀(x:Int×Int),
 KA l x.1 x.2->
 av (x.2+1)/\
 ((bif decide (x.2+1<ai l)then decide (x.1<0)else false)=true->
 within x.2 (ai l)/\
 (decide (ag l x.2=58)=true->av (x.2+1))/\
 (decide (ag l x.2=58)=true->within (x.2+1) (ai l))/\
 ((bif decide (ag l x.2=58)then decide (ag l (x.2+1)=58)else false)=true->
 av (x.2+1)/\
 eK (VS.mk []
 [(0,PV.str l),(2,PV.ptr 34 0),(3,PV.bool false),
 (4,PV.ptr 36 0),(5,PV.int .i64 x.2),
 (6,PV.int .i64 (x.2+1)),uZ 7,uZ 8,
 uZ 9,uZ 10,uZ 11,uZ 12,
 uZ 13,uZ 14,uZ 15,uZ 24,
 uZ 37,uZ 40,uZ 52,uZ 55,
 uZ 94,uZ 99,uZ 112]
 [(36,PV.arr 8 (al.ints .u16 (List.replicate (8:Nat) 0))),
 (34,PV.arr 8 (al.ints .u16 (List.replicate (8:Nat) 0)))])/\
 KA l x.2 (x.2+1)/\
 (↑(List.length l)+(1:Int)-(x.2+(1:Int))).toNat<(↑(List.length l)+(1:Int)-x.2).toNat)/\
 ((bif decide (ag l x.2=58)then decide (ag l (x.2+1)=58)else false)=false->
 av (x.2+1)/\
 eK (VS.mk []
 [(0,PV.str l),(2,PV.ptr 34 0),(3,PV.bool false),
 (4,PV.ptr 36 0),(5,PV.int .i64 x.1),
 (6,PV.int .i64 (x.2+1)),uZ 7,uZ 8,
 uZ 9,uZ 10,uZ 11,uZ 12,
 uZ 13,uZ 14,uZ 15,uZ 24,
 uZ 37,uZ 40,uZ 52,uZ 55,
 uZ 94,uZ 99,uZ 112]
 [(36,PV.arr 8 (al.ints .u16 (List.replicate (8:Nat) 0))),
 (34,PV.arr 8 (al.ints .u16 (List.replicate (8:Nat) 0)))])/\
 KA l x.1 (x.2+1)/\
 (↑(List.length l)+(1:Int)-(x.2+(1:Int))).toNat<(↑(List.length l)+(1:Int)-x.2).toNat))/\
 ((bif decide (x.2+1<ai l)then decide (x.1<0)else false)=false->
 (decide (x.1<0)=true->
 (List.length l).le 1000/\
 ((bif !(aA l true).2 then true
 else !decide (Int.ofNat (aA l true).1.length=8))=
 true->
 k (PV.tup [PV.arr 8 (al.ints .u16 (List.replicate (8:Nat) 0)),PV.bool false]))/\
 ((bif !(aA l true).2 then true
 else !decide (Int.ofNat (aA l true).1.length=8))=
 false->
 eK (VS.mk []
 [(0,PV.str l),(2,PV.ptr 34 0),(3,PV.bool false),
 (4,PV.ptr 36 0),(5,PV.int .i64 x.1),
 (6,PV.int .i64 x.2),
 (7,
 PV.row (decide ((aA l true).1=[]))
 (al.ints .i64 (aA l true).1) 0),
 (8,PV.bool (aA l true).2),
 (9,PV.int .i64 0),uZ 10,uZ 11,
 uZ 12,uZ 13,uZ 14,uZ 15,
 (24,PV.bool (bif decide (x.2+1<ai l)then decide (x.1<0)else false)),
 uZ 37,(40,PV.bool (decide (x.1<0))),
 (52,
 PV.bool
 (bif !(aA l true).2 then true
 else !decide (Int.ofNat (aA l true).1.length=8))),
 uZ 55,uZ 94,uZ 99,uZ 112]
 [(36,PV.arr 8 (al.ints .u16 (List.replicate (8:Nat) 0))),
 (34,PV.arr 8 (al.ints .u16 (List.replicate (8:Nat) 0)))])/\
 ((0:Int)<=0/\
 (0:Int)<=8/\
 lV (aA l true).1
 (List.replicate (8:Nat) 0) (List.replicate (8:Nat) 0) 0 0)/\
 ∀(x_1:List Int×Int),
 (0:Int)<=x_1.2/\
 x_1.2<=8/\
 lV (aA l true).1
 (List.replicate (8:Nat) 0) x_1.1 0 x_1.2->
 (decide (x_1.2<8)=true->
 within x_1.2 (Int.ofNat (aA l true).1.length)/\
 within x_1.2 ↑(8:Nat)/\
 (within x_1.2 ↑(8:Nat)/\True)/\
 av (x_1.2+(1:Int))/\
 VS.mk []
 [(0,PV.str l),(2,PV.ptr 34 0),
 (3,PV.bool false),(4,PV.ptr 36 0),
 (5,PV.int .i64 x.1),(6,PV.int .i64 x.2),
 (7,
 PV.row (decide ((aA l true).1=[]))
 (al.ints .i64 (aA l true).1) 0),
 (8,PV.bool (aA l true).2),
 (9,PV.int .i64 (x_1.2+1)),uZ 10,
 uZ 11,uZ 12,uZ 13,
 uZ 14,uZ 15,
 ((24:Nat),
 PV.bool (bif decide (x.2+1<ai l)then decide (x.1<0)else false)),
 uZ 37,(40,PV.bool (decide (x.1<0))),
 (52,
 PV.bool
 (bif !(aA l true).2 then true
 else !decide (Int.ofNat (aA l true).1.length=8))),
 uZ 55,uZ 94,uZ 99,
 uZ 112]
 [((4:Nat)+32,
 PV.arr 8
 (al.ints .u16
 (aS x_1.1 x_1.2
 (Go.IntKind.u16.wrap (fi (aA l true).1 x_1.2))))),
 ((2:Nat)+32,
 PV.arr 8 (al.ints .u16 (List.replicate (8:Nat) 0)))]=
 VS.mk []
 [(0,PV.str l),(2,PV.ptr 34 0),
 (3,PV.bool false),(4,PV.ptr 36 0),
 (5,PV.int .i64 x.1),(6,PV.int .i64 x.2),
 (7,
 PV.row (decide ((aA l true).1=[]))
 (al.ints .i64 (aA l true).1) 0),
 (8,PV.bool (aA l true).2),
 (9,PV.int .i64 (x_1.2+1)),uZ 10,
 uZ 11,uZ 12,uZ 13,
 uZ 14,uZ 15,
 ((24:Nat),
 PV.bool (bif decide (x.2+1<ai l)then decide (x.1<0)else false)),
 uZ 37,(40,PV.bool (decide (x.1<0))),
 (52,
 PV.bool
 (bif !(aA l true).2 then true
 else !decide (Int.ofNat (aA l true).1.length=8))),
 uZ 55,uZ 94,uZ 99,
 uZ 112]
 [((36:Nat),
 PV.arr 8
 (al.ints .u16
 (aS x_1.1 x_1.2
 (Go.IntKind.u16.wrap (fi (aA l true).1 x_1.2))))),
 ((2:Nat)+32,
 PV.arr 8 (al.ints .u16 (List.replicate (8:Nat) 0)))]/\
 ((0:Int)<=x_1.2+1/\
 x_1.2+1<=8/\
 lV (aA l true).1
 (List.replicate (8:Nat) 0)
 (aS x_1.1 x_1.2
 (Go.IntKind.u16.wrap (fi (aA l true).1 x_1.2)))
 (0:Int) (x_1.2+1))/\
 ((8:Int)-(x_1.2+1)).toNat<((8:Int)-x_1.2).toNat)/\
 (decide (x_1.2<8)=false->
 k (PV.tup [PV.arr 8 (al.ints .u16 x_1.1),PV.bool true]))))/\
 (decide (x.1<0)=false->
 upto 0 x.1 (ai l)/\
 (ab l x.1).length.le 1000/\
 av (x.1+2)/\
 upto (x.1+2) (ai l) (ai l)/\
 (aa l (x.1+2)).length.le 1000/\
 ((bif !(aA (ab l x.1) false).2 then true
 else !(aA (aa l (x.1+2)) true).2)=
 false->
 av
 (Int.ofNat (aA (ab l x.1) false).1.length+
 Int.ofNat (aA (aa l (x.1+2)) true).1.length))/\
 ((bif
 bif !(aA (ab l x.1) false).2 then true
 else !(aA (aa l (x.1+2)) true).2 then
 true
 else
 decide
 ((7:Int)<
 Int.ofNat (aA (ab l x.1) false).1.length+
 Int.ofNat (aA (aa l (x.1+2)) true).1.length))=
 true->
 k
 (PV.tup
 [PV.arr 8 (al.ints .u16 (List.replicate (8:Nat) 0)),PV.bool false]))/\
 ((bif
 bif !(aA (ab l x.1) false).2 then true
 else !(aA (aa l (x.1+2)) true).2 then
 true
 else
 decide
 ((7:Int)<
 Int.ofNat (aA (ab l x.1) false).1.length+
 Int.ofNat (aA (aa l (x.1+2)) true).1.length))=
 false->
 eK (VS.mk []
 [(0,PV.str l),(2,PV.ptr 34 0),
 (3,PV.bool false),(4,PV.ptr 36 0),
 (5,PV.int .i64 x.1),(6,PV.int .i64 x.2),
 uZ 7,uZ 8,uZ 9,
 (10,
 PV.row (decide ((aA (ab l x.1) false).1=[]))
 (al.ints .i64 (aA (ab l x.1) false).1)
 (0:Nat)),
 (11,PV.bool (aA (ab l x.1) false).2),
 (12,
 PV.row (decide ((aA (aa l (x.1+2)) true).1=[]))
 (al.ints .i64
 (aA (aa l (x.1+2)) true).1)
 (0:Nat)),
 (13,PV.bool (aA (aa l (x.1+2)) true).2),
 (14,PV.int .i64 0),uZ 15,
 ((24:Nat),
 PV.bool (bif decide (x.2+1<ai l)then decide (x.1<0)else false)),
 uZ 37,(40,PV.bool (decide (x.1<0))),uZ 52,
 uZ 55,
 (94,
 PV.bool
 (bif
 bif !(aA (ab l x.1) false).2 then true
 else !(aA (aa l (x.1+2)) true).2 then
 true
 else
 decide
 ((7:Int)<
 Int.ofNat (aA (ab l x.1) false).1.length+
 Int.ofNat
 (aA (aa l (x.1+2)) true).1.length))),
 uZ 99,uZ 112]
 [(36,PV.arr 8 (al.ints .u16 (List.replicate (8:Nat) 0))),
 ((2:Nat)+32,
 PV.arr 8 (al.ints .u16 (List.replicate (8:Nat) 0)))])/\
 lV (aA (ab l x.1) false).1
 (List.replicate (8:Nat) 0) (List.replicate (8:Nat) 0) 0 0/\
 ∀(x_1:List Int×Int),
 lV (aA (ab l x.1) false).1
 (List.replicate (8:Nat) 0) x_1.1 0 x_1.2->
 (decide (x_1.2<Int.ofNat (aA (ab l x.1) false).1.length)=
 true->
 within x_1.2
 (Int.ofNat (aA (ab l x.1) false).1.length)/\
 within x_1.2 ↑(8:Nat)/\
 (within x_1.2 ↑(8:Nat)/\True)/\
 av (x_1.2+(1:Int))/\
 VS.mk []
 [(0,PV.str l),(2,PV.ptr 34 0),
 (3,PV.bool false),(4,PV.ptr 36 0),
 (5,PV.int .i64 x.1),(6,PV.int .i64 x.2),
 uZ 7,uZ 8,uZ 9,
 (10,
 PV.row
 (decide ((aA (ab l x.1) false).1=[]))
 (al.ints .i64
 (aA (ab l x.1) false).1)
 (0:Nat)),
 (11,
 PV.bool (aA (ab l x.1) false).2),
 (12,
 PV.row
 (decide
 ((aA (aa l (x.1+2)) true).1=
 []))
 (al.ints .i64
 (aA (aa l (x.1+2)) true).1)
 (0:Nat)),
 (13,
 PV.bool
 (aA (aa l (x.1+2)) true).2),
 (14,PV.int .i64 (x_1.2+1)),uZ 15,
 ((24:Nat),
 PV.bool
 (bif decide (x.2+1<ai l)then decide (x.1<0)else false)),
 uZ 37,(40,PV.bool (decide (x.1<0))),
 uZ 52,uZ 55,
 (94,
 PV.bool
 (bif
 bif !(aA (ab l x.1) false).2 then true
 else
 !(aA (aa l (x.1+2))
 true).2 then
 true
 else
 decide
 ((7:Int)<
 Int.ofNat
 (aA (ab l x.1) false).1.length+
 Int.ofNat
 (aA (aa l (x.1+2))
 true).1.length))),
 uZ 99,uZ 112]
 [((4:Nat)+32,
 PV.arr 8
 (al.ints .u16
 (aS x_1.1 x_1.2
 (Go.IntKind.u16.wrap
 (fi (aA (ab l x.1) false).1
 x_1.2))))),
 ((2:Nat)+32,
 PV.arr 8 (al.ints .u16 (List.replicate (8:Nat) 0)))]=
 VS.mk []
 [(0,PV.str l),(2,PV.ptr 34 0),
 (3,PV.bool false),(4,PV.ptr 36 0),
 (5,PV.int .i64 x.1),(6,PV.int .i64 x.2),
 uZ 7,uZ 8,uZ 9,
 (10,
 PV.row
 (decide ((aA (ab l x.1) false).1=[]))
 (al.ints .i64
 (aA (ab l x.1) false).1)
 (0:Nat)),
 (11,
 PV.bool (aA (ab l x.1) false).2),
 (12,
 PV.row
 (decide
 ((aA (aa l (x.1+2)) true).1=
 []))
 (al.ints .i64
 (aA (aa l (x.1+2)) true).1)
 (0:Nat)),
 (13,
 PV.bool
 (aA (aa l (x.1+2)) true).2),
 (14,PV.int .i64 (x_1.2+1)),uZ 15,
 ((24:Nat),
 PV.bool
 (bif decide (x.2+1<ai l)then decide (x.1<0)else false)),
 uZ 37,(40,PV.bool (decide (x.1<0))),
 uZ 52,uZ 55,
 (94,
 PV.bool
 (bif
 bif !(aA (ab l x.1) false).2 then true
 else
 !(aA (aa l (x.1+2))
 true).2 then
 true
 else
 decide
 ((7:Int)<
 Int.ofNat
 (aA (ab l x.1) false).1.length+
 Int.ofNat
 (aA (aa l (x.1+2))
 true).1.length))),
 uZ 99,uZ 112]
 [((36:Nat),
 PV.arr 8
 (al.ints .u16
 (aS x_1.1 x_1.2
 (Go.IntKind.u16.wrap
 (fi (aA (ab l x.1) false).1
 x_1.2))))),
 ((2:Nat)+32,
 PV.arr 8 (al.ints .u16 (List.replicate (8:Nat) 0)))]/\
 lV
 (aA (ab l x.1) false).1
 (List.replicate (8:Nat) 0)
 (aS x_1.1 x_1.2
 (Go.IntKind.u16.wrap
 (fi (aA (ab l x.1) false).1
 x_1.2)))
 (0:Int) (x_1.2+1)/\
 (↑(aA (ab l x.1) false).1.length+(1:Int)-
 (x_1.2+1)).toNat<
 (↑(aA (ab l x.1) false).1.length+(1:Int)-
 x_1.2).toNat)/\
 (decide (x_1.2<Int.ofNat (aA (ab l x.1) false).1.length)=
 false->
 eK (VS.mk []
 [(0,PV.str l),(2,PV.ptr 34 0),
 (3,PV.bool false),(4,PV.ptr 36 0),
 (5,PV.int .i64 x.1),(6,PV.int .i64 x.2),
 uZ 7,uZ 8,uZ 9,
 (10,
 PV.row (decide ((aA (ab l x.1) false).1=[]))
 (al.ints .i64
 (aA (ab l x.1) false).1)
 (0:Nat)),
 (11,PV.bool (aA (ab l x.1) false).2),
 (12,
 PV.row
 (decide
 ((aA (aa l (x.1+2)) true).1=[]))
 (al.ints .i64
 (aA (aa l (x.1+2)) true).1)
 (0:Nat)),
 (13,
 PV.bool (aA (aa l (x.1+2)) true).2),
 (14,PV.int .i64 x_1.2),(15,PV.int .i64 0),
 ((24:Nat),
 PV.bool
 (bif decide (x.2+1<ai l)then decide (x.1<0)else false)),
 uZ 37,(40,PV.bool (decide (x.1<0))),
 uZ 52,uZ 55,
 (94,
 PV.bool
 (bif
 bif !(aA (ab l x.1) false).2 then true
 else !(aA (aa l (x.1+2)) true).2 then
 true
 else
 decide
 ((7:Int)<
 Int.ofNat (aA (ab l x.1) false).1.length+
 Int.ofNat
 (aA (aa l (x.1+2))
 true).1.length))),
 ((99:Nat),
 PV.bool
 (decide
 (x_1.2<
 Int.ofNat (aA (ab l x.1) false).1.length))),
 uZ 112]
 [(36,PV.arr 8 (al.ints .u16 x_1.1)),
 ((2:Nat)+32,
 PV.arr 8 (al.ints .u16 (List.replicate (8:Nat) 0)))])/\
 lV
 (aA (aa l (x.1+2)) true).1 x_1.1 x_1.1
 ((8:Int)-
 ↑(aA (aa l (x.1+(2:Int))) true).1.length)
 (0:Int)/\
 ∀(x_2:List Int×Int),
 lV
 (aA (aa l (x.1+2)) true).1 x_1.1 x_2.1
 ((8:Int)-
 ↑(aA (aa l (x.1+(2:Int))) true).1.length)
 x_2.2->
 (decide
 (x_2.2<
 Int.ofNat
 (aA (aa l (x.1+2))
 true).1.length)=
 true->
 av
 ((8:Int)-
 Int.ofNat
 (aA (aa l (x.1+2))
 true).1.length)/\
 av
 ((8:Int)-
 Int.ofNat
 (aA (aa l (x.1+2))
 true).1.length+
 x_2.2)/\
 within x_2.2
 (Int.ofNat
 (aA (aa l (x.1+2))
 true).1.length)/\
 within
 ((8:Int)-
 Int.ofNat
 (aA (aa l (x.1+2))
 true).1.length+
 x_2.2)
 ↑(8:Nat)/\
 (within
 ((8:Int)-
 Int.ofNat
 (aA (aa l (x.1+2))
 true).1.length+
 x_2.2)
 ↑(8:Nat)/\
 True)/\
 av (x_2.2+(1:Int))/\
 VS.mk []
 [(0,PV.str l),
 (2,PV.ptr 34 0),
 (3,PV.bool false),
 (4,PV.ptr 36 0),
 (5,PV.int .i64 x.1),
 (6,PV.int .i64 x.2),uZ 7,
 uZ 8,uZ 9,
 (10,
 PV.row
 (decide
 ((aA (ab l x.1)
 false).1=
 []))
 (al.ints .i64
 (aA (ab l x.1) false).1)
 (0:Nat)),
 (11,
 PV.bool
 (aA (ab l x.1) false).2),
 (12,
 PV.row
 (decide
 ((aA
 (aa l (x.1+2)) true).1=
 []))
 (al.ints .i64
 (aA
 (aa l (x.1+2)) true).1)
 (0:Nat)),
 (13,
 PV.bool
 (aA (aa l (x.1+2))
 true).2),
 (14,PV.int .i64 x_1.2),
 (15,PV.int .i64 (x_2.2+1)),
 ((24:Nat),
 PV.bool
 (bif decide (x.2+1<ai l)then decide (x.1<0)
 else false)),
 uZ 37,
 (40,PV.bool (decide (x.1<0))),
 uZ 52,uZ 55,
 (94,
 PV.bool
 (bif
 bif
 !(aA (ab l x.1)
 false).2 then
 true
 else
 !(aA
 (aa l (x.1+2)) true).2 then
 true
 else
 decide
 ((7:Int)<
 Int.ofNat
 (aA (ab l x.1)
 false).1.length+
 Int.ofNat
 (aA
 (aa l (x.1+2)) true).1.length))),
 ((99:Nat),
 PV.bool
 (decide
 (x_1.2<
 Int.ofNat
 (aA (ab l x.1)
 false).1.length))),
 uZ 112]
 [((4:Nat)+32,
 PV.arr 8
 (al.ints .u16
 (aS x_2.1
 ((8:Int)-
 Int.ofNat
 (aA
 (aa l (x.1+2)) true).1.length+
 x_2.2)
 (Go.IntKind.u16.wrap
 (fi
 (aA
 (aa l (x.1+2)) true).1
 x_2.2))))),
 ((2:Nat)+32,
 PV.arr 8
 (al.ints .u16 (List.replicate (8:Nat) 0)))]=
 VS.mk []
 [(0,PV.str l),
 (2,PV.ptr 34 0),
 (3,PV.bool false),
 (4,PV.ptr 36 0),
 (5,PV.int .i64 x.1),
 (6,PV.int .i64 x.2),uZ 7,
 uZ 8,uZ 9,
 (10,
 PV.row
 (decide
 ((aA (ab l x.1)
 false).1=
 []))
 (al.ints .i64
 (aA (ab l x.1) false).1)
 (0:Nat)),
 (11,
 PV.bool
 (aA (ab l x.1) false).2),
 (12,
 PV.row
 (decide
 ((aA
 (aa l (x.1+2)) true).1=
 []))
 (al.ints .i64
 (aA
 (aa l (x.1+2)) true).1)
 (0:Nat)),
 (13,
 PV.bool
 (aA (aa l (x.1+2))
 true).2),
 (14,PV.int .i64 x_1.2),
 (15,PV.int .i64 (x_2.2+1)),
 ((24:Nat),
 PV.bool
 (bif decide (x.2+1<ai l)then decide (x.1<0)
 else false)),
 uZ 37,
 (40,PV.bool (decide (x.1<0))),
 uZ 52,uZ 55,
 (94,
 PV.bool
 (bif
 bif
 !(aA (ab l x.1)
 false).2 then
 true
 else
 !(aA
 (aa l (x.1+2)) true).2 then
 true
 else
 decide
 ((7:Int)<
 Int.ofNat
 (aA (ab l x.1)
 false).1.length+
 Int.ofNat
 (aA
 (aa l (x.1+2)) true).1.length))),
 ((99:Nat),
 PV.bool
 (decide
 (x_1.2<
 Int.ofNat
 (aA (ab l x.1)
 false).1.length))),
 uZ 112]
 [((36:Nat),
 PV.arr 8
 (al.ints .u16
 (aS x_2.1
 ((8:Int)-
 Int.ofNat
 (aA
 (aa l (x.1+2)) true).1.length+
 x_2.2)
 (Go.IntKind.u16.wrap
 (fi
 (aA
 (aa l (x.1+2)) true).1
 x_2.2))))),
 ((2:Nat)+32,
 PV.arr 8
 (al.ints .u16 (List.replicate (8:Nat) 0)))]/\
 lV
 (aA (aa l (x.1+2))
 true).1
 x_1.1
 (aS x_2.1
 ((8:Int)-
 Int.ofNat
 (aA
 (aa l (x.1+2)) true).1.length+
 x_2.2)
 (Go.IntKind.u16.wrap
 (fi
 (aA (aa l (x.1+2))
 true).1
 x_2.2)))
 ((8:Int)-
 ↑(aA (aa l (x.1+(2:Int)))
 true).1.length)
 (x_2.2+1)/\
 (↑(aA (aa l (x.1+(2:Int)))
 true).1.length+
 (1:Int)-
 (x_2.2+1)).toNat<
 (↑(aA (aa l (x.1+(2:Int)))
 true).1.length+
 (1:Int)-
 x_2.2).toNat)/\
 (decide
 (x_2.2<
 Int.ofNat
 (aA (aa l (x.1+2))
 true).1.length)=
 false->
 k
 (PV.tup
 [PV.arr 8 (al.ints .u16 x_2.1),PV.bool true]))))))):=by kernel_rfl
attribute [local irreducible] Go.Vc.cD
theorem Hh(l:Bs):ae Tryz.prog az 33 [.str l] ⟨l.length<=1000,.tup [.arr 8 (.ints .u16 (dj l).1),.bool (dj l).2]⟩:=bR (by kernel_rfl) Ax (H:=Aw l) (fuel:=1000) Tryz.func33 (by kernel_rfl) fun hpre=>(Hg l _).mpr (by
 have leaf:∀(L:List Int) (b:Bool),dj l=(L,b)->PV.tup [.arr 8 (.ints .u16 L),.bool b]=PV.tup [.arr 8 (.ints .u16 (dj l).1),.bool (dj l).2]:=fun L b h=>by rw [h]
 refine ⟨rfl,⟨by omega,by omega,.inl ⟨rfl,rfl⟩⟩,fun x hx=>?_⟩;obtain ⟨a,i⟩:=x;obtain ⟨i0,i1,hg⟩:=hx;dsimp only at i0 i1 hg⊢;simp only [Int.ofNat_eq_natCast,qn,J7,qp,qo,Bool.and_eq_true,Bool.or_eq_true,decide_eq_true_eq];refine ⟨⟨by omega,by omega⟩,fun hc=>?_,fun hc=>?_⟩
 ·have hlt:i+1<(l.length:Int):=hc.1
  rcases hg with⟨ha,hg⟩|⟨ha,-⟩
  ·rw [KB i0 hlt]at hg
   refine ⟨⟨i0,by show i<(l.length:Int);omega⟩,fun _=>⟨by omega,by omega⟩,fun _=>⟨by omega,hlt⟩,fun hb=>?_,fun hb=>?_⟩
   ·rw [if_pos hb]at hg
    exact ⟨⟨by omega,by omega⟩,trivial,⟨by omega,by omega,.inr ⟨i0,by omega,hg⟩⟩,by omega⟩
   ·rw [if_neg hb]at hg
    exact ⟨⟨by omega,by omega⟩,trivial,⟨by omega,by omega,.inl ⟨ha,hg⟩⟩,by omega⟩
  ·have:=hc.2;omega
 ·refine ⟨fun ha=>?_,fun ha=>?_⟩
  ·have hge:¬i+1<(l.length:Int):=fun h=>hc ⟨h,ha⟩
   have hga:fO l<0:=by
    rcases hg with⟨-,hg⟩|⟨h,-⟩
    ·rw [<-hg,M4 i0 hge];decide
    ·omega
   have hrs:dj l=if(aA l true).2=true/\(aA l true).1.length=8 then(As (aA l true).1,true)else(List.replicate 8 0,false):=by
    unfold dj;rw [if_pos hga]
   refine ⟨hpre,fun hb=>leaf _ _ ?_,fun hb=>?_⟩
   ·rw [hrs,if_neg]
    intro h;rcases hb with hb|hb
    ·exact hb h.1
    ·exact hb (by rw [h.2];rfl)
   ·have h1:(aA l true).2=true:=Classical.byContradiction fun h=>hb (.inl h)
    have h2:(aA l true).1.length=8:=Int.ofNat.inj (Classical.byContradiction fun h=>hb (.inr h):Int.ofNat (aA l true).1.length=Int.ofNat 8);rw [if_pos ⟨h1,h2⟩]at hrs;refine ⟨trivial,⟨by omega,by omega,sN _ _ _⟩,fun y hy=>?_⟩;obtain ⟨p,j⟩:=y;obtain ⟨j0,j8,hl⟩:=hy;dsimp only at j0 j8 hl⊢;refine ⟨fun hj=>?_,fun hj=>leaf _ _ ?_⟩
    ·have w8:within j ((8:Nat):Int):=⟨j0,hj⟩
     have:=sO hl (by omega) (by omega) (by rw [h2];decide);rw [Int.zero_add]at this;exact ⟨⟨j0,by show j<((aA l true).1.length:Int);omega⟩,w8,⟨w8,trivial⟩,⟨by omega,by omega⟩,trivial,⟨by omega,by omega,this⟩,by omega⟩
    ·rw [hrs,ya hl (by omega)]
     rw [h2];simp
  ·have hga:0<=a/\a+2<=(l.length:Int)/\a=fO l:=by
    rcases hg with⟨h,-⟩|h
    ·omega
    ·exact h
   obtain ⟨a0,a2,hae⟩:=hga;have hrs:dj l=(if((aA (ab l a) false).2=true/\(aA (aa l (a+2)) true).2=true)/\(aA (ab l a) false).1.length+(aA (aa l (a+2)) true).1.length<=7 then
    (As (aA (ab l a) false).1++List.replicate (8-((aA (ab l a) false).1.length+(aA (aa l (a+2)) true).1.length)) 0++As (aA (aa l (a+2)) true).1,true)else(List.replicate 8 0,false)):=by
    unfold dj;rw [if_neg (by omega),<-hae]
   have hlA:=Au (ab l a) false;have hlB:=Au (aa l (a+2)) true;have ht1:(ab l a).length<=1000:=by unfold ab;rw [List.length_take];omega
   have ht2:(aa l (a+2)).length<=1000:=by unfold aa;rw [List.length_drop];omega
   generalize hA:aA (ab l a) false=A at *;generalize hB:aA (aa l (a+2)) true=B at *;refine ⟨⟨by omega,a0,by unfold ai;omega⟩,?_,⟨by omega,by omega⟩,⟨by omega,by unfold ai;omega,by omega⟩,?_,fun hb=>?_,fun hb=>leaf _ _ ?_,fun hb=>?_⟩
   ·show(ab l a).length<=1000
    unfold ab;rw [List.length_take];omega
   ·show(aa l (a+2)).length<=1000
    unfold aa;rw [List.length_drop];omega
   ·exact ⟨by omega,by omega⟩
   ·rw [hrs,if_neg]
    intro h;rcases hb with(hb|hb)|hb
    ·exact hb h.1.1
    ·exact hb h.1.2
    ·have:(7:Int)<(A.1.length:Int)+(B.1.length:Int):=hb
     omega
   ·have h1:A.2=true:=Classical.byContradiction fun h=>hb (.inl (.inl h))
    have h2:B.2=true:=Classical.byContradiction fun h=>hb (.inl (.inr h));have h3:A.1.length+B.1.length<=7:=Classical.byContradiction fun h=>hb (.inr (by show(7:Int)<(A.1.length:Int)+(B.1.length:Int);omega));rw [if_pos ⟨⟨h1,h2⟩,h3⟩]at hrs;refine ⟨trivial,sN _ _ _,fun y hy=>?_⟩;obtain ⟨p,j⟩:=y;dsimp only at hy⊢;have j0:=hy.1;have j1:=hy.2.1;refine ⟨fun hj=>?_,fun hj=>?_⟩
    ·have hj':j<(A.1.length:Int):=hj
     have w8:within j ((8:Nat):Int):=⟨j0,by omega⟩;have:=sO hy hj' (by omega) (by rw [List.length_replicate];omega);rw [Int.zero_add]at this;exact ⟨⟨j0,hj'⟩,w8,⟨w8,trivial⟩,⟨by omega,by omega⟩,trivial,this,by omega⟩
    ·have hj':¬j<(A.1.length:Int):=hj
     have hp:=ya hy hj';have hp8:p.length=8:=by rw [hp,List.length_append,List.length_append,List.length_take,lM,List.length_drop,List.length_replicate];show min 0 8+_ +_=8;omega
     refine ⟨trivial,sN _ _ _,fun u hu=>?_⟩;obtain ⟨p2,m⟩:=u;dsimp only at hu⊢;have m0:=hu.1;have m1:=hu.2.1;refine ⟨fun hm=>?_,fun hm=>leaf _ _ ?_⟩
     ·have hm':m<(B.1.length:Int):=hm
      have w8:within ((8:Int)-Int.ofNat B.1.length+m) ((8:Nat):Int):=⟨by show(0:Int)<=8-(B.1.length:Int)+m;omega,by show(8:Int)-(B.1.length:Int)+m<8;omega⟩;exact ⟨⟨by show _ <=(8:Int)-(B.1.length:Int);omega,by show(8:Int)-(B.1.length:Int)<=_;omega⟩,⟨by show _ <=(8:Int)-(B.1.length:Int)+m;omega,by show(8:Int)-(B.1.length:Int)+m<=_;omega⟩,⟨m0,hm'⟩,w8,⟨w8,trivial⟩,⟨by omega,by omega⟩,trivial,sO hu hm' (by omega) (by omega),by omega⟩
     ·rw [hrs,ya hu hm,hp]
      have e:((8:Int)-(B.1.length:Int)).toNat=8-B.1.length:=by omega
      rw [e];congr 1;rw [show(List.replicate 8 (0:Int)).take (Int.toNat 0)=[]from rfl,List.nil_append,show Int.toNat 0+A.1.length=A.1.length by show 0+_=_;omega,List.drop_replicate];rw [List.take_append,List.take_of_length_le (by rw [lM];omega),lM,List.take_replicate,show min (8-B.1.length-A.1.length) (8-A.1.length)=8-(A.1.length+B.1.length) by omega];rw [List.drop_eq_nil_of_le (by rw [List.length_append,lM,List.length_replicate];omega),List.append_nil])
def mH:List PV->Option aD:=fun xs=>match xs with
 |[.str l]=>some ⟨l.length<=1000,.tup [.arr 8 (.ints .u16 (dj l).1),.bool (dj l).2]⟩
 |_=>none
theorem uz:∀xs c,mH xs=some c->ae Tryz.prog az 33 xs c:=fun xs c h=>by
 unfold mH at h;split at h
 ·injection h with h;subst h;exact Hh _
 ·cases h
end
section
def Hi(l:Bs)(o:Bool×Bs)(i:Int):Prop:=∃j:Nat,i=j/\j<=l.length/\o.1=o.2.isEmpty/\o.2++bI (l.drop j)=bI l/\o.2.length<=j
def M5(l:Bs):Bool:=(bI l).isEmpty
def Fz:cM:=bS [(56,nZ)]
def FA(l:Bs):aP:=fun i=>bif Nat.beq i 3 then some ⟨(Bool×Bs)×(Int),(fun s x=>((((s.row s 3 x.1.1 (.bytes x.1.2)).put 4 (.int .i64 x.2)).put 8 .undef).put 37 .undef)),(fun s=>((s.nil 3,s.bytes 3),s.int 4)),(fun s x=>let b:=x.1;let i:=x.2;Hi l b i),(fun s x=>let b:=x.1;let i:=x.2;((l.length:Int)-i).toNat),[8,37]⟩else none
theorem Dr:df Tryz.prog az Fz:=ah qq (ax)
theorem KC(l:Bs)(k:PV->Prop):cD Tryz.prog Fz az (FA l) 1000 Tryz.f37 [.str l] k=(
 eK (VS.mk []
 [(0,PV.str l),(2,PV.row true (al.bytes []) 34),
 (3,PV.row true (al.bytes []) 35),(4,PV.int .i64 0),
 uZ 8,uZ 37]
 [])/\
 Hi l (true,[]) 0/\
 ∀(x:(Bool×Bs)×Int),
 Hi l x.1 x.2->
 (decide (x.2<ai l)=true->
 within x.2 (ai l)/\
 (decide (ag l x.2=37)=true->av (ai l-x.2))/\
 ((bif decide (ag l x.2=37)then decide ((2:Int)<ai l-x.2)else false)=true->
 av (x.2+1))/\
 ((bif decide (ag l x.2=37)then decide ((2:Int)<ai l-x.2)else false)=true->
 within (x.2+1) (ai l))/\
 ((bif decide (ag l x.2=37)then decide ((2:Int)<ai l-x.2)else false)=true->
 (0:Int)<=ag l (x.2+1)/\ag l (x.2+1)<=255)/\
 ((bif bif decide (ag l x.2=37)then decide ((2:Int)<ai l-x.2)else false then
 decide ((0:Int)<=aR (ag l (x.2+1)))
 else false)=
 true->
 av (x.2+2))/\
 ((bif bif decide (ag l x.2=37)then decide ((2:Int)<ai l-x.2)else false then
 decide ((0:Int)<=aR (ag l (x.2+1)))
 else false)=
 true->
 within (x.2+2) (ai l))/\
 ((bif bif decide (ag l x.2=37)then decide ((2:Int)<ai l-x.2)else false then
 decide ((0:Int)<=aR (ag l (x.2+1)))
 else false)=
 true->
 (0:Int)<=ag l (x.2+2)/\ag l (x.2+2)<=255)/\
 ((bif
 bif bif decide (ag l x.2=37)then decide ((2:Int)<ai l-x.2)else false then
 decide ((0:Int)<=aR (ag l (x.2+1)))
 else false then
 decide ((0:Int)<=aR (ag l (x.2+2)))
 else false)=
 true->
 av (x.2+1)/\
 within (x.2+1) (ai l)/\
 ((0:Int)<=ag l (x.2+1)/\ag l (x.2+1)<=255)/\
 (0:Int)<=4/\
 av (x.2+2)/\
 within (x.2+2) (ai l)/\
 ((0:Int)<=ag l (x.2+2)/\ag l (x.2+2)<=255)/\
 jz
 [PV.int .u8
 (Go.IntKind.u8.wrap
 (eH Go.BinOp.or .i64
 (lT .i64
 (aR (ag l (x.2+1))) 4)
 (aR (ag l (x.2+2)))))]/\
 Int.ofNat
 (List.length
 (x.1.2++
 [b4
 (Go.IntKind.u8.wrap
 (eH Go.BinOp.or .i64
 (lT .i64
 (aR (ag l (x.2+1))) 4)
 (aR (ag l (x.2+2)))))]))<=
 cN/\
 av (x.2+2)/\
 av (x.2+2+1)/\
 eK (VS.mk []
 [(0,PV.str l),
 (2,PV.row true (al.bytes []) 34),
 ((3:Nat),
 PV.row false
 (al.bytes
 (x.1.2++
 [b4
 (Go.IntKind.u8.wrap
 (eH Go.BinOp.or .i64
 (lT .i64
 (aR (ag l (x.2+1)))
 (4:Int))
 (aR
 (ag l (x.2+2)))))]))
 35),
 (4,PV.int .i64 (x.2+2+1)),
 uZ 8,uZ 37]
 [])/\
 Hi l
 (false,
 x.1.2++
 [b4
 (Go.IntKind.u8.wrap
 (eH Go.BinOp.or .i64
 (lT .i64
 (aR (ag l (x.2+1)))
 (4:Int))
 (aR (ag l (x.2+2)))))])
 (x.2+2+1)/\
 (↑(List.length l)-(x.2+(2:Int)+(1:Int))).toNat<(↑(List.length l)-x.2).toNat)/\
 ((bif
 bif bif decide (ag l x.2=37)then decide ((2:Int)<ai l-x.2)else false then
 decide ((0:Int)<=aR (ag l (x.2+1)))
 else false then
 decide ((0:Int)<=aR (ag l (x.2+2)))
 else false)=
 false->
 within x.2 (ai l)/\
 jz [PV.int .u8 (ag l x.2)]/\
 Int.ofNat (List.length (x.1.2++[b4 (ag l x.2)]))<=cN/\
 av (x.2+1)/\
 eK (VS.mk []
 [(0,PV.str l),(2,PV.row true (al.bytes []) 34),
 ((3:Nat),
 PV.row false (al.bytes (x.1.2++[b4 (ag l x.2)]))
 35),
 (4,PV.int .i64 (x.2+1)),uZ 8,
 uZ 37]
 [])/\
 Hi l (false,x.1.2++[b4 (ag l x.2)])
 (x.2+1)/\
 (↑(List.length l)-(x.2+(1:Int))).toNat<(↑(List.length l)-x.2).toNat))/\
 (decide (x.2<ai l)=false->k (PV.row x.1.1 (al.bytes x.1.2) 0))):=by kernel_rfl
attribute [local irreducible] Go.Vc.cD
theorem KD(l:Bs):ae Tryz.prog az 37 [.str l] ⟨l.length<=1000000,.row (M5 l) (.bytes (bI l)) 0⟩:=bR (by kernel_rfl) Dr (H:=FA l) (fuel:=1000) Tryz.func37 (by kernel_rfl) fun hpre=>(KC l _).mpr (by
 have hl:=hpre;have x5:∀a b:Bool,(bif a then b else false)=true->a=true/\b=true:=fun a b h=>by
  cases a
  ·cases h
  ·exact ⟨rfl,h⟩
 refine ⟨rfl,⟨0,rfl,by omega,rfl,rfl,Nat.le_refl _⟩,fun x hx=>?_⟩;obtain ⟨⟨nl,o⟩,i⟩:=x;obtain ⟨j,h1,h2,h3,h4,h5⟩:=hx;dsimp only at h1 h2 h3 h4 h5⊢;subst h1;have e1:(j:Int)+1=((j+1:Nat):Int):=by push_cast;rfl
 have e2:(j:Int)+2=((j+2:Nat):Int):=by push_cast;rfl
 have e3:((j+2:Nat):Int)+1=((j+3:Nat):Int):=by push_cast;rfl
 have hu:∀z:Int,0<=z/\z<=255->jz [.int .u8 z]:=fun z hz=>by simp [jz];exact hz
 have hh1:aR (ar l (j+1))=gV (ar l (j+1)):=rfl;have hh2:aR (ar l (j+2))=gV (ar l (j+2)):=rfl;rw [e1,e2,e3,pr l j,pr l (j+1),pr l (j+2),hh1,hh2];have r0:=gD l j;have r1:=gD l (j+1);have r2:=gD l (j+2);have le1:=xY (ar l (j+1));have le2:=xY (ar l (j+2));have go:∀(c:UInt8) (d:Nat),j<d->d<=l.length->bI (l.drop j)=c::bI (l.drop d)->Hi l (false,o++[c]) (d:Int):=fun c d hd hd2 hc=>by
  refine ⟨d,rfl,hd2,by simp,?_,by show(o++[_]).length<=_;rw [List.length_append];show o.length+1<=_;omega⟩;show(o++[_])++_=_;rw [<-h4,hc,List.append_assoc];rfl
 refine ⟨fun h=>?_,fun h=>?_⟩
 ·have hj:j<l.length:=by have:=of_decide_eq_true h;unfold ai at this;omega
  have F2:(bif decide (ar l j=37)then decide (2<ai l-(j:Int))else false)=true->ar l j=37/\j+2<l.length:=fun h=>by
   obtain ⟨a,b⟩:=x5 _ _ h;have:=of_decide_eq_true b;unfold ai at this;exact ⟨of_decide_eq_true a,by omega⟩
  refine ⟨by unfold within ai;omega,fun _=>by unfold av ai;omega,fun _=>by unfold av;omega,fun h=>by have:=F2 h;unfold within ai;omega,fun _=>r1,fun _=>by unfold av;omega,fun h=>by have:=F2 (x5 _ _ h).1;unfold within ai;omega,fun _=>r2,fun h=>?_,fun h=>?_⟩
  ·obtain ⟨hA,hG⟩:=x5 _ _ h
   obtain ⟨hA1,hH⟩:=x5 _ _ hA;have hF:=F2 hA1;have hH':=of_decide_eq_true hH;have hG':=of_decide_eq_true hG;rw [Kc hH' le1 hG' le2];refine ⟨by unfold av;omega,by unfold within ai;omega,r1,by omega,by unfold av;omega,by unfold within ai;omega,r2,hu _ (by omega),?_,by unfold av;omega,by unfold av;omega,rfl,go _ (j+3) (by omega) (by omega) ?_,by omega⟩
   ·rw [List.length_append];show((o.length+1:Nat):Int)<=16777216;omega
   ·rw [rE l j hj,if_pos ⟨hF.1,hF.2,hH',hG'⟩]
  ·refine ⟨by unfold within ai;omega,hu _ r0,?_,by unfold av;omega,rfl,go _ (j+1) (by omega) (by omega) ?_,by omega⟩
   ·rw [List.length_append];show((o.length+1:Nat):Int)<=16777216;omega
   ·rw [rE l j hj,if_neg]
    intro g;rw [decide_eq_true g.1,decide_eq_true (show 2<ai l-(j:Int) by unfold ai;omega),decide_eq_true g.2.2.1,decide_eq_true g.2.2.2]at h;cases h
 ·have hj:j=l.length:=by have:=of_decide_eq_false h;unfold ai at this;omega
  subst hj;rw [List.drop_length]at h4;have e4:o=bI l:=by rw [<-h4];exact (List.append_nil o).symm
  show PV.row nl _ _=PV.row (M5 l) _ _;unfold M5;rw [h3,e4])
def py:List PV->Option aD:=fun xs=>match xs with
 |[.str l]=>some ⟨l.length<=1000000,.row (M5 l) (.bytes (bI l)) 0⟩
 |_=>none
theorem yb:∀xs c,py xs=some c->ae Tryz.prog az 37 xs c:=fun xs c h=>by
 unfold py at h;split at h
 ·injection h with h;subst h;exact KD _
 ·cases h
end
section
def Ay:cM:=bS []
def Az(l:Bs):aP:=fun i=>bif Nat.beq i 3 then some ⟨(Bool×Bs)×(Int),(fun s x=>((((s.row s 3 x.1.1 (.bytes x.1.2)).put 4 (.int .i64 x.2)).put 10 .undef).put 24 .undef)),(fun s=>((s.nil 3,s.bytes 3),s.int 4)),(fun s x=>let b:=x.1;let i:=x.2;0<=i/\i<=l.length/\b.1=false/\b.2=(br l).take i.toNat++l.drop i.toNat),(fun s x=>let b:=x.1;let i:=x.2;((l.length:Int)-i).toNat),[10,24]⟩else none
theorem AA:df Tryz.prog az Ay:=ax
theorem Hj(l:Bs)(k:PV->Prop):cD Tryz.prog Ay az (Az l) 1000 Tryz.f36 [.str l] k=(
 List.length l<=Go.Vc.maxLen/\
 eK (VS.mk []
 [(0,PV.str l),(2,PV.str (bL #[])),
 (3,PV.row false (al.bytes l) 38),(4,PV.int .i64 0),
 uZ 10,uZ 24]
 [])/\
 ((0:Int)<=0/\
 (0:Int)<=↑(List.length l)/\
 false=false/\l=List.take (Int.toNat (0:Int)) (br l)++List.drop (Int.toNat (0:Int)) l)/\
 ∀(x:(Bool×Bs)×Int),
 (0:Int)<=x.2/\
 x.2<=↑(List.length l)/\
 x.1.1=false/\x.1.2=List.take x.2.toNat (br l)++List.drop x.2.toNat l->
 (decide (x.2<Int.ofNat (List.length x.1.2))=true->
 within x.2 (Int.ofNat (List.length x.1.2))/\
 (decide ((65:Int)<=ag x.1.2 x.2)=true->within x.2 (Int.ofNat (List.length x.1.2)))/\
 ((bif decide ((65:Int)<=ag x.1.2 x.2)then decide (ag x.1.2 x.2<=90)else false)=true->
 within x.2 (Int.ofNat (List.length x.1.2))/\
 within x.2 (Int.ofNat (List.length x.1.2))/\
 ((0:Int)<=Go.IntKind.u8.wrap (ag x.1.2 x.2+32)/\
 Go.IntKind.u8.wrap (ag x.1.2 x.2+32)<=255)/\
 av (x.2+1)/\
 eK (VS.mk []
 [(0,PV.str l),(2,PV.str (bL #[])),
 ((3:Nat),
 PV.row x.1.1
 (al.bytes
 (aS x.1.2 x.2 (b4 (Go.IntKind.u8.wrap (ag x.1.2 x.2+32)))))
 38),
 (4,PV.int .i64 (x.2+1)),uZ 10,uZ 24]
 [])/\
 ((0:Int)<=x.2+1/\
 x.2+1<=↑(List.length l)/\
 x.1.1=false/\
 aS x.1.2 x.2 (b4 (Go.IntKind.u8.wrap (ag x.1.2 x.2+32)))=
 List.take (x.2+1).toNat (br l)++
 List.drop (x.2+1).toNat l)/\
 (↑(List.length l)-(x.2+(1:Int))).toNat<(↑(List.length l)-x.2).toNat)/\
 ((bif decide ((65:Int)<=ag x.1.2 x.2)then decide (ag x.1.2 x.2<=90)else false)=false->
 av (x.2+1)/\
 eK (VS.mk []
 [(0,PV.str l),(2,PV.str (bL #[])),
 (3,PV.row x.1.1 (al.bytes x.1.2) 38),
 (4,PV.int .i64 (x.2+1)),uZ 10,uZ 24]
 [])/\
 ((0:Int)<=x.2+1/\
 x.2+1<=↑(List.length l)/\
 x.1.1=false/\
 x.1.2=
 List.take (x.2+1).toNat (br l)++List.drop (x.2+1).toNat l)/\
 (↑(List.length l)-(x.2+(1:Int))).toNat<(↑(List.length l)-x.2).toNat))/\
 (decide (x.2<Int.ofNat (List.length x.1.2))=false->k (PV.str x.1.2))):=by kernel_rfl
attribute [local irreducible] Go.Vc.cD
theorem Hk(l:Bs):ae Tryz.prog az 36 [.str l] ⟨l.length<=1000000,.str (br l)⟩:=bR (by kernel_rfl) AA (H:=Az l) (fuel:=1000) Tryz.func36 (by kernel_rfl) fun hpre=>(Hj l _).mpr (by
 have hll:(br l).length=l.length:=by unfold br;simp
 simp only [Int.ofNat_eq_natCast]at *;refine ⟨by show l.length<=1099511627776;omega,trivial,⟨by omega,by omega,trivial,by simp⟩,fun x hx=>⟨fun h=>?_,fun h=>?_⟩⟩
 ·obtain ⟨h0,h1,h2,h3⟩:=hx
  have hlen:x.1.2.length=l.length:=by rw [h3,List.length_append,List.length_take,List.length_drop,hll];omega
  have hlt:=Kg h;rw [hlen]at hlt;have hbr:=en l x.2;have hby:ag x.1.2 x.2=ag l x.2:=by
   unfold ag;congr 2;rw [h3,List.getD_eq_getElem?_getD,List.getD_eq_getElem?_getD,List.getElem?_append_right (by rw [List.length_take,hll];omega),List.length_take,hll,List.getElem?_drop];congr 2;omega
  have hat:l.getD x.2.toNat 0=l[x.2.toNat]'(by omega):=by rw [List.getD_eq_getElem?_getD,List.getElem?_eq_getElem (by omega)];rfl
  have step:∀b,b=l8 (l.getD x.2.toNat 0)->aS x.1.2 x.2 b=List.take (x.2+1).toNat (br l)++List.drop (x.2+1).toNat l:=fun b hb=>by
   unfold aS;rw [show(x.2+1).toNat=x.2.toNat+1 by omega,h3];exact uk hll.symm (by rw [Fl h0 hlt,hb])
  rw [hby,hlen];refine ⟨⟨h0,hlt⟩,fun _=>⟨h0,hlt⟩,fun hc=>?_,fun hc=>?_⟩
  ·obtain ⟨c1,c2,c3⟩:=Fm hc
   rw [c1];refine ⟨⟨h0,hlt⟩,⟨h0,hlt⟩,⟨by omega,by omega⟩,⟨by omega,by omega⟩,trivial,⟨by omega,by omega,h2,step _ c3⟩,by omega⟩
  ·refine ⟨⟨by omega,by omega⟩,trivial,⟨by omega,by omega,h2,?_⟩,by omega⟩
   rw [<-step _ (Kh hc),jg,hat];unfold aS;have e:x.1.2[x.2.toNat]?=some (l[x.2.toNat]'(by omega)):=by
    have:=hby;unfold ag at this;have h5:x.1.2.getD x.2.toNat 0=l.getD x.2.toNat 0:=UInt8.toNat_inj.1 (by omega);rw [List.getD_eq_getElem?_getD,List.getElem?_eq_getElem (show x.2.toNat<x.1.2.length by omega),hat]at h5;rw [List.getElem?_eq_getElem (show x.2.toNat<x.1.2.length by omega)];exact congrArg some h5
   obtain ⟨q1,q2⟩:=List.getElem?_eq_some_iff.1 e;rw [<-q2,List.set_getElem_self]
 ·obtain ⟨h0,h1,h2,h3⟩:=hx
  have hlen:x.1.2.length=l.length:=by rw [h3,List.length_append,List.length_take,List.length_drop,hll];omega
  have hge:¬x.2<(x.1.2.length:Int):=of_decide_eq_false h;show PV.str _=PV.str _;rw [h3,show x.2.toNat=l.length by omega];rw [List.drop_length,List.append_nil,<-hll,List.take_length])
def mI:List PV->Option aD:=fun xs=>match xs with
 |[.str l]=>some ⟨l.length<=1000000,.str (br l)⟩
 |_=>none
theorem uA:∀xs c,mI xs=some c->ae Tryz.prog az 36 xs c:=fun xs c h=>by
 unfold mI at h;split at h
 ·injection h with h;subst h;exact Hk _
 ·cases h
end
def AB(x:Nat):Bs:=if x<10 then [nf x]else if x<100 then [nf (x/10),nf (x %10)]else [nf (x/100),nf (x/10 %10),nf (x %10)]
theorem kX(x:Nat)(hx:x<1000):cr 10 x=AB x:=by
 unfold AB;by_cases h1:x<10
 ·rw [if_pos h1,dc h1]
 ·rw [if_neg h1,ew h1 (by decide)]
  by_cases h2:x<100
  ·rw [if_pos h2,dc (by omega)];rfl
  ·rw [if_neg h2,ew (x:=x/10) (by omega) (by decide),dc (by omega),show x/10/10=x/100 by omega];rfl
theorem Hl:∀x:Fin 256,dK (AB x.val)=true/\aU (AB x.val)=(x.val:Int):=by decide+kernel
def dg(k:Nat):UInt8:=UInt8.ofNat (48+k)
theorem QI:∀i:Fin 10,dK [dg i.val]=true->[dg i.val]=AB (aU [dg i.val]).toNat:=by decide+kernel
theorem QJ:∀i j:Fin 10,dK [dg i.val,dg j.val]=true->[dg i.val,dg j.val]=AB (aU [dg i.val,dg j.val]).toNat:=by decide+kernel
theorem Po:∀i j k:Fin 10,dK [dg i.val,dg j.val,dg k.val]=true->[dg i.val,dg j.val,dg k.val]=AB (aU [dg i.val,dg j.val,dg k.val]).toNat:=by decide+kernel
theorem wc {c:UInt8}(h:x8 c=true):∃k:Fin 10,c=dg k.val:=by
 have:=of_decide_eq_true h;refine ⟨⟨c.toNat-48,by omega⟩,?_⟩;unfold dg;apply UInt8.toNat_inj.1;show c.toNat=(UInt8.ofNat (48+(c.toNat-48))).toNat;rw [show 48+(c.toNat-48)=c.toNat by omega];simp
theorem n4 {p:Bs}(h:dK p=true):p=AB (aU p).toNat/\0<=aU p/\aU p<=255:=by
 have h0:=h;unfold dK at h0;rw [Bool.and_eq_true,Bool.and_eq_true,List.all_eq_true,decide_eq_true_eq]at h0;obtain ⟨⟨hs,hd⟩,hv⟩:=h0;refine ⟨?_,(lL _ p rfl hd).1,hv⟩;unfold sL at hs;rw [Bool.and_eq_true,decide_eq_true_eq]at hs
 match p,hd,h,hs.1 with
 |[a],hd,h,_=>
  obtain ⟨i,rfl⟩:=wc (hd a (by simp));exact QI i h
 |[a,b],hd,h,_=>
  obtain ⟨i,rfl⟩:=wc (hd a (by simp));obtain ⟨j,rfl⟩:=wc (hd b (by simp));exact QJ i j h
 |[a,b,c],hd,h,_=>
  obtain ⟨i,rfl⟩:=wc (hd a (by simp));obtain ⟨j,rfl⟩:=wc (hd b (by simp));obtain ⟨k,rfl⟩:=wc (hd c (by simp));exact Po i j k h
 |[],_,_,h=>exact absurd h.1 (by simp)
 |_::_::_::_::_,_,_,h=>exact absurd h.2 (by simp)
theorem qw:∀l:Bs,gr (splitB 46 l)=l
 |[]=>rfl
 |b::t=>by
  obtain ⟨h,r,e⟩:=dJ 46 t;have ih:=qw t;by_cases hb:(b.toNat:Int)=46
  ·have:b=46:=by apply UInt8.toNat_inj.1;show b.toNat=46;omega
   rw [dO hb,gC _ (by rw [e];simp),ih,this];rfl
  ·rw [eC hb e]
   rw [e]at ih;cases r with
   |nil=>
    have h1:gr [h]=h:=rfl;have h2:gr [b::h]=b::h:=rfl;rw [h1]at ih;rw [h2,ih]
   |cons q qs=>
    rw [gC _ (by simp)]at ih⊢;rw [List.cons_append,ih]
theorem n5(l:Bs):gT l=(bm l).2.2/\((bm l).2.2=true->(bm l).1*65536+(bm l).2.1=cj l/\0<=(bm l).1/\(bm l).1<=65535/\0<=(bm l).2.1/\(bm l).2.1<=65535):=by
 have key:(bm l).2.2=true->gT l=true/\(bm l).1*65536+(bm l).2.1=cj l/\0<=(bm l).1/\(bm l).1<=65535/\0<=(bm l).2.1/\(bm l).2.1<=65535:=fun h=>by
  by_cases h4:(splitB 46 l).length=4
  ·match hq:splitB 46 l,h4 with
   |[a,b,c,d],_=>
    have hf:bm l=if(dK a&&dK b&&dK c&&dK d)=true then(aU a*256+aU b,aU c*256+aU d,true)else(0,0,false):=by unfold bm;rw [hq]
    by_cases hg:(dK a&&dK b&&dK c&&dK d)=true
    ·rw [if_pos hg]at hf
     simp only [Bool.and_eq_true]at hg;obtain ⟨⟨⟨ga,gb⟩,gc⟩,gd⟩:=hg;obtain ⟨ea,a0,a1⟩:=n4 ga;obtain ⟨eb,b0,b1⟩:=n4 gb;obtain ⟨ec,c0,c1⟩:=n4 gc;obtain ⟨ed,d0,d1⟩:=n4 gd;obtain ⟨x,hx⟩:=Int.eq_ofNat_of_zero_le a0;obtain ⟨y,hy⟩:=Int.eq_ofNat_of_zero_le b0;obtain ⟨z,hz⟩:=Int.eq_ofNat_of_zero_le c0;obtain ⟨u,hu⟩:=Int.eq_ofNat_of_zero_le d0;rw [hx,Int.toNat_natCast]at ea;rw [hy,Int.toNat_natCast]at eb;rw [hz,Int.toNat_natCast]at ec;rw [hu,Int.toNat_natCast]at ed;have hl:l=eZ (((x*256+y)*256+z)*256+u):=by
      rw [jO,<-qw l,hq];rw [show q0 (((x*256+y)*256+z)*256+u)=x by unfold q0;omega,show q1 (((x*256+y)*256+z)*256+u)=y by unfold q1;omega,show q2 (((x*256+y)*256+z)*256+u)=z by unfold q2;omega,show q3 (((x*256+y)*256+z)*256+u)=u by unfold q3;omega];rw [kX x (by omega),kX y (by omega),kX z (by omega),kX u (by omega),<-ea,<-eb,<-ec,<-ed];rfl
     obtain ⟨d2,d3⟩:=J4 (((x*256+y)*256+z)*256+u) (by omega);rw [<-hl]at d2 d3;rw [hf];refine ⟨d2,?_,?_,?_,?_,?_⟩<;>dsimp only<;>omega
    ·rw [if_neg hg]at hf
     rw [hf]at h;cases h
  ·rw [Aq h4]at h;cases h
 refine ⟨?_,fun h=>(key h).2⟩;cases hd:gT l with
 |false=>
  cases hf:(bm l).2.2 with
  |false=>rfl
  |true=>rw [(key hf).1]at hd;cases hd
 |true=>
  unfold gT at hd;rw [Bool.and_eq_true]at hd;have hl:eZ (cj l).toNat=l:=by simpa using hd.2
  obtain ⟨v0,v1⟩:=xO l;obtain ⟨n,hn⟩:=Int.eq_ofNat_of_zero_le v0;rw [hn,Int.toNat_natCast]at hl;have b0:q0 n<256:=by unfold q0;omega
  have b1:q1 n<256:=by unfold q1;omega
  have b2:q2 n<256:=by unfold q2;omega
  have b3:q3 n<256:=by unfold q3;omega
  have hs:splitB 46 l=[cr 10 (q0 n),cr 10 (q1 n),cr 10 (q2 n),cr 10 (q3 n)]:=by
   rw [<-hl,jO];refine nV _ (by simp) fun p hp q hq=>?_;simp only [List.cons_append,List.nil_append,List.mem_cons,List.not_mem_nil,or_false]at hp;rcases hp with rfl|rfl|rfl|rfl<;>exact (sG (.inr (.inl rfl)) _ q hq).1
  have g:∀x,x<256->dK (cr 10 x)=true:=fun x hx=>by rw [kX x (by omega)];exact (Hl ⟨x,hx⟩).1
  unfold bm;rw [hs];dsimp only;rw [if_pos (by rw [g _ b0,g _ b1,g _ b2,g _ b3];rfl)]
theorem lN(last:Bool):∀(ps:List Bs) (o:List Int),bP last ps o=(o++(bP last ps []).1,(bP last ps []).2)
 |[],o=>by simp [bP]
 |p::ps,o=>by
  unfold bP;split
  ·simp
  ·split
   ·rw [lN last ps (o++[(eT p).1]),lN last ps ([]++[(eT p).1])]
    simp
   ·simp
theorem ix(p:Bs)(ps:List Bs)(h:ps≠[]):jn (p::ps)=p++58::jn ps:=by rw [jn,if_neg h]
theorem kY:∀l:Bs,jn (splitB 58 l)=l
 |[]=>rfl
 |b::t=>by
  obtain ⟨h,r,e⟩:=dJ 58 t;have ih:=kY t;by_cases hb:(b.toNat:Int)=58
  ·have:b=58:=by apply UInt8.toNat_inj.1;show b.toNat=58;omega
   rw [dO hb,ix _ _ (by rw [e];simp),ih,this];rfl
  ·rw [eC hb e]
   rw [e]at ih;cases r with
   |nil=>
    have h1:jn [h]=h:=rfl;have h2:jn [b::h]=b::h:=rfl;rw [h1]at ih;rw [h2,ih]
   |cons q qs=>
    rw [ix _ _ (by simp)]at ih⊢;rw [List.cons_append,ih]
theorem mJ(l:Bs):∀p∈splitB 58 l,∀c∈p,c≠58:=by
 induction l with
 |nil=>intro p hp c hc;have:p=[]:=by simpa [splitB]using hp
       rw [this]at hc;cases hc
 |cons b t ih=>
  intro p hp c hc;obtain ⟨h,r,e⟩:=dJ 58 t;by_cases hb:(b.toNat:Int)=58
  ·rw [dO hb,List.mem_cons]at hp
   rcases hp with rfl|hp
   ·cases hc
   ·exact ih p hp c hc
  ·rw [eC hb e,List.mem_cons]at hp
   rw [e]at ih;rcases hp with rfl|hp
   ·rcases List.mem_cons.1 hc with rfl|hc
    ·intro h58;exact hb (by rw [h58];rfl)
    ·exact ih h (by simp) c hc
   ·exact ih p (by simp [hp]) c hc
theorem lO:∀p:Bs,∃H R,p=H++R/\ur H/\Me R
 |[]=>⟨[],[],rfl,(fun c hc=>by cases hc),.inl rfl⟩
 |b::t=>by
  by_cases hb:0<=aR (b.toNat:Int)
  ·obtain ⟨H,R,e,hH,hR⟩:=lO t
   exact ⟨b::H,R,by rw [e];rfl,(fun c hc=>by rcases List.mem_cons.1 hc with rfl|hc;exact hb;exact hH c hc),hR⟩
  ·exact ⟨[],b::t,rfl,(fun c hc=>by cases hc),.inr (by rw [jt];omega)⟩
theorem sP:∀(H:Bs) (k:Nat) (n:Int),ur H->H.length<=k->ey k n H=(H.foldl (fun v b=>v*16+aR (b.toNat:Int)) n,true)
 |[],0,n,_,_=>rfl
 |[],k+1,n,_,_=>rfl
 |c::r,0,n,_,h=>by simp at h
 |c::r,k+1,n,hh,h=>by
  have:=hh c (List.mem_cons_self ..);rw [ey,if_neg (by omega),sP r k _ (fun d hd=>hh d (List.mem_cons_of_mem _ hd)) (by simpa using h)];rfl
theorem we:∀(p:Bs) (k:Nat) (n:Int),¬ur p->p.length<=k->(ey k n p).2=false
 |[],k,n,h,_=>absurd (fun c hc=>by cases hc) h
 |c::r,0,n,_,h=>by simp at h
 |c::r,k+1,n,hh,h=>by
  rw [ey];by_cases hc:aR (c.toNat:Int)<0
  ·rw [if_pos hc]
  ·rw [if_neg hc]
   refine we r k _ (fun hr=>hh fun d hd=>?_) (by simpa using h);rcases List.mem_cons.1 hd with rfl|hd
   ·omega
   ·exact hr d hd
theorem mK {p:Bs}(hp:Piece p):eT p=(bO p,true):=by
 have:=hp.lo;have:=hp.hi;unfold eT;rw [sP p 5 0 hp.hex (by omega),decide_eq_true ⟨hp.lo,hp.hi⟩];rfl
theorem jT {p:Bs}(hp:¬Piece p):(eT p).2=false:=by
 unfold eT;dsimp only;by_cases hl:1<=p.length/\p.length<=4
 ·rw [we p 5 0 (fun hh=>hp ⟨hh,hl.1,hl.2⟩) (by omega)];rfl
 ·rw [decide_eq_false hl,Bool.and_false]
theorem kj {H R:Bs}(hH:ur H)(hR:Me R)(h:(bm (H++R)).2.2=true):ar R 0=46/\1<=R.length/\¬(58:UInt8)∈H++R:=by
 have hd:gT (H++R)=true:=by rw [(n5 _).1];exact h
 unfold gT at hd;rw [Bool.and_eq_true]at hd;have hl:eZ (cj (H++R)).toNat=H++R:=by simpa using hd.2
 obtain ⟨P,Q,hs,hP,hP1⟩:=Dd (cj (H++R)).toNat;rw [hl]at hs;have e1:=iw hH hR;have e2:=iw hP (r:=46::Q) (.inr (by rw [jt];decide));rw [hs,e2]at e1;have e3:R=46::Q:=by
  have:=congrArg (List.drop P.length) hs;rw [List.drop_left,e1,List.drop_left]at this;exact this
 refine ⟨by rw [e3];rfl,by rw [e3];simp,?_⟩;rw [<-hl,jO];have dig:∀x,¬(58:UInt8)∈cr 10 x:=fun x hx=>by
  have ho:=pk (b:=10) (.inr (.inl rfl)) x;obtain ⟨i,hi,e⟩:=List.getElem_of_mem hx;have:=(iR 10 _ ho i hi).1;unfold ar at this;rw [List.getD_eq_getElem?_getD,List.getElem?_eq_getElem hi]at this;have e':(some (cr 10 x)[i]).getD 0=58:=by rw [e];rfl
  rw [e']at this;exact absurd this (by decide)
 intro hm;have hm2:(58:UInt8)∈cr 10 (q0 (cj (H++R)).toNat)++46::(cr 10 (q1 (cj (H++R)).toNat)++46::(cr 10 (q2 (cj (H++R)).toNat)++46::cr 10 (q3 (cj (H++R)).toNat))):=hm;simp only [List.mem_append,List.mem_cons]at hm2;rcases hm2 with h|h|h|h|h|h|h
 ·exact dig _ h
 ·exact absurd h (by decide)
 ·exact dig _ h
 ·exact absurd h (by decide)
 ·exact dig _ h
 ·exact absurd h (by decide)
 ·exact dig _ h
def sQ:List Bs->Prop
 |_::q::r::rest=>q≠[]/\sQ (q::r::rest)
 |_=>True
def pz(o:List Int×Bool)(acc:List Int)(gap:Int):List Int×Bool:=if o.2=true/\acc.length+o.1.length<=8 then kB (acc++o.1) gap else db
theorem n7 {o:List Int×Bool}(acc:List Int)(gap:Int)(h:o.2=false):pz o acc gap=db:=by unfold pz;rw [if_neg (by rw [h];simp)]
theorem kZ {last:Bool}{p:Bs}{ps:List Bs}{o:List Int}(h1:¬(((bm p).2.2=true/\last=true)/\ps=[]))(h2:(eT p).2=false):(bP last (p::ps) o).2=false:=by
 rw [bP,if_neg h1,if_neg (by rw [h2];simp)]
theorem wg {last:Bool}{p:Bs}{ps:List Bs}{o:List Int}(h1:¬(((bm p).2.2=true/\last=true)/\ps=[]))(h2:Piece p):bP last (p::ps) o=bP last ps (o++[bO p]):=by
 rw [bP,if_neg h1,if_pos (by rw [mK h2]),mK h2]
theorem wj {H R:Bs}(hR:R≠[])(ho:Me R):¬Piece (H++R):=fun h=>by
 match R,hR,ho with
 |c::t,_,ho=>
  rcases ho with ho|ho
  ·cases ho
  ·rw [jt]at ho
   have:=h.hex c (by simp);omega
theorem Ds {p:Bs}(h:Piece p):(bm p).2.2=false:=by
 cases hf:(bm p).2.2 with
 |false=>rfl
 |true=>
  have:=kj (H:=p) (R:=[]) h.hex (.inl rfl) (by rw [List.append_nil];exact hf);exact absurd this.2.1 (by simp)
theorem M6 {l:Bs}(h:(58:UInt8)∈l):gT l=false:=by
 cases hd:gT l with
 |false=>rfl
 |true=>
  obtain ⟨H,R,e,hH,hR⟩:=lO l;rw [(n5 l).1]at hd;subst e;exact absurd h (kj hH hR hd).2.2
theorem AD {l A H R T:Bs}{acc:List Int}{gap:Int}(hl:l=A++(H++(R++T)))(hH:ur H)(hR:Me R)(hne:R≠[])(h58:∀c∈R,c≠58)(hT:T≠[]->(58:UInt8)∈T)(hc:acc.length<=8):
 eE l (9-acc.length) acc gap A.length=if T=[]/\(bm (H++R)).2.2=true then pz ([(bm (H++R)).1,(bm (H++R)).2.1],true) acc gap else db:=by
 have hRT:Me (R++T):=by
  match R,hne,hR with
  |c::t,_,hR=>
   rcases hR with hR|hR
   ·cases hR
   ·exact .inr hR
 obtain ⟨h1,h2,h3,h4⟩:=kf (l:=l) (A:=A) (P:=H) (Q:=R++T) (acc:=acc) hl hH hRT hc;have hb:ar l (A.length+H.length)=ar R 0:=by
  have:=h3 0;rw [Nat.add_zero]at this;rw [this,Qi (List.length_pos_iff.2 hne)]
 have hR1:=List.length_pos_iff.2 hne;rw [List.length_append]at h4;rw [eD l acc gap A.length (A.length+H.length) hc h1,hb];have hdrop:l.drop A.length=H++(R++T):=by rw [hl,List.drop_left]
 by_cases h46:ar R 0=46
 ·rw [if_pos ⟨by omega,h46⟩]
  unfold xP;rw [hdrop];by_cases hTe:T=[]
  ·subst hTe
   rw [List.append_nil];obtain ⟨d1,d2⟩:=n5 (H++R);rw [d1];cases hf:(bm (H++R)).2.2 with
   |false=>rw [if_pos (.inl rfl),if_neg (by simp)]
   |true=>
    obtain ⟨e1,a0,a1,b0,b1⟩:=d2 hf;rw [if_pos (show([]:Bs)=[]/\true=true from⟨rfl,rfl⟩)];unfold pz;by_cases h6:6<acc.length
    ·rw [if_pos (show true=false\/6<acc.length from .inr h6),if_neg (by rintro ⟨-,h⟩;have h':acc.length+2<=8:=h;omega)]
    ·rw [if_neg (show ¬(true=false\/6<acc.length)from fun h=>by rcases h with h|h;cases h;exact h6 h)]
     refine Eq.trans ?_ (if_pos ⟨rfl,by show acc.length+2<=8;omega⟩).symm;rw [show cj (H++R)/65536=(bm (H++R)).1 by omega,show cj (H++R) %65536=(bm (H++R)).2.1 by omega];simp
  ·rw [M6 (by simp [hT hTe]),if_pos (.inl rfl),if_neg (fun h=>hTe h.1)]
 ·have hw:db=if T=[]/\(bm (H++R)).2.2=true then pz ([(bm (H++R)).1,(bm (H++R)).2.1],true) acc gap else db:=by
   rw [if_neg]
   rintro ⟨-,hf⟩
   exact h46 (kj hH hR hf).1
  rw [if_neg (fun h=>h46 h.2),<-hw];by_cases hq:acc.length=8\/A.length+H.length=A.length\/A.length+4<A.length+H.length
  ·rw [if_pos hq]
  ·rw [if_neg hq,if_neg (by omega),if_pos]
   left
   match R,hne,h58 with
   |c::t,_,h58=>
    have:=h58 c (by simp);rw [jt];intro e;exact this (by apply UInt8.toNat_inj.1;show c.toNat=58;omega)
theorem qx {l A H T:Bs}{acc:List Int}{gap:Int}(hl:l=A++(H++T))(hH:ur H)(hT:T=[]\/ar T 0=58)(hp:¬Piece H)(hc:acc.length<=8):eE l (9-acc.length) acc gap A.length=db:=by
 have hO:Me T:=by rcases hT with h|h;exact .inl h;exact .inr (by rw [h];decide)
 obtain ⟨h1,h2,h3,h4⟩:=kf (l:=l) (A:=A) (P:=H) (Q:=T) (acc:=acc) hl hH hO hc;have hb:ar l (A.length+H.length)=ar T 0:=by have:=h3 0;rw [Nat.add_zero]at this;exact this
 have hq:A.length+H.length=A.length\/A.length+4<A.length+H.length:=by
  refine Classical.byContradiction fun h=>hp ⟨hH,by omega,by omega⟩
 rw [eD l acc gap A.length (A.length+H.length) hc h1,hb,if_neg,if_pos (.inr hq)]
 rintro ⟨h5,h6⟩
 rcases hT with h|h
 ·rw [h]at h4;simp at h4;omega
 ·rw [h]at h6;exact absurd h6 (by decide)
theorem sR:∀(ps:List Bs) (l A:Bs) (acc:List Int) (gap:Int),ps≠[]->l=A++jn ps->(∀p∈ps,∀c∈p,c≠58)->acc.length<=8->(gap<0->sQ ps)->
 eE l (9-acc.length) acc gap A.length=pz (bP true ps []) acc gap
 |[],_,_,_,_,h,_,_,_,_=>absurd rfl h
 |p::ps,l,A,acc,gap,_,hl,h58,hc,hg=>by
  obtain ⟨H,R,rfl,hH,hR⟩:=lO p;have hp58:=h58 (H++R) (List.mem_cons_self ..);obtain ⟨T,hT,hl2⟩:∃T:Bs,(ps=[]/\T=[]\/ps≠[]/\T=58::jn ps)/\l=A++(H++(R++T)):=by
   by_cases h:ps=[]
   ·exact ⟨[],.inl ⟨h,rfl⟩,by rw [hl,h];simp [jn]⟩
   ·exact ⟨58::jn ps,.inr ⟨h,rfl⟩,by rw [hl,ix _ _ h];simp⟩
  have hTe:T=[]↔ps=[]:=by
   rcases hT with⟨a,b⟩|⟨a,b⟩
   ·simp [a,b]
   ·simp [a,b]
  by_cases hRe:R=[]
  ·subst hRe
   rw [List.nil_append]at hl2;rw [List.append_nil]at h58 hp58⊢;have hT2:T=[]\/ar T 0=58:=by
    rcases hT with⟨_,h⟩|⟨_,h⟩
    ·exact .inl h
    ·right;rw [h];rfl
   by_cases hp:Piece H
   ·have hf:=Ds hp
    have hn:¬(((bm H).2.2=true/\true=true)/\ps=[]):=by rw [hf];simp
    rw [wg hn hp,List.nil_append,lN];by_cases h8:acc.length=8
    ·rw [show pz ([bO H]++(bP true ps []).1,(bP true ps []).2) acc gap=db by unfold pz;rw [if_neg (by rintro ⟨-,h⟩;rw [List.length_append,List.length_singleton]at h;omega)]]
     have hO:Me T:=by rcases hT2 with h|h;exact .inl h;exact .inr (by rw [h];decide)
     obtain ⟨e1,e2,e3,e4⟩:=kf (l:=l) (A:=A) (P:=H) (Q:=T) (acc:=acc) hl2 hH hO hc;have hb:ar l (A.length+H.length)=ar T 0:=by have:=e3 0;rw [Nat.add_zero]at this;exact this
     rw [eD l acc gap A.length (A.length+H.length) hc e1,hb,if_neg,if_pos (.inl h8)]
     rintro ⟨h5,h6⟩
     rcases hT2 with h|h
     ·rw [h]at e4;simp at e4;omega
     ·rw [h]at h6;exact absurd h6 (by decide)
    ·rcases hT with⟨hps,hTn⟩|⟨hps,hTn⟩
     ·subst hps hTn
      rw [List.append_nil]at hl2;rw [MQ hl2 hp (by omega)];unfold pz;rw [if_pos (by exact ⟨rfl,by show acc.length+1<=8;omega⟩)];rfl
     ·subst hTn
      by_cases hj:jn ps=[]
      ·have hrow:(bP true ps []).2=false:=by
        match ps,hps,hj with
        |q::qs,_,hj=>
         have hq:q=[]/\qs=[]:=by
          by_cases hqs:qs=[]
          ·subst hqs;exact ⟨hj,rfl⟩
          ·rw [ix _ _ hqs]at hj;simp at hj
         obtain ⟨rfl,rfl⟩:=hq;decide+kernel
       rw [hj]at hl2;rw [GW hl2 hp (by omega),n7 (o:=([bO H]++(bP true ps []).1,(bP true ps []).2)) _ _ hrow]
      ·by_cases h1:ar (jn ps) 0=58
       ·obtain ⟨q,qs,rfl⟩:∃q qs,ps=q::qs:=by
         match ps,hps with
         |q::qs,_=>exact ⟨q,qs,rfl⟩
        have hq:q=[]:=by
         match q,h58 q (by simp)with
         |[],_=>rfl
         |c::r,h=>
          exfalso;have hc58:=h c (by simp);apply hc58;have h1':(c.toNat:Int)=58:=by
           by_cases hqs:qs=[]
           ·subst hqs;exact h1
           ·rw [ix _ _ hqs]at h1;exact h1
          apply UInt8.toNat_inj.1;show c.toNat=58;omega
        subst hq;have hrow:(bP true ([]::qs) []).2=false:=kZ (fun hh=>by rw [show(bm []).2.2=false by decide+kernel]at hh;cases hh.1.1) (by decide+kernel);rw [n7 (o:=([bO H]++(bP true ([]::qs) []).1,(bP true ([]::qs) []).2)) _ _ hrow];have hqs:qs≠[]:=by intro h;subst h;exact hj rfl
        have hgn:¬gap<0:=fun hgl=>by
         have:=hg hgl
         match qs,hqs,this with
         |r::rs,_,this=>exact this.1 rfl
        rw [ix _ _ hqs]at hl2;obtain ⟨e1,e2,e3,e4⟩:=kf (l:=l) (A:=A) (P:=H) (Q:=58::([]++58::jn qs)) (acc:=acc) hl2 hH (.inr (by rw [jt];decide)) hc;have hb:ar l (A.length+H.length)=58:=by have:=e3 0;exact this
        have hb1:ar l (A.length+H.length+1)=58:=by have:=e3 1;exact this
        have:=hp.lo;have:=hp.hi;simp at e4;rw [eD l acc gap A.length (A.length+H.length) hc e1,if_neg (by rw [hb];omega),if_neg (by omega),if_neg (by omega),if_neg (by rw [hb];omega),if_neg (by rw [hb1];omega),if_pos (by omega)]
       ·rw [JY hl2 hp hj h1 (by omega)]
        rw [sR ps l (A++(H++[58])) (acc++[bO H]) gap hps (by rw [hl2];simp) (fun q hq=>h58 q (by simp [hq])) (by simp;omega) (fun hgl=>by
         have:=hg hgl
         match ps,hps,this with
         |[_],_,_=>trivial
         |q::r::rs,_,this=>exact this.2)]
        unfold pz;dsimp only;simp only [List.length_append,List.length_singleton,List.append_assoc,Nat.add_assoc]
   ·have hrow:(bP true (H::ps) []).2=false:=by
     refine kZ ?_ (jT hp)
     rintro ⟨⟨hh,-⟩,-⟩
     have:=kj (H:=H) (R:=[]) hH (.inl rfl) (by rw [List.append_nil];exact hh);exact absurd this.2.1 (by simp)
    rw [qx hl2 hH hT2 hp hc,n7 _ _ hrow]
  ·rw [AD hl2 hH hR hRe (fun c hcm=>hp58 c (by simp [hcm])) (fun h=>by
    rcases hT with⟨_,h2⟩|⟨_,h2⟩
    ·exact absurd h2 h
    ·rw [h2];simp) hc]
   have hnp:¬Piece (H++R):=wj hRe hR;by_cases hf:T=[]/\(bm (H++R)).2.2=true
   ·rw [if_pos hf,bP,if_pos ⟨⟨hf.2,rfl⟩,hTe.1 hf.1⟩]
    rfl
   ·rw [if_neg hf,n7 _ _ (kZ (fun hh=>hf ⟨hTe.2 hh.2,hh.1.1⟩) (jT hnp))]
def Dt(l:Bs)(M:Bs)(xs:List Int)(at':Nat):List Int×Bool:=if M=[]then kB xs xs.length else eE l (9-xs.length) xs xs.length at'
theorem AE(M:Bs):∀(ps:List Bs) (l A:Bs) (acc:List Int) (gap:Int),ps≠[]->l=A++(jn ps++58::58::M)->(∀p∈ps,∀c∈p,c≠58)->acc.length<=8->gap<0->(∀q∈ps.tail,q≠[])->
 eE l (9-acc.length) acc gap A.length=if(bP false ps []).2=true/\acc.length+(bP false ps []).1.length<=8 then Dt l M (acc++(bP false ps []).1) (A++(jn ps++[58,58])).length else db
 |[],_,_,_,_,h,_,_,_,_,_=>absurd rfl h
 |p::ps,l,A,acc,gap,_,hl,h58,hc,hg,hne=>by
  obtain ⟨H,R,rfl,hH,hR⟩:=lO p;have hp58:=h58 (H++R) (List.mem_cons_self ..);obtain ⟨T,hT,hl2⟩:∃T:Bs,(ps=[]/\T=58::58::M\/ps≠[]/\T=58::(jn ps++58::58::M))/\l=A++(H++(R++T)):=by
   by_cases h:ps=[]
   ·exact ⟨58::58::M,.inl ⟨h,rfl⟩,by rw [hl,h];simp [jn]⟩
   ·exact ⟨58::(jn ps++58::58::M),.inr ⟨h,rfl⟩,by rw [hl,ix _ _ h];simp⟩
  have hTb:ar T 0=58/\T≠[]:=by
   rcases hT with⟨_,h⟩|⟨_,h⟩<;>rw [h]<;>exact ⟨rfl,by simp⟩
  have hfal:∀(q:Bs) (qs:List Bs),¬(((bm q).2.2=true/\false=true)/\qs=[]):=fun q qs h=>by cases h.1.2
  have wrongs:(bP false ((H++R)::ps) []).2=false->db=if(bP false ((H++R)::ps) []).2=true/\acc.length+(bP false ((H++R)::ps) []).1.length<=8 then Dt l M (acc++(bP false ((H++R)::ps) []).1) (A++(jn ((H++R)::ps)++[58,58])).length else db:=fun h=>by
   rw [if_neg (by rw [h];simp)]
  by_cases hRe:R=[]
  ·subst hRe
   rw [List.nil_append]at hl2;rw [List.append_nil]at h58 hp58 wrongs⊢;by_cases hp:Piece H
   ·rw [wg (hfal _ _) hp,List.nil_append,lN]
    by_cases h8:acc.length=8
    ·rw [if_neg (by rintro ⟨-,h⟩;dsimp only at h;rw [List.length_append,List.length_singleton]at h;omega)]
     have hO:Me T:=.inr (by rw [hTb.1];decide);obtain ⟨e1,e2,e3,e4⟩:=kf (l:=l) (A:=A) (P:=H) (Q:=T) (acc:=acc) hl2 hH hO hc;have hb:ar l (A.length+H.length)=ar T 0:=by have:=e3 0;rw [Nat.add_zero]at this;exact this
     rw [eD l acc gap A.length (A.length+H.length) hc e1,hb,hTb.1,if_neg (fun h=>absurd h.2 (by decide)),if_pos (.inl h8)]
    ·rcases hT with⟨hps,hTn⟩|⟨hps,hTn⟩
     ·subst hps hTn
      rw [MP hl2 hp (by omega) hg];have e:bP false [] []=([],true):=rfl;rw [e];dsimp only;rw [List.append_nil];refine Eq.trans ?_ (if_pos (show true=true/\acc.length+[bO H].length<=8 from⟨rfl,by show acc.length+1<=8;omega⟩)).symm;unfold Dt;have e2:(acc++[bO H]).length=acc.length+1:=by simp
      rw [e2];rfl
     ·subst hTn
      obtain ⟨q,qs,rfl⟩:∃q qs,ps=q::qs:=by
       match ps,hps with
       |q::qs,_=>exact ⟨q,qs,rfl⟩
      have hq:q≠[]:=hne q (by simp);have h1:ar (jn (q::qs)++58::58::M) 0≠58:=by
       match q,hq,h58 q (by simp)with
       |c::r,_,h=>
        have hc58:=h c (by simp);have e:ar (jn ((c::r)::qs)++58::58::M) 0=(c.toNat:Int):=by
         by_cases hqs:qs=[]
         ·subst hqs;rfl
         ·rw [ix _ _ hqs];rfl
        rw [e];intro hh;apply hc58;apply UInt8.toNat_inj.1;show c.toNat=58;omega
      rw [JY hl2 hp (by simp) h1 (by omega)];rw [AE M (q::qs) l (A++(H++[58])) (acc++[bO H]) gap (by simp) (by rw [hl2];simp) (fun r hr=>h58 r (List.mem_cons_of_mem _ hr)) (by simp;omega) hg (fun r hr=>hne r (List.mem_cons_of_mem _ hr))];rw [ix H (q::qs) (by simp)];have e3:(A++(H++[58])++(jn (q::qs)++[58,58])).length=(A++(H++58::jn (q::qs)++[58,58])).length:=by
       congr 1;simp
      have e4:(acc++[bO H]).length+(bP false (q::qs) []).1.length=acc.length+([bO H]++(bP false (q::qs) []).1).length:=by
       rw [List.length_append,List.length_append];omega
      rw [e3,e4,List.append_assoc acc [bO H]]
   ·have hrow:(bP false (H::ps) []).2=false:=kZ (hfal _ _) (jT hp)
    rw [qx hl2 hH (.inr hTb.1) hp hc];exact wrongs hrow
  ·rw [AD hl2 hH hR hRe (fun c hcm=>hp58 c (by simp [hcm])) (fun h=>by
    rcases hT with⟨_,h2⟩|⟨_,h2⟩<;>rw [h2]<;>simp) hc,if_neg (fun h=>hTb.2 h.1)]
   exact wrongs (kZ (hfal _ _) (jT (wj hRe hR)))
def AF:Bs->Prop
 |c::d::r=>¬(c=58/\d=58)/\AF (d::r)
 |_=>True
theorem AG:∀(l:Bs) (i:Int),0<=i->px l i<0->AF l
 |[],_,_,_=>trivial
 |[_],_,_,_=>trivial
 |c::d::r,i,hi,h=>by
  rw [px]at h;by_cases hc:c=58/\d=58
  ·rw [if_pos hc]at h;omega
  ·rw [if_neg hc]at h
   exact ⟨hc,AG (d::r) (i+1) (by omega) h⟩
theorem AH:∀(l:Bs) (i:Int),0<=i->0<=px l i->∃(k:Nat) (M:Bs),px l i=i+k/\l=l.take k++58::58::M/\l.drop (k+2)=M/\k+2<=l.length/\AF (l.take k++[58])
 |[],_,_,h=>by have h':(0:Int)<=-1:=h;omega
 |[_],_,_,h=>by have h':(0:Int)<=-1:=h;omega
 |c::d::r,i,hi,h=>by
  rw [px]at h⊢;by_cases hc:c=58/\d=58
  ·rw [if_pos hc]
   obtain ⟨rfl,rfl⟩:=hc;exact ⟨0,r,by simp,rfl,rfl,by simp,trivial⟩
  ·rw [if_neg hc]at h⊢
   obtain ⟨k,M,h1,h2,h3,h4,h5⟩:=AH (d::r) (i+1) (by omega) h;refine ⟨k+1,M,by rw [h1];push_cast;omega,?_,?_,by rw [List.length_cons];omega,?_⟩
   ·rw [List.take_succ_cons,List.cons_append,<-h2]
   ·rw [show k+1+2=(k+2)+1 by omega,List.drop_succ_cons];exact h3
   ·rw [List.take_succ_cons,List.cons_append]
    cases k with
    |zero=>
     refine ⟨fun hh=>?_,trivial⟩;have:d=58:=by
      rw [List.take_zero,List.nil_append]at h2;injection h2
     exact hc ⟨hh.1,this⟩
    |succ k=>
     rw [List.take_succ_cons,List.cons_append]at h5⊢;exact ⟨fun hh=>hc hh,h5⟩
theorem AI(p q:Bs):∀ps:List Bs,sQ (p::ps)->sQ (q::ps)
 |[],_=>trivial
 |[_],_=>trivial
 |_::_::_,h=>h
theorem lb:∀l:Bs,AF l->sQ (splitB 58 l)
 |[],_=>trivial
 |b::t,h=>by
  have ht:AF t:=by
   cases t with
   |nil=>trivial
   |cons d r=>exact h.2
  obtain ⟨x,y,e⟩:=dJ 58 t;have ih:=lb t ht;by_cases hb:(b.toNat:Int)=58
  ·rw [dO hb,e]
   rw [e]at ih;cases y with
   |nil=>trivial
   |cons z zs=>
    refine ⟨fun hx=>?_,ih⟩;subst hx;have hb8:b=58:=by apply UInt8.toNat_inj.1;show b.toNat=58;omega
    cases t with
    |nil=>rw [show splitB 58 []=[[]]from rfl]at e;cases e
    |cons d r=>
     refine h.1 ⟨hb8,?_⟩;by_cases hd:(d.toNat:Int)=58
     ·apply UInt8.toNat_inj.1;show d.toNat=58;omega
     ·obtain ⟨x2,y2,e2⟩:=dJ 58 r
      rw [eC hd e2]at e;cases e
  ·rw [eC hb e]
   rw [e]at ih;exact AI _ _ _ ih
theorem sS:∀ps:List Bs,sQ (ps++[[]])->∀q∈ps.tail,q≠[]
 |[],_,q,hq=>by cases hq
 |[_],_,q,hq=>by cases hq
 |p::r::rs,h,q,hq=>by
  have h2:r≠[]/\sQ (r::rs++[[]]):=by
   cases rs with
   |nil=>exact h
   |cons s ss=>exact h
  rcases List.mem_cons.1 hq with rfl|hq
  ·exact h2.1
  ·exact sS (r::rs) h2.2 q hq
theorem kk(last:Bool):∀(ps:List Bs) (o:List Int),(bP last ps o).2=true->o.length+ps.length<=(bP last ps o).1.length
 |[],o,_=>by unfold bP;simp
 |p::ps,o,h=>by
  unfold bP at h⊢;split
  ·rename_i hc
   rw [hc.2];simp
  ·rename_i hc
   rw [if_neg hc]at h;split
   ·rename_i hp
    rw [if_pos hp]at h;have:=kk last ps _ h;rw [List.length_append,List.length_singleton]at this;rw [List.length_cons];omega
   ·rename_i hp
    rw [if_neg hp]at h;cases h
theorem Du {p:Bs}(hp:Piece p):0<=bO p/\bO p<=65535:=by
 have h:=xN p (fun i hi=>by
  unfold ar;rw [List.getD_eq_getElem?_getD,List.getElem?_eq_getElem hi];exact hp.hex _ (List.getElem_mem _)) p.length (Nat.le_refl _)
 rw [List.take_length]at h;have:p.length=1\/p.length=2\/p.length=3\/p.length=4:=by have:=hp.lo;have:=hp.hi;omega
 refine ⟨h.1,?_⟩;rcases this with e|e|e|e<;>rw [e]at h<;>have h2:=h.2<;>simp only [Nat.reduceAdd,Int.reducePow]at h2<;>omega
theorem qy(last:Bool):∀(ps:List Bs) (o:List Int),(∀x∈o,0<=x/\x<=65535)->∀x∈(bP last ps o).1,0<=x/\x<=65535
 |[],o,h,x,hx=>h x (by unfold bP at hx;exact hx)
 |p::ps,o,h,x,hx=>by
  unfold bP at hx;split at hx
  ·rename_i hc
   have d:=(n5 p).2 hc.1.1;rw [List.mem_append]at hx;rcases hx with hx|hx
   ·exact h x hx
   ·simp only [List.mem_cons,List.not_mem_nil,or_false]at hx
    rcases hx with rfl|rfl<;>omega
  ·split at hx
   ·rename_i hp
    have hP:Piece p:=Classical.byContradiction fun hn=>by rw [jT hn]at hp;cases hp
    refine qy last ps _ (fun y hy=>?_) x hx;rw [List.mem_append,List.mem_singleton]at hy;rcases hy with hy|rfl
    ·exact h y hy
    ·rw [mK hP];exact Du hP
   ·exact h x hx
theorem Pp {o:List Int}(h:∀x∈o,0<=x/\x<=65535):As o=o:=by
 unfold As
 conv=>rhs;rw [<-List.map_id o]
 exact List.map_congr_left fun x hx=>IntWalk.u16_in x (by have:=h x hx;omega)
theorem Dv(l:Bs)(last:Bool)(hl:l≠[]):aA l last=if 8<(splitB 58 l).length then([],false)else bP last (splitB 58 l) []:=by unfold aA;rw [if_neg hl]
theorem mL(l:Bs)(last:Bool):As (aA l last).1=(aA l last).1:=by
 refine Pp fun x hx=>?_;unfold aA at hx;split at hx
 ·cases hx
 ·split at hx
  ·cases hx
  ·exact qy last _ [] (fun y hy=>by cases hy) x hx
theorem fin_neg(o:List Int):kB o (-1)=if o.length=8 then(o,true)else db:=by
 unfold kB;by_cases h:o.length=8
 ·rw [if_pos ⟨by decide,h⟩,if_pos h]
 ·rw [if_neg (fun e=>h e.2),if_neg (by omega),if_neg h]
theorem yc(l:Bs)(hg:fO l<0):gq l=dj l:=by
 have hna:=AG l 0 (by omega) hg;have hpre:¬Lib.hasPrefix l [58,58]=true:=by
  refine vW ?_
  match l,hna with
  |[],_=>exact .inl (by decide)
  |[c],_=>exact .inr (by show(0:Int)≠58;decide)
  |c::d::r,h=>
   by_cases hc:c=58
   ·right
    intro hd;exact h.1 ⟨hc,by apply UInt8.toNat_inj.1;have hd':(d.toNat:Int)=58:=hd;show d.toNat=58;omega⟩
   ·left
    intro hd;exact hc (by apply UInt8.toNat_inj.1;have hd':(c.toNat:Int)=58:=hd;show c.toNat=58;omega)
 have hw:=sR (splitB 58 l) l [] [] (-1) (cf 58 l) (by rw [kY];rfl) (mJ l) (by decide) (fun _=>lb l hna);rw [show(9:Nat)-([]:List Int).length=9 from rfl,show([]:Bs).length=0 from rfl]at hw;unfold gq;rw [if_neg hpre,hw];unfold dj;rw [if_pos hg,mL];by_cases hl:l=[]
 ·subst hl
  have e1:(bP true (splitB 58 []) []).2=false:=by decide+kernel
  rw [n7 _ _ e1,if_neg (by decide+kernel)];rfl
 ·rw [Dv l true hl]
  have hlong:=kk true (splitB 58 l) [];by_cases h8:8<(splitB 58 l).length
  ·rw [if_pos h8,if_neg (fun h=>by cases h.1)]
   unfold pz;rw [if_neg]
   ·rfl
   ·rintro ⟨h1,h2⟩
    have:=hlong h1;rw [List.length_nil]at this h2;omega
  ·rw [if_neg h8]
   unfold pz;by_cases ho:(bP true (splitB 58 l) []).2=true/\(bP true (splitB 58 l) []).1.length=8
   ·rw [if_pos ⟨ho.1,by rw [List.length_nil];omega⟩,if_pos ho,List.nil_append,fin_neg,if_pos ho.2]
   ·rw [if_neg ho]
    by_cases h1:(bP true (splitB 58 l) []).2=true/\([]:List Int).length+(bP true (splitB 58 l) []).1.length<=8
    ·rw [if_pos h1,List.nil_append,fin_neg,if_neg (fun h=>ho ⟨h1.1,h⟩)]
     rfl
    ·rw [if_neg h1];rfl
theorem fin_at(o r:List Int):kB (o++r) o.length=if o.length+r.length<=7 then(o++List.replicate (8-(o.length+r.length)) 0++r,true)else db:=by
 by_cases h:o.length+r.length<=7
 ·rw [if_pos h,MR o r (by omega)]
 ·rw [if_neg h]
  unfold kB;rw [if_neg (by omega),if_neg (by rw [List.length_append];omega)]
theorem FB {l L M:Bs}(hl:l=L++58::58::M)(o:List Int)(ho:o.length<=8):Dt l M o (L++[58,58]).length=if(aA M true).2=true/\o.length+(aA M true).1.length<=7 then(o++List.replicate (8-(o.length+(aA M true).1.length)) 0++(aA M true).1,true)else db:=by
 unfold Dt;by_cases hM:M=[]
 ·subst hM
  rw [if_pos rfl,show aA [] true=([],true)from rfl];have:=fin_at o [];rw [List.append_nil]at this;rw [this];by_cases h:o.length+([]:List Int).length<=7
  ·rw [if_pos h,if_pos ⟨rfl,h⟩]
  ·rw [if_neg h,if_neg (fun e=>h e.2)]
 ·rw [if_neg hM,Dv M true hM]
  have hw:=sR (splitB 58 M) l (L++[58,58]) o o.length (cf 58 M) (by rw [kY,hl];simp) (mJ M) ho (fun h=>by omega);rw [hw];have hlong:=kk true (splitB 58 M) [];rw [List.length_nil]at hlong;unfold pz;by_cases h8:8<(splitB 58 M).length
  ·rw [if_pos h8,if_neg,if_neg (fun h=>by cases h.1)]
   rintro ⟨h1,h2⟩
   have:=hlong h1;omega
  ·rw [if_neg h8]
   by_cases h1:(bP true (splitB 58 M) []).2=true/\o.length+(bP true (splitB 58 M) []).1.length<=8
   ·rw [if_pos h1,fin_at]
    by_cases h7:o.length+(bP true (splitB 58 M) []).1.length<=7
    ·rw [if_pos h7,if_pos ⟨h1.1,h7⟩]
    ·rw [if_neg h7,if_neg (fun h=>h7 h.2)]
   ·rw [if_neg h1,if_neg (fun h=>h1 ⟨h.1,by omega⟩)]
theorem yd(l:Bs)(hg:¬fO l<0):gq l=dj l:=by
 obtain ⟨k,M,h1,h2,h3,h4,h5⟩:=AH l 0 (by omega) (by show 0<=fO l;omega);have hk:fO l=(k:Int):=by show px l 0=_;rw [h1];omega
 have hA:ab l (fO l)=l.take k:=by unfold ab;rw [hk,Int.toNat_natCast]
 have hB:aa l (fO l+2)=M:=by unfold aa;rw [hk,show((k:Int)+2).toNat=k+2 by omega];exact h3
 have hR:dj l=if((aA (l.take k) false).2=true/\(aA M true).2=true)/\(aA (l.take k) false).1.length+(aA M true).1.length<=7 then
  ((aA (l.take k) false).1++List.replicate (8-((aA (l.take k) false).1.length+(aA M true).1.length)) 0++(aA M true).1,true)else db:=by
  unfold dj;rw [if_neg hg,hA,hB,mL,mL];rfl
 rw [hR];clear hR;generalize hL:l.take k=L at *;by_cases hLe:L=[]
 ·subst hLe
  rw [List.nil_append]at h2;have e:gq l=Dt l M [] ([]++[58,58]:Bs).length:=by
   unfold gq Dt;rw [if_pos (by rw [h2];unfold Lib.hasPrefix;simp [List.isPrefixOf])];by_cases hM:M=[]
   ·rw [if_pos (by rw [h2,hM];rfl),if_pos hM];rfl
   ·have:=List.length_pos_iff.2 hM
    rw [if_neg (by rw [h2];show ¬(M.length+1+1=2);omega),if_neg hM];rfl
  rw [e,FB (L:=[]) h2 [] (by decide),show aA [] false=([],true)from rfl];by_cases hc:(aA M true).2=true/\([]:List Int).length+(aA M true).1.length<=7
  ·rw [if_pos hc,if_pos ⟨⟨rfl,hc.1⟩,hc.2⟩]
  ·rw [if_neg hc,if_neg (fun h=>hc ⟨h.1.2,h.2⟩)]
 ·have hpre:¬Lib.hasPrefix l [58,58]=true:=by
   refine vW ?_;rw [h2]
   match L,hLe,h5 with
   |[c],_,h5=>
    left;intro hd;exact h5.1 ⟨by apply UInt8.toNat_inj.1;have hd':(c.toNat:Int)=58:=hd;show c.toNat=58;omega,rfl⟩
   |c::d::r,_,h5=>
    by_cases hc:c=58
    ·right;intro hd
     exact h5.1 ⟨hc,by apply UInt8.toNat_inj.1;have hd':(d.toNat:Int)=58:=hd;show d.toNat=58;omega⟩
    ·left;intro hd
     exact hc (by apply UInt8.toNat_inj.1;have hd':(c.toNat:Int)=58:=hd;show c.toNat=58;omega)
  have htl:∀q∈(splitB 58 L).tail,q≠[]:=by
   refine sS _ ?_;have:=lb _ h5;rw [ke 58 58 rfl [] L]at this;exact this
  have hw:=AE M (splitB 58 L) l [] [] (-1) (cf 58 L) (by rw [kY];exact h2) (mJ L) (by decide) (by decide) htl;rw [show(9:Nat)-([]:List Int).length=9 from rfl,show([]:Bs).length=0 from rfl,kY,List.nil_append,List.nil_append]at hw;unfold gq;rw [if_neg hpre,hw,Dv L false hLe];have hlong:=kk false (splitB 58 L) [];rw [List.length_nil]at hlong;have e0:([]:List Int).length=0:=rfl;by_cases h8:8<(splitB 58 L).length
  ·rw [if_pos h8,if_neg,if_neg (fun h=>by cases h.1.1)]
   rintro ⟨g1,g2⟩
   have:=hlong g1;omega
  ·rw [if_neg h8]
   by_cases hc:(bP false (splitB 58 L) []).2=true/\([]:List Int).length+(bP false (splitB 58 L) []).1.length<=8
   ·rw [if_pos hc,FB h2 _ (by omega)]
    by_cases hd:(aA M true).2=true/\(bP false (splitB 58 L) []).1.length+(aA M true).1.length<=7
    ·rw [if_pos hd,if_pos ⟨⟨hc.1,hd.1⟩,hd.2⟩]
    ·rw [if_neg hd,if_neg (fun h=>hd ⟨h.1.2,h.2⟩)]
   ·rw [if_neg hc,if_neg (fun h=>hc ⟨h.1.1,by omega⟩)]
theorem M7(l:Bs):gq l=dj l:=by
 by_cases h:fO l<0
 ·exact yc l h
 ·exact yd l h
end Go.Proofs.YtmfapopclbnlpaaGreatDoor
