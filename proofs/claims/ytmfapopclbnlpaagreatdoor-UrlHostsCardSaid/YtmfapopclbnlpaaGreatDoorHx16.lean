import Derived.Test.YtmfapopclbnlpaaGreatDoorHx9
import Derived.Test.YtmfapopclbnlpaaGreatDoorHx12
import Derived.Test.YtmfapopclbnlpaaGreatDoorHx13
import Derived.Test.YtmfapopclbnlpaaGreatDoorHx14
import Derived.Test.YtmfapopclbnlpaaGreatDoorHx15
set_option linter.unusedVariables false
set_option linter.unusedSimpArgs false
namespace Go.Proofs.YtmfapopclbnlpaaGreatDoor
open Go.RowKit
def dY(x:Int):Value:=.int .u16 x
def af:List UInt8->Nat
 |[]=>0
 |b::t=>if 0<=aR (b.toNat:Int)then af t+1 else 0
theorem vT:∀(l:List UInt8),af l<=l.length
 |[]=>Nat.le_refl _
 |b::t=>by unfold af;have:=vT t;split<;>simp<;>omega
theorem ql:∀(l:List UInt8) (i:Nat),i<l.length->0<=aR (ar l i)->i+af (l.drop i)=(i+1)+af (l.drop (i+1))
 |[],i,h,_=>by simp at h
 |b::t,0,_,h=>by
  rw [jt]at h;simp only [List.drop_zero,List.drop_succ_cons];rw [af,if_pos h];omega
 |b::t,i+1,hi,h=>by
  rw [o8]at h;have:=ql t i (by simpa using hi) h;simp only [List.drop_succ_cons];omega
theorem qm:∀(l:List UInt8) (i:Nat),(i<l.length->aR (ar l i)<0)->af (l.drop i)=0
 |[],i,_=>by simp [af]
 |b::t,0,h=>by
  have:=h (by simp);rw [jt]at this;rw [List.drop_zero,af,if_neg (by omega)]
 |b::t,i+1,h=>by
  rw [List.drop_succ_cons];exact qm t i (fun hi=>by have:=h (by simpa using hi);rwa [o8]at this)
def bO(l:List UInt8):Int:=l.foldl (fun v b=>v*16+aR (b.toNat:Int)) 0
theorem vU(l:List UInt8)(i:Nat)(h:i<l.length):bO (l.take (i+1))=bO (l.take i)*16+aR (ar l i):=by
 unfold bO;rw [List.take_add_one,List.foldl_append];simp [ar,List.getD,List.getElem?_eq_getElem h]
theorem xN(l:List UInt8)(h:∀i,i<l.length->0<=aR (ar l i)):∀i,i<=l.length->0<=bO (l.take i)/\bO (l.take i)<16^i
 |0,_=>by simp [bO]
 |i+1,hi=>by
  obtain ⟨a,b⟩:=xN l h i (by omega);have c:=h i (by omega);have d:=gI (ar l i);rw [vU l i (by omega),Int.pow_succ];omega
def cj(l:List UInt8):Int:=(aT (splitB 46 (bG l)) 4 0).1
def gT(l:List UInt8):Bool:=(aT (splitB 46 (bG l)) 4 0).2&&(eZ (cj l).toNat==l)
theorem vV:∀(ps:List (List UInt8)) (left:Nat) (sum:Int),1<=left->left<=4->0<=sum->sum<256^(4-left)->0<=(aT ps left sum).1/\(aT ps left sum).1<4294967296
 |[],left,sum,_,_,_,_=>by simp [aT]
 |p::ps,left,sum,h1,h4,h0,hs=>by
  obtain ⟨v0,v1⟩:=eX p;cases hb:cy p with
  |false=>rw [lH hb];decide
  |true=>
   by_cases hp:ps=[]
   ·subst hp
    rw [lI hb];split
    ·decide
    ·rename_i hv
     have:left=1\/left=2\/left=3\/left=4:=by omega
     rcases this with rfl|rfl|rfl|rfl<;>simp at hv hs⊢<;>omega
   ·rw [iT hb hp]
    split
    ·decide
    ·rename_i hv
     refine vV ps (left-1) _ (by omega) (by omega) (by omega) ?_;have:left=2\/left=3\/left=4:=by omega
     rcases this with rfl|rfl|rfl<;>simp at hv hs⊢<;>omega
theorem xO(l:List UInt8):0<=cj l/\cj l<4294967296:=vV _ 4 0 (by decide) (by decide) (by decide) (by decide)
def bY(p:List Int)(c g:Nat):List Int:=p.take g++List.replicate (8-c) 0++(p.take c).drop g
def pad(acc:List Int):List Int:=acc++List.replicate (8-acc.length) 0
theorem MN {acc:List Int}(h:acc.length<=8):(pad acc).length=8:=by unfold pad;simp;omega
def db:List Int×Bool:=(List.replicate 8 0,false)
def kB(acc:List Int)(gap:Int):List Int×Bool:=
 if gap<0/\acc.length=8 then(acc,true)else if 0<=gap/\acc.length<8 then(bY (pad acc) acc.length gap.toNat,true)else db
def xP(l:List UInt8)(acc:List Int)(gap:Int)(at':Nat):List Int×Bool:=
 if gT (l.drop at')=false\/6<acc.length then db else kB (acc++[cj (l.drop at')/65536]++[cj (l.drop at') %65536]) gap
def eE(l:List UInt8):Nat->List Int->Int->Nat->List Int×Bool
 |0,_,_,_=>db
 |k+1,acc,gap,at'=>
  if at'+af (l.drop at')<l.length/\ar l (at'+af (l.drop at'))=46 then xP l acc gap at'
  else if acc.length=8\/af (l.drop at')=0\/4<af (l.drop at')then db
  else if at'+af (l.drop at')=l.length then kB (acc++[bO ((l.take (at'+af (l.drop at'))).drop at')]) gap
  else if ar l (at'+af (l.drop at'))≠58\/at'+af (l.drop at')+1=l.length then db
  else if ar l (at'+af (l.drop at')+1)≠58 then eE l k (acc++[bO ((l.take (at'+af (l.drop at'))).drop at')]) gap (at'+af (l.drop at')+1)
  else if 0<=gap then db
  else if at'+af (l.drop at')+1+1<l.length then eE l k (acc++[bO ((l.take (at'+af (l.drop at'))).drop at')]) (acc.length+1:Nat) (at'+af (l.drop at')+1+1)
  else kB (acc++[bO ((l.take (at'+af (l.drop at'))).drop at')]) (acc.length+1:Nat)
def gq(l:List UInt8):List Int×Bool:=
 if Lib.hasPrefix l [58,58]=true then(if l.length=2 then kB [] 0 else eE l 9 [] 0 2)else eE l 9 [] (-1) 0
theorem eD(l:List UInt8)(acc:List Int)(gap:Int)(i e:Nat)(hc:acc.length<=8)(he:i+af (l.drop i)=e):
 eE l (9-acc.length) acc gap i=
  if e<l.length/\ar l e=46 then xP l acc gap i
  else if acc.length=8\/e=i\/i+4<e then db
  else if e=l.length then kB (acc++[bO ((l.take e).drop i)]) gap
  else if ar l e≠58\/e+1=l.length then db
  else if ar l (e+1)≠58 then eE l (9-(acc.length+1)) (acc++[bO ((l.take e).drop i)]) gap (e+1)
  else if 0<=gap then db
  else if e+1+1<l.length then eE l (9-(acc.length+1)) (acc++[bO ((l.take e).drop i)]) (acc.length+1:Nat) (e+1+1)
  else kB (acc++[bO ((l.take e).drop i)]) (acc.length+1:Nat):=by
 obtain ⟨k,hk⟩:∃k,9-acc.length=k+1:=⟨8-acc.length,by omega⟩;rw [hk,show 9-(acc.length+1)=k by omega,eE,he];have h1:(af (l.drop i)=0\/4<af (l.drop i))=(e=i\/i+4<e):=by rw [<-he];apply propext;constructor<;>intro h<;>omega
 simp only [h1]
theorem sD:∀(l:List UInt8) (j:Nat),j<af l->0<=aR (ar l j)
 |[],j,h=>by simp [af]at h
 |b::t,0,h=>by
  unfold af at h;split at h
  ·rw [jt];assumption
  ·omega
 |b::t,j+1,h=>by
  unfold af at h;split at h
  ·rw [o8];exact sD t j (by omega)
  ·omega
theorem xQ(l:List UInt8)(i e:Nat)(he:i+af (l.drop i)=e)(h4:e<=i+4):
 ((l.take e).drop i).length<=4/\∀j,j<((l.take e).drop i).length->0<=aR (ar ((l.take e).drop i) j):=by
 refine ⟨by simp;omega,fun j hj=>?_⟩;have hj2:j<af (l.drop i):=by simp at hj;omega
 have:=sD (l.drop i) j hj2;have e1:ar ((l.take e).drop i) j=ar (l.drop i) j:=by
  unfold ar;congr 2;simp only [List.getD];rw [List.getElem?_drop,List.getElem?_drop,List.getElem?_take,if_pos (by omega)]
 rw [e1];exact this
set_option maxHeartbeats 1000000 in
theorem C5(l:List UInt8)(i:Nat)(w:World)(hm:l.length<=1000000)(hi:i<=l.length):
 Calls Tryz.prog 180 #[.string ⟨l.toArray⟩,.int .i64 i] w fun e w'=>e=.returned (.int .i64 ((i+af (l.drop i):Nat):Int))/\w=w':=by
 have HD:=Lib.hid (ql l);have HS:=Lib.hid (qm l);obtain ⟨R,hR⟩:∃R:Nat,i+af (l.drop i)=R:=⟨_,rfl⟩;rw [hR];have HR:=Lib.hid hR;clear hR
 go_enter Tryz.func180,Tryz.ntmps180
 go_wp2_with fail
 go_loopw [1] (fun t1 wr=>∃j:Nat,j<=l.length/\t1=.int .i64 j/\Hid (j+af (l.drop j)=R)/\wr=w) (fun t1 _=>l.length-(intOf t1).toNat)
 case atStart=>exact ⟨i,hi,rfl,HR,rfl⟩
 case round=>
  obtain ⟨j,hj,rfl,HI,rfl⟩:=hrel;by_cases hlt:j<l.length
  ·have hltI:(j:Int)<(l.length:Int):=by omega
   have b0:=cB l j;have b1:=cG l j;obtain ⟨x0,x1⟩:=gI (ar l j);have HX:=Lib.hid (ka (ar l j) · b0 b1);have HDj:=Lib.hid (HD.out j hlt);have HSj:=Lib.hid (HS.out j);obtain ⟨x,hx⟩:∃x,aR (ar l j)=x:=⟨_,rfl⟩;rw [hx]at x0 x1 HX HDj HSj;clear hx;by_cases h1:x<0
   ·have H1:Hid (R=j):=Lib.hid (by rw [<-HI.out,HSj.out (fun _=>h1)];rfl)
    go_wp2_with fail
    refine (HX.out _).mono ?_
    rintro e w' ⟨rfl,rfl⟩
    go_wp2_with fail
    go_ret
    exact ⟨by rw [H1.out];rfl,by trivial⟩
   ·have H1:Hid ((j+1)+af (l.drop (j+1))=R):=Lib.hid (by rw [<-HDj.out (by omega)];exact HI.out)
    go_wp2_with fail
    refine (HX.out _).mono ?_
    rintro e w' ⟨rfl,rfl⟩
    go_wp2_with fail
    exact ⟨⟨j+1,by omega,by go_num,H1,by trivial⟩,by simp [intOf];omega⟩
  ·have H1:Hid (R=j):=Lib.hid (by rw [<-HI.out,HS.out j (fun h=>absurd h hlt)];rfl)
   obtain rfl:j=l.length:=by omega
   go_wp2_with fail
   go_ret
   exact ⟨by rw [H1.out];rfl,by trivial⟩
theorem wraps_u16(n:Int)(h0:0<=n)(h1:n<2^16):IntKind.u16.wrap n=n:=by
 simp [IntKind.wrap,IntKind.bits,IntKind.signed];omega
theorem MO(x y:Int)(hx0:0<=x)(hx1:x<4096)(hy:0<=y)(h:y<16):bits .or .u16 (x*16) y=x*16+y:=
 bits_join .u16 16 (by decide) wraps_u16 4 _ _ (by omega) (by omega) (by omega) hy (by omega) (by omega)
theorem JX {i:Nat}(h:i<=3):(16:Int)^i<=4096:=by
 have:i=0\/i=1\/i=2\/i=3:=by omega
 rcases this with rfl|rfl|rfl|rfl<;>decide
set_option maxHeartbeats 1000000 in
theorem GV(l:List UInt8)(w:World)(hm:l.length<=4)(hh:∀i,i<l.length->0<=aR (ar l i)):
 Calls Tryz.prog 181 #[.string ⟨l.toArray⟩] w fun e w'=>e=.returned (.int .u16 (bO l))/\w=w':=by
 have HT:=Lib.hid (vU l);have HB:=Lib.hid (xN l hh);have HH:=Lib.hid hh;clear hh
 go_enter Tryz.func181,Tryz.ntmps181
 go_wp2_with fail
 go_loopw [3,4,7] (fun tn t4 ti wr=>∃i:Nat,i<=l.length/\ti=.int .i64 i/\tn=.int .u16 (bO (l.take i))/\wr=w) (fun _ _ ti _=>l.length-(intOf ti).toNat)
 case atStart=>exact ⟨0,by omega,rfl,rfl,rfl⟩
 case round=>
  obtain ⟨i,hi,rfl,rfl,rfl⟩:=hrel;by_cases hlt:i<l.length
  ·have hltI:(i:Int)<(l.length:Int):=by omega
   have b0:=cB l i;have b1:=cG l i;obtain ⟨x0,x1⟩:=gI (ar l i);have x2:=HH.out i hlt;have HX:=Lib.hid (ka (ar l i) · b0 b1);have HTi:=Lib.hid (HT.out i hlt);obtain ⟨v0,v1⟩:=HB.out i hi;have v2:=JX (show i<=3 by omega);have v3:bO (l.take i)<4096:=by omega
   obtain ⟨x,hx⟩:∃x,aR (ar l i)=x:=⟨_,rfl⟩;rw [hx]at x0 x1 x2 HX HTi;clear hx;obtain ⟨v,hv⟩:∃v,bO (l.take i)=v:=⟨_,rfl⟩;rw [hv]at v0 v3 HTi;rw [hv];clear hv v1 v2;have hor:bits .or .u16 (v*16) x=v*16+x:=MO v x v0 v3 x2 (by omega)
   go_wp2_with fail
   refine (HX.out _).mono ?_
   rintro e w' ⟨rfl,rfl⟩
   go_wp2_with fail
   exact ⟨⟨i+1,by omega,by go_num,by rw [HTi.out],by trivial⟩,by simp [intOf];omega⟩
  ·obtain rfl:i=l.length:=by omega
   rw [List.take_length]
   go_wp2_with fail
   go_ret
   exact ⟨by first|rfl|trivial,by trivial⟩
theorem Fh(l:List Int):∀v∈l.map dY,v.oneCell'=true:=by
 intro v hv;obtain ⟨x,-,rfl⟩:=List.mem_map.1 hv;rfl
set_option maxRecDepth 100000 in
set_option maxHeartbeats 1000000 in
theorem C6(p:List Int)(c g:Nat)(w:World)(hp:p.length=8)(hg:g<=c)(hc:c<=7):
 Calls Tryz.prog 183 #[.agg (p.map dY).toArray,.int .i64 c,.int .i64 g] w fun e w'=>e=.returned (.agg ((bY p c g).map dY).toArray)/\Below w.heap.size w w':=by
 obtain ⟨cs,hcs⟩:∃cs,p.map dY=cs:=⟨_,rfl⟩;have HCS:=Lib.hid hcs;rw [hcs];clear hcs;have hql:(bY p c g).length=8:=by unfold bY;simp;omega
 obtain ⟨q,hq⟩:∃q,bY p c g=q:=⟨_,rfl⟩;have HQ:=Lib.hid hq;rw [hq]at hql⊢;clear hq
 go_enter Tryz.func183,Tryz.ntmps183
 go_wp2_with fail
 obtain ⟨W,hW⟩:∃W,((w.alloc (.cells cs.toArray 26)).alloc (.cells #[.int .u16 0,.int .u16 0,.int .u16 0,.int .u16 0,.int .u16 0,.int .u16 0,.int .u16 0,.int .u16 0] 26)).alloc (.cells #[.int .u16 0,.int .u16 0,.int .u16 0,.int .u16 0,.int .u16 0,.int .u16 0,.int .u16 0,.int .u16 0] 26)=W:=⟨_,rfl⟩;have B0:Hid (kA W w.heap.size 26 cs):=Lib.hid (by rw [<-hW];exact ((kA.new w _ cs).alloc _).alloc _);have B1:Hid (kA W (w.heap.size+1) 26 ((List.replicate 8 0).map dY)):=Lib.hid (by
  rw [<-hW];have:=(kA.new (w.alloc (.cells cs.toArray 26)) 26 ((List.replicate 8 0).map dY)).alloc (.cells #[.int .u16 0,.int .u16 0,.int .u16 0,.int .u16 0,.int .u16 0,.int .u16 0,.int .u16 0,.int .u16 0] 26);rw [show(w.alloc (.cells cs.toArray 26)).heap.size=w.heap.size+1 from iE _ _]at this;exact this)
 have B2:Hid (kA W (w.heap.size+1+1) 26 ((List.replicate 8 0).map dY)):=Lib.hid (by
  rw [<-hW];have:=(kA.new ((w.alloc (.cells cs.toArray 26)).alloc (.cells #[.int .u16 0,.int .u16 0,.int .u16 0,.int .u16 0,.int .u16 0,.int .u16 0,.int .u16 0,.int .u16 0] 26)) 26 ((List.replicate 8 0).map dY));rw [show((w.alloc (.cells cs.toArray 26)).alloc (.cells #[.int .u16 0,.int .u16 0,.int .u16 0,.int .u16 0,.int .u16 0,.int .u16 0,.int .u16 0,.int .u16 0] 26)).heap.size=w.heap.size+1+1 by rw [iE,iE]]at this;exact this)
 have BB:Hid (Below w.heap.size w W):=Lib.hid (by rw [<-hW];exact ((((Below.refl _ _).alloc (Nat.le_refl _) _).alloc (by rw [iE];omega) _).alloc (by rw [iE,iE];omega) _));rw [hW];clear hW;obtain ⟨b0,hb0⟩:∃b,w.heap.size=b:=⟨_,rfl⟩;have HB0:=Lib.hid hb0;rw [hb0]at B0 B1 B2 BB⊢;clear hb0;obtain ⟨b1,hb1⟩:∃b,b0+1=b:=⟨_,rfl⟩;rw [hb1]at B1 B2⊢;obtain ⟨b2,hb2⟩:∃b,b1+1=b:=⟨_,rfl⟩;rw [hb2]at B2⊢;have HN:Hid (b0<b1/\b1<b2):=Lib.hid (by omega);clear hb1 hb2;have hc1:(Builtin.copy_ #[155,155] 3 #[.slice (some ⟨b2,0,none⟩) 8 8,.slice (some ⟨b0,0,none⟩) g 8]).run Tryz.prog W.drew=.ok (goInt g) (W.drew.setRow b2 (((p.take g++List.replicate (8-g) 0).map dY)).toArray):=by
  have hl:((p.take g).map dY).length=g:=by simp;omega
  have:=run_copy_row (P:=Tryz.prog) W.drew 155 155 3 25 b2 0 8 8 ⟨b0,0,none⟩ g 8 ((List.replicate 8 0).map dY).toArray 26 ((p.take g).map dY) (by first|exact Tryz.underlying155|kernel_rfl) (by kernel_rfl) (B2.out.drew 1) (by rw [hl];show g=min g 8;omega)
   (fun j v hj=>by
     rw [addr_add,show W.drew.cell? ⟨b0,j,none⟩=cs[j]?from(B0.out.drew 1).cell j,<-HCS.out];have hjl:j<g:=by have:=(List.getElem?_eq_some_iff.1 hj).1;omega
     rw [<-hj];simp [List.getElem?_take,hjl]) (by rw [hl];simp;omega) (Fh _)
  rw [hl]at this;rw [this];congr 2;rw [List.map_append,List.map_replicate,List.map_replicate];simp only [List.take_zero,List.nil_append,List.drop_replicate,Nat.zero_add]
 obtain ⟨W2,hW2⟩:∃W2,W.drew.setRow b2 (((p.take g++List.replicate (8-g) 0).map dY)).toArray=W2:=⟨_,rfl⟩;have D0:Hid (kA W2 b0 26 cs):=Lib.hid (by rw [<-hW2];exact mA (B0.out.drew 1) _ (by have:=HN.out;omega));have D1:Hid (kA W2 b1 26 ((List.replicate 8 0).map dY)):=Lib.hid (by rw [<-hW2];exact mA (B1.out.drew 1) _ (by have:=HN.out;omega));have D2:Hid (kA W2 b2 26 ((p.take g++List.replicate (8-g) 0).map dY)):=Lib.hid (by rw [<-hW2];exact fq (B2.out.drew 1) _);have DB:Hid (Below b0 w W2):=Lib.hid (by rw [<-hW2];exact ir (fm BB.out 1) _ (by have:=HN.out;omega));rw [hW2]at hc1;clear hW2;have cg:(g:Int)<=8:=by omega
 go_region
 clear hc1;have HF0:Hid (p.map dY=cs):=HCS;by_cases hd:c=g
 ·subst hd
  have hc2:(Builtin.copy_ #[155,155] 3 #[.slice (some ⟨b2,0,none⟩) 0 0,.slice (some ⟨b0,c,none⟩) 0 (8-c)]).run Tryz.prog W2.drew=.ok (goInt 0) W2.drew:=
   run_copy_none (P:=Tryz.prog) W2.drew 155 155 3 25 _ _ 0 0 0 (8-c) (by first|exact Tryz.underlying155|kernel_rfl) (by kernel_rfl) (by rfl)
  have HS:Hid (bY p c c=p.take c++List.replicate (8-c) 0):=Lib.hid (by unfold bY;rw [List.drop_eq_nil_of_le (by simp;omega),List.append_nil]);have D2n:=D2.out;rw [<-HS.out,HQ.out]at D2n
  go_wp2_with fail
  go_region
  clear hc2;obtain ⟨W3,hW3⟩:∃W3,W2.drew=W3:=⟨_,rfl⟩;have C2:kA W3 b2 26 (q.map dY):=by rw [<-hW3];exact D2n.drew 1
  have C1:kA W3 b1 26 ((List.replicate 8 0).map dY):=by rw [<-hW3];exact D1.out.drew 1
  have CB:=Lib.hid (show Below b0 w W3 by rw [<-hW3];exact fm DB.out 1);rw [hW3];clear hW3 D2n;have HI:Hid ((Tryz.prog.info? 26).map (·.size)=some (q.map dY).length):=Lib.hid (by rw [List.length_map,hql];kernel_rfl);have HC2:=Lib.hid C2;have HC1:=Lib.hid C1;have HO:=Lib.hid (Fh q);have HL:Hid (((List.replicate 8 (0:Int)).map dY).length=(q.map dY).length):=Lib.hid (by simp;exact hql.symm);have E1:=Lib.hid (fq C1 (q.map dY));have EB:=Lib.hid (ir CB.out (q.map dY).toArray (by have:=HN.out;omega:b0<=b1));clear C1 C2;obtain ⟨vs,hvs⟩:∃vs,q.map dY=vs:=⟨_,rfl⟩;rw [hvs]at HI HC2 HO HL E1 EB;have HV:=Lib.hid hvs;clear hvs
  go_wp2_with (first
   |(refine kV (by rfl) 26 _ rfl b2 vs rfl 8 25 (by first|exact Tryz.underlying26|kernel_rfl) HI.out HC2.out ?_)
   |(refine ku (by rfl) 26 _ _ rfl rfl b1 _ vs rfl rfl HI.out HC1.out HL.out HO.out ?_))
  refine bodyPost_ret (v:=.agg vs.toArray) ?_ rfl ⟨by rw [HV.out],by rw [HB0.out];exact EB.out⟩;exact results_cell_row rfl _ _ b1 26 vs.toArray (0,0) _ (by rfl) E1.out (by first|exact Tryz.underlying26|kernel_rfl) rfl (by simpa using HI.out)
 ·obtain ⟨d,hd2⟩:∃d,c-g=d:=⟨_,rfl⟩
  obtain ⟨k,hk2⟩:∃k,8-d=k:=⟨_,rfl⟩;have d1:(c:Int)-g=d:=by omega
  have d2:(8:Int)-d=k:=by omega
  have k1:(k:Int)<=8:=by omega
  have k2:(g:Int)<=c:=by omega
  have k3:(c:Int)<=8:=by omega
  have k4:k<8:=by omega
  have k5:g<8:=by omega
  have hc2:(Builtin.copy_ #[155,155] 3 #[.slice (some ⟨b2,k,none⟩) (8-k) (8-k),.slice (some ⟨b0,g,none⟩) d (8-g)]).run Tryz.prog W2.drew=.ok (goInt d) (W2.drew.setRow b2 ((bY p c g).map dY).toArray):=by
   have hl:(((p.take c).drop g).map dY).length=d:=by simp;omega
   have hbx:W2.drew.heap[b2]?=some (.cells ((p.take g++List.replicate (8-g) 0).map dY).toArray 26 (0,0)):=D2.out.drew 1;have:=run_copy_row (P:=Tryz.prog) W2.drew 155 155 3 25 b2 k (8-k) (8-k) ⟨b0,g,none⟩ d (8-g) _ 26 (((p.take c).drop g).map dY) (by first|exact Tryz.underlying155|kernel_rfl) (by kernel_rfl) hbx (by rw [hl];show d=min d (8-k);omega)
    (fun j v hj=>by
      rw [xF,show W2.drew.cell? ⟨b0,g+j,none⟩=cs[g+j]?from(D0.out.drew 1).cell (g+j),<-HCS.out];have hjl:j<d:=by have:=(List.getElem?_eq_some_iff.1 hj).1;omega
      rw [<-hj];simp [List.getElem?_take,show g+j<c by omega]) (by rw [hl];simp;omega) (Fh _)
   rw [hl]at this;rw [this];congr 2;unfold bY;have e1:((p.take g++List.replicate (8-g) (0:Int)).map dY).take k=(p.take g++List.replicate (8-c) (0:Int)).map dY:=by
    rw [<-List.map_take,List.take_append,List.take_of_length_le (by simp;omega),List.take_replicate];congr 3;simp;omega
   have e2:((p.take g++List.replicate (8-g) (0:Int)).map dY).drop (k+d)=[]:=List.drop_eq_nil_of_le (by simp;omega);rw [List.toList_toArray,e1,e2,List.append_nil,<-List.map_append]
  have HB:=Lib.hid (fq (D2.out.drew 1) ((bY p c g).map dY));rw [HQ.out]at hc2 HB
  go_wp2_with fail
  go_region
  clear hc2;obtain ⟨W3,hW3⟩:∃W3,W2.drew.setRow b2 (q.map dY).toArray=W3:=⟨_,rfl⟩;have C2:kA W3 b2 26 (q.map dY):=by rw [<-hW3];exact HB.out
  have C1:kA W3 b1 26 ((List.replicate 8 0).map dY):=by rw [<-hW3];exact mA (D1.out.drew 1) _ (by have:=HN.out;omega)
  have CB:=Lib.hid (show Below b0 w W3 by rw [<-hW3];exact ir (fm DB.out 1) _ (by have:=HN.out;omega));rw [hW3];clear hW3 HB;have HI:Hid ((Tryz.prog.info? 26).map (·.size)=some (q.map dY).length):=Lib.hid (by rw [List.length_map,hql];kernel_rfl);have HC2:=Lib.hid C2;have HC1:=Lib.hid C1;have HO:=Lib.hid (Fh q);have HL:Hid (((List.replicate 8 (0:Int)).map dY).length=(q.map dY).length):=Lib.hid (by simp;exact hql.symm);have E1:=Lib.hid (fq C1 (q.map dY));have EB:=Lib.hid (ir CB.out (q.map dY).toArray (by have:=HN.out;omega:b0<=b1));clear C1 C2;obtain ⟨vs,hvs⟩:∃vs,q.map dY=vs:=⟨_,rfl⟩;rw [hvs]at HI HC2 HO HL E1 EB;have HV:=Lib.hid hvs;clear hvs
  go_wp2_with (first
   |(refine kV (by rfl) 26 _ rfl b2 vs rfl 8 25 (by first|exact Tryz.underlying26|kernel_rfl) HI.out HC2.out ?_)
   |(refine ku (by rfl) 26 _ _ rfl rfl b1 _ vs rfl rfl HI.out HC1.out HL.out HO.out ?_))
  refine bodyPost_ret (v:=.agg vs.toArray) ?_ rfl ⟨by rw [HV.out],by rw [HB0.out];exact EB.out⟩;exact results_cell_row rfl _ _ b1 26 vs.toArray (0,0) _ (by rfl) E1.out (by first|exact Tryz.underlying26|kernel_rfl) rfl (by simpa using HI.out)
theorem xR {a a':Int}{c c':Bool}(h1:a=a')(h3:c=c'):Ending.returned (.tuple #[.int .u32 a,.bool c])=.returned (.tuple #[.int .u32 a',.bool c']):=by rw [h1,h3]
set_option maxHeartbeats 1000000 in
theorem C7(l:List UInt8)(w:World)(hm:l.length<=1000000)(htab:Oj w):
 Calls Tryz.prog 182 #[.string ⟨l.toArray⟩] w fun e w'=>e=.returned (.tuple #[.int .u32 (cj l),.bool (gT l)])/\Below w.heap.size w w':=by
 have HP:Hid (∀w,Calls Tryz.prog 176 #[.string ⟨l.toArray⟩] w fun e w'=>e=.returned (.tuple #[.int .u32 (cj l),.bool (aT (splitB 46 (bG l)) 4 0).2])/\Below w.heap.size w w'):=Lib.hid (fun w=>vQ l w hm);obtain ⟨v0,v1⟩:=xO l;have HT:=Lib.hid htab;clear htab;have HO:Hid (gT l=((aT (splitB 46 (bG l)) 4 0).2&&(eZ (cj l).toNat==l))):=Lib.hid rfl;obtain ⟨v,hv⟩:=Int.eq_ofNat_of_zero_le v0;rw [hv]at HP HO v1⊢;clear v0 hv;have HS:Hid (∀w',Below w.heap.size w w'->Calls Tryz.prog 193 #[.int .u32 v] w' fun e w2=>e=.returned (.string ⟨(eZ v).toArray⟩)/\Below w'.heap.size w' w2):=Lib.hid (fun w' hb=>JW v w' (by omega) (HT.out.below hb));rw [show((v:Int)).toNat=v by omega]at HO;obtain ⟨t,ht⟩:∃t,eZ v=t:=⟨_,rfl⟩;rw [ht]at HO HS;clear ht;cases hk:(aT (splitB 46 (bG l)) 4 0).2 with
 |false=>
  rw [hk]at HP HO;clear hk
  go_enter Tryz.func182,Tryz.ntmps182
  go_wp2_with fail
  refine (HP.out _).mono ?_
  rintro e w1 ⟨rfl,hb1⟩
  have HB1:=Lib.hid hb1;clear hb1
  go_wp2_with fail
  go_ret2
  exact ⟨xR rfl HO.out.symm,HB1.out⟩
 |true=>
  rw [hk]at HP HO;clear hk;cases ht:(t==l)with
  |false=>
   rw [ht]at HO
   go_enter Tryz.func182,Tryz.ntmps182
   go_wp2_with fail
   refine (HP.out _).mono ?_
   rintro e w1 ⟨rfl,hb1⟩
   have HB1:=Lib.hid hb1;clear hb1
   go_wp2_with fail
   refine (HS.out _ HB1.out).mono ?_
   rintro e w2 ⟨rfl,hb2⟩
   have HB2:=Lib.hid (bC HB1.out hb2);clear hb2
   go_wp2_with fail
   go_ret2
   exact ⟨xR rfl HO.out.symm,HB2.out⟩
  |true=>
   rw [ht]at HO
   go_enter Tryz.func182,Tryz.ntmps182
   go_wp2_with fail
   refine (HP.out _).mono ?_
   rintro e w1 ⟨rfl,hb1⟩
   have HB1:=Lib.hid hb1;clear hb1
   go_wp2_with fail
   refine (HS.out _ HB1.out).mono ?_
   rintro e w2 ⟨rfl,hb2⟩
   have HB2:=Lib.hid (bC HB1.out hb2);clear hb2
   go_wp2_with fail
   go_ret2
   exact ⟨xR rfl HO.out.symm,HB2.out⟩
section
def ur(P:List UInt8):Prop:=∀b∈P,0<=aR (b.toNat:Int)
structure Piece(P:List UInt8):Prop where
 hex:ur P
 lo:1<=P.length
 hi:P.length<=4
def Me(r:List UInt8):Prop:=r=[]\/aR (ar r 0)<0
theorem iw:∀{P r:List UInt8},ur P->Me r->af (P++r)=P.length
 |[],r,_,ho=>by
  rcases ho with rfl|ho
  ·rfl
  ·cases r with
   |nil=>rfl
   |cons b t=>rw [jt]at ho;rw [List.nil_append,af,if_neg (by omega)];rfl
 |b::P,r,hp,ho=>by
  rw [List.cons_append,af,if_pos (hp b (List.mem_cons_self ..)),iw (fun c hc=>hp c (List.mem_cons_of_mem _ hc)) ho,List.length_cons]
theorem Qi {a b:List UInt8}{i:Nat}(h:i<a.length):ar (a++b) i=ar a i:=by
 unfold ar;rw [List.getD_eq_getElem?_getD,List.getD_eq_getElem?_getD,List.getElem?_append_left h]
theorem Ok(a b:List UInt8)(i:Nat):ar (a++b) (a.length+i)=ar b i:=by
 unfold ar;rw [List.getD_eq_getElem?_getD,List.getD_eq_getElem?_getD,List.getElem?_append_right (by omega)];congr 4;omega
section
variable {l A P Q:List UInt8} {acc:List Int} {gap:Int}
theorem kf(hl:l=A++(P++Q))(hp:ur P)(ho:Me Q)(hc:acc.length<=8):
 A.length+af (l.drop A.length)=A.length+P.length/\(l.take (A.length+P.length)).drop A.length=P/\(∀i,ar l (A.length+P.length+i)=ar Q i)/\l.length=A.length+P.length+Q.length:=by
 subst hl;refine ⟨by rw [List.drop_left,iw hp ho],?_,fun i=>?_,by simp;omega⟩
 ·rw [List.take_append,List.take_of_length_le (by omega),Nat.add_sub_cancel_left,List.drop_left,List.take_left]
 ·rw [Nat.add_assoc,Ok,Ok]
theorem JY(hl:l=A++(P++58::Q))(hp:Piece P)(hq:Q≠[])(hq2:ar Q 0≠58)(hc:acc.length<8):
 eE l (9-acc.length) acc gap A.length=eE l (9-(acc++[bO P]).length) (acc++[bO P]) gap (A++(P++[58])).length:=by
 obtain ⟨h1,h2,h3,h4⟩:=kf (acc:=acc) hl hp.hex (.inr (by rw [jt];decide)) (by omega);have hb:ar l (A.length+P.length)=58:=by have:=h3 0;rw [jt]at this;exact this
 have hb1:ar l (A.length+P.length+1)=ar Q 0:=by have:=h3 1;rw [o8]at this;exact this
 have:=hp.lo;have:=hp.hi;have hql:1<=Q.length:=List.length_pos_iff.2 hq;rw [List.length_cons]at h4;rw [eD l acc gap A.length (A.length+P.length) (by omega) h1,if_neg (by rw [hb];omega),if_neg (by omega),if_neg (by omega),if_neg (by rw [hb];omega),if_pos (by rw [hb1];exact hq2),h2];rw [List.length_append,List.length_append,List.length_append,List.length_singleton,List.length_singleton,Nat.add_assoc A.length]
theorem MP(hl:l=A++(P++58::58::Q))(hp:Piece P)(hc:acc.length<8)(hg:gap<0):
 eE l (9-acc.length) acc gap A.length=if Q=[]then kB (acc++[bO P]) (acc.length+1:Nat)else eE l (9-(acc++[bO P]).length) (acc++[bO P]) (acc.length+1:Nat) (A++(P++[58,58])).length:=by
 obtain ⟨h1,h2,h3,h4⟩:=kf (acc:=acc) hl hp.hex (.inr (by rw [jt];decide)) (by omega);have hb:ar l (A.length+P.length)=58:=by have:=h3 0;rw [jt]at this;exact this
 have hb1:ar l (A.length+P.length+1)=58:=by have:=h3 1;rw [o8,jt]at this;exact this
 have:=hp.lo;have:=hp.hi;rw [List.length_cons,List.length_cons]at h4;rw [eD l acc gap A.length (A.length+P.length) (by omega) h1,if_neg (by rw [hb];omega),if_neg (by omega),if_neg (by omega),if_neg (by rw [hb];omega),if_neg (by rw [hb1];omega),if_neg (by omega),h2];by_cases hq:Q=[]
 ·rw [if_pos hq,if_neg (by rw [hq]at h4;simp at h4;omega)]
 ·have hql:1<=Q.length:=List.length_pos_iff.2 hq
  rw [if_neg hq,if_pos (by omega)];rw [List.length_append,List.length_append,List.length_append,List.length_singleton,Nat.add_assoc A.length];simp [Nat.add_assoc]
theorem MQ(hl:l=A++P)(hp:Piece P)(hc:acc.length<8):eE l (9-acc.length) acc gap A.length=kB (acc++[bO P]) gap:=by
 obtain ⟨h1,h2,h3,h4⟩:=kf (l:=l) (A:=A) (P:=P) (acc:=acc) (Q:=[]) (by rw [hl,List.append_nil]) hp.hex (.inl rfl) (by omega);have:=hp.lo;have:=hp.hi;simp at h4;rw [eD l acc gap A.length (A.length+P.length) (by omega) h1,if_neg (by omega),if_neg (by omega),if_pos (by omega),h2]
theorem GW(hl:l=A++(P++[58]))(hp:Piece P)(hc:acc.length<8):eE l (9-acc.length) acc gap A.length=db:=by
 obtain ⟨h1,h2,h3,h4⟩:=kf (acc:=acc) hl hp.hex (.inr (by rw [jt];decide)) (by omega);have hb:ar l (A.length+P.length)=58:=by have:=h3 0;rw [jt]at this;exact this
 have:=hp.lo;have:=hp.hi;simp at h4;rw [eD l acc gap A.length (A.length+P.length) (by omega) h1,if_neg (by rw [hb];omega),if_neg (by omega),if_neg (by omega),if_pos (.inr (by omega))]
end
theorem vW {l:List UInt8}(h:ar l 0≠58\/ar l 1≠58):¬Lib.hasPrefix l [58,58]=true:=by
 intro hp;unfold Lib.hasPrefix at hp
 match l,h,hp with
 |[],h,hp=>cases hp
 |[a],h,hp=>simp [List.isPrefixOf]at hp
 |a::b::t,h,hp=>
  simp only [List.isPrefixOf,Bool.and_eq_true,beq_iff_eq]at hp;obtain ⟨rfl,rfl,-⟩:=hp;rcases h with h|h<;>exact h rfl
end
theorem Ad {l m:List UInt8}{q:Nat}(h:q<l.length):ar (l++m) q=ar l q:=by
 unfold ar;rw [List.getD_eq_getElem?_getD,List.getD_eq_getElem?_getD,List.getElem?_append_left h]
theorem sE(l m:List UInt8)(q:Nat):ar (l++m) (l.length+q)=ar m q:=by
 unfold ar;rw [List.getD_eq_getElem?_getD,List.getD_eq_getElem?_getD,List.getElem?_append_right (by omega),Nat.add_sub_cancel_left]
def nf(k:Nat):UInt8:=if k<10 then UInt8.ofNat (48+k)else if k=10 then 97 else if k=11 then 66 else if k=12 then 99 else if k=13 then 68 else if k=14 then 101 else 70
theorem xS:∀k:Fin 16,aR ((nf k.val).toNat:Int)=(k.val:Int):=by decide+kernel
theorem Fi:∀k:Fin 16,((nf k.val).toNat:Int)≠46/\((nf k.val).toNat:Int)≠120/\((nf k.val).toNat:Int)≠88/\(k.val≠0->((nf k.val).toNat:Int)≠48):=by decide+kernel
def cr(b x:Nat):List UInt8:=if h:x<b\/b<2 then [nf x]else cr b (x/b)++[nf (x %b)]
termination_by x
decreasing_by exact Nat.div_lt_self (by omega) (by omega)
theorem dc {b x:Nat}(h:x<b):cr b x=[nf x]:=by rw [cr,dif_pos (.inl h)]
theorem ew {b x:Nat}(h:¬x<b)(hb:2<=b):cr b x=cr b (x/b)++[nf (x %b)]:=by rw [cr,dif_neg (by omega)]
theorem nU(x:Nat):Lib.decDigits x=cr 10 x:=by
 induction x using Nat.strongRecOn with
 |_ x ih=>
  by_cases h:x<10
  ·rw [dc h,Lib.decDigits_one h]
   unfold nf;rw [if_pos h]
  ·rw [ew h (by decide),vS h,ih (x/10) (by omega),xM]
   congr 2;unfold nf;rw [if_pos (Nat.mod_lt _ (by decide))]
def dE(b:Nat):Prop:=b=8\/b=10\/b=16
theorem sF {b:Nat}(hb:dE b)(x:Nat):1<=(cr b x).length:=by
 by_cases h:x<b
 ·rw [dc h];simp
 ·rw [ew h (by unfold dE at hb;omega)];simp
theorem C8 {b:Nat}(hb:dE b):∀(k x:Nat),x<8^(k+1)->(cr b x).length<=k+1:=by
 intro k
 induction k with
 |zero=>intro x h;rw [dc (by unfold dE at hb;omega)];simp
 |succ k ih=>
  intro x h;by_cases h2:x<b
  ·rw [dc h2];simp
  ·have:=ih (x/b) (by
    have h3:x/b<=x/8:=Nat.div_le_div_left (by unfold dE at hb;omega) (by decide);have h4:x/8<8^(k+1):=by rw [Nat.div_lt_iff_lt_mul (by decide),<-Nat.pow_succ];exact h
    omega)
   rw [ew h2 (by unfold dE at hb;omega)];simp;omega
theorem JZ {b:Nat}(hb:dE b)(x:Nat)(h:x<1000000000000):(cr b x).length<=50:=C8 hb 49 x (Nat.lt_trans h (by decide))
theorem xT(n:Int)(l m:List UInt8):aW n (l++m)=(aW n l&&aW n m):=by
 induction l with
 |nil=>simp [aW]
 |cons b t ih=>show(decide _ &&aW n (t++m))=((decide _ &&aW n t)&&aW n m);rw [ih,Bool.and_assoc]
theorem GX(n:Int)(l:List UInt8)(c:UInt8):cX n 0 (l++[c])=gS n (cX n 0 l) (c.toNat:Int):=by unfold cX;rw [List.foldl_append];rfl
theorem vX {b k:Nat}(hb:dE b)(h:k<b):aW b [nf k]=true:=by
 have h1:=xS ⟨k,by unfold dE at hb;omega⟩;have h1:aR ((nf k).toNat:Int)=(k:Int):=h1;show(decide _ &&true)=true;rw [h1,decide_eq_true ⟨by omega,by omega⟩];rfl
theorem pk {b:Nat}(hb:dE b)(x:Nat):aW b (cr b x)=true:=by
 induction x using Nat.strongRecOn with
 |_ x ih=>
  have h2:2<=b:=by unfold dE at hb;omega
  by_cases h:x<b
  ·rw [dc h];exact vX hb h
  ·rw [ew h h2,xT,ih (x/b) (Nat.div_lt_self (by omega) (by omega)),vX hb (Nat.mod_lt _ (by omega))];rfl
theorem J0 {b:Nat}(hb:dE b)(x:Nat):cX b 0 (cr b x)=min (x:Int) 4294967296:=by
 induction x using Nat.strongRecOn with
 |_ x ih=>
  have h2:2<=b:=by unfold dE at hb;omega
  by_cases h:x<b
  ·rw [dc h]
   have h1:aR ((nf x).toNat:Int)=(x:Int):=xS ⟨x,by unfold dE at hb;omega⟩;show gS b 0 ((nf x).toNat:Int)=_;unfold gS;rw [h1];simp
  ·have h1:aR ((nf (x %b)).toNat:Int)=((x %b:Nat):Int):=xS ⟨x %b,by have:=Nat.mod_lt x (show 0<b by omega);unfold dE at hb;omega⟩
   rw [ew h h2,GX,ih (x/b) (Nat.div_lt_self (by omega) (by omega))];unfold gS;rw [h1];rcases hb with rfl|rfl|rfl<;>omega
theorem sG {b:Nat}(hb:dE b)(x:Nat):∀q,q<(cr b x).length->ar (cr b x) q≠46/\ar (cr b x) q≠120/\ar (cr b x) q≠88:=by
 induction x using Nat.strongRecOn with
 |_ x ih=>
  have h2:2<=b:=by unfold dE at hb;omega
  have one:∀k,k<b->∀q,q<[nf k].length->ar [nf k] q≠46/\ar [nf k] q≠120/\ar [nf k] q≠88:=by
   intro k hk q hq;obtain rfl:q=0:=by simpa using hq
   have:=Fi ⟨k,by unfold dE at hb;omega⟩;exact ⟨this.1,this.2.1,this.2.2.1⟩
  by_cases h:x<b
  ·rw [dc h];exact one x h
  ·rw [ew h h2]
   intro q hq;have hi:=ih (x/b) (Nat.div_lt_self (by omega) (by omega));by_cases hq2:q<(cr b (x/b)).length
   ·have e:ar (cr b (x/b)++[nf (x %b)]) q=ar (cr b (x/b)) q:=Ad hq2
    rw [e];exact hi q hq2
   ·have hq3:q=(cr b (x/b)).length:=by simp at hq;omega
    have e:ar (cr b (x/b)++[nf (x %b)]) q=ar [nf (x %b)] 0:=by rw [hq3];exact sE _ _ 0
    rw [e];exact one _ (Nat.mod_lt _ (by omega)) 0 (by simp)
theorem C9 {b:Nat}(hb:dE b)(x:Nat)(hx:0<x):ar (cr b x) 0≠48:=by
 induction x using Nat.strongRecOn with
 |_ x ih=>
  have h2:2<=b:=by unfold dE at hb;omega
  by_cases h:x<b
  ·rw [dc h]
   exact (Fi ⟨x,by unfold dE at hb;omega⟩).2.2.2 (by show x≠0;omega)
  ·have hp:0<x/b:=Nat.div_pos (by omega) (by omega)
   have hi:=ih (x/b) (Nat.div_lt_self (by omega) (by omega)) hp;have hl:=sF hb (x/b);rw [ew h h2];have e:ar (cr b (x/b)++[nf (x %b)]) 0=ar (cr b (x/b)) 0:=Ad (by omega);rw [e];exact hi
structure QG(t:List UInt8)(v:Int):Prop where
 o:cy t=true
 v:cq t=v
 d:∀q,q<t.length->ar t q≠46
 l:1<=t.length
 m:t.length<=60
theorem gU(x:Nat)(hx:x<1000000000000):QG (cr 10 x) (min (x:Int) 4294967296):=by
 have hb:dE 10:=.inr (.inl rfl);have hl:=sF hb x;have hs:=sG hb x;have hp:eu (cr 10 x)=false:=by
  unfold eu;rw [decide_eq_false_iff_not]
  rintro ⟨h1,h2,h3⟩
  have:=hs 1 (by omega);rcases h3 with h3|h3
  ·exact this.2.1 h3
  ·exact this.2.2 h3
 have hbase:eQ (cr 10 x)=10:=by
  unfold eQ;rw [if_neg (by rw [hp];simp),if_neg]
  rintro ⟨h1,h2⟩
  by_cases h0:0<x
  ·exact C9 hb x h0 h2
  ·obtain rfl:x=0:=by omega
   rw [dc (by decide)]at h1;simp at h1
 have hbody:fN (cr 10 x)=cr 10 x:=by unfold fN;rw [if_neg (by rw [hp];simp)]
 have ho:cy (cr 10 x)=true:=by
  unfold cy;rw [hbase,hbody,show aW 10 (cr 10 x)=true from pk hb x,decide_eq_true (show 0<(cr 10 x).length by omega)];simp
 refine ⟨ho,?_,fun q hq=>(hs q hq).1,hl,by have:=JZ hb x hx;omega⟩
 ·unfold cq;rw [if_pos ho,hbase,hbody];exact J0 hb x
def gr:List (List UInt8)->List UInt8
 |[]=>[]
 |[p]=>p
 |p::q::ps=>p++46::gr (q::ps)
theorem gC(p:List UInt8){ps:List (List UInt8)}(h:ps≠[]):gr (p::ps)=p++46::gr ps:=by
 cases ps with
 |nil=>exact absurd rfl h
 |cons q ps=>rfl
theorem nV:∀(ps:List (List UInt8)),ps≠[]->(∀p∈ps,∀q,q<p.length->ar p q≠46)->splitB 46 (gr ps)=ps:=by
 intro ps
 induction ps with
 |nil=>intro h;exact absurd rfl h
 |cons p ps ih=>
  intro _ hd;have he:splitB 46 p=[p]:=j6 46 p (hd p List.mem_cons_self);by_cases h:ps=[]
  ·subst h;exact he
  ·rw [gC p h,ke 46 46 rfl,he,ih h (fun q hq=>hd q (List.mem_cons_of_mem _ hq))];rfl
theorem Da:∀(ps:List (List UInt8)) (p:List UInt8),ps≠[]->gr (ps++[p])=gr ps++46::p:=by
 intro ps
 induction ps with
 |nil=>intro p h;exact absurd rfl h
 |cons a ps ih=>
  intro p _;by_cases h:ps=[]
  ·subst h;rfl
  ·rw [List.cons_append,gC a (by simp),gC a h,ih p h];simp
theorem J3(ps:List (List UInt8))(p:List UInt8)(dot:Bool)(hp:∀r∈ps++[p],∀q,q<r.length->ar r q≠46)(hl:1<=p.length):
 splitB 46 (bG (gr (ps++[p])++if dot then [46]else []))=ps++[p]:=by
 have hs:=nV (ps++[p]) (by simp) hp;have ht:bG (gr (ps++[p])++if dot then [46]else [])=gr (ps++[p]):=by
  cases dot with
  |true=>
   generalize gr (ps++[p])=s;unfold bG;have e:ar (s++[46]) (s.length+0)=46:=by rw [sE];rfl
   show(if 0<(s++[46]).length/\ar (s++[46]) ((s++[46]).length-1)=46 then(s++[46]).take ((s++[46]).length-1)else s++[46])=s
   have e2:(s++[(46:UInt8)]).length-1=s.length:=by simp
   rw [if_pos ⟨by simp,by rw [e2];exact e⟩,e2];simp
  |false=>
   have hj:∃r,gr (ps++[p])=r++p:=by
    by_cases h:ps=[]
    ·subst h;exact ⟨[],rfl⟩
    ·exact ⟨gr ps++[46],by rw [Da ps p h];simp⟩
   obtain ⟨r,hr⟩:=hj;rw [hr];have hlast:=hp p (by simp) (p.length-1) (by omega);unfold bG;rw [if_neg]
   ·simp
   ·rintro ⟨_,h2⟩
    have e:ar (r++p) ((r++p).length-1)=ar p (p.length-1):=by
     rw [show(r++p).length-1=r.length+(p.length-1) by simp;omega];exact sE _ _ _
    apply hlast;rw [<-e];simpa using h2
 rw [ht,hs]
theorem jO(n:Nat):eZ n=gr ([cr 10 (q0 n),cr 10 (q1 n),cr 10 (q2 n)]++[cr 10 (q3 n)]):=by
 unfold eZ;rw [nU,nU,nU,nU];show _=cr 10 (q0 n)++46::(cr 10 (q1 n)++46::(cr 10 (q2 n)++46::cr 10 (q3 n)));simp
theorem Db(n:Nat)(hn:n<4294967296):splitB 46 (bG (eZ n))=[cr 10 (q0 n),cr 10 (q1 n),cr 10 (q2 n),cr 10 (q3 n)]:=by
 have a0:=gU (q0 n) (by unfold q0;omega);have a1:=gU (q1 n) (by unfold q1;omega);have a2:=gU (q2 n) (by unfold q2;omega);have a3:=gU (q3 n) (by unfold q3;omega);have:=J3 [cr 10 (q0 n),cr 10 (q1 n),cr 10 (q2 n)] (cr 10 (q3 n)) false (by
  intro r hr;simp at hr;rcases hr with rfl|rfl|rfl|rfl
  ·exact a0.d
  ·exact a1.d
  ·exact a2.d
  ·exact a3.d) a3.l
 rw [<-jO]at this;simpa using this
theorem Dc(n:Nat)(hn:n<4294967296):aT (splitB 46 (bG (eZ n))) 4 0=((n:Int),true):=by
 have a0:=gU (q0 n) (by unfold q0;omega);have a1:=gU (q1 n) (by unfold q1;omega);have a2:=gU (q2 n) (by unfold q2;omega);have a3:=gU (q3 n) (by unfold q3;omega);have hs:=Db n hn;rw [hs,iT a0.o (by simp),if_neg (by rw [a0.v];unfold q0;omega),iT a1.o (by simp),if_neg (by rw [a1.v];unfold q1;omega),iT a2.o (by simp),if_neg (by rw [a2.v];unfold q2;omega),
  lI a3.o,if_neg (by rw [a3.v];unfold q3;simp;omega),a0.v,a1.v,a2.v,a3.v]
 congr 1;unfold q0 q1 q2 q3;simp;omega
section
def jn:List (List UInt8)->List UInt8
 |[]=>[]
 |p::ps=>if ps=[]then p else p++58::jn ps
theorem J4(n:Nat)(hn:n<4294967296):gT (eZ n)=true/\cj (eZ n)=(n:Int):=by
 have h:=Dc n hn;have hv:cj (eZ n)=(n:Int):=by unfold cj;rw [h]
 refine ⟨?_,hv⟩;unfold gT;rw [hv,h,Int.toNat_natCast];simp
theorem Dd(n:Nat):∃P Q,eZ n=P++46::Q/\ur P/\1<=P.length:=by
 refine ⟨cr 10 (q0 n),gr [cr 10 (q1 n),cr 10 (q2 n),cr 10 (q3 n)],?_,?_,sF (b:=10) (.inr (.inl rfl)) _⟩
 ·rw [jO]
  show gr (cr 10 (q0 n)::[cr 10 (q1 n),cr 10 (q2 n),cr 10 (q3 n)])=_;rw [gC _ (by simp)]
 ·intro b hb
  have ho:=pk (b:=10) (.inr (.inl rfl)) (q0 n);obtain ⟨i,hi,rfl⟩:=List.getElem_of_mem hb;have:=(iR 10 _ ho i hi).1;unfold ar at this;rw [List.getD_eq_getElem?_getD,List.getElem?_eq_getElem hi]at this;exact this
section
variable {l A:List UInt8} {acc:List Int} {gap:Int}
end
theorem MR(xs ys:List Int)(h:xs.length+ys.length<8):kB (xs++ys) xs.length=(xs++List.replicate (8-(xs.length+ys.length)) 0++ys,true):=by
 unfold kB;rw [if_neg (by omega),if_pos ⟨by omega,by simp;omega⟩];congr 1;unfold bY pad;have e1:(xs++ys++List.replicate (8-(xs++ys).length) 0).take xs.length=xs:=by rw [List.append_assoc,List.take_left]
 have e2:(xs++ys++List.replicate (8-(xs++ys).length) 0).take (xs++ys).length=xs++ys:=List.take_left;rw [Int.toNat_natCast,e1,e2,List.drop_left,List.length_append]
end
end Go.Proofs.YtmfapopclbnlpaaGreatDoor
