import Derived.IntWalk
import Derived.Test.YtmfapopclbnlpaaGreatDoorSt8
import Derived.Test.YtmfapopclbnlpaaGreatDoorSt10
import Derived.Test.YtmfapopclbnlpaaGreatDoorSt14
import Derived.Test.YtmfapopclbnlpaaGreatDoorSt16
set_option linter.unusedVariables false
set_option linter.unusedSimpArgs false
namespace Go.Proofs.YtmfapopclbnlpaaGreatDoor
open Go.RowKit
def dj(x:Int):Value:=.int .u16 x
def af:List UInt8→Nat
 |[]=>0
 |b::t=>if 0≤cT (b.toNat:Int)then af t+1 else 0
theorem tz:∀(l:List UInt8),af l≤l.length
 |[]=>Nat.le_refl _
 |b::t=>by unfold af;have:=tz t;split<;>simp<;>omega
theorem oH:∀(l:List UInt8) (i:Nat),i<l.length→0≤cT (aD l i)→i+af (l.drop i)=(i+1)+af (l.drop (i+1))
 |[],i,h,_=>by simp at h
 |b::t,0,_,h=>by
  rw [zo]at h
  simp only [List.drop_zero,List.drop_succ_cons]
  rw [af,if_pos h];omega
 |b::t,i+1,hi,h=>by
  rw [zp]at h
  have:=oH t i (by simpa using hi) h
  simp only [List.drop_succ_cons];omega
theorem oI:∀(l:List UInt8) (i:Nat),(i<l.length→cT (aD l i)<0)→af (l.drop i)=0
 |[],i,_=>by simp [af]
 |b::t,0,h=>by
  have:=h (by simp)
  rw [zo]at this
  rw [List.drop_zero,af,if_neg (by omega)]
 |b::t,i+1,h=>by
  rw [List.drop_succ_cons]
  exact oI t i (fun hi=>by have:=h (by simpa using hi);rwa [zp]at this)
def bY(l:List UInt8):Int:=l.foldl (fun v b=>v*16+cT (b.toNat:Int)) 0
theorem tC(l:List UInt8)(i:Nat)(h:i<l.length):bY (l.take (i+1))=bY (l.take i)*16+cT (aD l i):=by
 unfold bY
 rw [List.take_add_one,List.foldl_append]
 simp [aD,List.getD,List.getElem?_eq_getElem h]
theorem Bz(l:List UInt8)(h:∀i,i<l.length→0≤cT (aD l i)):∀i,i≤l.length→0≤bY (l.take i)∧bY (l.take i)<16^i
 |0,_=>by simp [bY]
 |i+1,hi=>by
  obtain ⟨a,b⟩:=Bz l h i (by omega)
  have c:=h i (by omega)
  have d:=pz (aD l i)
  rw [tC l i (by omega),Int.pow_succ]
  omega
def cu(l:List UInt8):Int:=(cp (splitB 46 (dB l)) 4 0).1
def kA(l:List UInt8):Bool:=(cp (splitB 46 (dB l)) 4 0).2&&(jS (cu l).toNat==l)
theorem tD:∀(ps:List (List UInt8)) (left:Nat) (sum:Int),1≤left→left≤4→0≤sum→sum<256^(4-left)→0≤(cp ps left sum).1∧(cp ps left sum).1<4294967296
 |[],left,sum,_,_,_,_=>by simp [cp]
 |p::ps,left,sum,h1,h4,h0,hs=>by
  obtain ⟨v0,v1⟩:=Bx p
  cases hb:eQ p with
  |false=>rw [tq hb];decide
  |true=>
   by_cases hp:ps=[]
   ·subst hp
    rw [tt hb]
    split
    ·decide
    ·rename_i hv
     have:left=1∨left=2∨left=3∨left=4:=by omega
     rcases this with rfl|rfl|rfl|rfl<;>simp at hv hs⊢<;>omega
   ·rw [xg hb hp]
    split
    ·decide
    ·rename_i hv
     refine tD ps (left-1) _ (by omega) (by omega) (by omega) ?_
     have:left=2∨left=3∨left=4:=by omega
     rcases this with rfl|rfl|rfl<;>simp at hv hs⊢<;>omega
theorem BA(l:List UInt8):0≤cu l∧cu l<4294967296:=tD _ 4 0 (by decide) (by decide) (by decide) (by decide)
def bN(p:List Int)(c g:Nat):List Int:=p.take g++List.replicate (8-c) 0++(p.take c).drop g
def pad(acc:List Int):List Int:=acc++List.replicate (8-acc.length) 0
theorem Ir {acc:List Int}(h:acc.length≤8):(pad acc).length=8:=by unfold pad;simp;omega
def ib:List Int×Bool:=(List.replicate 8 0,false)
def xh(acc:List Int)(we:Int):List Int×Bool:=
 if we<0∧acc.length=8 then(acc,true)else if 0≤we∧acc.length<8 then(bN (pad acc) acc.length we.toNat,true)else ib
def zI(l:List UInt8)(acc:List Int)(we:Int)(at':Nat):List Int×Bool:=
 if kA (l.drop at')=false∨6<acc.length then ib else xh (acc++[cu (l.drop at')/65536]++[cu (l.drop at') %65536]) we
def fR(l:List UInt8):Nat→List Int→Int→Nat→List Int×Bool
 |0,_,_,_=>ib
 |k+1,acc,we,at'=>
  if at'+af (l.drop at')<l.length∧aD l (at'+af (l.drop at'))=46 then zI l acc we at'
  else if acc.length=8∨af (l.drop at')=0∨4<af (l.drop at')then ib
  else if at'+af (l.drop at')=l.length then xh (acc++[bY ((l.take (at'+af (l.drop at'))).drop at')]) we
  else if aD l (at'+af (l.drop at'))≠58∨at'+af (l.drop at')+1=l.length then ib
  else if aD l (at'+af (l.drop at')+1)≠58 then fR l k (acc++[bY ((l.take (at'+af (l.drop at'))).drop at')]) we (at'+af (l.drop at')+1)
  else if 0≤we then ib
  else if at'+af (l.drop at')+1+1<l.length then fR l k (acc++[bY ((l.take (at'+af (l.drop at'))).drop at')]) (acc.length+1:Nat) (at'+af (l.drop at')+1+1)
  else xh (acc++[bY ((l.take (at'+af (l.drop at'))).drop at')]) (acc.length+1:Nat)
def il(l:List UInt8):List Int×Bool:=
 if Lib.hasPrefix l [58,58]=true then(if l.length=2 then xh [] 0 else fR l 9 [] 0 2)else fR l 9 [] (-1) 0
theorem Da(l:List UInt8)(acc:List Int)(we:Int)(i e:Nat)(hc:acc.length≤8)(he:i+af (l.drop i)=e):
 fR l (9-acc.length) acc we i=
  if e<l.length∧aD l e=46 then zI l acc we i
  else if acc.length=8∨e=i∨i+4<e then ib
  else if e=l.length then xh (acc++[bY ((l.take e).drop i)]) we
  else if aD l e≠58∨e+1=l.length then ib
  else if aD l (e+1)≠58 then fR l (9-(acc.length+1)) (acc++[bY ((l.take e).drop i)]) we (e+1)
  else if 0≤we then ib
  else if e+1+1<l.length then fR l (9-(acc.length+1)) (acc++[bY ((l.take e).drop i)]) (acc.length+1:Nat) (e+1+1)
  else xh (acc++[bY ((l.take e).drop i)]) (acc.length+1:Nat):=by
 obtain ⟨k,hk⟩:∃k,9-acc.length=k+1:=⟨8-acc.length,by omega⟩
 rw [hk,show 9-(acc.length+1)=k by omega,fR,he]
 have h1:(af (l.drop i)=0∨4<af (l.drop i))=(e=i∨i+4<e):=by rw [←he];apply propext;constructor<;>intro h<;>omega
 simp only [h1]
theorem qE:∀(l:List UInt8) (j:Nat),j<af l→0≤cT (aD l j)
 |[],j,h=>by simp [af]at h
 |b::t,0,h=>by
  unfold af at h
  split at h
  ·rw [zo];assumption
  ·omega
 |b::t,j+1,h=>by
  unfold af at h
  split at h
  ·rw [zp];exact qE t j (by omega)
  ·omega
theorem uX(l:List UInt8)(i e:Nat)(he:i+af (l.drop i)=e)(h4:e≤i+4):
 ((l.take e).drop i).length≤4∧∀j,j<((l.take e).drop i).length→0≤cT (aD ((l.take e).drop i) j):=by
 refine ⟨by simp;omega,fun j hj=>?_⟩
 have hj2:j<af (l.drop i):=by simp at hj;omega
 have:=qE (l.drop i) j hj2
 have e1:aD ((l.take e).drop i) j=aD (l.drop i) j:=by
  unfold aD
  congr 2
  simp only [List.getD]
  rw [List.getElem?_drop,List.getElem?_drop,List.getElem?_take,if_pos (by omega)]
 rw [e1];exact this
set_option maxHeartbeats 1000000 in
theorem zJ(l:List UInt8)(i:Nat)(w:World)(hm:l.length≤1000000)(hi:i≤l.length):
 Calls Tryz.prog 180 #[.string ⟨l.toArray⟩,.int .i64 i] w fun e w'=>e=.returned (.int .i64 ((i+af (l.drop i):Nat):Int))∧w=w':=by
 have HD:=Lib.hid (oH l)
 have HS:=Lib.hid (oI l)
 obtain ⟨R,hR⟩:∃R:Nat,i+af (l.drop i)=R:=⟨_,rfl⟩
 rw [hR]
 have HR:=Lib.hid hR
 clear hR
 go_enter Tryz.func180,Tryz.ntmps180
 go_wp2_with fail
 go_loopw [1] (fun t1 wr=>∃j:Nat,j≤l.length∧t1=.int .i64 j∧Hid (j+af (l.drop j)=R)∧wr=w) (fun t1 _=>l.length-(intOf t1).toNat)
 case atStart=>exact ⟨i,hi,rfl,HR,rfl⟩
 case round=>
  obtain ⟨j,hj,rfl,HI,rfl⟩:=hrel
  by_cases hlt:j<l.length
  ·have hltI:(j:Int)<(l.length:Int):=by omega
   have b0:=dE l j
   have b1:=dF l j
   obtain ⟨x0,x1⟩:=pz (aD l j)
   have HX:=Lib.hid (jg (aD l j) · b0 b1)
   have HDj:=Lib.hid (HD.out j hlt)
   have HSj:=Lib.hid (HS.out j)
   obtain ⟨x,hx⟩:∃x,cT (aD l j)=x:=⟨_,rfl⟩
   rw [hx]at x0 x1 HX HDj HSj
   clear hx
   by_cases h1:x<0
   ·have H1:Hid (R=j):=Lib.hid (by rw [←HI.out,HSj.out (fun _=>h1)];rfl)
    go_wp2_with fail
    refine (HX.out _).mono ?_
    rintro e w' ⟨rfl,rfl⟩
    go_wp2_with fail
    go_ret
    exact ⟨by rw [H1.out];rfl,by trivial⟩
   ·have H1:Hid ((j+1)+af (l.drop (j+1))=R):=Lib.hid (by rw [←HDj.out (by omega)];exact HI.out)
    go_wp2_with fail
    refine (HX.out _).mono ?_
    rintro e w' ⟨rfl,rfl⟩
    go_wp2_with fail
    exact ⟨⟨j+1,by omega,by go_num,H1,by trivial⟩,by simp [intOf];omega⟩
  ·have H1:Hid (R=j):=Lib.hid (by rw [←HI.out,HS.out j (fun h=>absurd h hlt)];rfl)
   obtain rfl:j=l.length:=by omega
   go_wp2_with fail
   go_ret
   exact ⟨by rw [H1.out];rfl,by trivial⟩
theorem wraps_u16(n:Int)(h0:0≤n)(h1:n<2^16):IntKind.u16.wrap n=n:=by
 simp [IntKind.wrap,IntKind.bits,IntKind.signed];omega
theorem It(x y:Int)(hx0:0≤x)(hx1:x<4096)(hy:0≤y)(h:y<16):bits .or .u16 (x*16) y=x*16+y:=
 bits_join .u16 16 (by decide) wraps_u16 4 _ _ (by omega) (by omega) (by omega) hy (by omega) (by omega)
theorem Fz {i:Nat}(h:i≤3):(16:Int)^i≤4096:=by
 have:i=0∨i=1∨i=2∨i=3:=by omega
 rcases this with rfl|rfl|rfl|rfl<;>decide
set_option maxHeartbeats 1000000 in
theorem Db(l:List UInt8)(w:World)(hm:l.length≤4)(hh:∀i,i<l.length→0≤cT (aD l i)):
 Calls Tryz.prog 181 #[.string ⟨l.toArray⟩] w fun e w'=>e=.returned (.int .u16 (bY l))∧w=w':=by
 have HT:=Lib.hid (tC l)
 have HB:=Lib.hid (Bz l hh)
 have HH:=Lib.hid hh
 clear hh
 go_enter Tryz.func181,Tryz.ntmps181
 go_wp2_with fail
 go_loopw [3,4,7] (fun tn t4 ti wr=>∃i:Nat,i≤l.length∧ti=.int .i64 i∧tn=.int .u16 (bY (l.take i))∧wr=w) (fun _ _ ti _=>l.length-(intOf ti).toNat)
 case atStart=>exact ⟨0,by omega,rfl,rfl,rfl⟩
 case round=>
  obtain ⟨i,hi,rfl,rfl,rfl⟩:=hrel
  by_cases hlt:i<l.length
  ·have hltI:(i:Int)<(l.length:Int):=by omega
   have b0:=dE l i
   have b1:=dF l i
   obtain ⟨x0,x1⟩:=pz (aD l i)
   have x2:=HH.out i hlt
   have HX:=Lib.hid (jg (aD l i) · b0 b1)
   have HTi:=Lib.hid (HT.out i hlt)
   obtain ⟨v0,v1⟩:=HB.out i hi
   have v2:=Fz (show i≤3 by omega)
   have v3:bY (l.take i)<4096:=by omega
   obtain ⟨x,hx⟩:∃x,cT (aD l i)=x:=⟨_,rfl⟩
   rw [hx]at x0 x1 x2 HX HTi
   clear hx
   obtain ⟨v,hv⟩:∃v,bY (l.take i)=v:=⟨_,rfl⟩
   rw [hv]at v0 v3 HTi
   rw [hv]
   clear hv v1 v2
   have hor:bits .or .u16 (v*16) x=v*16+x:=It v x v0 v3 x2 (by omega)
   go_wp2_with fail
   refine (HX.out _).mono ?_
   rintro e w' ⟨rfl,rfl⟩
   go_wp2_with fail
   exact ⟨⟨i+1,by omega,by go_num,by rw [HTi.out],by trivial⟩,by simp [intOf];omega⟩
  ·obtain rfl:i=l.length:=by omega
   rw [List.take_length]
   go_wp2_with fail
   go_ret
   exact ⟨by first|rfl|trivial,by trivial⟩
theorem BC(l:List Int):∀v∈l.map dj,v.oneCell'=true:=by
 intro v hv;obtain ⟨x,-,rfl⟩:=List.mem_map.1 hv;rfl
set_option maxRecDepth 100000 in
set_option maxHeartbeats 1000000 in
theorem zK(p:List Int)(c g:Nat)(w:World)(hp:p.length=8)(hg:g≤c)(hc:c≤7):
 Calls Tryz.prog 183 #[.agg (p.map dj).toArray,.int .i64 c,.int .i64 g] w fun e w'=>e=.returned (.agg ((bN p c g).map dj).toArray)∧Below w.heap.size w w':=by
 obtain ⟨cs,hcs⟩:∃cs,p.map dj=cs:=⟨_,rfl⟩
 have HCS:=Lib.hid hcs
 rw [hcs]
 clear hcs
 have hql:(bN p c g).length=8:=by unfold bN;simp;omega
 obtain ⟨q,hq⟩:∃q,bN p c g=q:=⟨_,rfl⟩
 have HQ:=Lib.hid hq
 rw [hq]at hql⊢
 clear hq
 go_enter Tryz.func183,Tryz.ntmps183
 go_wp2_with fail
 obtain ⟨W,hW⟩:∃W,((w.alloc (.cells cs.toArray 26)).alloc (.cells #[.int .u16 0,.int .u16 0,.int .u16 0,.int .u16 0,.int .u16 0,.int .u16 0,.int .u16 0,.int .u16 0] 26)).alloc (.cells #[.int .u16 0,.int .u16 0,.int .u16 0,.int .u16 0,.int .u16 0,.int .u16 0,.int .u16 0,.int .u16 0] 26)=W:=⟨_,rfl⟩
 have B0:Hid (gM W w.heap.size 26 cs):=Lib.hid (by rw [←hW];exact ((gM.new w _ cs).alloc _).alloc _)
 have B1:Hid (gM W (w.heap.size+1) 26 ((List.replicate 8 0).map dj)):=Lib.hid (by
  rw [←hW]
  have:=(gM.new (w.alloc (.cells cs.toArray 26)) 26 ((List.replicate 8 0).map dj)).alloc (.cells #[.int .u16 0,.int .u16 0,.int .u16 0,.int .u16 0,.int .u16 0,.int .u16 0,.int .u16 0,.int .u16 0] 26)
  rw [show(w.alloc (.cells cs.toArray 26)).heap.size=w.heap.size+1 from gw _ _]at this
  exact this)
 have B2:Hid (gM W (w.heap.size+1+1) 26 ((List.replicate 8 0).map dj)):=Lib.hid (by
  rw [←hW]
  have:=(gM.new ((w.alloc (.cells cs.toArray 26)).alloc (.cells #[.int .u16 0,.int .u16 0,.int .u16 0,.int .u16 0,.int .u16 0,.int .u16 0,.int .u16 0,.int .u16 0] 26)) 26 ((List.replicate 8 0).map dj))
  rw [show((w.alloc (.cells cs.toArray 26)).alloc (.cells #[.int .u16 0,.int .u16 0,.int .u16 0,.int .u16 0,.int .u16 0,.int .u16 0,.int .u16 0,.int .u16 0] 26)).heap.size=w.heap.size+1+1 by rw [gw,gw]]at this
  exact this)
 have BB:Hid (Below w.heap.size w W):=Lib.hid (by rw [←hW];exact ((((Below.refl _ _).alloc (Nat.le_refl _) _).alloc (by rw [gw];omega) _).alloc (by rw [gw,gw];omega) _))
 rw [hW]
 clear hW
 obtain ⟨b0,hb0⟩:∃b,w.heap.size=b:=⟨_,rfl⟩
 have HB0:=Lib.hid hb0
 rw [hb0]at B0 B1 B2 BB⊢
 clear hb0
 obtain ⟨b1,hb1⟩:∃b,b0+1=b:=⟨_,rfl⟩
 rw [hb1]at B1 B2⊢
 obtain ⟨b2,hb2⟩:∃b,b1+1=b:=⟨_,rfl⟩
 rw [hb2]at B2⊢
 have HN:Hid (b0<b1∧b1<b2):=Lib.hid (by omega)
 clear hb1 hb2
 have hc1:(Builtin.copy_ #[155,155] 3 #[.slice (some ⟨b2,0,none⟩) 8 8,.slice (some ⟨b0,0,none⟩) g 8]).run Tryz.prog W.drew=.ok (goInt g) (W.drew.setRow b2 (((p.take g++List.replicate (8-g) 0).map dj)).toArray):=by
  have hl:((p.take g).map dj).length=g:=by simp;omega
  have:=run_copy_row (P:=Tryz.prog) W.drew 155 155 3 25 b2 0 8 8 ⟨b0,0,none⟩ g 8 ((List.replicate 8 0).map dj).toArray 26 ((p.take g).map dj) (by first|exact Tryz.underlying155|kernel_rfl) (by kernel_rfl) (B2.out.drew 1) (by rw [hl];show g=min g 8;omega)
   (fun j v hj=>by
     rw [addr_add,show W.drew.cell? ⟨b0,j,none⟩=cs[j]?from(B0.out.drew 1).cell j,←HCS.out]
     have hjl:j<g:=by have:=(List.getElem?_eq_some_iff.1 hj).1;omega
     rw [←hj];simp [List.getElem?_take,hjl]) (by rw [hl];simp;omega) (BC _)
  rw [hl]at this
  rw [this]
  congr 2
  rw [List.map_append,List.map_replicate,List.map_replicate]
  simp only [List.take_zero,List.nil_append,List.drop_replicate,Nat.zero_add]
 obtain ⟨W2,hW2⟩:∃W2,W.drew.setRow b2 (((p.take g++List.replicate (8-g) 0).map dj)).toArray=W2:=⟨_,rfl⟩
 have D0:Hid (gM W2 b0 26 cs):=Lib.hid (by rw [←hW2];exact lk (B0.out.drew 1) _ (by have:=HN.out;omega))
 have D1:Hid (gM W2 b1 26 ((List.replicate 8 0).map dj)):=Lib.hid (by rw [←hW2];exact lk (B1.out.drew 1) _ (by have:=HN.out;omega))
 have D2:Hid (gM W2 b2 26 ((p.take g++List.replicate (8-g) 0).map dj)):=Lib.hid (by rw [←hW2];exact eD (B2.out.drew 1) _)
 have DB:Hid (Below b0 w W2):=Lib.hid (by rw [←hW2];exact gn (fQ BB.out 1) _ (by have:=HN.out;omega))
 rw [hW2]at hc1
 clear hW2
 have cg:(g:Int)≤8:=by omega
 go_region
 clear hc1
 have HF0:Hid (p.map dj=cs):=HCS
 by_cases hd:c=g
 ·subst hd
  have hc2:(Builtin.copy_ #[155,155] 3 #[.slice (some ⟨b2,0,none⟩) 0 0,.slice (some ⟨b0,c,none⟩) 0 (8-c)]).run Tryz.prog W2.drew=.ok (goInt 0) W2.drew:=
   run_copy_none (P:=Tryz.prog) W2.drew 155 155 3 25 _ _ 0 0 0 (8-c) (by first|exact Tryz.underlying155|kernel_rfl) (by kernel_rfl) (by rfl)
  have HS:Hid (bN p c c=p.take c++List.replicate (8-c) 0):=Lib.hid (by unfold bN;rw [List.drop_eq_nil_of_le (by simp;omega),List.append_nil])
  have D2n:=D2.out
  rw [←HS.out,HQ.out]at D2n
  go_wp2_with fail
  go_region
  clear hc2
  obtain ⟨W3,hW3⟩:∃W3,W2.drew=W3:=⟨_,rfl⟩
  have C2:gM W3 b2 26 (q.map dj):=by rw [←hW3];exact D2n.drew 1
  have C1:gM W3 b1 26 ((List.replicate 8 0).map dj):=by rw [←hW3];exact D1.out.drew 1
  have CB:=Lib.hid (show Below b0 w W3 by rw [←hW3];exact fQ DB.out 1)
  rw [hW3]
  clear hW3 D2n
  have HI:Hid ((Tryz.prog.info? 26).map (·.size)=some (q.map dj).length):=Lib.hid (by rw [List.length_map,hql];kernel_rfl)
  have HC2:=Lib.hid C2
  have HC1:=Lib.hid C1
  have HO:=Lib.hid (BC q)
  have HL:Hid (((List.replicate 8 (0:Int)).map dj).length=(q.map dj).length):=Lib.hid (by simp;exact hql.symm)
  have E1:=Lib.hid (eD C1 (q.map dj))
  have EB:=Lib.hid (gn CB.out (q.map dj).toArray (by have:=HN.out;omega:b0≤b1))
  clear C1 C2
  obtain ⟨vs,hvs⟩:∃vs,q.map dj=vs:=⟨_,rfl⟩
  rw [hvs]at HI HC2 HO HL E1 EB
  have HV:=Lib.hid hvs
  clear hvs
  go_wp2_with (first
   |(refine jR (by rfl) 26 _ rfl b2 vs rfl 8 25 (by first|exact Tryz.underlying26|kernel_rfl) HI.out HC2.out ?_)
   |(refine jv (by rfl) 26 _ _ rfl rfl b1 _ vs rfl rfl HI.out HC1.out HL.out HO.out ?_))
  refine bodyPost_ret (v:=.agg vs.toArray) ?_ rfl ⟨by rw [HV.out],by rw [HB0.out];exact EB.out⟩
  exact results_cell_row rfl _ _ b1 26 vs.toArray (0,0) _ (by rfl) E1.out (by first|exact Tryz.underlying26|kernel_rfl) rfl (by simpa using HI.out)
 ·obtain ⟨d,hd2⟩:∃d,c-g=d:=⟨_,rfl⟩
  obtain ⟨k,hk2⟩:∃k,8-d=k:=⟨_,rfl⟩
  have d1:(c:Int)-g=d:=by omega
  have d2:(8:Int)-d=k:=by omega
  have k1:(k:Int)≤8:=by omega
  have k2:(g:Int)≤c:=by omega
  have k3:(c:Int)≤8:=by omega
  have k4:k<8:=by omega
  have k5:g<8:=by omega
  have hc2:(Builtin.copy_ #[155,155] 3 #[.slice (some ⟨b2,k,none⟩) (8-k) (8-k),.slice (some ⟨b0,g,none⟩) d (8-g)]).run Tryz.prog W2.drew=.ok (goInt d) (W2.drew.setRow b2 ((bN p c g).map dj).toArray):=by
   have hl:(((p.take c).drop g).map dj).length=d:=by simp;omega
   have hbx:W2.drew.heap[b2]?=some (.cells ((p.take g++List.replicate (8-g) 0).map dj).toArray 26 (0,0)):=D2.out.drew 1
   have:=run_copy_row (P:=Tryz.prog) W2.drew 155 155 3 25 b2 k (8-k) (8-k) ⟨b0,g,none⟩ d (8-g) _ 26 (((p.take c).drop g).map dj) (by first|exact Tryz.underlying155|kernel_rfl) (by kernel_rfl) hbx (by rw [hl];show d=min d (8-k);omega)
    (fun j v hj=>by
      rw [mi,show W2.drew.cell? ⟨b0,g+j,none⟩=cs[g+j]?from(D0.out.drew 1).cell (g+j),←HCS.out]
      have hjl:j<d:=by have:=(List.getElem?_eq_some_iff.1 hj).1;omega
      rw [←hj];simp [List.getElem?_take,show g+j<c by omega]) (by rw [hl];simp;omega) (BC _)
   rw [hl]at this
   rw [this]
   congr 2
   unfold bN
   have e1:((p.take g++List.replicate (8-g) (0:Int)).map dj).take k=(p.take g++List.replicate (8-c) (0:Int)).map dj:=by
    rw [←List.map_take,List.take_append,List.take_of_length_le (by simp;omega),List.take_replicate]
    congr 3
    simp;omega
   have e2:((p.take g++List.replicate (8-g) (0:Int)).map dj).drop (k+d)=[]:=List.drop_eq_nil_of_le (by simp;omega)
   rw [List.toList_toArray,e1,e2,List.append_nil,←List.map_append]
  have HB:=Lib.hid (eD (D2.out.drew 1) ((bN p c g).map dj))
  rw [HQ.out]at hc2 HB
  go_wp2_with fail
  go_region
  clear hc2
  obtain ⟨W3,hW3⟩:∃W3,W2.drew.setRow b2 (q.map dj).toArray=W3:=⟨_,rfl⟩
  have C2:gM W3 b2 26 (q.map dj):=by rw [←hW3];exact HB.out
  have C1:gM W3 b1 26 ((List.replicate 8 0).map dj):=by rw [←hW3];exact lk (D1.out.drew 1) _ (by have:=HN.out;omega)
  have CB:=Lib.hid (show Below b0 w W3 by rw [←hW3];exact gn (fQ DB.out 1) _ (by have:=HN.out;omega))
  rw [hW3]
  clear hW3 HB
  have HI:Hid ((Tryz.prog.info? 26).map (·.size)=some (q.map dj).length):=Lib.hid (by rw [List.length_map,hql];kernel_rfl)
  have HC2:=Lib.hid C2
  have HC1:=Lib.hid C1
  have HO:=Lib.hid (BC q)
  have HL:Hid (((List.replicate 8 (0:Int)).map dj).length=(q.map dj).length):=Lib.hid (by simp;exact hql.symm)
  have E1:=Lib.hid (eD C1 (q.map dj))
  have EB:=Lib.hid (gn CB.out (q.map dj).toArray (by have:=HN.out;omega:b0≤b1))
  clear C1 C2
  obtain ⟨vs,hvs⟩:∃vs,q.map dj=vs:=⟨_,rfl⟩
  rw [hvs]at HI HC2 HO HL E1 EB
  have HV:=Lib.hid hvs
  clear hvs
  go_wp2_with (first
   |(refine jR (by rfl) 26 _ rfl b2 vs rfl 8 25 (by first|exact Tryz.underlying26|kernel_rfl) HI.out HC2.out ?_)
   |(refine jv (by rfl) 26 _ _ rfl rfl b1 _ vs rfl rfl HI.out HC1.out HL.out HO.out ?_))
  refine bodyPost_ret (v:=.agg vs.toArray) ?_ rfl ⟨by rw [HV.out],by rw [HB0.out];exact EB.out⟩
  exact results_cell_row rfl _ _ b1 26 vs.toArray (0,0) _ (by rfl) E1.out (by first|exact Tryz.underlying26|kernel_rfl) rfl (by simpa using HI.out)
theorem uY {a a':Int}{c c':Bool}(h1:a=a')(h3:c=c'):Ending.returned (.tuple #[.int .u32 a,.bool c])=.returned (.tuple #[.int .u32 a',.bool c']):=by rw [h1,h3]
set_option maxHeartbeats 1000000 in
theorem zL(l:List UInt8)(w:World)(hm:l.length≤1000000)(htab:JE w):
 Calls Tryz.prog 182 #[.string ⟨l.toArray⟩] w fun e w'=>e=.returned (.tuple #[.int .u32 (cu l),.bool (kA l)])∧Below w.heap.size w w':=by
 have HP:Hid (∀w,Calls Tryz.prog 176 #[.string ⟨l.toArray⟩] w fun e w'=>e=.returned (.tuple #[.int .u32 (cu l),.bool (cp (splitB 46 (dB l)) 4 0).2])∧Below w.heap.size w w'):=Lib.hid (fun w=>tu l w hm)
 obtain ⟨v0,v1⟩:=BA l
 have HT:=Lib.hid htab
 clear htab
 have HO:Hid (kA l=((cp (splitB 46 (dB l)) 4 0).2&&(jS (cu l).toNat==l))):=Lib.hid rfl
 obtain ⟨v,hv⟩:=Int.eq_ofNat_of_zero_le v0
 rw [hv]at HP HO v1⊢
 clear v0 hv
 have HS:Hid (∀w',Below w.heap.size w w'→Calls Tryz.prog 193 #[.int .u32 v] w' fun e w2=>e=.returned (.string ⟨(jS v).toArray⟩)∧Below w'.heap.size w' w2):=Lib.hid (fun w' hb=>Fy v w' (by omega) (HT.out.below hb))
 rw [show((v:Int)).toNat=v by omega]at HO
 obtain ⟨t,ht⟩:∃t,jS v=t:=⟨_,rfl⟩
 rw [ht]at HO HS
 clear ht
 cases hk:(cp (splitB 46 (dB l)) 4 0).2 with
 |false=>
  rw [hk]at HP HO
  clear hk
  go_enter Tryz.func182,Tryz.ntmps182
  go_wp2_with fail
  refine (HP.out _).mono ?_
  rintro e w1 ⟨rfl,hb1⟩
  have HB1:=Lib.hid hb1
  clear hb1
  go_wp2_with fail
  go_ret2
  exact ⟨uY rfl HO.out.symm,HB1.out⟩
 |true=>
  rw [hk]at HP HO
  clear hk
  cases ht:(t==l)with
  |false=>
   rw [ht]at HO
   go_enter Tryz.func182,Tryz.ntmps182
   go_wp2_with fail
   refine (HP.out _).mono ?_
   rintro e w1 ⟨rfl,hb1⟩
   have HB1:=Lib.hid hb1
   clear hb1
   go_wp2_with fail
   refine (HS.out _ HB1.out).mono ?_
   rintro e w2 ⟨rfl,hb2⟩
   have HB2:=Lib.hid (bI HB1.out hb2)
   clear hb2
   go_wp2_with fail
   go_ret2
   exact ⟨uY rfl HO.out.symm,HB2.out⟩
  |true=>
   rw [ht]at HO
   go_enter Tryz.func182,Tryz.ntmps182
   go_wp2_with fail
   refine (HP.out _).mono ?_
   rintro e w1 ⟨rfl,hb1⟩
   have HB1:=Lib.hid hb1
   clear hb1
   go_wp2_with fail
   refine (HS.out _ HB1.out).mono ?_
   rintro e w2 ⟨rfl,hb2⟩
   have HB2:=Lib.hid (bI HB1.out hb2)
   clear hb2
   go_wp2_with fail
   go_ret2
   exact ⟨uY rfl HO.out.symm,HB2.out⟩
end Go.Proofs.YtmfapopclbnlpaaGreatDoor
