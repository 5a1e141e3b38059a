import Derived.Test.YtmfapopclbnlpaaGreatDoorProg
import Derived.ProofKit
import Derived.Test.YtmfapopclbnlpaaGreatDoorHx5
import Derived.Test.YtmfapopclbnlpaaGreatDoorHx9
import Derived.Test.YtmfapopclbnlpaaGreatDoorHx17
import Derived.Test.YtmfapopclbnlpaaGreatDoorHx23
import Derived.Test.YtmfapopclbnlpaaGreatDoorHx24
set_option linter.unusedVariables false
set_option linter.unusedSimpArgs false
set_option maxRecDepth 100000
set_option maxHeartbeats 4000000
namespace Go.Proofs.YtmfapopclbnlpaaGreatDoor
open Go Go.Proofs Go.RowKit Go.Vc
section
def dD(l:Bs):H5:=if preB l [91]=true then eL (l.drop 1)else if jc l cL=true then ob 8 else if l=[]then(1,[],0,z8,0)else(5,qD l,0,z8,0)
def wC:cM:=bS [(78,dP),(74,nW),(161,og),(162,oe),(26,sU)]
def wD(l:Bs):aP:=fun i=>none
theorem yu:df Tryz.prog az wC:=ah dq (ah mF (ah qG (ah qF (ah AQ (ax)))))
theorem DJ(l:Bs)(k:PV->Prop):cD Tryz.prog wC az (wD l) 1000 Tryz.f136 [.str l,.bool false] k=(
 True/\
 (preB l (bL #[91])=true->
 ((1:Nat)<=List.length l/\List.length l<=1000000)/\
 k
 (PV.tup
 [PV.agg
 [PV.int .i64 (eL (List.drop 1 l)).1,
 PV.str (eL (List.drop 1 l)).2.1,
 PV.int .u32 (eL (List.drop 1 l)).2.2.1,
 PV.arr 8 (al.ints .u16 (eL (List.drop 1 l)).2.2.2.1)],
 PV.int .i64 (eL (List.drop 1 l)).2.2.2.2]))/\
 (preB l (bL #[91])=false->
 (false=true->
 (List.length l).le 1000000/\
 k
 (PV.tup
 [PV.agg
 [PV.int .i64
 (eF (br (bI l))).1,
 PV.str
 (eF
 (br (bI l))).2.1,
 PV.int .u32
 (eF
 (br (bI l))).2.2.1,
 PV.arr 8
 (al.ints .u16
 (eF
 (br (bI l))).2.2.2.1)],
 PV.int .i64
 (eF
 (br (bI l))).2.2.2.2]))/\
 (false=false->
 (List.length l<=1000000/\
 (bL #[0,9,10,13,32,35,47,58,60,62,63,64,91,92,93,94,124]).length<=
 (1000000:Nat)/\
 ∀(b:UInt8),
 b∈
 (bL #[0,9,10,13,32,35,47,58,60,62,63,64,91,92,93,94,124])->
 b.toNat<128)/\
 (jc l
 (bL #[0,9,10,13,32,35,47,58,60,62,63,64,91,92,93,94,124])=
 true->
 k
 (PV.tup
 [PV.agg
 [PV.int .i64 0,PV.str [],PV.int .u32 0,
 PV.arr 8 (al.ints .u16 (List.replicate (8:Nat) 0))],
 PV.int .i64 8]))/\
 (jc l
 (bL #[0,9,10,13,32,35,47,58,60,62,63,64,91,92,93,94,124])=
 false->
 (decide (l=(bL #[]))=true->
 k
 (PV.tup
 [PV.agg
 [PV.int .i64 1,PV.str [],PV.int .u32 0,
 PV.arr 8 (al.ints .u16 (List.replicate (8:Nat) 0))],
 PV.int .i64 0]))/\
 (decide (l=(bL #[]))=false->
 (List.length l).le 300000/\
 k
 (PV.tup
 [PV.agg
 [PV.int .i64 5,PV.str (qD l),
 PV.int .u32 0,
 PV.arr 8 (al.ints .u16 (List.replicate (8:Nat) 0))],
 PV.int .i64 0])))))):=by kernel_rfl
attribute [local irreducible] Go.Vc.cD
theorem DK(l:Bs):ae Tryz.prog az 136 [.str l,.bool false] ⟨l.length<=300000,.tup [.agg [.int .i64 (dD l).1,.str (dD l).2.1,.int .u32 (dD l).2.2.1,.arr 8 (.ints .u16 (dD l).2.2.2.1)],.int .i64 (dD l).2.2.2.2]⟩:=bR (by kernel_rfl) yu (H:=wD l) (fuel:=1000) Tryz.func136 (by kernel_rfl) fun hpre=>(DJ l _).mpr (by
 have e91:(bL #[91])=([91]:Bs):=rfl;rw [e91];refine ⟨trivial,fun h=>⟨⟨?_,by omega⟩,?_⟩,fun h=>⟨fun h=>(by cases h),fun _=>⟨⟨by omega,by decide,by decide⟩,fun h2=>?_,fun h2=>⟨fun h3=>?_,fun h3=>?_⟩⟩⟩⟩
 ·cases l with
  |nil=>cases h
  |cons b r=>rw [List.length_cons];omega
 ·have:dD l=eL (l.drop 1):=by unfold dD;rw [if_pos h]
  rw [this]
 ·have h2':jc l cL=true:=h2
  have:dD l=ob 8:=by unfold dD;rw [if_neg (by rw [h];decide),if_pos h2']
  rw [this];rfl
 ·have h2':jc l cL=false:=h2
  have h3':l=[]:=of_decide_eq_true h3;have:dD l=(1,[],0,z8,0):=by unfold dD;rw [if_neg (by rw [h];decide),if_neg (by rw [h2'];decide),if_pos h3']
  rw [this];rfl
 ·have h2':jc l cL=false:=h2
  have h3':¬l=[]:=of_decide_eq_false h3;have:dD l=(5,qD l,0,z8,0):=by unfold dD;rw [if_neg (by rw [h];decide),if_neg (by rw [h2'];decide),if_neg h3']
  rw [this];exact ⟨hpre,rfl⟩)
end
theorem A8 {l:Bs}{x:Int}(h0:0<=x)(h1:x<l.length):l.drop x.toNat=l.getD x.toNat 0::l.drop (x+1).toNat:=by
 have hs:(x+1).toNat=x.toNat+1:=by omega
 rw [hs,List.drop_eq_getElem_cons (by omega),List.getD_eq_getElem?_getD,List.getElem?_eq_getElem (by omega)];rfl
theorem wE {l:Bs}{x:Int}(h1:¬x<l.length):l.drop x.toNat=[]:=by rw [List.drop_eq_nil_iff];omega
structure RS where
 sc:Bs
 us:Bs
 pw:Bs
 hk:Int
 hs:Bs
 hn:Int
 hp:List Int
 port:Int
 Rl:Bool
 pn:Bool
 pl:List Bs
 hq:Bool
 q:Bs
 hf:Bool
 fg:Bs
 bare:Bool
 sp:Bool
 I:Bs
@[match_pattern] abbrev bW (m:Nat) (sc us pw:Bs) (hk:Int) (hs:Bs) (hn:Int) (hp:List Int) (port:Int) (Rl pn:Bool) (pl:List Bs) (hq:Bool) (q:Bs) (hf:Bool) (fg:Bs):PV:=.agg [.str sc,.str us,.str pw,.agg [.int .i64 hk,.str hs,.int .u32 hn,.arr 8 (.ints .u16 hp)],.int .i64 port,.bool Rl,.row pn (.strs pl) m,.bool hq,.str q,.bool hf,.str fg]
@[match_pattern] abbrev aE (m:Nat) (B:PV) (sc us pw:Bs) (hk:Int) (hs:Bs) (hn:Int) (hp:List Int) (port:Int) (Rl pn:Bool) (pl:List Bs) (hq:Bool) (q:Bs) (hf:Bool) (fg:Bs) (bare sp:Bool) (I:Bs):PV:=.agg [.agg [.str sc,.str us,.str pw,.agg [.int .i64 hk,.str hs,.int .u32 hn,.arr 8 (.ints .u16 hp)],.int .i64 port,.bool Rl,.row pn (.strs pl) m,.bool hq,.str q,.bool hf,.str fg],B,.bool bare,.bool sp,.str I]
def aB(sp:Bool)(I:Bs)(z:Int):Bool:=decide (z<ai I)&&(decide (ag I z=47)||sp&&decide (ag I z=92))
theorem yv {sp:Bool}{I:Bs}{z:Int}(h:aB sp I z=true):z<ai I:=by by_cases g:z<ai I;exact g;simp [aB,g]at h
def cn:Nat->Bool->Int->Bs->Bs
 |0,_,_,l=>l
 |f+1,sp,n,l=>if aB sp l 0=true/\(sp=true\/n<2)then cn f sp (n+1) (aa l 1)else l
theorem wF {l:Bs}(h:0<l.length):(aa l 1).length+1=l.length:=by unfold aa;simp;omega
theorem A9 {sp:Bool}{l:Bs}(h:aB sp l 0=true):0<l.length:=by have:=yv h;unfold ai at this;omega
theorem Ba {sp:Bool}{n:Int}{l:Bs}(h:aB sp l 0=true/\(sp=true\/n<2)):cn l.length sp n l=cn (aa l 1).length sp (n+1) (aa l 1):=by
 rw [<-wF (A9 h.1)];show(if _ then _ else _)=_
 rw [if_pos h]
theorem FF {sp:Bool}{n:Int}{l:Bs}(h:¬(aB sp l 0=true/\(sp=true\/n<2))):cn l.length sp n l=l:=by
 cases l with
 |nil=>rfl
 |cons b l=>
  show(if _ then _ else _)=_
  rw [if_neg h]
def ck(l:Bs):Bool:=decide (l=[])||(decide (ag l 0=63)||decide (ag l 0=35))
def fP(sp:Bool):Bs:=if sp=true then [47,92]else [47]
def aj(sp:Bool)(l:Bs):Nat:=bo l (fP sp++[63,35])
def aI(l:Bs):Nat:=bo l [63,35]
def Bb(l:Bs):Nat:=bo l [35]
def RS.shl(r:RS):RS:={r with I:=if aB r.sp r.I 0=true then aa r.I 1 else r.I}
def RS.skip(r:RS):RS:={r with I:=cn r.I.length r.sp 0 r.I}
def RS.cut(r:RS)(z:Int):RS:={r with I:=aa r.I z}
def kC:Bool->Int->Bs->Int
 |_,_,[]=>-1
 |w,i,b::l=>if b.toNat=91 then kC true (i+1) l else if b.toNat=93 then kC false (i+1) l else if b.toNat=58/\w=false then i else kC w (i+1) l
def bl(l:Bs):Int:=kC false 0 l
def jU:Int->Bs->Option Int
 |n,[]=>some n
 |n,b::l=>if 48<=b.toNat/\b.toNat<=57 then jU (min (n*10+(b.toNat-48)) 65536) l else none
def eV(sc:Bs)(port:Int)(s:Bs):Int×Int:=match s with
 |[]=>(port,0)
 |s=>match jU 0 s with
  |none=>(port,8)
  |some n=>if 65535<n then(port,8)else if bK sc=true/\MW sc=n then(port,0)else(n,0)
def aG(sp:Bool)(l:Bs):H5:=if sp=true then b5 l else dD l
def RS.cd(r:RS)(s:Bs):RS×Int:=
 if bl s=0\/(s=[]/\r.sp=true)then(r,8)else
 let name:=if 0<bl s then ab s (bl s)else s
 let pt:=if 0<bl s then aa s (bl s+1)else []
 let h:=aG r.sp name
 let r1:RS:={r with hk:=h.1,hs:=h.2.1,hn:=h.2.2.1,hp:=h.2.2.2.1}
 if h.2.2.2.2=0 then({r1 with port:=(eV r.sc r.port pt).1},(eV r.sc r.port pt).2)else(r1,h.2.2.2.2)
def RS.bg(r:RS):RS×Int:=
 let s:=ab r.I (aj r.sp r.I)
 let r1:=r.cut (aj r.sp r.I)
 if 0<=aK s 64 then
  let r2:RS:={r1 with us:=bz 5 (eg (ab s (aK s 64)) 58),pw:=bz 5 (eO (ab s (aK s 64)) 58)}
  if aa s (aK s 64+1)=[]then(r2,8)else r2.cd (aa s (aK s 64+1))
 else r1.cd s
def Qk:Bs:=[108,111,99,97,108,104,111,115,116]
def RS.ay(r:RS):RS×Int:=
 let s:=ab r.I (aj r.sp r.I)
 let r1:=r.cut (aj r.sp r.I)
 if s=[]then(r1,0)else
 let h:=b5 s
 if h.1=2/\h.2.1=Qk then(r1,h.2.2.2.2)else({r1 with hk:=h.1,hs:=h.2.1,hn:=h.2.2.1,hp:=h.2.2.2.1},h.2.2.2.2)
abbrev Pa:=Bool×List Bs
def cu(sc:Bs)(p:Pa):Pa:=if p.2=[]\/(p.2.length=1/\sc=fL/\pg (p.2.getD 0 [])=true)then p else(p.1,p.2.take (p.2.length-1))
def DL(p:Pa)(last:Bool):Pa:=if last=true then(false,p.2++[[]])else p
def dr(sc:Bs)(p:Pa)(s:Bs)(last:Bool):Pa:=
 if nP s=true then DL (cu sc p) last
 else if nO s=true then DL p last
 else if sc=fL/\p.2=[]/\cc s=true then(false,p.2++[ab s 1++[58]])
 else(false,p.2++[bz 4 s])
def wG(sc:Bs)(m:Bs):Nat->Bs->Pa->Pa
 |0,_,p=>p
 |f+1,s,p=>if bo s m=s.length then dr sc p s true else wG sc m f (s.drop (bo s m+1)) (dr sc p (s.take (bo s m)) false)
theorem s8(sc m:Bs):∀(f g:Nat) (s:Bs) (p:Pa),s.length<f->s.length<g->wG sc m f s p=wG sc m g s p
 |0,_,_,_,h,_=>by omega
 |_,0,_,_,_,h=>by omega
 |f+1,g+1,s,p,h,h'=>by
  unfold wG;by_cases e:bo s m=s.length
  ·rw [if_pos e,if_pos e]
  ·rw [if_neg e,if_neg e]
   have hl:=gJ s m;exact s8 sc m f g _ _ (by rw [List.length_drop];omega) (by rw [List.length_drop];omega)
@[irreducible] def qH (sc m s:Bs) (p:Pa):Pa:=wG sc m (s.length+1) s p
theorem DM(sc m s:Bs)(p:Pa):qH sc m s p=if bo s m=s.length then dr sc p s true else qH sc m (s.drop (bo s m+1)) (dr sc p (s.take (bo s m)) false):=by
 unfold qH;rw [wG];by_cases e:bo s m=s.length
 ·rw [if_pos e,if_pos e]
 ·rw [if_neg e,if_neg e]
  have hl:=gJ s m;exact s8 sc m _ _ _ _ (by rw [List.length_drop];omega) (by rw [List.length_drop];omega)
def bQ(sp:Bool)(sc:Bs)(s:Bs)(p:Pa):Pa:=qH sc (fP sp) s p
def RS.path(r:RS):RS:={r with
 pn:=(bQ r.sp r.sc (ab r.I (aI r.I)) (r.pn,r.pl)).1
 pl:=(bQ r.sp r.sc (ab r.I (aI r.I)) (r.pn,r.pl)).2
 I:=aa r.I (aI r.I)}
def QO:Bs:=[37,50,48]
def pH(s rest:Bs):Bs:=if rest≠[]/\0<s.length/\ag s (s.length-1)=32 then bz 0 (ab s (s.length-1))++QO else bz 0 s
def RS.rH(r:RS):RS:={r with Rl:=true,pn:=false,pl:=[pH (ab r.I (aI r.I)) (aa r.I (aI r.I))],I:=aa r.I (aI r.I)}
def RS.query(r:RS):RS:=if preB r.I [63]=true then
    {r with hq:=true,q:=bz (if r.sp=true then 3 else 2) (ab (aa r.I 1) (Bb (aa r.I 1))),I:=aa (aa r.I 1) (Bb (aa r.I 1))}
 else r
def RS.Py(r:RS):RS:=if preB r.I [35]=true then {r with hf:=true,fg:=bz 1 (aa r.I 1),I:=aa r.I 1}else r
def RS.tail(r:RS):RS:=r.query.Py
def RS.iz(r:RS):RS×Int:=if(ak r.I r.I 0).2.2=true then
    ({r with I:=(ak r.I r.I 0).2.1,bare:=false,sc:=(ak r.I r.I 0).1,sp:=bK (ak r.I r.I 0).1},0)
 else(r,8)
def RS.bj(r:RS):RS×Int:=
 let r1:RS:={r with hk:=1}
 if aB r.sp r.I 0=true/\aB r.sp r.I 1=true then
  let r2:=r1.cut 2
  if cc (ab r2.I (aj r2.sp r2.I))=true then(r2.path,0)
  else if r2.ay.2=0 then(r2.ay.1.shl.path,0)else r2.ay
 else(r1.shl.path,0)
def RS.cp(r:RS):RS×Int:=if r.bg.2=0 then
    (if r.bg.1.sp=false/\ck r.bg.1.I=true then(r.bg.1.tail,0)else(r.bg.1.shl.path.tail,0))
 else r.bg
def RS.ao(r:RS):RS×Int:=if r.iz.2=0 then
    let r1:=r.iz.1
    if r1.sc=fL then(if r1.bj.2=0 then(r1.bj.1.tail,0)else r1.bj)
    else if r1.sp=true then r1.skip.cp
    else if preB r1.I [47,47]=true then(r1.cut 2).cp
    else if preB r1.I [47]=true then((r1.cut 1).path.tail,0)
    else(r1.rH.tail,0)
 else r.iz
theorem K6 {m xs:Bs}{y:UInt8}{zs:Bs}(h:∀b∈xs,m.contains b=false)(hy:m.contains y=true):bo (xs++y::zs) m=xs.length:=by
 unfold bo
 induction xs with
 |nil=>rw [List.nil_append,List.findIdx_cons,hy];rfl
 |cons x xs ih=>
  rw [List.cons_append,List.findIdx_cons,h x (List.mem_cons_self ..),ih (fun b hb=>h b (List.mem_cons_of_mem _ hb))];rfl
theorem H7(xs ys:Bs):ab (xs++ys) (xs.length:Int)=xs:=by unfold ab;rw [Int.toNat_natCast];simp
theorem H9(xs ys:Bs):aa (xs++ys) (xs.length:Int)=ys:=by unfold aa;rw [Int.toNat_natCast];simp
theorem K7 {l:Bs}{c:Int}(h:∀b∈l,(b.toNat:Int)≠c):¬0<=aK l c:=by
 rw [sW];rcases Lib.lastIndexByte_spec ⟨l.toArray⟩ c with⟨h1,-⟩|⟨i,h1,-,h3,-⟩
 ·rw [h1];decide
 ·exfalso
  have hi:i<l.length:=by simpa [ByteArray.size]using h1
  refine h l[i] (List.getElem_mem _) ?_;rw [<-h3];simp [getElem!_def,hi]
theorem FG(l:Bs):∀(p r:Bs) (i:Nat),(∀b∈p,x4 b=true)->ak l (p++r) i=ak l r (i+p.length)
 |[],r,i,_=>rfl
 |b::p,r,i,h=>by
  show(if x4 b=true then ak l (p++r) (i+1)else _)=_
  rw [if_pos (h b (List.mem_cons_self ..)),FG l p r (i+1) (fun c hc=>h c (List.mem_cons_of_mem _ hc))];congr 1;simp;omega
theorem oh {p r:Bs}(hp:p≠[])(h:∀b∈p,x4 b=true):ak (p++58::r) (p++58::r) 0=(br p,r,true):=by
 rw [FG _ p (58::r) 0 h];have h0:¬(0+p.length=0):=by simpa using hp
 show(if x4 58=true then _ else if 0+p.length=0 then _ else if(58:UInt8).toNat=58 then _ else _)=_
 rw [if_neg (by decide),if_neg h0];show(br ((p++58::r).take (0+p.length)),(p++58::r).drop (0+p.length+1),true)=_;rw [Nat.zero_add,List.take_left,<-List.drop_drop,List.drop_left];rfl
theorem FH {sp:Bool}{n:Int}(b:UInt8)(l:Bs)(hb:b=47\/(sp=true/\b=92))(hn:sp=true\/n<2):cn (b::l).length sp n (b::l)=cn l.length sp (n+1) l:=by
 have:aB sp (b::l) 0=true:=by
  unfold aB;rw [decide_eq_true (show(0:Int)<ai (b::l) by unfold ai;rw [List.length_cons];omega)];rcases hb with rfl|⟨h1,rfl⟩
  ·rfl
  ·rw [h1];rfl
 rw [Ba ⟨this,hn⟩];rfl
theorem Ia {sp:Bool}{n:Int}{l:Bs}(h:aB sp l 0=false):cn l.length sp n l=l:=FF (by rw [h];simp)
def pI(b:UInt8):Bool:=decide (b.toNat<=32)
def kn(b:UInt8):Bool:=decide (b=9\/b=10\/b=13)
def dZ(l:Bs):Bs:=l.dropWhile pI
def dt(l:Bs):Bs:=(l.reverse.dropWhile pI).reverse
def an(l:Bs):Bs:=(dt (dZ (aF l))).filter (fun b=>!kn b)
def RS.init(l:Bs):RS:=⟨[],[],[],0,[],0,z8,-1,false,true,[],false,[],false,[],false,false,l⟩
def Ql:RS:={RS.init []with port:=0}
def Pz(p:RS×Int):RS×Int:=if p.2=0 then p else(Ql,p.2)
def bV(l:Bs):RS×Int:=Pz (RS.init (an l)).ao
theorem uF {l p r:Bs}(hl:l=p++58::r)(hp:p≠[])(h:∀b∈p,x4 b=true)(hf:br p≠fL)(hs:bK (br p)=true):
 (RS.init l).ao=({RS.init r with sc:=br p,sp:=true,bare:=false}:RS).skip.cp:=by
 subst hl;unfold RS.ao;have e:(RS.init (p++58::r)).iz=({RS.init r with sc:=br p,sp:=true,bare:=false},0):=by
  unfold RS.iz;show(if(ak (p++58::r) (p++58::r) 0).2.2=true then _ else _)=_
  rw [show ak (RS.init (p++58::r)).I (RS.init (p++58::r)).I 0=(br p,r,true)from oh hp h,oh hp h,if_pos rfl,hs];rfl
 rw [e,if_pos rfl];dsimp only;rw [if_neg hf,if_pos rfl]
theorem Bc {l p r:Bs}(hl:l=p++58::47::47::r)(hp:p≠[])(h:∀b∈p,x4 b=true)(hs:bK (br p)=false):
 (RS.init l).ao=({RS.init r with sc:=br p,sp:=false,bare:=false}:RS).cp:=by
 subst hl;unfold RS.ao;have e:(RS.init (p++58::47::47::r)).iz=({RS.init (47::47::r)with sc:=br p,sp:=false,bare:=false},0):=by
  unfold RS.iz;show(if(ak (p++58::47::47::r) (p++58::47::47::r) 0).2.2=true then _ else _)=_
  rw [show ak (RS.init (p++58::47::47::r)).I (RS.init (p++58::47::47::r)).I 0=(br p,47::47::r,true)from oh hp h,oh hp h,if_pos rfl,hs];rfl
 have hf:br p≠fL:=fun e=>by rw [e]at hs;revert hs;decide
 rw [e,if_pos rfl];dsimp only;rw [if_neg hf,if_neg (by decide),if_pos (by rfl)];rfl
section
theorem s9(l:Bs):(aF l).length<=4*l.length:=by
 have a:=(nJ (dv l)).2;have b:=kR _ l (Nat.le_refl _);unfold aF;omega
theorem tb {b:UInt8}{r:Bs}(h:b.toNat<=32):dZ (b::r)=dZ r:=by
 unfold dZ;rw [List.dropWhile_cons_of_pos];unfold pI;exact decide_eq_true h
theorem te {b:UInt8}{r:Bs}(h:¬b.toNat<=32):dZ (b::r)=b::r:=by
 unfold dZ;rw [List.dropWhile_cons_of_neg];unfold pI;rw [decide_eq_true_iff];exact h
theorem DN {b:UInt8}{r:Bs}(h:b.toNat<=32):dt (r++[b])=dt r:=by
 have:=tb (r:=r.reverse) h;unfold dZ at this;unfold dt;rw [List.reverse_append];show(List.dropWhile pI (b::r.reverse)).reverse=_;rw [this]
theorem DO {b:UInt8}{r:Bs}(h:¬b.toNat<=32):dt (r++[b])=r++[b]:=by
 have:=te (r:=r.reverse) h;unfold dZ at this;unfold dt;rw [List.reverse_append];show(List.dropWhile pI (b::r.reverse)).reverse=_;rw [this];simp
theorem K8 {y m:Bs}(h:jc y m=false):∀b∈y,m.contains b=false:=by
 have h1:¬0<=Lib.indexAny y m:=of_decide_eq_false h;have h2:=((DC m y).2 h1).2;unfold bo at h2;exact List.findIdx_eq_length.1 h2
theorem PA(c:UInt8):(bif bif !decide ((c.toNat:Int)=9)then !decide ((c.toNat:Int)=10)else false then !decide ((c.toNat:Int)=13)else false)=!kn c:=by
 have e:∀(d:UInt8),decide ((c.toNat:Int)=(d.toNat:Int))=decide (c=d):=fun d=>by
  rw [decide_eq_decide];exact ⟨fun h=>UInt8.toNat_inj.1 (by omega),fun h=>by rw [h]⟩
 have e9:=e 9;have e10:=e 10;have e13:=e 13;rw [show(((9:UInt8).toNat:Nat):Int)=9 from rfl]at e9;rw [show(((10:UInt8).toNat:Nat):Int)=10 from rfl]at e10;rw [show(((13:UInt8).toNat:Nat):Int)=13 from rfl]at e13;rw [e9,e10,e13];unfold kn;by_cases h9:c=9<;>by_cases h10:c=10<;>by_cases h13:c=13<;>simp [h9,h10,h13]
theorem Bd(y:Bs)(i:Int)(h0:0<=i)(h1:i<y.length):(y.take (i+1).toNat).filter (fun c=>!kn c)=(y.take i.toNat).filter (fun c=>!kn c)++(if kn (y.getD i.toNat 0)=true then []else [y.getD i.toNat 0]):=by
 have hs:(i+1).toNat=i.toNat+1:=by omega
 rw [hs,List.take_add_one,List.getElem?_eq_getElem (by omega),List.filter_append,List.getD_eq_getElem?_getD,List.getElem?_eq_getElem (by omega)];congr 1;show List.filter _ [y[i.toNat]'(by omega)]=_;rw [List.filter_cons,List.filter_nil];show(if(!kn (y[i.toNat]'(by omega)))=true then _ else _)=(if kn (y[i.toNat]'(by omega))=true then _ else _)
 cases kn (y[i.toNat]'(by omega))<;>rfl
def FI:cM:=bS [(41,pD),(74,nW)]
def FJ(l:Bs):aP:=fun i=>bif Nat.beq i 2 then some ⟨(Bs),(fun s x=>((s.put 0 (.str x)).put 14 .undef)),(fun s=>s.str 0),(fun s x=>let y:=x;y.length<=300000/\dZ y=dZ (aF l)),(fun s x=>let y:=x;y.length),[14]⟩else bif Nat.beq i 4 then some ⟨(Bs),(fun s x=>((s.put 0 (.str x)).put 26 .undef)),(fun s=>s.str 0),(fun s x=>let y:=x;y.length<=300000/\dt y=dt (dZ (aF l))),(fun s x=>let y:=x;y.length),[26]⟩else bif Nat.beq i 10 then some ⟨(Int)×(Bool×Bs),(fun s x=>((((((s.put 41 (.int .i64 x.1)).row s 3 x.2.1 (.bytes x.2.2)).put 4 .undef).put 5 .undef).put 42 .undef).put 56 .undef)),(fun s=>(s.int 41,(s.nil 3,s.bytes 3))),(fun s x=>let i:=x.1;let b:=x.2;0<=i/\i<=(s.str 0).length/\b.1=false/\b.2=((s.str 0).take i.toNat).filter (fun c=>!kn c)),(fun s x=>let i:=x.1;let b:=x.2;(((s.str 0).length:Int)-i).toNat),[4,5,42,56]⟩else none
theorem DP:df Tryz.prog az FI:=ah yn (ah mF ax)
theorem K9(l:Bs)(k:PV->Prop):cD Tryz.prog FI az (FJ l) 1000 Tryz.f46 [.str l] k=(
 (List.length l).le 1000000/\
 eK (VS.mk []
 [(0,PV.str (aF l)),(2,PV.str (bL #[])),
 uZ 3,uZ 4,uZ 5,uZ 14,uZ 26,
 uZ 34,uZ 40,uZ 41,uZ 42,uZ 56]
 [])/\
 ((aF l).length<=300000/\
 dZ (aF l)=
 dZ (aF l))/\
 ∀(x:List UInt8),
 x.length<=300000/\
 dZ x=dZ (aF l)->
 ((!decide (x=(bL #[])))=true->within (0:Int) (ai x))/\
 ((bif !decide (x=(bL #[]))then decide (ag x 0<=32)else false)=true->
 upto 1 (ai x) (ai x)/\
 eK (VS.mk []
 [(0,PV.str (aa x 1)),(2,PV.str (bL #[])),
 uZ 3,uZ 4,uZ 5,uZ 14,
 uZ 26,uZ 34,uZ 40,uZ 41,
 uZ 42,uZ 56]
 [])/\
 ((aa x 1).length<=300000/\
 dZ (aa x 1)=
 dZ (aF l))/\
 (aa x 1).length<x.length)/\
 ((bif !decide (x=(bL #[]))then decide (ag x 0<=32)else false)=false->
 eK (VS.mk []
 [(0,PV.str x),(2,PV.str (bL #[])),uZ 3,
 uZ 4,uZ 5,
 ((14:Nat),
 PV.bool (bif !decide (x=(bL #[]))then decide (ag x 0<=32)else false)),
 uZ 26,uZ 34,uZ 40,uZ 41,
 uZ 42,uZ 56]
 [])/\
 (x.length<=300000/\
 dt x=
 dt (dZ (aF l)))/\
 ∀(x_1:List UInt8),
 x_1.length<=300000/\
 dt x_1=
 dt
 (dZ (aF l))->
 ((!decide (x_1=(bL #[])))=true->av (ai x_1-1))/\
 ((!decide (x_1=(bL #[])))=true->within (ai x_1-1) (ai x_1))/\
 ((bif !decide (x_1=(bL #[]))then decide (ag x_1 (ai x_1-1)<=32)
 else false)=
 true->
 av (ai x_1-1)/\
 upto 0 (ai x_1-1) (ai x_1)/\
 eK (VS.mk []
 [(0,PV.str (ab x_1 (ai x_1-1))),
 (2,PV.str (bL #[])),uZ 3,uZ 4,
 uZ 5,
 ((14:Nat),
 PV.bool
 (bif !decide (x=(bL #[]))then decide (ag x 0<=32)
 else false)),
 uZ 26,uZ 34,uZ 40,
 uZ 41,uZ 42,uZ 56]
 [])/\
 ((ab x_1 (ai x_1-1)).length<=300000/\
 dt (ab x_1 (ai x_1-1))=
 dt
 (dZ (aF l)))/\
 (ab x_1 (ai x_1-1)).length<x_1.length)/\
 ((bif !decide (x_1=(bL #[]))then decide (ag x_1 (ai x_1-1)<=32)
 else false)=
 false->
 (x_1.length<=1000000/\
 (bL #[9,10,13]).length<=1000000/\
 ∀(b:UInt8),b∈(bL #[9,10,13])->b.toNat<128)/\
 ((!jc x_1 (bL #[9,10,13]))=
 true->
 k (PV.str x_1))/\
 ((!jc x_1 (bL #[9,10,13]))=
 false->
 ((0:Int)<=0/\(0:Int)<=ai x_1/\ai x_1<=cN)/\
 VS.mk []
 [(0,PV.str x_1),(2,PV.str (bL #[])),
 (3,
 PV.row false (al.bytes (List.replicate (Int.toNat (0:Int)) (0:UInt8)))
 70),
 uZ 4,uZ 5,
 ((14:Nat),
 PV.bool
 (bif !decide (x=(bL #[]))then decide (ag x 0<=32)
 else false)),
 ((26:Nat),
 PV.bool
 (bif !decide (x_1=(bL #[]))then
 decide (ag x_1 (ai x_1-1)<=32)
 else false)),
 (34,
 PV.bool
 !jc x_1
 (bL #[9,10,13])),
 (40,PV.int .i64 (ai x_1)),(41,PV.int .i64 0),
 uZ 42,uZ 56]
 []=
 VS.mk []
 [(0,PV.str x_1),(2,PV.str (bL #[])),
 ((3:Nat),
 PV.row false (al.bytes (List.replicate (Int.toNat (0:Int)) (0:UInt8)))
 70),
 uZ 4,uZ 5,
 ((14:Nat),
 PV.bool
 (bif !decide (x=(bL #[]))then decide (ag x 0<=32)
 else false)),
 ((26:Nat),
 PV.bool
 (bif !decide (x_1=(bL #[]))then
 decide (ag x_1 (ai x_1-1)<=32)
 else false)),
 (34,
 PV.bool
 !jc x_1
 (bL #[9,10,13])),
 (40,PV.int .i64 (ai x_1)),(41,PV.int .i64 0),
 uZ 42,uZ 56]
 []/\
 ((0:Int)<=0/\
 (0:Int)<=↑x_1.length/\
 false=false/\
 List.replicate (Int.toNat (0:Int)) (0:UInt8)=
 List.filter (fun(c:UInt8)↦!kn c)
 (List.take (Int.toNat (0:Int)) x_1))/\
 ∀(x_2:Int×Bool×Bs),
 (0:Int)<=x_2.1/\
 x_2.1<=↑x_1.length/\
 x_2.2.1=false/\
 x_2.2.2=
 List.filter (fun(c:UInt8)↦!kn c)
 (List.take x_2.1.toNat x_1)->
 (decide (x_2.1<ai x_1)=true->
 within x_2.1 (ai x_1)/\
 ((bif
 bif !decide (ag x_1 x_2.1=9)then
 !decide (ag x_1 x_2.1=10)
 else false then
 !decide (ag x_1 x_2.1=13)
 else false)=
 true->
 jz [PV.int .u8 (ag x_1 x_2.1)]/\
 Int.ofNat (List.length (x_2.2.2++[b4 (ag x_1 x_2.1)]))<=cN/\
 av (x_2.1+1)/\
 eK (VS.mk []
 [(0,PV.str x_1),(2,PV.str (bL #[])),
 ((3:Nat),
 PV.row false
 (al.bytes (x_2.2.2++[b4 (ag x_1 x_2.1)]))
 70),
 uZ 4,uZ 5,
 ((14:Nat),
 PV.bool
 (bif !decide (x=(bL #[]))then
 decide (ag x 0<=32)
 else false)),
 ((26:Nat),
 PV.bool
 (bif !decide (x_1=(bL #[]))then
 decide (ag x_1 (ai x_1-1)<=32)
 else false)),
 (34,
 PV.bool
 !jc x_1
 (bL #[9,10,13])),
 (40,PV.int .i64 (ai x_1)),
 (41,PV.int .i64 (x_2.1+1)),
 uZ 42,uZ 56]
 [])/\
 ((0:Int)<=x_2.1+1/\
 x_2.1+1<=↑x_1.length/\
 false=false/\
 x_2.2.2++[b4 (ag x_1 x_2.1)]=
 List.filter (fun(c:UInt8)↦!kn c)
 (List.take (x_2.1+1).toNat x_1))/\
 (↑x_1.length-(x_2.1+(1:Int))).toNat<(↑x_1.length-x_2.1).toNat)/\
 ((bif
 bif !decide (ag x_1 x_2.1=9)then
 !decide (ag x_1 x_2.1=10)
 else false then
 !decide (ag x_1 x_2.1=13)
 else false)=
 false->
 av (x_2.1+1)/\
 eK (VS.mk []
 [(0,PV.str x_1),(2,PV.str (bL #[])),
 ((3:Nat),
 PV.row x_2.2.1 (al.bytes x_2.2.2) 70),
 uZ 4,uZ 5,
 ((14:Nat),
 PV.bool
 (bif !decide (x=(bL #[]))then
 decide (ag x 0<=32)
 else false)),
 ((26:Nat),
 PV.bool
 (bif !decide (x_1=(bL #[]))then
 decide (ag x_1 (ai x_1-1)<=32)
 else false)),
 (34,
 PV.bool
 !jc x_1
 (bL #[9,10,13])),
 (40,PV.int .i64 (ai x_1)),
 (41,PV.int .i64 (x_2.1+1)),
 uZ 42,uZ 56]
 [])/\
 ((0:Int)<=x_2.1+1/\
 x_2.1+1<=↑x_1.length/\
 x_2.2.1=false/\
 x_2.2.2=
 List.filter (fun(c:UInt8)↦!kn c)
 (List.take (x_2.1+1).toNat x_1))/\
 (↑x_1.length-(x_2.1+(1:Int))).toNat<(↑x_1.length-x_2.1).toNat))/\
 (decide (x_2.1<ai x_1)=false->k (PV.str x_2.2.2)))))):=by kernel_rfl
attribute [local irreducible] Go.Vc.cD
theorem La(l:Bs):ae Tryz.prog az 46 [.str l] ⟨l.length<=60000,.str (an l)⟩:=bR (by kernel_rfl) DP (H:=FJ l) (fuel:=1000) Tryz.func46 (by kernel_rfl) fun hpre=>(K9 l _).mpr (by
 have hp:=s9 l;have e0:(bL #[])=([]:Bs):=rfl;have h9:∀b:UInt8,b∈(bL #[9,10,13])->b.toNat<128:=by rw [show(bL #[9,10,13])=([9,10,13]:Bs)from rfl];decide
 have ne:∀x:Bs,(!decide (x=(bL #[])))=true->0<x.length:=fun x h=>by
  have h':decide (x=(bL #[]))=false:=by simpa using h
  exact List.length_pos_iff.2 (of_decide_eq_false h')
 have d1:∀x:Bs,(bif !decide (x=(bL #[]))then decide (ag x (0:Int)<=(32:Int))else false)=true->∃b r,x=b::r/\b.toNat<=32:=fun x h=>by
  cases x with
  |nil=>cases h
  |cons b r=>
   refine ⟨b,r,rfl,?_⟩;have:decide (ag (b::r) (0:Int)<=(32:Int))=true:=h;have:=of_decide_eq_true this;have e:ag (b::r) 0=(b.toNat:Int):=rfl;omega
 have d0:∀x:Bs,(bif !decide (x=(bL #[]))then decide (ag x (0:Int)<=(32:Int))else false)=false->dZ x=x:=fun x h=>by
  cases x with
  |nil=>rfl
  |cons b r=>
   have:decide (ag (b::r) (0:Int)<=(32:Int))=false:=h;have:=of_decide_eq_false this;have e:ag (b::r) 0=(b.toNat:Int):=rfl;exact te (by omega)
 have lastb:∀(r:Bs) (b:UInt8),ag (r++[b]) (ai (r++[b])-1)=(b.toNat:Int):=fun r b=>by
  unfold ag ai;have:(((r++[b]).length:Int)-1).toNat=r.length:=by simp
  rw [this];simp
 have g1:∀x:Bs,(bif !decide (x=(bL #[]))then decide (ag x (ai x-(1:Int))<=(32:Int))else false)=true->∃b r,x=r++[b]/\b.toNat<=32:=fun x h=>by
  rcases List.eq_nil_or_concat x with rfl|⟨r,b,rfl⟩
  ·cases h
  ·refine ⟨b,r,by simp,?_⟩
   rw [List.concat_eq_append]at h;cases e:(!decide (r++[b]=(bL #[])))with
   |false=>rw [e]at h;cases h
   |true=>
    rw [e]at h;have:=of_decide_eq_true (show decide _=true from h);rw [lastb]at this;omega
 have g0:∀x:Bs,(bif !decide (x=(bL #[]))then decide (ag x (ai x-(1:Int))<=(32:Int))else false)=false->dt x=x:=fun x h=>by
  rcases List.eq_nil_or_concat x with rfl|⟨r,b,rfl⟩
  ·rfl
  ·rw [List.concat_eq_append]at h⊢
   cases e:(!decide (r++[b]=(bL #[])))with
   |false=>
    have:decide (r++[b]=(bL #[]))=true:=by rw [<-Bool.not_eq_false'];exact e
    have:=of_decide_eq_true this;exact absurd this (by rw [e0];simp)
   |true=>
    rw [e]at h;have:=of_decide_eq_false (show decide _=false from h);rw [lastb]at this;exact DO (by omega)
 refine ⟨show l.length<=1000000 by omega,rfl,⟨by omega,rfl⟩,fun x ⟨h1,h2⟩=>⟨fun h=>?_,fun h=>?_,fun h=>⟨rfl,⟨h1,by rw [<-h2,d0 x h]⟩,fun y ⟨h3,h4⟩=>⟨fun g=>?_,fun g=>?_,fun g=>?_,fun g=>⟨⟨by omega,by decide,h9⟩,fun c=>?_,fun c=>⟨⟨Int.le_refl _,by unfold ai;omega,by unfold ai cN;omega⟩,rfl,⟨Int.le_refl _,by omega,rfl,rfl⟩,fun z ⟨z0,z1,z2,z3⟩=>⟨fun d=>?_,fun d=>?_⟩⟩⟩⟩⟩⟩⟩
 ·have:=ne x h;unfold within ai;omega
 ·obtain ⟨b,r,rfl,hb⟩:=d1 x h
  rw [tb hb]at h2;rw [List.length_cons]at h1;refine ⟨by unfold upto ai;rw [List.length_cons];omega,rfl,⟨?_,h2⟩,?_⟩
  ·show r.length<=_;omega
  ·show r.length<(b::r).length;rw [List.length_cons];omega
 ·have:=ne y g;unfold av ai;omega
 ·have:=ne y g;unfold within ai;omega
 ·obtain ⟨b,r,rfl,hb⟩:=g1 y g
  rw [DN hb]at h4;rw [List.length_append]at h3;have hl:(r++[b]).length=r.length+1:=by simp
  have e:ab (r++[b]) (ai (r++[b])-1)=r:=by
   unfold ab ai;have:(((r++[b]).length:Int)-1).toNat=r.length:=by simp
   rw [this,List.take_left]
  rw [e];exact ⟨by unfold av ai;omega,by unfold upto ai;omega,rfl,⟨by omega,h4⟩,by omega⟩
 ·have hc:jc y [9,10,13]=false:=by simpa using c
  have h5:=K8 hc;have h6:y.filter (fun c=>!kn c)=y:=by
   rw [List.filter_eq_self];intro b hb;have:=h5 b hb;unfold kn;rw [Bool.not_eq_true',decide_eq_false_iff_not]
   rintro (rfl|rfl|rfl)<;>revert this<;>decide
  show PV.str y=PV.str (an l);unfold an;rw [<-h4,g0 y g,h6]
 ·have hlt:z.1<y.length:=of_decide_eq_true d
  have hst:=Bd y z.1 z0 hlt;have hby:ag y z.1=((y.getD z.1.toNat 0).toNat:Int):=rfl;have hcr:=(y.getD z.1.toNat 0).toNat_lt;have hzl:z.2.2.length<=y.length:=by rw [z3];exact Nat.le_trans (List.length_filter_le _ _) (by rw [List.length_take];exact Nat.min_le_right _ _)
  have hzb:b4 (ag y z.1)=y.getD z.1.toNat 0:=jg y z.1;rw [hzb,hby,PA];refine ⟨⟨z0,hlt⟩,fun e=>⟨?_,?_,by unfold av;omega,rfl,⟨by omega,by omega,rfl,?_⟩,by omega⟩,fun e=>⟨by unfold av;omega,rfl,⟨by omega,by omega,z2,?_⟩,by omega⟩⟩
  ·show rK (((y.getD z.1.toNat 0).toNat:Nat):Int);unfold rK;omega
  ·rw [List.length_append]
   show((z.2.2.length+1:Nat):Int)<=16777216;omega
  ·rw [hst,if_neg (by simpa using e),z3]
  ·rw [hst,if_pos (by simpa using e),z3,List.append_nil]
 ·have hge:¬z.1<y.length:=of_decide_eq_false d
  show PV.str z.2.2=PV.str (an l);unfold an;rw [z3,<-h4,g0 y g,List.take_of_length_le (by omega)])
def lP:List PV->Option aD:=fun xs=>match xs with
 |[.str l]=>some ⟨l.length<=60000,.str (an l)⟩
 |_=>none
theorem om:∀xs c,lP xs=some c->ae Tryz.prog az 46 xs c:=fun xs c h=>by
 unfold lP at h;split at h
 ·injection h with h;subst h;exact La _
 ·cases h
end
def ct(b:PV)(m:Nat)(sc us pw:Bs)(hk:Int)(hs:Bs)(hn:Int)(hp:List Int)(port:Int)(Rl pn:Bool)(pl:List Bs)(hq:Bool)(q:Bs)(hf:Bool)(fg:Bs)(bare sp:Bool)(I:Bs):PV:=(aE m b sc us pw hk hs hn hp port Rl pn pl hq q hf fg bare sp I)
theorem DQ(l:Bs)(sp:Bool):ae Tryz.prog az 136 [.str l,.bool sp] ⟨l.length<=300000,.tup [.agg [.int .i64 (aG sp l).1,.str (aG sp l).2.1,.int .u32 (aG sp l).2.2.1,.arr 8 (.ints .u16 (aG sp l).2.2.2.1)],.int .i64 (aG sp l).2.2.2.2]⟩:=by
 cases sp with
 |true=>exact (wy l).to (fun h=>by show l.length<=1000000;omega) (fun _=>rfl)
 |false=>exact (DK l).to (fun h=>h) (fun _=>rfl)
def lj:List PV->Option aD:=fun xs=>match xs with |[.str l,.bool sp]=>some ⟨l.length<=300000,.tup [.agg [.int .i64 (aG sp l).1,.str (aG sp l).2.1,.int .u32 (aG sp l).2.2.1,.arr 8 (.ints .u16 (aG sp l).2.2.2.1)],.int .i64 (aG sp l).2.2.2.2]⟩|_=>none
theorem tf:∀xs c,lj xs=some c->ae Tryz.prog az 136 xs c:=fun xs c h=>by
 unfold lj at h;split at h
 ·injection h with h;subst h;exact DQ _ _
 ·cases h
theorem Nw(l:Bs):ae Tryz.prog az 119 [.str l] ⟨l.length<=300000/\(ak l l 0).2.2=true,.tup [.str (ak l l 0).1,.str (ak l l 0).2.1,.bool true]⟩:=(wa l).to (fun h=>h.1) (fun h=>by rw [h.2])
theorem Nx(l:Bs):ae Tryz.prog az 119 [.str l] ⟨l.length<=300000/\(ak l l 0).2.2=false,.tup [.str (ak l l 0).1,.str (ak l l 0).2.1,.bool false]⟩:=(wa l).to (fun h=>h.1) (fun h=>by rw [h.2])
def tg:List PV->Option aD:=fun xs=>match xs with |[.str l]=>some ⟨l.length<=300000/\(ak l l 0).2.2=true,.tup [.str (ak l l 0).1,.str (ak l l 0).2.1,.bool true]⟩|_=>none
theorem Be:∀xs c,tg xs=some c->ae Tryz.prog az 119 xs c:=fun xs c h=>by
 unfold tg at h;split at h
 ·injection h with h;subst h;exact Nw _
 ·cases h
def oo:List PV->Option aD:=fun xs=>match xs with |[.str l]=>some ⟨l.length<=300000/\(ak l l 0).2.2=false,.tup [.str (ak l l 0).1,.str (ak l l 0).2.1,.bool false]⟩|_=>none
theorem qI:∀xs c,oo xs=some c->ae Tryz.prog az 119 xs c:=fun xs c h=>by
 unfold oo at h;split at h
 ·injection h with h;subst h;exact Nx _
 ·cases h
def wH(l:Bs):Bool:=decide (l=[])||decide (ag l 0=35)
def RS.Qm(x b:RS):RS:={x with hk:=b.hk,hs:=b.hs,hn:=b.hn,hp:=b.hp}
def RS.Qn(x b:RS):RS:={x with pn:=b.pn,pl:=b.pl}
def RS.Lb(x b:RS):RS:={x with hq:=b.hq,q:=b.q}
def RS.tj(x b:RS):RS:=if wH x.I=true then x.Lb b else x
def RS.short(x:RS):RS:={x with pn:=(cu x.sc (x.pn,x.pl)).1,pl:=(cu x.sc (x.pn,x.pl)).2}
def RS.cw(x b:RS):RS:=(((RS.Qm {x with hk:=1} b).Qn b).short).path
def RS.au(x b:RS):RS:=(RS.cw {x with sc:=b.sc,bare:=true,sp:=bK b.sc} b).tail
theorem PC(l:Bs):ae Tryz.prog az 156 [.str l] ⟨l.length<=1000000,.bool (bN l)⟩:=
 ae.cm Tryz.func156 (by kernel_rfl) rfl fun h0 F w vs _ _ hw hx=>by
  obtain ⟨_,_,rfl,r1,rfl⟩:=hx;obtain rfl:=r1;exact ⟨.bool (bN l),(CZ l w h0).mono fun e w' ⟨h1,h2⟩=>⟨h1,h2▸Below.refl _ _⟩,fun G w=>rfl⟩
def yw:List PV->Option aD:=fun xs=>match xs with
 |[.str l]=>some ⟨l.length<=1000000,.bool (bN l)⟩
 |_=>none
theorem DR:∀xs c,yw xs=some c->ae Tryz.prog az 156 xs c:=fun xs c h=>by
 unfold yw at h;split at h
 ·injection h with h;subst h;exact PC _
 ·cases h
section
def wI:cM:=bS [(119,oo),(27,eR),(78,dP)]
def wJ(sc us pw:Bs)(hk:Int)(hs:Bs)(hn:Int)(hp:List Int)(port:Int)(Rl pn:Bool)(pl:List Bs)(hq:Bool)(q:Bs)(hf:Bool)(fg:Bs)(bare sp:Bool)(I:Bs)(Rm Rv Ru:Bs)(Rp:Int)(Rq:Bs)(Rr:Int)(Rs:List Int)(Rj:Int)(Rk Ro:Bool)(Rn:List Bs)(Rt:Bool)(bq:Bs)(Rw:Bool)(Rx:Bs):aP:=fun i=>none
theorem yx:df Tryz.prog az wI:=ah qI (ah eS (ah dq ax))
theorem DS(sc us pw:Bs)(hk:Int)(hs:Bs)(hn:Int)(hp:List Int)(port:Int)(Rl pn:Bool)(pl:List Bs)(hq:Bool)(q:Bs)(hf:Bool)(fg:Bs)(bare sp:Bool)(I:Bs)(Rm Rv Ru:Bs)(Rp:Int)(Rq:Bs)(Rr:Int)(Rs:List Int)(Rj:Int)(Rk Ro:Bool)(Rn:List Bs)(Rt:Bool)(bq:Bs)(Rw:Bool)(Rx:Bs)(k:PV->List PV->Prop):b9 Tryz.prog wI az (wJ sc us pw hk hs hn hp port Rl pn pl hq q hf fg bare sp I Rm Rv Ru Rp Rq Rr Rs Rj Rk Ro Rn Rt bq Rw Rx) 1000 Tryz.f75 [.ptr 0 0] [aE 1 (.ptr 1 0) sc us pw hk hs hn hp port Rl pn pl hq q hf fg bare sp I,bW 0 Rm Rv Ru Rp Rq Rr Rs Rj Rk Ro Rn Rt bq Rw Rx] k=(
 (List.length I<=300000/\
 (ak I I 0).2.2=false)/\
 (false=true->
 True/\
 (Rk=true->
 False)/\
 (Rk=false->
 k (PV.int .i64 0) [ct (PV.ptr 1 0) 1 ((ak I I 0).1) us pw hk hs hn hp port Rl pn pl hq q hf fg (!false) (bK (ak I I 0).1) ((ak I I 0).2.1),bW 0 Rm Rv Ru Rp Rq Rr Rs Rj Rk Ro Rn Rt bq Rw Rx]))/\
 (false=false->
 (false=true->
 (false=true->
 k (PV.int .i64 8) [ct (PV.ptr 1 0) 1 sc us pw hk hs hn hp port Rl pn pl hq q hf fg bare sp I,bW 0 Rm Rv Ru Rp Rq Rr Rs Rj Rk Ro Rn Rt bq Rw Rx])/\
 (false=false->
 True/\
 (Rk=true->
 False)/\
 (Rk=false->
 k (PV.int .i64 0) [ct (PV.ptr 1 0) 1 Rm us pw hk hs hn hp port Rl pn pl hq q hf fg (!false) (bK Rm) I,bW 0 Rm Rv Ru Rp Rq Rr Rs Rj Rk Ro Rn Rt bq Rw Rx])))/\
 (false=false->
 (Rk=true->
 True)/\
 ((bif Rk then !preB I (bL #[35])else false)=true->
 k (PV.int .i64 8) [ct (PV.ptr 1 0) 1 sc us pw hk hs hn hp port Rl pn pl hq q hf fg bare sp I,bW 0 Rm Rv Ru Rp Rq Rr Rs Rj Rk Ro Rn Rt bq Rw Rx])/\
 ((bif Rk then !preB I (bL #[35])else false)=false->
 True/\
 (Rk=true->
 False)/\
 (Rk=false->
 k (PV.int .i64 0) [ct (PV.ptr 1 0) 1 Rm us pw hk hs hn hp port Rl pn pl hq q hf fg (!false) (bK Rm) I,bW 0 Rm Rv Ru Rp Rq Rr Rs Rj Rk Ro Rn Rt bq Rw Rx]))))):=by kernel_rfl
attribute [local irreducible] Go.Vc.cD Go.Vc.b9
theorem yy(sc us pw:Bs)(hk:Int)(hs:Bs)(hn:Int)(hp:List Int)(port:Int)(Rl pn:Bool)(pl:List Bs)(hq:Bool)(q:Bs)(hf:Bool)(fg:Bs)(bare sp:Bool)(I:Bs)(Rm Rv Ru:Bs)(Rp:Int)(Rq:Bs)(Rr:Int)(Rs:List Int)(Rj:Int)(Rk Ro:Bool)(Rn:List Bs)(Rt:Bool)(bq:Bs)(Rw:Bool)(Rx:Bs):bE Tryz.prog az 75 [.ptr 0 0] [aE 1 (.ptr 1 0) sc us pw hk hs hn hp port Rl pn pl hq q hf fg bare sp I,bW 0 Rm Rv Ru Rp Rq Rr Rs Rj Rk Ro Rn Rt bq Rw Rx] (I.length<=300000/\(ak I I 0).2.2=false/\Rk=false) (.int .i64 0) [aE 1 (.ptr 1 0) Rm us pw hk hs hn hp port Rl pn pl hq q hf fg true (bK Rm) I,bW 0 Rm Rv Ru Rp Rq Rr Rs Rj Rk Ro Rn Rt bq Rw Rx]:=bT (by kernel_rfl) yx (H:=wJ sc us pw hk hs hn hp port Rl pn pl hq q hf fg bare sp I Rm Rv Ru Rp Rq Rr Rs Rj Rk Ro Rn Rt bq Rw Rx) (fuel:=1000) Tryz.func75 (by kernel_rfl) (Nat.le_of_ble_eq_true rfl) fun hpre=>(DS sc us pw hk hs hn hp port Rl pn pl hq q hf fg bare sp I Rm Rv Ru Rp Rq Rr Rs Rj Rk Ro Rn Rt bq Rw Rx _).mpr (by
 obtain ⟨h1,h2,rfl⟩:=hpre;exact ⟨⟨h1,h2⟩,nofun,fun _=>⟨nofun,fun _=>⟨nofun,nofun,fun _=>⟨trivial,nofun,fun _=>⟨rfl,rfl⟩⟩⟩⟩⟩)
theorem DT(sc us pw:Bs)(hk:Int)(hs:Bs)(hn:Int)(hp:List Int)(port:Int)(Rl pn:Bool)(pl:List Bs)(hq:Bool)(q:Bs)(hf:Bool)(fg:Bs)(bare sp:Bool)(I:Bs)(Rm Rv Ru:Bs)(Rp:Int)(Rq:Bs)(Rr:Int)(Rs:List Int)(Rj:Int)(Rk Ro:Bool)(Rn:List Bs)(Rt:Bool)(bq:Bs)(Rw:Bool)(Rx:Bs):ae Tryz.prog az 75 [.ptr 0 0,aE 1 (.ptr 1 0) sc us pw hk hs hn hp port Rl pn pl hq q hf fg bare sp I,bW 0 Rm Rv Ru Rp Rq Rr Rs Rj Rk Ro Rn Rt bq Rw Rx] ⟨I.length<=300000/\(ak I I 0).2.2=false/\Rk=false,.tup [.int .i64 0,aE 1 (.ptr 1 0) Rm us pw hk hs hn hp port Rl pn pl hq q hf fg true (bK Rm) I,bW 0 Rm Rv Ru Rp Rq Rr Rs Rj Rk Ro Rn Rt bq Rw Rx]⟩:=ae.aZ (fun h=>by have e:List.isEmpty (PV.aC PV.bU [.ptr 0 0,aE 1 (.ptr 1 0) sc us pw hk hs hn hp port Rl pn pl hq q hf fg bare sp I,bW 0 Rm Rv Ru Rp Rq Rr Rs Rj Rk Ro Rn Rt bq Rw Rx])=false:=(by kernel_rfl);exact Bool.noConfusion (e.symm.trans (congrArg List.isEmpty h))) (yy sc us pw hk hs hn hp port Rl pn pl hq q hf fg bare sp I Rm Rv Ru Rp Rq Rr Rs Rj Rk Ro Rn Rt bq Rw Rx)
def lk:List PV->Option aD:=fun xs=>match xs with
 |[.ptr 0 0,aE 1 (.ptr 1 0) sc us pw hk hs hn hp port Rl pn pl hq q hf fg bare sp I,bW 0 Rm Rv Ru Rp Rq Rr Rs Rj Rk Ro Rn Rt bq Rw Rx]=>some ⟨I.length<=300000/\(ak I I 0).2.2=false/\Rk=false,.tup [.int .i64 0,aE 1 (.ptr 1 0) Rm us pw hk hs hn hp port Rl pn pl hq q hf fg true (bK Rm) I,bW 0 Rm Rv Ru Rp Rq Rr Rs Rj Rk Ro Rn Rt bq Rw Rx]⟩
 |_=>none
theorem tp:∀xs c,lk xs=some c->ae Tryz.prog az 75 xs c:=fun xs c h=>by
 unfold lk at h;split at h
 ·injection h with h;subst h;exact DT _ _ _ _ _ _ _ _ _ _ _ _ _ _ _ _ _ _ _ _ _ _ _ _ _ _ _ _ _ _ _ _ _
 ·cases h
end
section
def FK:cM:=bS []
def FL(bp:Option Addr)(sc us pw:Bs)(hk:Int)(hs:Bs)(hn:Int)(hp:List Int)(port:Int)(Rl pn:Bool)(pl:List Bs)(hq:Bool)(q:Bs)(hf:Bool)(fg:Bs)(bare sp:Bool)(I:Bs)(at_:Int):aP:=fun i=>none
theorem DU:df Tryz.prog az FK:=ax
theorem Lc(bp:Option Addr)(sc us pw:Bs)(hk:Int)(hs:Bs)(hn:Int)(hp:List Int)(port:Int)(Rl pn:Bool)(pl:List Bs)(hq:Bool)(q:Bs)(hf:Bool)(fg:Bs)(bare sp:Bool)(I:Bs)(at_:Int)(k:PV->List PV->Prop):b9 Tryz.prog FK az (FL bp sc us pw hk hs hn hp port Rl pn pl hq q hf fg bare sp I at_) 1000 Tryz.f82 [.ptr 0 0,.int .i64 at_] [aE 1 (.raw (.pointer bp)) sc us pw hk hs hn hp port Rl pn pl hq q hf fg bare sp I] k=(
 (decide (at_<ai I)=true->
 within at_ (ai I))/\
 (decide (at_<ai I)=true->
 decide (ag I at_=47)=false->
 sp=true->
 within at_ (ai I))/\
 k (PV.bool (bif decide (at_<ai I)then bif decide (ag I at_=47)then true else bif sp then decide (ag I at_=92)else false else false)) [ct (PV.raw (Go.Value.pointer bp)) 1 sc us pw hk hs hn hp port Rl pn pl hq q hf fg bare sp I]):=by kernel_rfl
attribute [local irreducible] Go.Vc.cD Go.Vc.b9
theorem tq(bp:Option Addr)(sc us pw:Bs)(hk:Int)(hs:Bs)(hn:Int)(hp:List Int)(port:Int)(Rl pn:Bool)(pl:List Bs)(hq:Bool)(q:Bs)(hf:Bool)(fg:Bs)(bare sp:Bool)(I:Bs)(at_:Int):bE Tryz.prog az 82 [.ptr 0 0,.int .i64 at_] [aE 1 (.raw (.pointer bp)) sc us pw hk hs hn hp port Rl pn pl hq q hf fg bare sp I] (0<=at_/\at_<1000) (.bool (aB sp I at_)) [aE 1 (.raw (.pointer bp)) sc us pw hk hs hn hp port Rl pn pl hq q hf fg bare sp I]:=bT (by kernel_rfl) DU (H:=FL bp sc us pw hk hs hn hp port Rl pn pl hq q hf fg bare sp I at_) (fuel:=1000) Tryz.func82 (by kernel_rfl) (Nat.le_of_ble_eq_true rfl) fun hpre=>(Lc bp sc us pw hk hs hn hp port Rl pn pl hq q hf fg bare sp I at_ _).mpr (by
 refine ⟨fun h=>?_,fun h _ _=>?_,?_,rfl⟩
 ·unfold within;simp at h;omega
 ·unfold within;simp at h;omega
 ·congr 1
  by_cases h1:at_<ai I<;>by_cases h2:ag I at_=47<;>cases sp<;>simp [aB,h1,h2])
theorem Ld(bp:Option Addr)(sc us pw:Bs)(hk:Int)(hs:Bs)(hn:Int)(hp:List Int)(port:Int)(Rl pn:Bool)(pl:List Bs)(hq:Bool)(q:Bs)(hf:Bool)(fg:Bs)(bare sp:Bool)(I:Bs)(at_:Int):ae Tryz.prog az 82 [.ptr 0 0,.int .i64 at_,aE 1 (.raw (.pointer bp)) sc us pw hk hs hn hp port Rl pn pl hq q hf fg bare sp I] ⟨0<=at_/\at_<1000,.tup [.bool (aB sp I at_),aE 1 (.raw (.pointer bp)) sc us pw hk hs hn hp port Rl pn pl hq q hf fg bare sp I]⟩:=ae.aZ (fun h=>by have e:List.isEmpty (PV.aC PV.bU [.ptr 0 0,.int .i64 at_,aE 1 (.raw (.pointer bp)) sc us pw hk hs hn hp port Rl pn pl hq q hf fg bare sp I])=false:=(by kernel_rfl);exact Bool.noConfusion (e.symm.trans (congrArg List.isEmpty h))) (tq bp sc us pw hk hs hn hp port Rl pn pl hq q hf fg bare sp I at_)
def iF:List PV->Option aD:=fun xs=>match xs with
 |[.ptr 0 0,.int .i64 at_,aE 1 (.raw (.pointer bp)) sc us pw hk hs hn hp port Rl pn pl hq q hf fg bare sp I]=>some ⟨0<=at_/\at_<1000,.tup [.bool (aB sp I at_),aE 1 (.raw (.pointer bp)) sc us pw hk hs hn hp port Rl pn pl hq q hf fg bare sp I]⟩
 |_=>none
theorem iA:∀xs c,iF xs=some c->ae Tryz.prog az 82 xs c:=fun xs c h=>by
 unfold iF at h;split at h
 ·injection h with h;subst h;exact Ld _ _ _ _ _ _ _ _ _ _ _ _ _ _ _ _ _ _ _ _
 ·cases h
end
section
def qJ:cM:=bS [(82,iF)]
def qK(bp:Option Addr)(sc us pw:Bs)(hk:Int)(hs:Bs)(hn:Int)(hp:List Int)(port:Int)(Rl pn:Bool)(pl:List Bs)(hq:Bool)(q:Bs)(hf:Bool)(fg:Bs)(bare sp:Bool)(I:Bs):aP:=fun i=>none
theorem tu:df Tryz.prog az qJ:=ah iA ax
theorem yz(bp:Option Addr)(sc us pw:Bs)(hk:Int)(hs:Bs)(hn:Int)(hp:List Int)(port:Int)(Rl pn:Bool)(pl:List Bs)(hq:Bool)(q:Bs)(hf:Bool)(fg:Bs)(bare sp:Bool)(I:Bs)(k:PV->List PV->Prop):b9 Tryz.prog qJ az (qK bp sc us pw hk hs hn hp port Rl pn pl hq q hf fg bare sp I) 1000 Tryz.f84 [.ptr 0 0] [aE 1 (.raw (.pointer bp)) sc us pw hk hs hn hp port Rl pn pl hq q hf fg bare sp I] k=(
 ((0:Int)<=0/\
 (0:Int)<1000)/\
 ((!aB sp I 0)=true->
 k (PV.bool false) [ct (PV.raw (Go.Value.pointer bp)) 1 sc us pw hk hs hn hp port Rl pn pl hq q hf fg bare sp I])/\
 ((!aB sp I 0)=false->
 upto 1 (ai I) (ai I)/\
 k (PV.bool true) [ct (PV.raw (Go.Value.pointer bp)) 1 sc us pw hk hs hn hp port Rl pn pl hq q hf fg bare sp (aa I 1)])):=by kernel_rfl
attribute [local irreducible] Go.Vc.cD Go.Vc.b9
theorem ll(bp:Option Addr)(sc us pw:Bs)(hk:Int)(hs:Bs)(hn:Int)(hp:List Int)(port:Int)(Rl pn:Bool)(pl:List Bs)(hq:Bool)(q:Bs)(hf:Bool)(fg:Bs)(bare sp:Bool)(I:Bs):bE Tryz.prog az 84 [.ptr 0 0] [aE 1 (.raw (.pointer bp)) sc us pw hk hs hn hp port Rl pn pl hq q hf fg bare sp I] True (.bool (aB sp I 0)) [aE 1 (.raw (.pointer bp)) sc us pw hk hs hn hp port Rl pn pl hq q hf fg bare sp (if aB sp I 0=true then aa I 1 else I)]:=bT (by kernel_rfl) tu (H:=qK bp sc us pw hk hs hn hp port Rl pn pl hq q hf fg bare sp I) (fuel:=1000) Tryz.func84 (by kernel_rfl) (Nat.le_of_ble_eq_true rfl) fun hpre=>(yz bp sc us pw hk hs hn hp port Rl pn pl hq q hf fg bare sp I _).mpr (by
 refine ⟨by omega,fun h=>?_,fun h=>⟨?_,?_⟩⟩
 ·rw [show aB sp I 0=false by simpa using h];exact ⟨rfl,rfl⟩
 ·have:=yv (show aB sp I 0=true by simpa using h)
  unfold upto;omega
 ·rw [show aB sp I 0=true by simpa using h];exact ⟨rfl,rfl⟩)
theorem yA(bp:Option Addr)(sc us pw:Bs)(hk:Int)(hs:Bs)(hn:Int)(hp:List Int)(port:Int)(Rl pn:Bool)(pl:List Bs)(hq:Bool)(q:Bs)(hf:Bool)(fg:Bs)(bare sp:Bool)(I:Bs):ae Tryz.prog az 84 [.ptr 0 0,aE 1 (.raw (.pointer bp)) sc us pw hk hs hn hp port Rl pn pl hq q hf fg bare sp I] ⟨True,.tup [.bool (aB sp I 0),aE 1 (.raw (.pointer bp)) sc us pw hk hs hn hp port Rl pn pl hq q hf fg bare sp (if aB sp I 0=true then aa I 1 else I)]⟩:=ae.aZ (fun h=>by have e:List.isEmpty (PV.aC PV.bU [.ptr 0 0,aE 1 (.raw (.pointer bp)) sc us pw hk hs hn hp port Rl pn pl hq q hf fg bare sp I])=false:=(by kernel_rfl);exact Bool.noConfusion (e.symm.trans (congrArg List.isEmpty h))) (ll bp sc us pw hk hs hn hp port Rl pn pl hq q hf fg bare sp I)
def gK:List PV->Option aD:=fun xs=>match xs with
 |[.ptr 0 0,aE 1 (.raw (.pointer bp)) sc us pw hk hs hn hp port Rl pn pl hq q hf fg bare sp I]=>some ⟨True,.tup [.bool (aB sp I 0),aE 1 (.raw (.pointer bp)) sc us pw hk hs hn hp port Rl pn pl hq q hf fg bare sp (if aB sp I 0=true then aa I 1 else I)]⟩
 |_=>none
theorem jV:∀xs c,gK xs=some c->ae Tryz.prog az 84 xs c:=fun xs c h=>by
 unfold gK at h;split at h
 ·injection h with h;subst h;exact yA _ _ _ _ _ _ _ _ _ _ _ _ _ _ _ _ _ _ _
 ·cases h
end
section
def ma:cM:=bS [(82,iF)]
def mb(bp:Option Addr)(sc us pw:Bs)(hk:Int)(hs:Bs)(hn:Int)(hp:List Int)(port:Int)(Rl pn:Bool)(pl:List Bs)(hq:Bool)(q:Bs)(hf:Bool)(fg:Bs)(bare sp:Bool)(I:Bs):aP:=fun i=>bif Nat.beq i 1 then some ⟨(Int)×Bs,(fun s x=>((((((((((((((s.put 2 (.int .i64 x.1)).Qb 0 [4] (.str x.2)).put 3 .undef).put 4 .undef).put 5 .undef).put 6 .undef).put 7 .undef).put 8 .undef).put 9 .undef).put 10 .undef).put 11 .undef).put 12 .undef).put 13 .undef).put 14 .undef)),(fun s=>(s.int 2,(s.bx 0 [4]).dS)),(fun s x=>let n:=x.1;let x:=x.2;0<=n/\n+x.length=I.length/\cn x.length sp n x=cn I.length sp 0 I),(fun s x=>let n:=x.1;let x:=x.2;x.length),[3,4,5,6,7,8,9,10,11,12,13,14]⟩else none
theorem pJ:df Tryz.prog az ma:=ah iA ax
theorem tw(bp:Option Addr)(sc us pw:Bs)(hk:Int)(hs:Bs)(hn:Int)(hp:List Int)(port:Int)(Rl pn:Bool)(pl:List Bs)(hq:Bool)(q:Bs)(hf:Bool)(fg:Bs)(bare sp:Bool)(I:Bs)(k:PV->List PV->Prop):b9 Tryz.prog ma az (mb bp sc us pw hk hs hn hp port Rl pn pl hq q hf fg bare sp I) 1000 Tryz.f79 [.ptr 0 0] [aE 1 (.raw (.pointer bp)) sc us pw hk hs hn hp port Rl pn pl hq q hf fg bare sp I] k=(
 eK (VS.mk [] [(0,PV.ptr 0 0),(2,PV.int .i64 0),uZ 14] [((0:Nat),ct (PV.raw (Go.Value.pointer bp)) 1 sc us pw hk hs hn hp port Rl pn pl hq q hf fg bare sp I)])/\
 ((0:Int)<=0/\
 (0:Int)+↑(List.length I)=↑(List.length I)/\
 cn (List.length I) sp 0 I=cn (List.length I) sp 0 I)/\
 ∀(x:Int×Bs),(0:Int)<=x.1/\
 x.1+↑(List.length x.2)=↑(List.length I)/\
 cn (List.length x.2) sp x.1 x.2=cn (List.length I) sp 0 I->
 ((0:Int)<=0/\
 (0:Int)<1000)/\
 ((bif aB sp x.2 0 then bif sp then true else decide (x.1<2)else false)=true->
 upto 1 (ai x.2) (ai x.2)/\
 av (x.1+1)/\
 eK (VS.mk [] [(0,PV.ptr 0 0),(2,PV.int .i64 (x.1+1)),uZ 14] [((0:Nat),ct (PV.raw (Go.Value.pointer bp)) 1 sc us pw hk hs hn hp port Rl pn pl hq q hf fg bare sp (aa x.2 1))])/\
 ((0:Int)<=x.1+1/\
 x.1+1+↑(aa x.2 1).length=↑(List.length I)/\
 cn (aa x.2 1).length sp (x.1+1) (aa x.2 1)=cn (List.length I) sp 0 I)/\
 (aa x.2 1).length<List.length x.2)/\
 ((bif aB sp x.2 0 then bif sp then true else decide (x.1<2)else false)=false->
 k (PV.tup []) [ct (PV.raw (Go.Value.pointer bp)) 1 sc us pw hk hs hn hp port Rl pn pl hq q hf fg bare sp x.2])):=by kernel_rfl
attribute [local irreducible] Go.Vc.cD Go.Vc.b9
theorem pK(bp:Option Addr)(sc us pw:Bs)(hk:Int)(hs:Bs)(hn:Int)(hp:List Int)(port:Int)(Rl pn:Bool)(pl:List Bs)(hq:Bool)(q:Bs)(hf:Bool)(fg:Bs)(bare sp:Bool)(I:Bs):bE Tryz.prog az 79 [.ptr 0 0] [aE 1 (.raw (.pointer bp)) sc us pw hk hs hn hp port Rl pn pl hq q hf fg bare sp I] (I.length<=300000) (.tup []) [aE 1 (.raw (.pointer bp)) sc us pw hk hs hn hp port Rl pn pl hq q hf fg bare sp (cn I.length sp 0 I)]:=bT (by kernel_rfl) pJ (H:=mb bp sc us pw hk hs hn hp port Rl pn pl hq q hf fg bare sp I) (fuel:=1000) Tryz.func79 (by kernel_rfl) (Nat.le_of_ble_eq_true rfl) fun hpre=>(tw bp sc us pw hk hs hn hp port Rl pn pl hq q hf fg bare sp I _).mpr (by
 refine ⟨rfl,⟨by omega,by omega,rfl⟩,fun x ⟨h0,h1,h2⟩=>⟨by omega,fun hc=>?_,fun hc=>?_⟩⟩
 ·have hc:aB sp x.2 0=true/\(sp=true\/x.1<2):=by
   cases h:aB sp x.2 0<;>cases hs:sp<;>simp_all
  have hp:=A9 hc.1;have hl:=wF hp;refine ⟨?_,?_,rfl,⟨by omega,by omega,?_⟩,by omega⟩
  ·unfold upto ai;omega
  ·unfold av;omega
  ·rw [<-Ba hc];exact h2
 ·have hc:¬(aB sp x.2 0=true/\(sp=true\/x.1<2)):=by
   cases h:aB sp x.2 0<;>cases hs:sp<;>simp_all
  rw [<-h2,FF hc];exact ⟨rfl,rfl⟩)
theorem tz(bp:Option Addr)(sc us pw:Bs)(hk:Int)(hs:Bs)(hn:Int)(hp:List Int)(port:Int)(Rl pn:Bool)(pl:List Bs)(hq:Bool)(q:Bs)(hf:Bool)(fg:Bs)(bare sp:Bool)(I:Bs):ae Tryz.prog az 79 [.ptr 0 0,aE 1 (.raw (.pointer bp)) sc us pw hk hs hn hp port Rl pn pl hq q hf fg bare sp I] ⟨I.length<=300000,.tup [.tup [],aE 1 (.raw (.pointer bp)) sc us pw hk hs hn hp port Rl pn pl hq q hf fg bare sp (cn I.length sp 0 I)]⟩:=ae.aZ (fun h=>by have e:List.isEmpty (PV.aC PV.bU [.ptr 0 0,aE 1 (.raw (.pointer bp)) sc us pw hk hs hn hp port Rl pn pl hq q hf fg bare sp I])=false:=(by kernel_rfl);exact Bool.noConfusion (e.symm.trans (congrArg List.isEmpty h))) (pK bp sc us pw hk hs hn hp port Rl pn pl hq q hf fg bare sp I)
def ib:List PV->Option aD:=fun xs=>match xs with
 |[.ptr 0 0,aE 1 (.raw (.pointer bp)) sc us pw hk hs hn hp port Rl pn pl hq q hf fg bare sp I]=>some ⟨I.length<=300000,.tup [.tup [],aE 1 (.raw (.pointer bp)) sc us pw hk hs hn hp port Rl pn pl hq q hf fg bare sp (cn I.length sp 0 I)]⟩
 |_=>none
theorem mP:∀xs c,ib xs=some c->ae Tryz.prog az 79 xs c:=fun xs c h=>by
 unfold ib at h;split at h
 ·injection h with h;subst h;exact tz _ _ _ _ _ _ _ _ _ _ _ _ _ _ _ _ _ _ _
 ·cases h
end
section
theorem Le(l m:Bs):(bif decide (ai m<=ai l)then decide (ab l (ai m)=m)else false)=preB l m:=by
 unfold preB;rw [<-Lib.hasPrefix_of_take];unfold ai ab;rw [Int.toNat_natCast];have:decide ((m.length:Int)<=l.length)=decide (m.length<=l.length):=by rw [decide_eq_decide];omega
 rw [this,Bool.eq_iff_iff];cases decide (m.length<=l.length)<;>simp
theorem Ny {l m:Bs}(h:preB l m=true):m.length<=l.length:=by
 rw [<-Le]at h;cases e:decide (ai m<=ai l)with
 |false=>rw [e]at h;cases h
 |true=>have:=of_decide_eq_true e;unfold ai at this;omega
def Lf:cM:=bS []
def Lg(l m:Bs):aP:=fun i=>none
theorem Ib:df Tryz.prog az Lf:=ax
theorem Nz(l m:Bs)(k:PV->Prop):cD Tryz.prog Lf az (Lg l m) 1000 Tryz.f126 [.str l,.str m] k=(
 (decide (ai m<=ai l)=true->upto 0 (ai m) (ai l))/\
 k (PV.bool (bif decide (ai m<=ai l)then decide (ab l (ai m)=m)else false))):=by kernel_rfl
attribute [local irreducible] Go.Vc.cD
theorem NA(l m:Bs):ae Tryz.prog az 126 [.str l,.str m] ⟨True,.bool (preB l m)⟩:=bR (by kernel_rfl) Ib (H:=Lg l m) (fuel:=1000) Tryz.func126 (by kernel_rfl) fun hpre=>(Nz l m _).mpr (by
 refine ⟨fun h=>⟨by omega,by unfold ai;omega,of_decide_eq_true h⟩,?_⟩;rw [Le])
def tA:List PV->Option aD:=fun xs=>match xs with
 |[.str l,.str m]=>some ⟨True,.bool (preB l m)⟩
 |_=>none
theorem Bf:∀xs c,tA xs=some c->ae Tryz.prog az 126 xs c:=fun xs c h=>by
 unfold tA at h;split at h
 ·injection h with h;subst h;exact NA _ _
 ·cases h
end
section
def aq(l m:Bs):Bs×Bool:=if preB l m=true then(aa l (ai m),true)else(l,false)
def FM:cM:=bS [(126,tA)]
def FN(l m:Bs):aP:=fun i=>none
theorem DV:df Tryz.prog az FM:=ah Bf ax
theorem Lh(l m:Bs)(k:PV->Prop):cD Tryz.prog FM az (FN l m) 1000 Tryz.f157 [.str l,.str m] k=(
 True/\
 ((!preB l m)=true->k (PV.tup [PV.str l,PV.bool false]))/\
 ((!preB l m)=false->
 upto (ai m) (ai l) (ai l)/\k (PV.tup [PV.str (aa l (ai m)),PV.bool true]))):=by kernel_rfl
attribute [local irreducible] Go.Vc.cD
theorem Li(l m:Bs):ae Tryz.prog az 157 [.str l,.str m] ⟨True,.tup [.str (aq l m).1,.bool (aq l m).2]⟩:=bR (by kernel_rfl) DV (H:=FN l m) (fuel:=1000) Tryz.func157 (by kernel_rfl) fun hpre=>(Lh l m _).mpr (by
 refine ⟨trivial,fun h=>?_,fun h=>⟨?_,?_⟩⟩
 ·unfold aq;rw [if_neg (by intro e;rw [e]at h;cases h)]
 ·have:=Ny (show preB l m=true by simpa using h)
  unfold upto ai;omega
 ·unfold aq;rw [if_pos (by simpa using h)])
def pL:List PV->Option aD:=fun xs=>match xs with
 |[.str l,.str m]=>some ⟨True,.tup [.str (aq l m).1,.bool (aq l m).2]⟩
 |_=>none
theorem yB:∀xs c,pL xs=some c->ae Tryz.prog az 157 xs c:=fun xs c h=>by
 unfold pL at h;split at h
 ·injection h with h;subst h;exact Li _ _
 ·cases h
end
section
def Lj:cM:=bS [(157,pL)]
def Lk(l m:Bs):aP:=fun i=>none
theorem Ic:df Tryz.prog az Lj:=ah yB ax
theorem NB(l m:Bs)(k:PV->Prop):cD Tryz.prog Lj az (Lk l m) 1000 Tryz.f127 [.str l,.str m] k=(
 True/\k (PV.tup [PV.str (aq l m).1,PV.bool (aq l m).2])):=by kernel_rfl
attribute [local irreducible] Go.Vc.cD
theorem NC(l m:Bs):ae Tryz.prog az 127 [.str l,.str m] ⟨True,.tup [.str (aq l m).1,.bool (aq l m).2]⟩:=bR (by kernel_rfl) Ic (H:=Lk l m) (fuel:=1000) Tryz.func127 (by kernel_rfl) fun hpre=>(NB l m _).mpr (by
 exact ⟨trivial,rfl⟩)
def oq:List PV->Option aD:=fun xs=>match xs with
 |[.str l,.str m]=>some ⟨True,.tup [.str (aq l m).1,.bool (aq l m).2]⟩
 |_=>none
theorem qL:∀xs c,oq xs=some c->ae Tryz.prog az 127 xs c:=fun xs c h=>by
 unfold oq at h;split at h
 ·injection h with h;subst h;exact NC _ _
 ·cases h
end
section
def Ll:cM:=bS [(127,oq)]
def Lm(bp:Option Addr)(sc us pw:Bs)(hk:Int)(hs:Bs)(hn:Int)(hp:List Int)(port:Int)(Rl pn:Bool)(pl:List Bs)(hq:Bool)(q:Bs)(hf:Bool)(fg:Bs)(bare sp:Bool)(I:Bs)(p:Bs):aP:=fun i=>none
theorem Ie:df Tryz.prog az Ll:=ah qL ax
theorem ND(bp:Option Addr)(sc us pw:Bs)(hk:Int)(hs:Bs)(hn:Int)(hp:List Int)(port:Int)(Rl pn:Bool)(pl:List Bs)(hq:Bool)(q:Bs)(hf:Bool)(fg:Bs)(bare sp:Bool)(I:Bs)(p:Bs)(k:PV->List PV->Prop):b9 Tryz.prog Ll az (Lm bp sc us pw hk hs hn hp port Rl pn pl hq q hf fg bare sp I p) 1000 Tryz.f80 [.ptr 0 0,.str p] [aE 1 (.raw (.pointer bp)) sc us pw hk hs hn hp port Rl pn pl hq q hf fg bare sp I] k=(
 True/\
 k (PV.bool (aq I p).2) [ct (PV.raw (Go.Value.pointer bp)) 1 sc us pw hk hs hn hp port Rl pn pl hq q hf fg bare sp ((aq I p).1)]):=by kernel_rfl
attribute [local irreducible] Go.Vc.cD Go.Vc.b9
theorem Ig(bp:Option Addr)(sc us pw:Bs)(hk:Int)(hs:Bs)(hn:Int)(hp:List Int)(port:Int)(Rl pn:Bool)(pl:List Bs)(hq:Bool)(q:Bs)(hf:Bool)(fg:Bs)(bare sp:Bool)(I:Bs)(p:Bs):bE Tryz.prog az 80 [.ptr 0 0,.str p] [aE 1 (.raw (.pointer bp)) sc us pw hk hs hn hp port Rl pn pl hq q hf fg bare sp I] True (.bool (aq I p).2) [aE 1 (.raw (.pointer bp)) sc us pw hk hs hn hp port Rl pn pl hq q hf fg bare sp ((aq I p).1)]:=bT (by kernel_rfl) Ie (H:=Lm bp sc us pw hk hs hn hp port Rl pn pl hq q hf fg bare sp I p) (fuel:=1000) Tryz.func80 (by kernel_rfl) (Nat.le_of_ble_eq_true rfl) fun hpre=>(ND bp sc us pw hk hs hn hp port Rl pn pl hq q hf fg bare sp I p _).mpr (by
 exact ⟨trivial,rfl,rfl⟩)
theorem NF(bp:Option Addr)(sc us pw:Bs)(hk:Int)(hs:Bs)(hn:Int)(hp:List Int)(port:Int)(Rl pn:Bool)(pl:List Bs)(hq:Bool)(q:Bs)(hf:Bool)(fg:Bs)(bare sp:Bool)(I:Bs)(p:Bs):ae Tryz.prog az 80 [.ptr 0 0,.str p,aE 1 (.raw (.pointer bp)) sc us pw hk hs hn hp port Rl pn pl hq q hf fg bare sp I] ⟨True,.tup [.bool (aq I p).2,aE 1 (.raw (.pointer bp)) sc us pw hk hs hn hp port Rl pn pl hq q hf fg bare sp ((aq I p).1)]⟩:=ae.aZ (fun h=>by have e:List.isEmpty (PV.aC PV.bU [.ptr 0 0,.str p,aE 1 (.raw (.pointer bp)) sc us pw hk hs hn hp port Rl pn pl hq q hf fg bare sp I])=false:=(by kernel_rfl);exact Bool.noConfusion (e.symm.trans (congrArg List.isEmpty h))) (Ig bp sc us pw hk hs hn hp port Rl pn pl hq q hf fg bare sp I p)
def ln:List PV->Option aD:=fun xs=>match xs with
 |[.ptr 0 0,.str p,aE 1 (.raw (.pointer bp)) sc us pw hk hs hn hp port Rl pn pl hq q hf fg bare sp I]=>some ⟨True,.tup [.bool (aq I p).2,aE 1 (.raw (.pointer bp)) sc us pw hk hs hn hp port Rl pn pl hq q hf fg bare sp ((aq I p).1)]⟩
 |_=>none
theorem lp:∀xs c,ln xs=some c->ae Tryz.prog az 80 xs c:=fun xs c h=>by
 unfold ln at h;split at h
 ·injection h with h;subst h;exact NF _ _ _ _ _ _ _ _ _ _ _ _ _ _ _ _ _ _ _ _
 ·cases h
end
section
def Bg:cM:=bS []
def Bh(bp:Option Addr)(sc us pw:Bs)(hk:Int)(hs:Bs)(hn:Int)(hp:List Int)(port:Int)(Rl pn:Bool)(pl:List Bs)(hq:Bool)(q:Bs)(hf:Bool)(fg:Bs)(bare sp:Bool)(I:Bs):aP:=fun i=>none
theorem Bi:df Tryz.prog az Bg:=ax
theorem Ih(bp:Option Addr)(sc us pw:Bs)(hk:Int)(hs:Bs)(hn:Int)(hp:List Int)(port:Int)(Rl pn:Bool)(pl:List Bs)(hq:Bool)(q:Bs)(hf:Bool)(fg:Bs)(bare sp:Bool)(I:Bs)(k:PV->List PV->Prop):b9 Tryz.prog Bg az (Bh bp sc us pw hk hs hn hp port Rl pn pl hq q hf fg bare sp I) 1000 Tryz.f89 [.ptr 0 0] [aE 1 (.raw (.pointer bp)) sc us pw hk hs hn hp port Rl pn pl hq q hf fg bare sp I] k=(
 (decide (I=(bL #[]))=false->
 within (0:Int) (ai I))/\
 ((bif decide (I=(bL #[]))then true else decide (ag I 0=63))=false->
 within (0:Int) (ai I))/\
 k (PV.bool (bif bif decide (I=(bL #[]))then true else decide (ag I 0=63)then true else decide (ag I 0=35))) [ct (PV.raw (Go.Value.pointer bp)) 1 sc us pw hk hs hn hp port Rl pn pl hq q hf fg bare sp I]):=by kernel_rfl
attribute [local irreducible] Go.Vc.cD Go.Vc.b9
theorem qM(bp:Option Addr)(sc us pw:Bs)(hk:Int)(hs:Bs)(hn:Int)(hp:List Int)(port:Int)(Rl pn:Bool)(pl:List Bs)(hq:Bool)(q:Bs)(hf:Bool)(fg:Bs)(bare sp:Bool)(I:Bs):bE Tryz.prog az 89 [.ptr 0 0] [aE 1 (.raw (.pointer bp)) sc us pw hk hs hn hp port Rl pn pl hq q hf fg bare sp I] True (.bool (ck I)) [aE 1 (.raw (.pointer bp)) sc us pw hk hs hn hp port Rl pn pl hq q hf fg bare sp I]:=bT (by kernel_rfl) Bi (H:=Bh bp sc us pw hk hs hn hp port Rl pn pl hq q hf fg bare sp I) (fuel:=1000) Tryz.func89 (by kernel_rfl) (Nat.le_of_ble_eq_true rfl) fun hpre=>(Ih bp sc us pw hk hs hn hp port Rl pn pl hq q hf fg bare sp I _).mpr (by
 have h0:decide (I=(bL #[]))=false->within 0 (ai I):=fun h=>by
  have:=of_decide_eq_false h;have:0<I.length:=List.length_pos_iff.2 this;unfold within ai;omega
 refine ⟨h0,fun h=>h0 ?_,?_,rfl⟩
 ·cases hd:decide (I=(bL #[]))with
  |false=>rfl
  |true=>rw [hd]at h;cases h
 ·congr 1
  have e:ck I=(decide (I=(bL #[]))||(decide (ag I 0=63)||decide (ag I 0=35))):=rfl;rw [e];cases decide (I=(bL #[]))<;>cases decide (ag I 0=63)<;>cases decide (ag I 0=35)<;>rfl)
theorem Ii(bp:Option Addr)(sc us pw:Bs)(hk:Int)(hs:Bs)(hn:Int)(hp:List Int)(port:Int)(Rl pn:Bool)(pl:List Bs)(hq:Bool)(q:Bs)(hf:Bool)(fg:Bs)(bare sp:Bool)(I:Bs):ae Tryz.prog az 89 [.ptr 0 0,aE 1 (.raw (.pointer bp)) sc us pw hk hs hn hp port Rl pn pl hq q hf fg bare sp I] ⟨True,.tup [.bool (ck I),aE 1 (.raw (.pointer bp)) sc us pw hk hs hn hp port Rl pn pl hq q hf fg bare sp I]⟩:=ae.aZ (fun h=>by have e:List.isEmpty (PV.aC PV.bU [.ptr 0 0,aE 1 (.raw (.pointer bp)) sc us pw hk hs hn hp port Rl pn pl hq q hf fg bare sp I])=false:=(by kernel_rfl);exact Bool.noConfusion (e.symm.trans (congrArg List.isEmpty h))) (qM bp sc us pw hk hs hn hp port Rl pn pl hq q hf fg bare sp I)
def mQ:List PV->Option aD:=fun xs=>match xs with
 |[.ptr 0 0,aE 1 (.raw (.pointer bp)) sc us pw hk hs hn hp port Rl pn pl hq q hf fg bare sp I]=>some ⟨True,.tup [.bool (ck I),aE 1 (.raw (.pointer bp)) sc us pw hk hs hn hp port Rl pn pl hq q hf fg bare sp I]⟩
 |_=>none
theorem uG:∀xs c,mQ xs=some c->ae Tryz.prog az 89 xs c:=fun xs c h=>by
 unfold mQ at h;split at h
 ·injection h with h;subst h;exact Ii _ _ _ _ _ _ _ _ _ _ _ _ _ _ _ _ _ _ _
 ·cases h
end
section
def wK:cM:=bS []
def wL(bp:Option Addr)(sc us pw:Bs)(hk:Int)(hs:Bs)(hn:Int)(hp:List Int)(port:Int)(Rl pn:Bool)(pl:List Bs)(hq:Bool)(q:Bs)(hf:Bool)(fg:Bs)(bare sp:Bool)(I:Bs):aP:=fun i=>none
theorem yC:df Tryz.prog az wK:=ax
theorem DW(bp:Option Addr)(sc us pw:Bs)(hk:Int)(hs:Bs)(hn:Int)(hp:List Int)(port:Int)(Rl pn:Bool)(pl:List Bs)(hq:Bool)(q:Bs)(hf:Bool)(fg:Bs)(bare sp:Bool)(I:Bs)(k:PV->List PV->Prop):b9 Tryz.prog wK az (wL bp sc us pw hk hs hn hp port Rl pn pl hq q hf fg bare sp I) 1000 Tryz.f138 [.ptr 0 0] [aE 1 (.raw (.pointer bp)) sc us pw hk hs hn hp port Rl pn pl hq q hf fg bare sp I] k=(
 (sp=true->
 k (PV.str (bL #[47,92])) [ct (PV.raw (Go.Value.pointer bp)) 1 sc us pw hk hs hn hp port Rl pn pl hq q hf fg bare sp I])/\
 (sp=false->
 k (PV.str (bL #[47])) [ct (PV.raw (Go.Value.pointer bp)) 1 sc us pw hk hs hn hp port Rl pn pl hq q hf fg bare sp I])):=by kernel_rfl
attribute [local irreducible] Go.Vc.cD Go.Vc.b9
theorem yD(bp:Option Addr)(sc us pw:Bs)(hk:Int)(hs:Bs)(hn:Int)(hp:List Int)(port:Int)(Rl pn:Bool)(pl:List Bs)(hq:Bool)(q:Bs)(hf:Bool)(fg:Bs)(bare sp:Bool)(I:Bs):bE Tryz.prog az 138 [.ptr 0 0] [aE 1 (.raw (.pointer bp)) sc us pw hk hs hn hp port Rl pn pl hq q hf fg bare sp I] True (.str (fP sp)) [aE 1 (.raw (.pointer bp)) sc us pw hk hs hn hp port Rl pn pl hq q hf fg bare sp I]:=bT (by kernel_rfl) yC (H:=wL bp sc us pw hk hs hn hp port Rl pn pl hq q hf fg bare sp I) (fuel:=1000) Tryz.func138 (by kernel_rfl) (Nat.le_of_ble_eq_true rfl) fun hpre=>(DW bp sc us pw hk hs hn hp port Rl pn pl hq q hf fg bare sp I _).mpr (by
 exact ⟨fun h=>by subst h;exact ⟨rfl,rfl⟩,fun h=>by subst h;exact ⟨rfl,rfl⟩⟩)
theorem DX(bp:Option Addr)(sc us pw:Bs)(hk:Int)(hs:Bs)(hn:Int)(hp:List Int)(port:Int)(Rl pn:Bool)(pl:List Bs)(hq:Bool)(q:Bs)(hf:Bool)(fg:Bs)(bare sp:Bool)(I:Bs):ae Tryz.prog az 138 [.ptr 0 0,aE 1 (.raw (.pointer bp)) sc us pw hk hs hn hp port Rl pn pl hq q hf fg bare sp I] ⟨True,.tup [.str (fP sp),aE 1 (.raw (.pointer bp)) sc us pw hk hs hn hp port Rl pn pl hq q hf fg bare sp I]⟩:=ae.aZ (fun h=>by have e:List.isEmpty (PV.aC PV.bU [.ptr 0 0,aE 1 (.raw (.pointer bp)) sc us pw hk hs hn hp port Rl pn pl hq q hf fg bare sp I])=false:=(by kernel_rfl);exact Bool.noConfusion (e.symm.trans (congrArg List.isEmpty h))) (yD bp sc us pw hk hs hn hp port Rl pn pl hq q hf fg bare sp I)
def jk:List PV->Option aD:=fun xs=>match xs with
 |[.ptr 0 0,aE 1 (.raw (.pointer bp)) sc us pw hk hs hn hp port Rl pn pl hq q hf fg bare sp I]=>some ⟨True,.tup [.str (fP sp),aE 1 (.raw (.pointer bp)) sc us pw hk hs hn hp port Rl pn pl hq q hf fg bare sp I]⟩
 |_=>none
theorem lq:∀xs c,jk xs=some c->ae Tryz.prog az 138 xs c:=fun xs c h=>by
 unfold jk at h;split at h
 ·injection h with h;subst h;exact DX _ _ _ _ _ _ _ _ _ _ _ _ _ _ _ _ _ _ _
 ·cases h
end
section
def Ln:cM:=bS [(118,yl)]
def Lo(l m:Bs):aP:=fun i=>none
theorem Ij:df Tryz.prog az Ln:=ah DD ax
theorem NG(l m:Bs)(k:PV->Prop):cD Tryz.prog Ln az (Lo l m) 1000 Tryz.f129 [.str l,.str m] k=(
 (List.length l<=1000000/\List.length m<=1000000/\∀(b:UInt8),b∈m->b.toNat<128)/\
 (decide ((0:Int)<=Pt l m)=true->k (PV.int .i64 (Pt l m)))/\
 (decide ((0:Int)<=Pt l m)=false->k (PV.int .i64 (ai l)))):=by kernel_rfl
attribute [local irreducible] Go.Vc.cD
theorem NH(l m:Bs):ae Tryz.prog az 129 [.str l,.str m] ⟨l.length<=1000000/\m.length<=1000000/\(∀b∈m,b.toNat<128),.int .i64 (bo l m)⟩:=bR (by kernel_rfl) Ij (H:=Lo l m) (fuel:=1000) Tryz.func129 (by kernel_rfl) fun hpre=>(NG l m _).mpr (by
 have hh:=DC m l;rw [<-KO]at hh;refine ⟨hpre,fun h=>?_,fun h=>?_⟩
 ·exact congrArg (PV.int .i64) (hh.1 (of_decide_eq_true h)).1
 ·show PV.int .i64 (ai l)=_
  rw [(hh.2 (of_decide_eq_false h)).2];rfl)
def iV:List PV->Option aD:=fun xs=>match xs with
 |[.str l,.str m]=>some ⟨l.length<=1000000/\m.length<=1000000/\(∀b∈m,b.toNat<128),.int .i64 (bo l m)⟩
 |_=>none
theorem gX:∀xs c,iV xs=some c->ae Tryz.prog az 129 xs c:=fun xs c h=>by
 unfold iV at h;split at h
 ·injection h with h;subst h;exact NH _ _
 ·cases h
end
section
def wM:cM:=bS [(138,jk),(129,iV)]
def wN(bp:Option Addr)(sc us pw:Bs)(hk:Int)(hs:Bs)(hn:Int)(hp:List Int)(port:Int)(Rl pn:Bool)(pl:List Bs)(hq:Bool)(q:Bs)(hf:Bool)(fg:Bs)(bare sp:Bool)(I:Bs):aP:=fun i=>none
theorem yE:df Tryz.prog az wM:=ah lq (ah gX ax)
theorem DY(bp:Option Addr)(sc us pw:Bs)(hk:Int)(hs:Bs)(hn:Int)(hp:List Int)(port:Int)(Rl pn:Bool)(pl:List Bs)(hq:Bool)(q:Bs)(hf:Bool)(fg:Bs)(bare sp:Bool)(I:Bs)(k:PV->List PV->Prop):b9 Tryz.prog wM az (wN bp sc us pw hk hs hn hp port Rl pn pl hq q hf fg bare sp I) 1000 Tryz.f124 [.ptr 0 0] [aE 1 (.raw (.pointer bp)) sc us pw hk hs hn hp port Rl pn pl hq q hf fg bare sp I] k=(
 (True/\
 List.length (fP sp)+(bL #[63,35]).length<=Go.Vc.maxLen/\
 (List.length I<=1000000/\
 List.length (fP sp++(bL #[63,35]))<=1000000/\
 ∀(b:UInt8),b∈fP sp++(bL #[63,35])->
 b.toNat<128)/\
 k (PV.int .i64 ↑(bo I (fP sp++(bL #[63,35])))) [ct (PV.raw (Go.Value.pointer bp)) 1 sc us pw hk hs hn hp port Rl pn pl hq q hf fg bare sp I])/\
 True/\
 List.length (fP sp)+(bL #[63,35]).length<=Go.Vc.maxLen/\
 (List.length I<=1000000/\
 List.length (fP sp++(bL #[63,35]))<=1000000/\
 ∀(b:UInt8),b∈fP sp++(bL #[63,35])->
 b.toNat<128)/\
 k (PV.int .i64 ↑(bo I (fP sp++(bL #[63,35])))) [ct (PV.raw (Go.Value.pointer bp)) 1 sc us pw hk hs hn hp port Rl pn pl hq q hf fg bare sp I]):=by kernel_rfl
attribute [local irreducible] Go.Vc.cD Go.Vc.b9
theorem yF(bp:Option Addr)(sc us pw:Bs)(hk:Int)(hs:Bs)(hn:Int)(hp:List Int)(port:Int)(Rl pn:Bool)(pl:List Bs)(hq:Bool)(q:Bs)(hf:Bool)(fg:Bs)(bare sp:Bool)(I:Bs):bE Tryz.prog az 124 [.ptr 0 0] [aE 1 (.raw (.pointer bp)) sc us pw hk hs hn hp port Rl pn pl hq q hf fg bare sp I] (I.length<=300000) (.int .i64 (aj sp I)) [aE 1 (.raw (.pointer bp)) sc us pw hk hs hn hp port Rl pn pl hq q hf fg bare sp I]:=bT (by kernel_rfl) yE (H:=wN bp sc us pw hk hs hn hp port Rl pn pl hq q hf fg bare sp I) (fuel:=1000) Tryz.func124 (by kernel_rfl) (Nat.le_of_ble_eq_true rfl) fun hpre=>(DY bp sc us pw hk hs hn hp port Rl pn pl hq q hf fg bare sp I _).mpr (by
 have e2:(bL #[63,35])=[63,35]:=rfl;have hs:(fP sp).length<=2:=by unfold fP;split<;>decide
 have h1:List.length (fP sp)+(bL #[63,35]).length<=Go.Vc.maxLen:=Nat.le_trans (show _ <=100 by rw [e2];simp;omega) (by decide);have h2:List.length (fP sp++(bL #[63,35]))<=1000000:=by rw [e2];simp;omega
 have h3:∀b:UInt8,b∈fP sp++(bL #[63,35])->b.toNat<128:=by rw [e2];unfold fP;split<;>decide
 exact ⟨⟨trivial,h1,⟨by omega,h2,h3⟩,rfl,rfl⟩,trivial,h1,⟨by omega,h2,h3⟩,rfl,rfl⟩)
theorem DZ(bp:Option Addr)(sc us pw:Bs)(hk:Int)(hs:Bs)(hn:Int)(hp:List Int)(port:Int)(Rl pn:Bool)(pl:List Bs)(hq:Bool)(q:Bs)(hf:Bool)(fg:Bs)(bare sp:Bool)(I:Bs):ae Tryz.prog az 124 [.ptr 0 0,aE 1 (.raw (.pointer bp)) sc us pw hk hs hn hp port Rl pn pl hq q hf fg bare sp I] ⟨I.length<=300000,.tup [.int .i64 (aj sp I),aE 1 (.raw (.pointer bp)) sc us pw hk hs hn hp port Rl pn pl hq q hf fg bare sp I]⟩:=ae.aZ (fun h=>by have e:List.isEmpty (PV.aC PV.bU [.ptr 0 0,aE 1 (.raw (.pointer bp)) sc us pw hk hs hn hp port Rl pn pl hq q hf fg bare sp I])=false:=(by kernel_rfl);exact Bool.noConfusion (e.symm.trans (congrArg List.isEmpty h))) (yF bp sc us pw hk hs hn hp port Rl pn pl hq q hf fg bare sp I)
def gY:List PV->Option aD:=fun xs=>match xs with
 |[.ptr 0 0,aE 1 (.raw (.pointer bp)) sc us pw hk hs hn hp port Rl pn pl hq q hf fg bare sp I]=>some ⟨I.length<=300000,.tup [.int .i64 (aj sp I),aE 1 (.raw (.pointer bp)) sc us pw hk hs hn hp port Rl pn pl hq q hf fg bare sp I]⟩
 |_=>none
theorem iW:∀xs c,gY xs=some c->ae Tryz.prog az 124 xs c:=fun xs c h=>by
 unfold gY at h;split at h
 ·injection h with h;subst h;exact DZ _ _ _ _ _ _ _ _ _ _ _ _ _ _ _ _ _ _ _
 ·cases h
end
section
def Lq:cM:=bS []
def Lr(bp:Option Addr)(sc us pw:Bs)(hk:Int)(hs:Bs)(hn:Int)(hp:List Int)(port:Int)(Rl pn:Bool)(pl:List Bs)(hq:Bool)(q:Bs)(hf:Bool)(fg:Bs)(bare sp:Bool)(I:Bs)(z:Int):aP:=fun i=>none
theorem Ik:df Tryz.prog az Lq:=ax
theorem NI(bp:Option Addr)(sc us pw:Bs)(hk:Int)(hs:Bs)(hn:Int)(hp:List Int)(port:Int)(Rl pn:Bool)(pl:List Bs)(hq:Bool)(q:Bs)(hf:Bool)(fg:Bs)(bare sp:Bool)(I:Bs)(z:Int)(k:PV->List PV->Prop):b9 Tryz.prog Lq az (Lr bp sc us pw hk hs hn hp port Rl pn pl hq q hf fg bare sp I z) 1000 Tryz.f128 [.ptr 0 0,.int .i64 z] [aE 1 (.raw (.pointer bp)) sc us pw hk hs hn hp port Rl pn pl hq q hf fg bare sp I] k=(
 upto 0 z (ai I)/\
 upto z (ai I) (ai I)/\
 k (PV.str (ab I z)) [ct (PV.raw (Go.Value.pointer bp)) 1 sc us pw hk hs hn hp port Rl pn pl hq q hf fg bare sp (aa I z)]):=by kernel_rfl
attribute [local irreducible] Go.Vc.cD Go.Vc.b9
theorem Il(bp:Option Addr)(sc us pw:Bs)(hk:Int)(hs:Bs)(hn:Int)(hp:List Int)(port:Int)(Rl pn:Bool)(pl:List Bs)(hq:Bool)(q:Bs)(hf:Bool)(fg:Bs)(bare sp:Bool)(I:Bs)(z:Int):bE Tryz.prog az 128 [.ptr 0 0,.int .i64 z] [aE 1 (.raw (.pointer bp)) sc us pw hk hs hn hp port Rl pn pl hq q hf fg bare sp I] (0<=z/\z<=ai I) (.str (ab I z)) [aE 1 (.raw (.pointer bp)) sc us pw hk hs hn hp port Rl pn pl hq q hf fg bare sp (aa I z)]:=bT (by kernel_rfl) Ik (H:=Lr bp sc us pw hk hs hn hp port Rl pn pl hq q hf fg bare sp I z) (fuel:=1000) Tryz.func128 (by kernel_rfl) (Nat.le_of_ble_eq_true rfl) fun hpre=>(NI bp sc us pw hk hs hn hp port Rl pn pl hq q hf fg bare sp I z _).mpr (by
 obtain ⟨h0,h1⟩:=hpre;exact ⟨⟨by omega,h0,h1⟩,⟨h0,h1,Int.le_refl _⟩,rfl,rfl⟩)
theorem NJ(bp:Option Addr)(sc us pw:Bs)(hk:Int)(hs:Bs)(hn:Int)(hp:List Int)(port:Int)(Rl pn:Bool)(pl:List Bs)(hq:Bool)(q:Bs)(hf:Bool)(fg:Bs)(bare sp:Bool)(I:Bs)(z:Int):ae Tryz.prog az 128 [.ptr 0 0,.int .i64 z,aE 1 (.raw (.pointer bp)) sc us pw hk hs hn hp port Rl pn pl hq q hf fg bare sp I] ⟨0<=z/\z<=ai I,.tup [.str (ab I z),aE 1 (.raw (.pointer bp)) sc us pw hk hs hn hp port Rl pn pl hq q hf fg bare sp (aa I z)]⟩:=ae.aZ (fun h=>by have e:List.isEmpty (PV.aC PV.bU [.ptr 0 0,.int .i64 z,aE 1 (.raw (.pointer bp)) sc us pw hk hs hn hp port Rl pn pl hq q hf fg bare sp I])=false:=(by kernel_rfl);exact Bool.noConfusion (e.symm.trans (congrArg List.isEmpty h))) (Il bp sc us pw hk hs hn hp port Rl pn pl hq q hf fg bare sp I z)
def iX:List PV->Option aD:=fun xs=>match xs with
 |[.ptr 0 0,.int .i64 z,aE 1 (.raw (.pointer bp)) sc us pw hk hs hn hp port Rl pn pl hq q hf fg bare sp I]=>some ⟨0<=z/\z<=ai I,.tup [.str (ab I z),aE 1 (.raw (.pointer bp)) sc us pw hk hs hn hp port Rl pn pl hq q hf fg bare sp (aa I z)]⟩
 |_=>none
theorem gZ:∀xs c,iX xs=some c->ae Tryz.prog az 128 xs c:=fun xs c h=>by
 unfold iX at h;split at h
 ·injection h with h;subst h;exact NJ _ _ _ _ _ _ _ _ _ _ _ _ _ _ _ _ _ _ _ _
 ·cases h
end
section
def FO:cM:=bS []
def FP(l:Bs):aP:=fun i=>bif Nat.beq i 3 then some ⟨(Int)×Bool,(fun s x=>((((((((((((((((((s.put 7 (.int .i64 x.1)).put 3 (.bool x.2)).put 4 .undef).put 8 .undef).put 9 .undef).put 10 .undef).put 11 .undef).put 12 .undef).put 13 .undef).put 14 .undef).put 15 .undef).put 16 .undef).put 17 .undef).put 18 .undef).put 19 .undef).put 20 .undef).put 21 .undef).put 22 .undef)),(fun s=>(s.int 7,s.bool 3)),(fun s x=>let i:=x.1;let wn:=x.2;0<=i/\i<=l.length/\kC wn i (l.drop i.toNat)=bl l),(fun s x=>let i:=x.1;let wn:=x.2;((l.length:Int)-i).toNat),[4,8,9,10,11,12,13,14,15,16,17,18,19,20,21,22]⟩else none
theorem D3:df Tryz.prog az FO:=ax
theorem Ls(l:Bs)(k:PV->Prop):cD Tryz.prog FO az (FP l) 1000 Tryz.f135 [.str l] k=(
 eK (VS.mk []
 [(0,PV.str l),(2,PV.int .i64 0),(3,PV.bool false),uZ 4,
 (6,PV.int .i64 (ai l)),(7,PV.int .i64 0),uZ 8,
 uZ 12,uZ 13,uZ 15,uZ 17,uZ 20]
 [])/\
 ((0:Int)<=0/\
 (0:Int)<=↑(List.length l)/\
 kC false 0 (List.drop (Int.toNat (0:Int)) l)=bl l)/\
 ∀(x:Int×Bool),
 (0:Int)<=x.1/\
 x.1<=↑(List.length l)/\
 kC x.2 x.1 (List.drop x.1.toNat l)=bl l->
 (decide (x.1<ai l)=true->
 within x.1 (ai l)/\
 (decide (ag l x.1=91)=true->
 av (x.1+1)/\
 eK (VS.mk []
 [(0,PV.str l),(2,PV.int .i64 0),(3,PV.bool true),
 uZ 4,(6,PV.int .i64 (ai l)),
 (7,PV.int .i64 (x.1+1)),uZ 8,uZ 12,
 uZ 13,uZ 15,uZ 17,uZ 20]
 [])/\
 ((0:Int)<=x.1+1/\
 x.1+1<=↑(List.length l)/\
 kC true (x.1+(1:Int)) (List.drop (x.1+1).toNat l)=
 bl l)/\
 (↑(List.length l)-(x.1+(1:Int))).toNat<(↑(List.length l)-x.1).toNat)/\
 (decide (ag l x.1=(91:Int))=false->
 (decide (ag l x.1=93)=true->
 av (x.1+1)/\
 eK (VS.mk []
 [(0,PV.str l),(2,PV.int .i64 0),(3,PV.bool false),
 uZ 4,(6,PV.int .i64 (ai l)),
 (7,PV.int .i64 (x.1+1)),uZ 8,uZ 12,
 uZ 13,uZ 15,uZ 17,uZ 20]
 [])/\
 ((0:Int)<=x.1+1/\
 x.1+1<=↑(List.length l)/\
 kC false (x.1+(1:Int)) (List.drop (x.1+1).toNat l)=
 bl l)/\
 (↑(List.length l)-(x.1+(1:Int))).toNat<(↑(List.length l)-x.1).toNat)/\
 (decide (ag l x.1=(93:Int))=false->
 (decide (ag l x.1=58)=true->
 ((!x.2)=true->k (PV.int .i64 x.1))/\
 ((!x.2)=false->
 av (x.1+1)/\
 eK (VS.mk []
 [(0,PV.str l),(2,PV.int .i64 0),(3,PV.bool x.2),
 uZ 4,(6,PV.int .i64 (ai l)),
 (7,PV.int .i64 (x.1+1)),uZ 8,uZ 12,
 uZ 13,uZ 15,uZ 17,uZ 20]
 [])/\
 ((0:Int)<=x.1+1/\
 x.1+1<=↑(List.length l)/\
 kC x.2 (x.1+(1:Int)) (List.drop (x.1+1).toNat l)=
 bl l)/\
 (↑(List.length l)-(x.1+(1:Int))).toNat<(↑(List.length l)-x.1).toNat))/\
 (decide (ag l x.1=(58:Int))=false->
 av (x.1+1)/\
 eK (VS.mk []
 [(0,PV.str l),(2,PV.int .i64 0),(3,PV.bool x.2),
 uZ 4,(6,PV.int .i64 (ai l)),
 (7,PV.int .i64 (x.1+1)),uZ 8,uZ 12,
 uZ 13,uZ 15,uZ 17,uZ 20]
 [])/\
 ((0:Int)<=x.1+1/\
 x.1+1<=↑(List.length l)/\
 kC x.2 (x.1+(1:Int)) (List.drop (x.1+1).toNat l)=
 bl l)/\
 (↑(List.length l)-(x.1+(1:Int))).toNat<(↑(List.length l)-x.1).toNat))))/\
 (decide (x.1<ai l)=false->k (PV.int .i64 (-1:Int)))):=by kernel_rfl
attribute [local irreducible] Go.Vc.cD
theorem Lt(l:Bs):ae Tryz.prog az 135 [.str l] ⟨l.length<=1000000,.int .i64 (bl l)⟩:=bR (by kernel_rfl) D3 (H:=FP l) (fuel:=1000) Tryz.func135 (by kernel_rfl) fun hpre=>(Ls l _).mpr (by
 refine ⟨rfl,⟨by omega,by omega,rfl⟩,fun x ⟨h0,h1,h2⟩=>⟨fun h=>?_,fun h=>?_⟩⟩
 ·have hlt:x.1<l.length:=of_decide_eq_true h
  rw [A8 h0 hlt]at h2;obtain ⟨c,hc⟩:∃c,c=l.getD x.1.toNat 0:=⟨_,rfl⟩;have hby:ag l x.1=c.toNat:=by rw [hc];rfl
  rw [<-hc,kC]at h2;rw [hby];refine ⟨⟨h0,hlt⟩,fun g=>⟨by unfold av;omega,rfl,⟨by omega,by omega,?_⟩,by omega⟩,fun g=>⟨fun g2=>⟨by unfold av;omega,rfl,⟨by omega,by omega,?_⟩,by omega⟩,fun g2=>⟨fun g3=>⟨fun g4=>?_,fun g4=>⟨by unfold av;omega,rfl,⟨by omega,by omega,?_⟩,by omega⟩⟩,fun g3=>⟨by unfold av;omega,rfl,⟨by omega,by omega,?_⟩,by omega⟩⟩⟩⟩
  ·have:=of_decide_eq_true g
   rw [if_pos (by omega)]at h2;exact h2
  ·have:=of_decide_eq_false g
   have:=of_decide_eq_true g2;rw [if_neg (by omega),if_pos (by omega)]at h2;exact h2
  ·have:=of_decide_eq_false g
   have:=of_decide_eq_false g2;have:=of_decide_eq_true g3;have hw:x.2=false:=by simpa using g4
   rw [if_neg (by omega),if_neg (by omega),if_pos ⟨by omega,hw⟩]at h2;rw [h2]
  ·have:=of_decide_eq_false g
   have:=of_decide_eq_false g2;have hw:¬x.2=false:=by simpa using g4
   rw [if_neg (by omega),if_neg (by omega),if_neg (fun e=>hw e.2)]at h2;exact h2
  ·have:=of_decide_eq_false g
   have:=of_decide_eq_false g2;have:=of_decide_eq_false g3;rw [if_neg (by omega),if_neg (by omega),if_neg (by omega)]at h2;exact h2
 ·have hge:¬x.1<l.length:=of_decide_eq_false h
  rw [wE hge]at h2;show PV.int _ _=PV.int _ _;rw [<-h2];rfl)
def pM:List PV->Option aD:=fun xs=>match xs with
 |[.str l]=>some ⟨l.length<=1000000,.int .i64 (bl l)⟩
 |_=>none
theorem yG:∀xs c,pM xs=some c->ae Tryz.prog az 135 xs c:=fun xs c h=>by
 unfold pM at h;split at h
 ·injection h with h;subst h;exact Lt _
 ·cases h
end
section
theorem ot {sc:Bs}{port:Int}{t:Bs}(h:t≠[]):eV sc port t=match jU 0 t with
 |none=>(port,8)
 |some n=>if 65535<n then(port,8)else if bK sc=true/\MW sc=n then(port,0)else(n,0):=by
 cases t with
 |nil=>exact absurd rfl h
 |cons b t=>rfl
def Lu:cM:=bS [(155,jR),(27,eR)]
def Lv(bp:Option Addr)(sc us pw:Bs)(hk:Int)(hs:Bs)(hn:Int)(hp:List Int)(port:Int)(Rl pn:Bool)(pl:List Bs)(hq:Bool)(q:Bs)(hf:Bool)(fg:Bs)(bare sp:Bool)(I:Bs)(t:Bs):aP:=fun i=>bif Nat.beq i 5 then some ⟨(Int)×Int,(fun s x=>((((((((((((((((((((s.put 5 (.int .i64 x.1)).put 13 (.int .i64 x.2)).put 6 .undef).put 14 .undef).put 15 .undef).put 16 .undef).put 17 .undef).put 18 .undef).put 19 .undef).put 20 .undef).put 21 .undef).put 22 .undef).put 23 .undef).put 24 .undef).put 25 .undef).put 26 .undef).put 27 .undef).put 28 .undef).put 29 .undef).put 30 .undef)),(fun s=>(s.int 5,s.int 13)),(fun s x=>let n:=x.1;let i:=x.2;0<=i/\i<=t.length/\0<=n/\n<=65536/\jU n (t.drop i.toNat)=jU 0 t),(fun s x=>let n:=x.1;let i:=x.2;((t.length:Int)-i).toNat),[6,14,15,16,17,18,19,20,21,22,23,24,25,26,27,28,29,30]⟩else none
theorem Im:df Tryz.prog az Lu:=ah kg (ah eS ax)
theorem NK(bp:Option Addr)(sc us pw:Bs)(hk:Int)(hs:Bs)(hn:Int)(hp:List Int)(port:Int)(Rl pn:Bool)(pl:List Bs)(hq:Bool)(q:Bs)(hf:Bool)(fg:Bs)(bare sp:Bool)(I:Bs)(t:Bs)(k:PV->List PV->Prop):b9 Tryz.prog Lu az (Lv bp sc us pw hk hs hn hp port Rl pn pl hq q hf fg bare sp I t) 1000 Tryz.f137 [.ptr 0 0,.str t] [aE 1 (.raw (.pointer bp)) sc us pw hk hs hn hp port Rl pn pl hq q hf fg bare sp I] k=(
 (decide (t=(bL #[]))=true->
 k (PV.int .i64 0) [ct (PV.raw (Go.Value.pointer bp)) 1 sc us pw hk hs hn hp port Rl pn pl hq q hf fg bare sp I])/\
 (decide (t=(bL #[]))=false->
 eK (VS.mk [] [(0,PV.ptr 0 0),(1,PV.str t),(4,PV.int .i64 0),(5,PV.int .i64 0),uZ 6,uZ 7,uZ 8,(10,PV.bool (decide (t=(bL #[])))),(12,PV.int .i64 (ai t)),(13,PV.int .i64 0),uZ 14,uZ 20,uZ 32,uZ 48] [((0:Nat),ct (PV.raw (Go.Value.pointer bp)) 1 sc us pw hk hs hn hp port Rl pn pl hq q hf fg bare sp I)])/\
 ((0:Int)<=0/\
 (0:Int)<=↑(List.length t)/\
 (0:Int)<=(0:Int)/\
 (0:Int)<=(65536:Int)/\
 jU 0 (List.drop (Int.toNat (0:Int)) t)=jU 0 t)/\
 ∀(x:Int×Int),(0:Int)<=x.2/\
 x.2<=↑(List.length t)/\
 (0:Int)<=x.1/\
 x.1<=(65536:Int)/\
 jU x.1 (List.drop x.2.toNat t)=jU 0 t->
 (decide (x.2<ai t)=true->
 within x.2 (ai t)/\
 True/\
 ((!decide ((48:Int)<=ag t x.2/\
 ag t x.2<=57))=true->
 k (PV.int .i64 8) [ct (PV.raw (Go.Value.pointer bp)) 1 sc us pw hk hs hn hp port Rl pn pl hq q hf fg bare sp I])/\
 ((!decide ((48:Int)<=ag t x.2/\
 ag t x.2<=57))=false->
 av (x.1*10)/\
 within x.2 (ai t)/\
 av (x.1*10+Go.IntKind.i64.wrap (Go.IntKind.u8.wrap (ag t x.2-48)))/\
 av (x.2+1)/\
 eK (VS.mk [] [(0,PV.ptr 0 0),(1,PV.str t),(4,PV.int .i64 0),(5,PV.int .i64 (min (x.1*10+Go.IntKind.i64.wrap (Go.IntKind.u8.wrap (ag t x.2-48))) 65536)),uZ 6,uZ 7,uZ 8,(10,PV.bool (decide (t=(bL #[])))),(12,PV.int .i64 (ai t)),(13,PV.int .i64 (x.2+1)),uZ 14,uZ 20,uZ 32,uZ 48] [((0:Nat),ct (PV.raw (Go.Value.pointer bp)) 1 sc us pw hk hs hn hp port Rl pn pl hq q hf fg bare sp I)])/\
 ((0:Int)<=x.2+1/\
 x.2+1<=↑(List.length t)/\
 (0:Int)<=min (x.1*(10:Int)+Go.IntKind.i64.wrap (Go.IntKind.u8.wrap (ag t x.2-48))) 65536/\
 min (x.1*10+Go.IntKind.i64.wrap (Go.IntKind.u8.wrap (ag t x.2-48))) 65536<=65536/\
 jU (min (x.1*10+Go.IntKind.i64.wrap (Go.IntKind.u8.wrap (ag t x.2-48))) 65536) (List.drop (x.2+1).toNat t)=jU 0 t)/\
 (↑(List.length t)-(x.2+(1:Int))).toNat<(↑(List.length t)-x.2).toNat))/\
 (decide (x.2<ai t)=false->
 (decide ((65535:Int)<x.1)=true->
 k (PV.int .i64 8) [ct (PV.raw (Go.Value.pointer bp)) 1 sc us pw hk hs hn hp port Rl pn pl hq q hf fg bare sp I])/\
 (decide ((65535:Int)<x.1)=false->
 True/\
 ((bif !bK sc then true else !decide (MW sc=x.1))=true->
 k (PV.int .i64 0) [ct (PV.raw (Go.Value.pointer bp)) 1 sc us pw hk hs hn hp x.1 Rl pn pl hq q hf fg bare sp I])/\
 ((bif !bK sc then true else !decide (MW sc=x.1))=false->
 k (PV.int .i64 0) [ct (PV.raw (Go.Value.pointer bp)) 1 sc us pw hk hs hn hp port Rl pn pl hq q hf fg bare sp I]))))):=by kernel_rfl
attribute [local irreducible] Go.Vc.cD Go.Vc.b9
theorem Io(bp:Option Addr)(sc us pw:Bs)(hk:Int)(hs:Bs)(hn:Int)(hp:List Int)(port:Int)(Rl pn:Bool)(pl:List Bs)(hq:Bool)(q:Bs)(hf:Bool)(fg:Bs)(bare sp:Bool)(I:Bs)(t:Bs):bE Tryz.prog az 137 [.ptr 0 0,.str t] [aE 1 (.raw (.pointer bp)) sc us pw hk hs hn hp port Rl pn pl hq q hf fg bare sp I] (t.length<=300000) (.int .i64 (eV sc port t).2) [aE 1 (.raw (.pointer bp)) sc us pw hk hs hn hp ((eV sc port t).1) Rl pn pl hq q hf fg bare sp I]:=bT (by kernel_rfl) Im (H:=Lv bp sc us pw hk hs hn hp port Rl pn pl hq q hf fg bare sp I t) (fuel:=1000) Tryz.func137 (by kernel_rfl) (Nat.le_of_ble_eq_true rfl) fun hpre=>(NK bp sc us pw hk hs hn hp port Rl pn pl hq q hf fg bare sp I t _).mpr (by
 refine ⟨fun h=>?_,fun h=>⟨rfl,⟨by omega,by omega,by omega,by omega,rfl⟩,fun x ⟨h0,h1,h2,h3,h4⟩=>⟨fun g=>?_,fun g=>?_⟩⟩⟩
 ·have e:t=[]:=of_decide_eq_true h
  subst e;exact ⟨rfl,rfl⟩
 ·have hne:t≠[]:=of_decide_eq_false h
  have hlt:x.2<t.length:=of_decide_eq_true g;rw [A8 h0 hlt]at h4;obtain ⟨c,hc⟩:∃c,c=t.getD x.2.toNat 0:=⟨_,rfl⟩;have hby:ag t x.2=c.toNat:=by rw [hc];rfl
  rw [<-hc,jU]at h4;rw [hby];refine ⟨⟨h0,hlt⟩,trivial,fun g2=>?_,fun g2=>?_⟩
  ·have g3:¬(48<=c.toNat/\c.toNat<=57):=by
    intro e;rw [decide_eq_true (show(48:Int)<=c.toNat/\(c.toNat:Int)<=57 by omega)]at g2;cases g2
   rw [if_neg g3]at h4;have e:eV sc port t=(port,8):=by rw [ot hne,<-h4]
   rw [e];exact ⟨rfl,rfl⟩
  ·have g3:48<=c.toNat/\c.toNat<=57:=by
    have:=of_decide_eq_true (show decide ((48:Int)<=c.toNat/\(c.toNat:Int)<=57)=true by simpa using g2);omega
   rw [if_pos g3]at h4;have w1:IntKind.u8.wrap ((c.toNat:Int)-48)=(c.toNat:Int)-48:=IntWalk.u8_in _ (by omega);have w2:IntKind.i64.wrap ((c.toNat:Int)-48)=(c.toNat:Int)-48:=IntWalk.i64_in _ (by omega);rw [w1,w2];exact ⟨by unfold av;omega,⟨h0,hlt⟩,by unfold av;omega,by unfold av;omega,rfl,⟨by omega,by omega,by omega,by omega,h4⟩,by omega⟩
 ·have hne:t≠[]:=of_decide_eq_false h
  have hge:¬x.2<t.length:=of_decide_eq_false g;rw [wE hge]at h4;have h5:jU 0 t=some x.1:=h4.symm;refine ⟨fun g2=>?_,fun g2=>⟨trivial,fun g3=>?_,fun g3=>?_⟩⟩
  ·have e:eV sc port t=(port,8):=by rw [ot hne,h5];exact if_pos (of_decide_eq_true g2)
   rw [e];exact ⟨rfl,rfl⟩
  ·have e:eV sc port t=(x.1,0):=by
    rw [ot hne,h5];show(if _ then _ else if _ then _ else _)=_
    rw [if_neg (of_decide_eq_false g2),if_neg]
    rintro ⟨e1,e2⟩
    rw [e1,decide_eq_true e2]at g3;cases g3
   rw [e];exact ⟨rfl,rfl⟩
  ·have e:eV sc port t=(port,0):=by
    rw [ot hne,h5];show(if _ then _ else if _ then _ else _)=_
    rw [if_neg (of_decide_eq_false g2),if_pos];cases e1:bK sc with
    |false=>rw [e1]at g3;cases g3
    |true=>
     refine ⟨rfl,?_⟩;rw [e1]at g3;exact of_decide_eq_true (show decide (MW sc=x.1)=true by simpa using g3)
   rw [e];exact ⟨rfl,rfl⟩)
theorem NL(bp:Option Addr)(sc us pw:Bs)(hk:Int)(hs:Bs)(hn:Int)(hp:List Int)(port:Int)(Rl pn:Bool)(pl:List Bs)(hq:Bool)(q:Bs)(hf:Bool)(fg:Bs)(bare sp:Bool)(I:Bs)(t:Bs):ae Tryz.prog az 137 [.ptr 0 0,.str t,aE 1 (.raw (.pointer bp)) sc us pw hk hs hn hp port Rl pn pl hq q hf fg bare sp I] ⟨t.length<=300000,.tup [.int .i64 (eV sc port t).2,aE 1 (.raw (.pointer bp)) sc us pw hk hs hn hp ((eV sc port t).1) Rl pn pl hq q hf fg bare sp I]⟩:=ae.aZ (fun h=>by have e:List.isEmpty (PV.aC PV.bU [.ptr 0 0,.str t,aE 1 (.raw (.pointer bp)) sc us pw hk hs hn hp port Rl pn pl hq q hf fg bare sp I])=false:=(by kernel_rfl);exact Bool.noConfusion (e.symm.trans (congrArg List.isEmpty h))) (Io bp sc us pw hk hs hn hp port Rl pn pl hq q hf fg bare sp I t)
def tB:List PV->Option aD:=fun xs=>match xs with
 |[.ptr 0 0,.str t,aE 1 (.raw (.pointer bp)) sc us pw hk hs hn hp port Rl pn pl hq q hf fg bare sp I]=>some ⟨t.length<=300000,.tup [.int .i64 (eV sc port t).2,aE 1 (.raw (.pointer bp)) sc us pw hk hs hn hp ((eV sc port t).1) Rl pn pl hq q hf fg bare sp I]⟩
 |_=>none
theorem Bj:∀xs c,tB xs=some c->ae Tryz.prog az 137 xs c:=fun xs c h=>by
 unfold tB at h;split at h
 ·injection h with h;subst h;exact NL _ _ _ _ _ _ _ _ _ _ _ _ _ _ _ _ _ _ _ _
 ·cases h
end
section
theorem rI:∀(l:Bs) (w:Bool) (i:Int),kC w i l=-1\/(i<=kC w i l/\kC w i l<i+l.length)
 |[],w,i=>.inl rfl
 |b::l,w,i=>by
  have h1:=rI l true (i+1);have h2:=rI l false (i+1);have h3:=rI l w (i+1);unfold kC;rw [List.length_cons];split
  ·omega
  ·split
   ·omega
   ·split
    ·omega
    ·omega
theorem FQ(l:Bs):-1<=bl l/\bl l<max l.length 1:=by
 have:=rI l false 0;unfold bl;cases l with
 |nil=>exact ⟨by decide,by decide⟩
 |cons b l=>rw [List.length_cons]at this⊢;omega
theorem NM {l:Bs}(h:0<bl l):bl l<l.length:=by
 have:=FQ l;cases l with
 |nil=>revert h;decide
 |cons b l=>rw [List.length_cons]at this⊢;omega
theorem Lw(l:Bs)(c:Int):aK l c<l.length:=by
 rw [sW];rcases Lib.lastIndexByte_spec ⟨l.toArray⟩ c with⟨h1,-⟩|⟨i,h1,h2,-,-⟩
 ·rw [h1];omega
 ·rw [h2]
  have:i<l.length:=by simpa [ByteArray.size]using h1
  omega
theorem tC(l:Bs)(z:Int):(ab l z).length<=l.length:=by unfold ab;rw [List.length_take];exact Nat.min_le_right _ _
theorem dA(l:Bs)(z:Int):(aa l z).length<=l.length:=by unfold aa;rw [List.length_drop];omega
theorem NN(l:Bs)(c:UInt8):(eg l c).length<=l.length:=by
 unfold eg;split
 ·rw [List.length_take];exact Nat.min_le_right _ _
 ·exact Nat.le_refl _
theorem NO(l:Bs)(c:UInt8):(eO l c).length<=l.length:=by
 unfold eO;split
 ·rw [List.length_drop];omega
 ·exact Nat.zero_le _
def Qo(k:PV->List PV->Prop)(bp:Option Addr)(sc us pw:Bs)(hk:Int)(hs:Bs)(hn:Int)(hp:List Int)(port:Int)(Rl pn:Bool)(pl:List Bs)(hq:Bool)(q:Bs)(hf:Bool)(fg:Bs)(bare sp:Bool)(t D:Bs):Prop:=t.length.le (1000000:Nat)/\
 ((bif decide (bl t=(0:Int))then true else bif decide (t=(bL #[]))then sp else false)=true->
 k (PV.int .i64 (8:Int)) [ct (PV.raw (Go.Value.pointer bp)) 1 sc us pw hk hs hn hp port Rl pn pl hq q hf fg bare sp D])/\
 ((bif decide (bl t=(0:Int))then true else bif decide (t=(bL #[]))then sp else false)=false->
 (decide ((0:Int)<bl t)=true->
 upto (0:Int) (bl t) (ai t)/\
 av (bl t+(1:Int))/\
 upto (bl t+(1:Int)) (ai t) (ai t)/\
 (ab t (bl t)).length.le (300000:Nat)/\
 ((!decide ((aG sp (ab t (bl t))).2.2.2.2=(0:Int)))=true->
 k (PV.int .i64 (aG sp (ab t (bl t))).2.2.2.2) [ct (PV.raw (Go.Value.pointer bp)) 1 sc us pw ((aG sp (ab t (bl t))).1) ((aG sp (ab t (bl t))).2.1) ((aG sp (ab t (bl t))).2.2.1) ((aG sp (ab t (bl t))).2.2.2.1) port Rl pn pl hq q hf fg bare sp D])/\
 ((!decide ((aG sp (ab t (bl t))).2.2.2.2=(0:Int)))=false->
 (aa t (bl t+(1:Int))).length.le (300000:Nat)/\
 k (PV.int .i64 (eV sc port (aa t (bl t+(1:Int)))).2) [ct (PV.raw (Go.Value.pointer bp)) 1 sc us pw ((aG sp (ab t (bl t))).1) ((aG sp (ab t (bl t))).2.1) ((aG sp (ab t (bl t))).2.2.1) ((aG sp (ab t (bl t))).2.2.2.1) ((eV sc port (aa t (bl t+(1:Int)))).1) Rl pn pl hq q hf fg bare sp D]))/\
 (decide ((0:Int)<bl t)=false->
 t.length.le (300000:Nat)/\
 ((!decide ((aG sp t).2.2.2.2=(0:Int)))=true->
 k (PV.int .i64 (aG sp t).2.2.2.2) [ct (PV.raw (Go.Value.pointer bp)) 1 sc us pw ((aG sp t).1) ((aG sp t).2.1) ((aG sp t).2.2.1) ((aG sp t).2.2.2.1) port Rl pn pl hq q hf fg bare sp D])/\
 ((!decide ((aG sp t).2.2.2.2=(0:Int)))=false->
 (bL #[]).length.le (300000:Nat)/\
 k (PV.int .i64 (0:Int)) [ct (PV.raw (Go.Value.pointer bp)) 1 sc us pw ((aG sp t).1) ((aG sp t).2.1) ((aG sp t).2.2.1) ((aG sp t).2.2.2.1) port Rl pn pl hq q hf fg bare sp D])))
set_option maxHeartbeats 2000000 in
theorem FR(bp:Option Addr)(sc us pw:Bs)(hk:Int)(hs:Bs)(hn:Int)(hp:List Int)(port:Int)(Rl pn:Bool)(pl:List Bs)(hq:Bool)(q:Bs)(hf:Bool)(fg:Bs)(bare sp:Bool)(t D:Bs)(hl:t.length<=300000):
 Qo (fun v os=>v=.int .i64 ((RS.mk sc us pw hk hs hn hp port Rl pn pl hq q hf fg bare sp D).cd t).2/\os=[aE 1 (.raw (.pointer bp)) sc (((RS.mk sc us pw hk hs hn hp port Rl pn pl hq q hf fg bare sp D).cd t).1.us) (((RS.mk sc us pw hk hs hn hp port Rl pn pl hq q hf fg bare sp D).cd t).1.pw) (((RS.mk sc us pw hk hs hn hp port Rl pn pl hq q hf fg bare sp D).cd t).1.hk) (((RS.mk sc us pw hk hs hn hp port Rl pn pl hq q hf fg bare sp D).cd t).1.hs) (((RS.mk sc us pw hk hs hn hp port Rl pn pl hq q hf fg bare sp D).cd t).1.hn) (((RS.mk sc us pw hk hs hn hp port Rl pn pl hq q hf fg bare sp D).cd t).1.hp) (((RS.mk sc us pw hk hs hn hp port Rl pn pl hq q hf fg bare sp D).cd t).1.port) Rl pn pl hq q hf fg bare sp D]) bp sc us pw hk hs hn hp port Rl pn pl hq q hf fg bare sp t D:=by
 have hb:=FQ t;have hcond:(bif decide (bl t=(0:Int))then true else bif decide (t=(bL #[]))then sp else false)=decide (bl t=0\/(t=[]/\sp=true)):=by
  rw [Bool.eq_iff_iff];simp only [x5,QH,Bool.and_eq_true,Bool.or_eq_true,decide_eq_true_eq]
  try exact Iff.rfl
 unfold Qo;rw [hcond];refine ⟨show t.length<=1000000 by omega,fun h=>?_,fun h=>⟨fun h2=>?_,fun h2=>?_⟩⟩
 ·have e:(RS.mk sc us pw hk hs hn hp port Rl pn pl hq q hf fg bare sp D).cd t=((RS.mk sc us pw hk hs hn hp port Rl pn pl hq q hf fg bare sp D),8):=if_pos (of_decide_eq_true h)
  rw [e];exact ⟨rfl,rfl⟩
 ·have hc:=of_decide_eq_false h
  have h3:0<bl t:=of_decide_eq_true h2;have h4:=NM h3;have ht:=tC t (bl t);have hd:=dA t (bl t+1);have e:(RS.mk sc us pw hk hs hn hp port Rl pn pl hq q hf fg bare sp D).cd t=if(aG sp (ab t (bl t))).2.2.2.2=0 then({(RS.mk sc us pw hk hs hn hp port Rl pn pl hq q hf fg bare sp D)with hk:=(aG sp (ab t (bl t))).1,hs:=(aG sp (ab t (bl t))).2.1,hn:=(aG sp (ab t (bl t))).2.2.1,hp:=(aG sp (ab t (bl t))).2.2.2.1,port:=(eV sc port (aa t (bl t+1))).1},(eV sc port (aa t (bl t+1))).2)else({(RS.mk sc us pw hk hs hn hp port Rl pn pl hq q hf fg bare sp D)with hk:=(aG sp (ab t (bl t))).1,hs:=(aG sp (ab t (bl t))).2.1,hn:=(aG sp (ab t (bl t))).2.2.1,hp:=(aG sp (ab t (bl t))).2.2.2.1},(aG sp (ab t (bl t))).2.2.2.2):=by
   unfold RS.cd;rw [if_neg hc];dsimp only;rw [if_pos h3,if_pos h3]
  rw [e];refine ⟨⟨by omega,by omega,by unfold ai;omega⟩,by unfold av;omega,⟨by omega,by unfold ai;omega,Int.le_refl _⟩,show(ab t (bl t)).length<=300000 by omega,fun h5=>?_,fun h5=>⟨show(aa t (bl t+1)).length<=300000 by omega,?_⟩⟩
  ·rw [if_neg (by simpa using h5)];exact ⟨rfl,rfl⟩
  ·rw [if_pos (by simpa using h5)];exact ⟨rfl,rfl⟩
 ·have hc:=of_decide_eq_false h
  have h3:¬0<bl t:=of_decide_eq_false h2;have e:(RS.mk sc us pw hk hs hn hp port Rl pn pl hq q hf fg bare sp D).cd t=if(aG sp t).2.2.2.2=0 then({(RS.mk sc us pw hk hs hn hp port Rl pn pl hq q hf fg bare sp D)with hk:=(aG sp t).1,hs:=(aG sp t).2.1,hn:=(aG sp t).2.2.1,hp:=(aG sp t).2.2.2.1,port:=(eV sc port []).1},(eV sc port []).2)else({(RS.mk sc us pw hk hs hn hp port Rl pn pl hq q hf fg bare sp D)with hk:=(aG sp t).1,hs:=(aG sp t).2.1,hn:=(aG sp t).2.2.1,hp:=(aG sp t).2.2.2.1},(aG sp t).2.2.2.2):=by
   unfold RS.cd;rw [if_neg hc];dsimp only;rw [if_neg h3,if_neg h3]
  rw [e];refine ⟨show t.length<=300000 from hl,fun h5=>?_,fun h5=>⟨Nat.zero_le _,?_⟩⟩
  ·rw [if_neg (by simpa using h5)];exact ⟨rfl,rfl⟩
  ·rw [if_pos (by simpa using h5)];exact ⟨rfl,rfl⟩
def qN:cM:=bS [(124,gY),(128,iX),(133,sX),(134,ym),(26,gh),(135,pM),(136,lj),(137,tB)]
def qO(bp:Option Addr)(sc us pw:Bs)(hk:Int)(hs:Bs)(hn:Int)(hp:List Int)(port:Int)(Rl pn:Bool)(pl:List Bs)(hq:Bool)(q:Bs)(hf:Bool)(fg:Bs)(bare sp:Bool)(I:Bs):aP:=fun i=>none
theorem tD:df Tryz.prog az qN:=ah iW (ah gZ (ah AS (ah DE (ah eU (ah yG (ah tf (ah Bj ax)))))))
theorem yH(bp:Option Addr)(sc us pw:Bs)(hk:Int)(hs:Bs)(hn:Int)(hp:List Int)(port:Int)(Rl pn:Bool)(pl:List Bs)(hq:Bool)(q:Bs)(hf:Bool)(fg:Bs)(bare sp:Bool)(I:Bs)(k:PV->List PV->Prop):b9 Tryz.prog qN az (qO bp sc us pw hk hs hn hp port Rl pn pl hq q hf fg bare sp I) 1000 Tryz.f88 [.ptr 0 0] [aE 1 (.raw (.pointer bp)) sc us pw hk hs hn hp port Rl pn pl hq q hf fg bare sp I] k=(
 (List.length I).le 300000/\
 ((0:Int)<=↑(aj sp I)/\
 ↑(aj sp I)<=ai I)/\
 ((ab I ↑(aj sp I)).length<=(1000000:Nat)/\
 (0:Int)<=(64:Int)/\
 (64:Int)<=255)/\
 (decide ((0:Int)<=aK (ab I ↑(aj sp I)) 64)=true->
 upto 0 (aK (ab I ↑(aj sp I)) 64) (ai (ab I ↑(aj sp I)))/\
 ((ab (ab I ↑(aj sp I)) (aK (ab I ↑(aj sp I)) 64)).length<=(1000000:Nat)/\
 (bL #[58])=[(58:UInt8)])/\
 ((eg (ab (ab I ↑(aj sp I)) (aK (ab I ↑(aj sp I)) 64)) (58:UInt8)).length<=(300000:Nat)/\
 (0:Int)<=5/\
 (5:Int)<=6)/\
 ((eO (ab (ab I ↑(aj sp I)) (aK (ab I ↑(aj sp I)) 64)) (58:UInt8)).length<=(300000:Nat)/\
 (0:Int)<=5/\
 (5:Int)<=6)/\
 av (aK (ab I ↑(aj sp I)) 64+(1:Int))/\
 upto (aK (ab I ↑(aj sp I)) 64+(1:Int)) (ai (ab I ↑(aj sp I))) (ai (ab I ↑(aj sp I)))/\
 (decide (aa (ab I ↑(aj sp I)) (aK (ab I ↑(aj sp I)) 64+(1:Int))=(bL #[]))=true->
 k (PV.int .i64 8) [ct (PV.raw (Go.Value.pointer bp)) 1 sc (bz 5 (eg (ab (ab I ↑(aj sp I)) (aK (ab I ↑(aj sp I)) 64)) (58:UInt8))) (bz 5 (eO (ab (ab I ↑(aj sp I)) (aK (ab I ↑(aj sp I)) 64)) (58:UInt8))) hk hs hn hp port Rl pn pl hq q hf fg bare sp (aa I ↑(aj sp I))])/\
 (decide (aa (ab I ↑(aj sp I)) (aK (ab I ↑(aj sp I)) 64+(1:Int))=(bL #[]))=false->
 (aa (ab I ↑(aj sp I)) (aK (ab I ↑(aj sp I)) 64+(1:Int))).length.le 1000000/\
 ((bif decide (bl (aa (ab I ↑(aj sp I)) (aK (ab I ↑(aj sp I)) 64+(1:Int)))=(0:Int))then true else bif decide (aa (ab I ↑(aj sp I)) (aK (ab I ↑(aj sp I)) 64+(1:Int))=(bL #[]))then sp else false)=true->
 k (PV.int .i64 8) [ct (PV.raw (Go.Value.pointer bp)) 1 sc (bz 5 (eg (ab (ab I ↑(aj sp I)) (aK (ab I ↑(aj sp I)) 64)) (58:UInt8))) (bz 5 (eO (ab (ab I ↑(aj sp I)) (aK (ab I ↑(aj sp I)) 64)) (58:UInt8))) hk hs hn hp port Rl pn pl hq q hf fg bare sp (aa I ↑(aj sp I))])/\
 ((bif decide (bl (aa (ab I ↑(aj sp I)) (aK (ab I ↑(aj sp I)) 64+(1:Int)))=(0:Int))then true else bif decide (aa (ab I ↑(aj sp I)) (aK (ab I ↑(aj sp I)) 64+(1:Int))=(bL #[]))then sp else false)=false->
 (decide ((0:Int)<bl (aa (ab I ↑(aj sp I)) (aK (ab I ↑(aj sp I)) 64+(1:Int))))=true->
 upto 0 (bl (aa (ab I ↑(aj sp I)) (aK (ab I ↑(aj sp I)) 64+(1:Int)))) (ai (aa (ab I ↑(aj sp I)) (aK (ab I ↑(aj sp I)) 64+(1:Int))))/\
 av (bl (aa (ab I ↑(aj sp I)) (aK (ab I ↑(aj sp I)) 64+(1:Int)))+(1:Int))/\
 upto (bl (aa (ab I ↑(aj sp I)) (aK (ab I ↑(aj sp I)) 64+(1:Int)))+(1:Int)) (ai (aa (ab I ↑(aj sp I)) (aK (ab I ↑(aj sp I)) 64+(1:Int)))) (ai (aa (ab I ↑(aj sp I)) (aK (ab I ↑(aj sp I)) 64+(1:Int))))/\
 (ab (aa (ab I ↑(aj sp I)) (aK (ab I ↑(aj sp I)) 64+(1:Int))) (bl (aa (ab I ↑(aj sp I)) (aK (ab I ↑(aj sp I)) 64+(1:Int))))).length.le 300000/\
 ((!decide ((aG sp (ab (aa (ab I ↑(aj sp I)) (aK (ab I ↑(aj sp I)) 64+(1:Int))) (bl (aa (ab I ↑(aj sp I)) (aK (ab I ↑(aj sp I)) 64+(1:Int)))))).2.2.2.2=(0:Int)))=true->
 k (PV.int .i64 (aG sp (ab (aa (ab I ↑(aj sp I)) (aK (ab I ↑(aj sp I)) 64+(1:Int))) (bl (aa (ab I ↑(aj sp I)) (aK (ab I ↑(aj sp I)) 64+(1:Int)))))).2.2.2.2) [ct (PV.raw (Go.Value.pointer bp)) 1 sc (bz 5 (eg (ab (ab I ↑(aj sp I)) (aK (ab I ↑(aj sp I)) 64)) (58:UInt8))) (bz 5 (eO (ab (ab I ↑(aj sp I)) (aK (ab I ↑(aj sp I)) 64)) (58:UInt8))) ((aG sp (ab (aa (ab I ↑(aj sp I)) (aK (ab I ↑(aj sp I)) 64+(1:Int))) (bl (aa (ab I ↑(aj sp I)) (aK (ab I ↑(aj sp I)) 64+(1:Int)))))).1) ((aG sp (ab (aa (ab I ↑(aj sp I)) (aK (ab I ↑(aj sp I)) 64+(1:Int))) (bl (aa (ab I ↑(aj sp I)) (aK (ab I ↑(aj sp I)) 64+(1:Int)))))).2.1) ((aG sp (ab (aa (ab I ↑(aj sp I)) (aK (ab I ↑(aj sp I)) 64+(1:Int))) (bl (aa (ab I ↑(aj sp I)) (aK (ab I ↑(aj sp I)) 64+(1:Int)))))).2.2.1) ((aG sp (ab (aa (ab I ↑(aj sp I)) (aK (ab I ↑(aj sp I)) 64+(1:Int))) (bl (aa (ab I ↑(aj sp I)) (aK (ab I ↑(aj sp I)) 64+(1:Int)))))).2.2.2.1) port Rl pn pl hq q hf fg bare sp (aa I ↑(aj sp I))])/\
 ((!decide ((aG sp (ab (aa (ab I ↑(aj sp I)) (aK (ab I ↑(aj sp I)) 64+(1:Int))) (bl (aa (ab I ↑(aj sp I)) (aK (ab I ↑(aj sp I)) 64+(1:Int)))))).2.2.2.2=(0:Int)))=false->
 (aa (aa (ab I ↑(aj sp I)) (aK (ab I ↑(aj sp I)) 64+(1:Int))) (bl (aa (ab I ↑(aj sp I)) (aK (ab I ↑(aj sp I)) 64+(1:Int)))+(1:Int))).length.le 300000/\
 k (PV.int .i64 (eV sc port (aa (aa (ab I ↑(aj sp I)) (aK (ab I ↑(aj sp I)) 64+(1:Int))) (bl (aa (ab I ↑(aj sp I)) (aK (ab I ↑(aj sp I)) 64+(1:Int)))+(1:Int)))).2) [ct (PV.raw (Go.Value.pointer bp)) 1 sc (bz 5 (eg (ab (ab I ↑(aj sp I)) (aK (ab I ↑(aj sp I)) 64)) (58:UInt8))) (bz 5 (eO (ab (ab I ↑(aj sp I)) (aK (ab I ↑(aj sp I)) 64)) (58:UInt8))) ((aG sp (ab (aa (ab I ↑(aj sp I)) (aK (ab I ↑(aj sp I)) 64+(1:Int))) (bl (aa (ab I ↑(aj sp I)) (aK (ab I ↑(aj sp I)) 64+(1:Int)))))).1) ((aG sp (ab (aa (ab I ↑(aj sp I)) (aK (ab I ↑(aj sp I)) 64+(1:Int))) (bl (aa (ab I ↑(aj sp I)) (aK (ab I ↑(aj sp I)) 64+(1:Int)))))).2.1) ((aG sp (ab (aa (ab I ↑(aj sp I)) (aK (ab I ↑(aj sp I)) 64+(1:Int))) (bl (aa (ab I ↑(aj sp I)) (aK (ab I ↑(aj sp I)) 64+(1:Int)))))).2.2.1) ((aG sp (ab (aa (ab I ↑(aj sp I)) (aK (ab I ↑(aj sp I)) 64+(1:Int))) (bl (aa (ab I ↑(aj sp I)) (aK (ab I ↑(aj sp I)) 64+(1:Int)))))).2.2.2.1) ((eV sc port (aa (aa (ab I ↑(aj sp I)) (aK (ab I ↑(aj sp I)) 64+(1:Int))) (bl (aa (ab I ↑(aj sp I)) (aK (ab I ↑(aj sp I)) 64+(1:Int)))+(1:Int)))).1) Rl pn pl hq q hf fg bare sp (aa I ↑(aj sp I))]))/\
 (decide ((0:Int)<bl (aa (ab I ↑(aj sp I)) (aK (ab I ↑(aj sp I)) 64+(1:Int))))=false->
 (aa (ab I ↑(aj sp I)) (aK (ab I ↑(aj sp I)) 64+(1:Int))).length.le 300000/\
 ((!decide ((aG sp (aa (ab I ↑(aj sp I)) (aK (ab I ↑(aj sp I)) 64+(1:Int)))).2.2.2.2=(0:Int)))=true->
 k (PV.int .i64 (aG sp (aa (ab I ↑(aj sp I)) (aK (ab I ↑(aj sp I)) 64+(1:Int)))).2.2.2.2) [ct (PV.raw (Go.Value.pointer bp)) 1 sc (bz 5 (eg (ab (ab I ↑(aj sp I)) (aK (ab I ↑(aj sp I)) 64)) (58:UInt8))) (bz 5 (eO (ab (ab I ↑(aj sp I)) (aK (ab I ↑(aj sp I)) 64)) (58:UInt8))) ((aG sp (aa (ab I ↑(aj sp I)) (aK (ab I ↑(aj sp I)) 64+(1:Int)))).1) ((aG sp (aa (ab I ↑(aj sp I)) (aK (ab I ↑(aj sp I)) 64+(1:Int)))).2.1) ((aG sp (aa (ab I ↑(aj sp I)) (aK (ab I ↑(aj sp I)) 64+(1:Int)))).2.2.1) ((aG sp (aa (ab I ↑(aj sp I)) (aK (ab I ↑(aj sp I)) 64+(1:Int)))).2.2.2.1) port Rl pn pl hq q hf fg bare sp (aa I ↑(aj sp I))])/\
 ((!decide ((aG sp (aa (ab I ↑(aj sp I)) (aK (ab I ↑(aj sp I)) 64+(1:Int)))).2.2.2.2=(0:Int)))=false->
 (bL #[]).length.le 300000/\
 k (PV.int .i64 0) [ct (PV.raw (Go.Value.pointer bp)) 1 sc (bz 5 (eg (ab (ab I ↑(aj sp I)) (aK (ab I ↑(aj sp I)) 64)) (58:UInt8))) (bz 5 (eO (ab (ab I ↑(aj sp I)) (aK (ab I ↑(aj sp I)) 64)) (58:UInt8))) ((aG sp (aa (ab I ↑(aj sp I)) (aK (ab I ↑(aj sp I)) 64+(1:Int)))).1) ((aG sp (aa (ab I ↑(aj sp I)) (aK (ab I ↑(aj sp I)) 64+(1:Int)))).2.1) ((aG sp (aa (ab I ↑(aj sp I)) (aK (ab I ↑(aj sp I)) 64+(1:Int)))).2.2.1) ((aG sp (aa (ab I ↑(aj sp I)) (aK (ab I ↑(aj sp I)) 64+(1:Int)))).2.2.2.1) port Rl pn pl hq q hf fg bare sp (aa I ↑(aj sp I))])))))/\
 (decide ((0:Int)<=aK (ab I ↑(aj sp I)) 64)=false->
 (ab I ↑(aj sp I)).length.le 1000000/\
 ((bif decide (bl (ab I ↑(aj sp I))=(0:Int))then true else bif decide (ab I ↑(aj sp I)=(bL #[]))then sp else false)=true->
 k (PV.int .i64 8) [ct (PV.raw (Go.Value.pointer bp)) 1 sc us pw hk hs hn hp port Rl pn pl hq q hf fg bare sp (aa I ↑(aj sp I))])/\
 ((bif decide (bl (ab I ↑(aj sp I))=(0:Int))then true else bif decide (ab I ↑(aj sp I)=(bL #[]))then sp else false)=false->
 (decide ((0:Int)<bl (ab I ↑(aj sp I)))=true->
 upto 0 (bl (ab I ↑(aj sp I))) (ai (ab I ↑(aj sp I)))/\
 av (bl (ab I ↑(aj sp I))+(1:Int))/\
 upto (bl (ab I ↑(aj sp I))+(1:Int)) (ai (ab I ↑(aj sp I))) (ai (ab I ↑(aj sp I)))/\
 (ab (ab I ↑(aj sp I)) (bl (ab I ↑(aj sp I)))).length.le 300000/\
 ((!decide ((aG sp (ab (ab I ↑(aj sp I)) (bl (ab I ↑(aj sp I))))).2.2.2.2=(0:Int)))=true->
 k (PV.int .i64 (aG sp (ab (ab I ↑(aj sp I)) (bl (ab I ↑(aj sp I))))).2.2.2.2) [ct (PV.raw (Go.Value.pointer bp)) 1 sc us pw ((aG sp (ab (ab I ↑(aj sp I)) (bl (ab I ↑(aj sp I))))).1) ((aG sp (ab (ab I ↑(aj sp I)) (bl (ab I ↑(aj sp I))))).2.1) ((aG sp (ab (ab I ↑(aj sp I)) (bl (ab I ↑(aj sp I))))).2.2.1) ((aG sp (ab (ab I ↑(aj sp I)) (bl (ab I ↑(aj sp I))))).2.2.2.1) port Rl pn pl hq q hf fg bare sp (aa I ↑(aj sp I))])/\
 ((!decide ((aG sp (ab (ab I ↑(aj sp I)) (bl (ab I ↑(aj sp I))))).2.2.2.2=(0:Int)))=false->
 (aa (ab I ↑(aj sp I)) (bl (ab I ↑(aj sp I))+(1:Int))).length.le 300000/\
 k (PV.int .i64 (eV sc port (aa (ab I ↑(aj sp I)) (bl (ab I ↑(aj sp I))+(1:Int)))).2) [ct (PV.raw (Go.Value.pointer bp)) 1 sc us pw ((aG sp (ab (ab I ↑(aj sp I)) (bl (ab I ↑(aj sp I))))).1) ((aG sp (ab (ab I ↑(aj sp I)) (bl (ab I ↑(aj sp I))))).2.1) ((aG sp (ab (ab I ↑(aj sp I)) (bl (ab I ↑(aj sp I))))).2.2.1) ((aG sp (ab (ab I ↑(aj sp I)) (bl (ab I ↑(aj sp I))))).2.2.2.1) ((eV sc port (aa (ab I ↑(aj sp I)) (bl (ab I ↑(aj sp I))+(1:Int)))).1) Rl pn pl hq q hf fg bare sp (aa I ↑(aj sp I))]))/\
 (decide ((0:Int)<bl (ab I ↑(aj sp I)))=false->
 (ab I ↑(aj sp I)).length.le 300000/\
 ((!decide ((aG sp (ab I ↑(aj sp I))).2.2.2.2=(0:Int)))=true->
 k (PV.int .i64 (aG sp (ab I ↑(aj sp I))).2.2.2.2) [ct (PV.raw (Go.Value.pointer bp)) 1 sc us pw ((aG sp (ab I ↑(aj sp I))).1) ((aG sp (ab I ↑(aj sp I))).2.1) ((aG sp (ab I ↑(aj sp I))).2.2.1) ((aG sp (ab I ↑(aj sp I))).2.2.2.1) port Rl pn pl hq q hf fg bare sp (aa I ↑(aj sp I))])/\
 ((!decide ((aG sp (ab I ↑(aj sp I))).2.2.2.2=(0:Int)))=false->
 (bL #[]).length.le 300000/\
 k (PV.int .i64 0) [ct (PV.raw (Go.Value.pointer bp)) 1 sc us pw ((aG sp (ab I ↑(aj sp I))).1) ((aG sp (ab I ↑(aj sp I))).2.1) ((aG sp (ab I ↑(aj sp I))).2.2.1) ((aG sp (ab I ↑(aj sp I))).2.2.2.1) port Rl pn pl hq q hf fg bare sp (aa I ↑(aj sp I))]))))):=by kernel_rfl
attribute [local irreducible] Go.Vc.cD Go.Vc.b9
theorem tE(bp:Option Addr)(sc us pw:Bs)(hk:Int)(hs:Bs)(hn:Int)(hp:List Int)(port:Int)(Rl pn:Bool)(pl:List Bs)(hq:Bool)(q:Bs)(hf:Bool)(fg:Bs)(bare sp:Bool)(I:Bs):bE Tryz.prog az 88 [.ptr 0 0] [aE 1 (.raw (.pointer bp)) sc us pw hk hs hn hp port Rl pn pl hq q hf fg bare sp I] (I.length<=300000) (.int .i64 (RS.mk sc us pw hk hs hn hp port Rl pn pl hq q hf fg bare sp I).bg.2) [aE 1 (.raw (.pointer bp)) sc ((RS.mk sc us pw hk hs hn hp port Rl pn pl hq q hf fg bare sp I).bg.1.us) ((RS.mk sc us pw hk hs hn hp port Rl pn pl hq q hf fg bare sp I).bg.1.pw) ((RS.mk sc us pw hk hs hn hp port Rl pn pl hq q hf fg bare sp I).bg.1.hk) ((RS.mk sc us pw hk hs hn hp port Rl pn pl hq q hf fg bare sp I).bg.1.hs) ((RS.mk sc us pw hk hs hn hp port Rl pn pl hq q hf fg bare sp I).bg.1.hn) ((RS.mk sc us pw hk hs hn hp port Rl pn pl hq q hf fg bare sp I).bg.1.hp) ((RS.mk sc us pw hk hs hn hp port Rl pn pl hq q hf fg bare sp I).bg.1.port) Rl pn pl hq q hf fg bare sp (aa I (aj sp I))]:=bT (by kernel_rfl) tD (H:=qO bp sc us pw hk hs hn hp port Rl pn pl hq q hf fg bare sp I) (fuel:=1000) Tryz.func88 (by kernel_rfl) (Nat.le_of_ble_eq_true rfl) fun hpre=>(yH bp sc us pw hk hs hn hp port Rl pn pl hq q hf fg bare sp I _).mpr (by
 have e3:aj sp I<=I.length:=gJ _ _;obtain ⟨S,e4⟩:∃S,S=ab I (aj sp I:Int):=⟨_,rfl⟩;obtain ⟨D,e5⟩:∃D,D=aa I (aj sp I:Int):=⟨_,rfl⟩;have ha:(RS.mk sc us pw hk hs hn hp port Rl pn pl hq q hf fg bare sp I).bg=if 0<=aK S 64 then(if aa S (aK S 64+1)=[]then(RS.mk sc (bz 5 (eg (ab S (aK S 64)) 58)) (bz 5 (eO (ab S (aK S 64)) 58)) hk hs hn hp port Rl pn pl hq q hf fg bare sp D,8)else(RS.mk sc (bz 5 (eg (ab S (aK S 64)) 58)) (bz 5 (eO (ab S (aK S 64)) 58)) hk hs hn hp port Rl pn pl hq q hf fg bare sp D).cd (aa S (aK S 64+1)))else(RS.mk sc us pw hk hs hn hp port Rl pn pl hq q hf fg bare sp D).cd S:=by rw [e4,e5];rfl
 rw [<-e4,<-e5];have e6:S.length<=300000:=by rw [e4];have:=tC I (aj sp I:Int);omega
 have hl:=Lw S 64;have ht:=tC S (aK S 64);have hd:=dA S (aK S 64+1);have hca:=NN (ab S (aK S 64)) 58;have hcb:=NO (ab S (aK S 64)) 58;refine ⟨show I.length<=300000 from hpre,⟨by omega,by unfold ai;exact Int.ofNat_le.2 e3⟩,⟨by omega,by omega,by omega⟩,fun h=>⟨⟨by omega,of_decide_eq_true h,by unfold ai;omega⟩,⟨by omega,rfl⟩,⟨by omega,by omega,by omega⟩,⟨by omega,by omega,by omega⟩,by have:=of_decide_eq_true h;unfold av;omega,⟨by have:=of_decide_eq_true h;omega,by unfold ai;omega,Int.le_refl _⟩,fun h2=>?_,fun h2=>?_⟩,fun h=>?_⟩
 ·rw [ha,if_pos (of_decide_eq_true h),if_pos (show aa S (aK S 64+1)=[]from of_decide_eq_true h2)]
  exact ⟨rfl,rfl⟩
 ·rw [ha,if_pos (of_decide_eq_true h),if_neg (show ¬aa S (aK S 64+1)=[]from of_decide_eq_false h2)]
  exact FR bp sc (bz 5 (eg (ab S (aK S 64)) 58)) (bz 5 (eO (ab S (aK S 64)) 58)) hk hs hn hp port Rl pn pl hq q hf fg bare sp (aa S (aK S 64+1)) D (by omega)
 ·rw [ha,if_neg (of_decide_eq_false h)]
  exact FR bp sc us pw hk hs hn hp port Rl pn pl hq q hf fg bare sp S D e6)
theorem yI(bp:Option Addr)(sc us pw:Bs)(hk:Int)(hs:Bs)(hn:Int)(hp:List Int)(port:Int)(Rl pn:Bool)(pl:List Bs)(hq:Bool)(q:Bs)(hf:Bool)(fg:Bs)(bare sp:Bool)(I:Bs):ae Tryz.prog az 88 [.ptr 0 0,aE 1 (.raw (.pointer bp)) sc us pw hk hs hn hp port Rl pn pl hq q hf fg bare sp I] ⟨I.length<=300000,.tup [.int .i64 (RS.mk sc us pw hk hs hn hp port Rl pn pl hq q hf fg bare sp I).bg.2,aE 1 (.raw (.pointer bp)) sc ((RS.mk sc us pw hk hs hn hp port Rl pn pl hq q hf fg bare sp I).bg.1.us) ((RS.mk sc us pw hk hs hn hp port Rl pn pl hq q hf fg bare sp I).bg.1.pw) ((RS.mk sc us pw hk hs hn hp port Rl pn pl hq q hf fg bare sp I).bg.1.hk) ((RS.mk sc us pw hk hs hn hp port Rl pn pl hq q hf fg bare sp I).bg.1.hs) ((RS.mk sc us pw hk hs hn hp port Rl pn pl hq q hf fg bare sp I).bg.1.hn) ((RS.mk sc us pw hk hs hn hp port Rl pn pl hq q hf fg bare sp I).bg.1.hp) ((RS.mk sc us pw hk hs hn hp port Rl pn pl hq q hf fg bare sp I).bg.1.port) Rl pn pl hq q hf fg bare sp (aa I (aj sp I))]⟩:=ae.aZ (fun h=>by have e:List.isEmpty (PV.aC PV.bU [.ptr 0 0,aE 1 (.raw (.pointer bp)) sc us pw hk hs hn hp port Rl pn pl hq q hf fg bare sp I])=false:=(by kernel_rfl);exact Bool.noConfusion (e.symm.trans (congrArg List.isEmpty h))) (tE bp sc us pw hk hs hn hp port Rl pn pl hq q hf fg bare sp I)
def ju:List PV->Option aD:=fun xs=>match xs with
 |[.ptr 0 0,aE 1 (.raw (.pointer bp)) sc us pw hk hs hn hp port Rl pn pl hq q hf fg bare sp I]=>some ⟨I.length<=300000,.tup [.int .i64 (RS.mk sc us pw hk hs hn hp port Rl pn pl hq q hf fg bare sp I).bg.2,aE 1 (.raw (.pointer bp)) sc ((RS.mk sc us pw hk hs hn hp port Rl pn pl hq q hf fg bare sp I).bg.1.us) ((RS.mk sc us pw hk hs hn hp port Rl pn pl hq q hf fg bare sp I).bg.1.pw) ((RS.mk sc us pw hk hs hn hp port Rl pn pl hq q hf fg bare sp I).bg.1.hk) ((RS.mk sc us pw hk hs hn hp port Rl pn pl hq q hf fg bare sp I).bg.1.hs) ((RS.mk sc us pw hk hs hn hp port Rl pn pl hq q hf fg bare sp I).bg.1.hn) ((RS.mk sc us pw hk hs hn hp port Rl pn pl hq q hf fg bare sp I).bg.1.hp) ((RS.mk sc us pw hk hs hn hp port Rl pn pl hq q hf fg bare sp I).bg.1.port) Rl pn pl hq q hf fg bare sp (aa I (aj sp I))]⟩
 |_=>none
theorem pN:∀xs c,ju xs=some c->ae Tryz.prog az 88 xs c:=fun xs c h=>by
 unfold ju at h;split at h
 ·injection h with h;subst h;exact yI _ _ _ _ _ _ _ _ _ _ _ _ _ _ _ _ _ _ _
 ·cases h
end
section
def tF:cM:=bS [(124,gY),(128,iX),(136,mO)]
def tG(bp:Option Addr)(sc us pw:Bs)(hk:Int)(hs:Bs)(hn:Int)(hp:List Int)(port:Int)(Rl pn:Bool)(pl:List Bs)(hq:Bool)(q:Bs)(hf:Bool)(fg:Bs)(bare sp:Bool)(I:Bs):aP:=fun i=>none
theorem uI:df Tryz.prog az tF:=ah iW (ah gZ (ah uD ax))
theorem Bk(bp:Option Addr)(sc us pw:Bs)(hk:Int)(hs:Bs)(hn:Int)(hp:List Int)(port:Int)(Rl pn:Bool)(pl:List Bs)(hq:Bool)(q:Bs)(hf:Bool)(fg:Bs)(bare sp:Bool)(I:Bs)(k:PV->List PV->Prop):b9 Tryz.prog tF az (tG bp sc us pw hk hs hn hp port Rl pn pl hq q hf fg bare sp I) 1000 Tryz.f125 [.ptr 0 0] [aE 1 (.raw (.pointer bp)) sc us pw hk hs hn hp port Rl pn pl hq q hf fg bare sp I] k=(
 (List.length I).le 300000/\
 ((0:Int)<=↑(aj sp I)/\
 ↑(aj sp I)<=ai I)/\
 (decide (ab I ↑(aj sp I)=(bL #[]))=true->
 k (PV.int .i64 0) [ct (PV.raw (Go.Value.pointer bp)) 1 sc us pw hk hs hn hp port Rl pn pl hq q hf fg bare sp (aa I ↑(aj sp I))])/\
 (decide (ab I ↑(aj sp I)=(bL #[]))=false->
 (ab I ↑(aj sp I)).length.le 1000000/\
 ((bif !decide ((b5 (ab I ↑(aj sp I))).1=(2:Int))then true else !decide ((b5 (ab I ↑(aj sp I))).2.1=(bL #[108,111,99,97,108,104,111,115,116])))=true->
 k (PV.int .i64 (b5 (ab I ↑(aj sp I))).2.2.2.2) [ct (PV.raw (Go.Value.pointer bp)) 1 sc us pw ((b5 (ab I ↑(aj sp I))).1) ((b5 (ab I ↑(aj sp I))).2.1) ((b5 (ab I ↑(aj sp I))).2.2.1) ((b5 (ab I ↑(aj sp I))).2.2.2.1) port Rl pn pl hq q hf fg bare sp (aa I ↑(aj sp I))])/\
 ((bif !decide ((b5 (ab I ↑(aj sp I))).1=(2:Int))then true else !decide ((b5 (ab I ↑(aj sp I))).2.1=(bL #[108,111,99,97,108,104,111,115,116])))=false->
 k (PV.int .i64 (b5 (ab I ↑(aj sp I))).2.2.2.2) [ct (PV.raw (Go.Value.pointer bp)) 1 sc us pw hk hs hn hp port Rl pn pl hq q hf fg bare sp (aa I ↑(aj sp I))]))):=by kernel_rfl
attribute [local irreducible] Go.Vc.cD Go.Vc.b9
theorem uJ(bp:Option Addr)(sc us pw:Bs)(hk:Int)(hs:Bs)(hn:Int)(hp:List Int)(port:Int)(Rl pn:Bool)(pl:List Bs)(hq:Bool)(q:Bs)(hf:Bool)(fg:Bs)(bare sp:Bool)(I:Bs):bE Tryz.prog az 125 [.ptr 0 0] [aE 1 (.raw (.pointer bp)) sc us pw hk hs hn hp port Rl pn pl hq q hf fg bare sp I] (I.length<=300000) (.int .i64 (RS.mk sc us pw hk hs hn hp port Rl pn pl hq q hf fg bare sp I).ay.2) [aE 1 (.raw (.pointer bp)) sc us pw ((RS.mk sc us pw hk hs hn hp port Rl pn pl hq q hf fg bare sp I).ay.1.hk) ((RS.mk sc us pw hk hs hn hp port Rl pn pl hq q hf fg bare sp I).ay.1.hs) ((RS.mk sc us pw hk hs hn hp port Rl pn pl hq q hf fg bare sp I).ay.1.hn) ((RS.mk sc us pw hk hs hn hp port Rl pn pl hq q hf fg bare sp I).ay.1.hp) port Rl pn pl hq q hf fg bare sp (aa I (aj sp I))]:=bT (by kernel_rfl) uI (H:=tG bp sc us pw hk hs hn hp port Rl pn pl hq q hf fg bare sp I) (fuel:=1000) Tryz.func125 (by kernel_rfl) (Nat.le_of_ble_eq_true rfl) fun hpre=>(Bk bp sc us pw hk hs hn hp port Rl pn pl hq q hf fg bare sp I _).mpr (by
 have e3:aj sp I<=I.length:=gJ _ _;obtain ⟨S,e4⟩:∃S,S=ab I (aj sp I:Int):=⟨_,rfl⟩;rw [<-e4];have e6:S.length<=300000:=by rw [e4];unfold ab;rw [List.length_take];omega
 have ef:(RS.mk sc us pw hk hs hn hp port Rl pn pl hq q hf fg bare sp I).ay=if S=[]then((RS.mk sc us pw hk hs hn hp port Rl pn pl hq q hf fg bare sp I).cut (aj sp I),0)else if(b5 S).1=2/\(b5 S).2.1=Qk then((RS.mk sc us pw hk hs hn hp port Rl pn pl hq q hf fg bare sp I).cut (aj sp I),(b5 S).2.2.2.2)else({(RS.mk sc us pw hk hs hn hp port Rl pn pl hq q hf fg bare sp I).cut (aj sp I)with hk:=(b5 S).1,hs:=(b5 S).2.1,hn:=(b5 S).2.2.1,hp:=(b5 S).2.2.2.1},(b5 S).2.2.2.2):=by rw [e4];rfl
 rw [ef];refine ⟨show I.length<=300000 from hpre,⟨by omega,by unfold ai;exact Int.ofNat_le.2 e3⟩,fun h=>?_,fun h=>⟨show S.length<=1000000 by omega,fun h2=>?_,fun h2=>?_⟩⟩
 ·rw [if_pos (show S=[]from of_decide_eq_true h)];exact ⟨rfl,rfl⟩
 ·rw [if_neg (show ¬S=[]from of_decide_eq_false h),if_neg]
  ·exact ⟨rfl,rfl⟩
  ·rintro ⟨a,b⟩
   rw [decide_eq_true a,show decide ((b5 S).2.1=(bL #[108,111,99,97,108,104,111,115,116]))=true from decide_eq_true b]at h2;cases h2
 ·rw [if_neg (show ¬S=[]from of_decide_eq_false h),if_pos]
  ·exact ⟨rfl,rfl⟩
  ·cases ha:decide ((b5 S).1=2)with
   |false=>rw [ha]at h2;cases h2
   |true=>
    rw [ha]at h2;cases hb:decide ((b5 S).2.1=(bL #[108,111,99,97,108,104,111,115,116]))with
    |false=>rw [hb]at h2;cases h2
    |true=>exact ⟨of_decide_eq_true ha,of_decide_eq_true hb⟩)
theorem Bl(bp:Option Addr)(sc us pw:Bs)(hk:Int)(hs:Bs)(hn:Int)(hp:List Int)(port:Int)(Rl pn:Bool)(pl:List Bs)(hq:Bool)(q:Bs)(hf:Bool)(fg:Bs)(bare sp:Bool)(I:Bs):ae Tryz.prog az 125 [.ptr 0 0,aE 1 (.raw (.pointer bp)) sc us pw hk hs hn hp port Rl pn pl hq q hf fg bare sp I] ⟨I.length<=300000,.tup [.int .i64 (RS.mk sc us pw hk hs hn hp port Rl pn pl hq q hf fg bare sp I).ay.2,aE 1 (.raw (.pointer bp)) sc us pw ((RS.mk sc us pw hk hs hn hp port Rl pn pl hq q hf fg bare sp I).ay.1.hk) ((RS.mk sc us pw hk hs hn hp port Rl pn pl hq q hf fg bare sp I).ay.1.hs) ((RS.mk sc us pw hk hs hn hp port Rl pn pl hq q hf fg bare sp I).ay.1.hn) ((RS.mk sc us pw hk hs hn hp port Rl pn pl hq q hf fg bare sp I).ay.1.hp) port Rl pn pl hq q hf fg bare sp (aa I (aj sp I))]⟩:=ae.aZ (fun h=>by have e:List.isEmpty (PV.aC PV.bU [.ptr 0 0,aE 1 (.raw (.pointer bp)) sc us pw hk hs hn hp port Rl pn pl hq q hf fg bare sp I])=false:=(by kernel_rfl);exact Bool.noConfusion (e.symm.trans (congrArg List.isEmpty h))) (uJ bp sc us pw hk hs hn hp port Rl pn pl hq q hf fg bare sp I)
def ko:List PV->Option aD:=fun xs=>match xs with
 |[.ptr 0 0,aE 1 (.raw (.pointer bp)) sc us pw hk hs hn hp port Rl pn pl hq q hf fg bare sp I]=>some ⟨I.length<=300000,.tup [.int .i64 (RS.mk sc us pw hk hs hn hp port Rl pn pl hq q hf fg bare sp I).ay.2,aE 1 (.raw (.pointer bp)) sc us pw ((RS.mk sc us pw hk hs hn hp port Rl pn pl hq q hf fg bare sp I).ay.1.hk) ((RS.mk sc us pw hk hs hn hp port Rl pn pl hq q hf fg bare sp I).ay.1.hs) ((RS.mk sc us pw hk hs hn hp port Rl pn pl hq q hf fg bare sp I).ay.1.hn) ((RS.mk sc us pw hk hs hn hp port Rl pn pl hq q hf fg bare sp I).ay.1.hp) port Rl pn pl hq q hf fg bare sp (aa I (aj sp I))]⟩
 |_=>none
theorem rb:∀xs c,ko xs=some c->ae Tryz.prog az 125 xs c:=fun xs c h=>by
 unfold ko at h;split at h
 ·injection h with h;subst h;exact Bl _ _ _ _ _ _ _ _ _ _ _ _ _ _ _ _ _ _ _
 ·cases h
end
section
def Ou:cM:=bS [(153,kh)]
def Ov(l:Bs):aP:=fun i=>none
theorem Lx:df Tryz.prog az Ou:=ah l9 ax
theorem PD(l:Bs)(k:PV->Prop):cD Tryz.prog Ou az (Ov l) 1000 Tryz.f123 [.str l] k=(
 (decide (ai l=2)=true->within (0:Int) (ai l))/\
 (decide (ai l=2)=true->(0:Int)<=ag l 0/\ag l 0<=255)/\
 ((bif decide (ai l=2)then
 decide
 ((97:Int)<=ag l 0/\ag l 0<=122\/
 (65:Int)<=ag l 0/\ag l 0<=90)
 else false)=
 true->
 within (1:Int) (ai l))/\
 ((bif decide (ai l=2)then
 decide
 ((97:Int)<=ag l 0/\ag l 0<=122\/
 (65:Int)<=ag l 0/\ag l 0<=90)
 else false)=
 true->
 decide (ag l 1=58)=false->within (1:Int) (ai l))/\
 k
 (PV.bool
 (bif
 bif decide (ai l=2)then
 decide
 ((97:Int)<=ag l 0/\ag l 0<=122\/
 (65:Int)<=ag l 0/\ag l 0<=90)
 else false then
 bif decide (ag l 1=58)then true else decide (ag l 1=124)
 else false))):=by kernel_rfl
attribute [local irreducible] Go.Vc.cD
theorem PF(l:Bs):ae Tryz.prog az 123 [.str l] ⟨True,.bool (cc l)⟩:=bR (by kernel_rfl) Lx (H:=Ov l) (fuel:=1000) Tryz.func123 (by kernel_rfl) fun hpre=>(PD l _).mpr (by
 have hr:=en l 0;have b0:ag l 0=ar l 0:=jQ l 0;have b1:ag l 1=ar l 1:=jQ l 1;have w2:∀z:Int,0<=z->z<2->∀b:Bool,(bif decide (ai l=2)then b else false)=true->within z (ai l):=fun z h0 h1 b h=>by
  cases e:decide (ai l=2)with
  |false=>rw [e]at h;cases h
  |true=>have:=of_decide_eq_true e;unfold within;omega
 refine ⟨fun h=>?_,fun _=>by omega,fun h=>w2 1 (by omega) (by omega) _ h,fun h _=>w2 1 (by omega) (by omega) _ h,?_⟩
 ·have:=of_decide_eq_true h;unfold within;omega
 ·congr 1
  unfold cc GM;rw [b0,b1,Bool.eq_iff_iff];simp only [x5,QH,Bool.and_eq_true,Bool.or_eq_true,decide_eq_true_eq];unfold ai;omega)
def ou:List PV->Option aD:=fun xs=>match xs with
 |[.str l]=>some ⟨True,.bool (cc l)⟩
 |_=>none
theorem mR:∀xs c,ou xs=some c->ae Tryz.prog az 123 xs c:=fun xs c h=>by
 unfold ou at h;split at h
 ·injection h with h;subst h;exact PF _
 ·cases h
end
section
def Ow:cM:=bS [(123,ou)]
def Ox(l:Bs):aP:=fun i=>none
theorem Ly:df Tryz.prog az Ow:=ah mR ax
theorem PG(l:Bs)(k:PV->Prop):cD Tryz.prog Ow az (Ox l) 1000 Tryz.f132 [.str l] k=(
 True/\
 (cc l=true->within (1:Int) (ai l))/\
 k (PV.bool (bif cc l then decide (ag l 1=58)else false))):=by kernel_rfl
attribute [local irreducible] Go.Vc.cD
theorem PH(l:Bs):ae Tryz.prog az 132 [.str l] ⟨True,.bool (pg l)⟩:=bR (by kernel_rfl) Ly (H:=Ox l) (fuel:=1000) Tryz.func132 (by kernel_rfl) fun hpre=>(PG l _).mpr (by
 have b1:ag l 1=ar l 1:=jQ l 1;refine ⟨trivial,fun h=>?_,?_⟩
 ·unfold cc at h
  simp only [Bool.and_eq_true,decide_eq_true_eq]at h;unfold within ai;omega
 ·show PV.bool _=PV.bool (cc l&&decide (ar l 1=58))
  rw [<-b1];cases cc l<;>rfl)
def yJ:List PV->Option aD:=fun xs=>match xs with
 |[.str l]=>some ⟨True,.bool (pg l)⟩
 |_=>none
theorem D4:∀xs c,yJ xs=some c->ae Tryz.prog az 132 xs c:=fun xs c h=>by
 unfold yJ at h;split at h
 ·injection h with h;subst h;exact PH _
 ·cases h
end
section
def wO:cM:=bS [(132,yJ)]
def wP(bp:Option Addr)(sc us pw:Bs)(hk:Int)(hs:Bs)(hn:Int)(hp:List Int)(port:Int)(Rl pn:Bool)(pl:List Bs)(hq:Bool)(q:Bs)(hf:Bool)(fg:Bs)(bare sp:Bool)(I:Bs):aP:=fun i=>none
theorem yK:df Tryz.prog az wO:=ah D4 ax
theorem D5(bp:Option Addr)(sc us pw:Bs)(hk:Int)(hs:Bs)(hn:Int)(hp:List Int)(port:Int)(Rl pn:Bool)(pl:List Bs)(hq:Bool)(q:Bs)(hf:Bool)(fg:Bs)(bare sp:Bool)(I:Bs)(k:PV->List PV->Prop):b9 Tryz.prog wO az (wP bp sc us pw hk hs hn hp port Rl pn pl hq q hf fg bare sp I) 1000 Tryz.f87 [.ptr 0 0] [aE 1 (.raw (.pointer bp)) sc us pw hk hs hn hp port Rl pn pl hq q hf fg bare sp I] k=(
 (decide (Int.ofNat pl.length=0)=false->
 (bif decide (Int.ofNat pl.length=1)then decide (sc=(bL #[102,105,108,101]))else false)=true->
 within (0:Int) (Int.ofNat pl.length))/\
 (decide (Int.ofNat pl.length=0)=false->
 (bif decide (Int.ofNat pl.length=1)then decide (sc=(bL #[102,105,108,101]))else false)=true->
 True)/\
 ((bif decide (Int.ofNat pl.length=0)then true else bif bif decide (Int.ofNat pl.length=1)then decide (sc=(bL #[102,105,108,101]))else false then pg (bt pl 0)else false)=true->
 k (PV.tup []) [ct (PV.raw (Go.Value.pointer bp)) 1 sc us pw hk hs hn hp port Rl pn pl hq q hf fg bare sp I])/\
 ((bif decide (Int.ofNat pl.length=0)then true else bif bif decide (Int.ofNat pl.length=1)then decide (sc=(bL #[102,105,108,101]))else false then pg (bt pl 0)else false)=false->
 av (Int.ofNat pl.length-1)/\
 upto 0 (Int.ofNat pl.length-1) (Int.ofNat pl.length)/\
 k (PV.tup []) [ct (PV.raw (Go.Value.pointer bp)) 1 sc us pw hk hs hn hp port Rl pn (ab pl (Int.ofNat pl.length-1)) hq q hf fg bare sp I])):=by kernel_rfl
attribute [local irreducible] Go.Vc.cD Go.Vc.b9
theorem ov(bp:Option Addr)(sc us pw:Bs)(hk:Int)(hs:Bs)(hn:Int)(hp:List Int)(port:Int)(Rl pn:Bool)(pl:List Bs)(hq:Bool)(q:Bs)(hf:Bool)(fg:Bs)(bare sp:Bool)(I:Bs):bE Tryz.prog az 87 [.ptr 0 0] [aE 1 (.raw (.pointer bp)) sc us pw hk hs hn hp port Rl pn pl hq q hf fg bare sp I] (pl.length<=1000000) (.tup []) [aE 1 (.raw (.pointer bp)) sc us pw hk hs hn hp port Rl ((cu sc (pn,pl)).1) ((cu sc (pn,pl)).2) hq q hf fg bare sp I]:=bT (by kernel_rfl) yK (H:=wP bp sc us pw hk hs hn hp port Rl pn pl hq q hf fg bare sp I) (fuel:=1000) Tryz.func87 (by kernel_rfl) (Nat.le_of_ble_eq_true rfl) fun hpre=>(D5 bp sc us pw hk hs hn hp port Rl pn pl hq q hf fg bare sp I _).mpr (by
 have ef:(bL #[102,105,108,101])=fL:=rfl;rcases pl with _ |⟨x,_ |⟨y,t⟩⟩
 ·refine ⟨fun h=>(by cases h),fun h=>(by cases h),fun _=>⟨rfl,rfl⟩,fun h=>(by cases h)⟩
 ·refine ⟨fun _ _=>⟨Int.le_refl _,show(0:Int)<1 by decide⟩,fun _ _=>trivial,fun h=>?_,fun h=>?_⟩
  ·have:cu sc (pn,[x])=(pn,[x]):=by
    unfold cu;rw [if_pos];refine .inr ⟨rfl,?_,?_⟩
    ·by_cases e:sc=fL
     ·exact e
     ·rw [show decide (sc=(bL #[102,105,108,101]))=false from decide_eq_false e]at h;cases h
    ·by_cases e:sc=fL
     ·rw [show decide (sc=(bL #[102,105,108,101]))=true from decide_eq_true e]at h;exact h
     ·rw [show decide (sc=(bL #[102,105,108,101]))=false from decide_eq_false e]at h;cases h
   rw [this];exact ⟨rfl,rfl⟩
  ·have:cu sc (pn,[x])=(pn,[]):=by
    unfold cu;rw [if_neg]
    ·rfl
    ·rintro (e|⟨-,e,e2⟩)
     ·cases e
     ·rw [show decide (sc=(bL #[102,105,108,101]))=true from decide_eq_true e]at h
      have e3:pg (bt [x] 0)=true:=e2;rw [e3]at h;cases h
   rw [this];exact ⟨show av (1-1) by unfold av;omega,show upto 0 (1-1) 1 by unfold upto;omega,rfl,rfl⟩
 ·have hn:¬Int.ofNat (x::y::t).length=(0:Int):=by simp [Int.ofNat];omega
  have hn1:¬Int.ofNat (x::y::t).length=(1:Int):=by simp [Int.ofNat];omega
  rw [decide_eq_false hn,decide_eq_false hn1];refine ⟨fun _ h=>(by cases h),fun _ h=>(by cases h),fun h=>(by cases h),fun _=>?_⟩;have:cu sc (pn,x::y::t)=(pn,ab (x::y::t) (Int.ofNat (x::y::t).length-1)):=by
   unfold cu;rw [if_neg]
   ·unfold ab
    show(pn,(x::y::t).take ((x::y::t).length-1))=_;congr 2;simp
   ·rintro (e|⟨e,-⟩)
    ·cases e
    ·simp at e
  rw [this];have hl:t.length+1+1<=1000000:=hpre;have e9:Int.ofNat (x::y::t).length=(t.length:Int)+2:=by show((t.length+1+1:Nat):Int)=_;omega
  exact ⟨by rw [e9];unfold av;omega,by rw [e9];unfold upto;omega,rfl,rfl⟩)
theorem D6(bp:Option Addr)(sc us pw:Bs)(hk:Int)(hs:Bs)(hn:Int)(hp:List Int)(port:Int)(Rl pn:Bool)(pl:List Bs)(hq:Bool)(q:Bs)(hf:Bool)(fg:Bs)(bare sp:Bool)(I:Bs):ae Tryz.prog az 87 [.ptr 0 0,aE 1 (.raw (.pointer bp)) sc us pw hk hs hn hp port Rl pn pl hq q hf fg bare sp I] ⟨pl.length<=1000000,.tup [.tup [],aE 1 (.raw (.pointer bp)) sc us pw hk hs hn hp port Rl ((cu sc (pn,pl)).1) ((cu sc (pn,pl)).2) hq q hf fg bare sp I]⟩:=ae.aZ (fun h=>by have e:List.isEmpty (PV.aC PV.bU [.ptr 0 0,aE 1 (.raw (.pointer bp)) sc us pw hk hs hn hp port Rl pn pl hq q hf fg bare sp I])=false:=(by kernel_rfl);exact Bool.noConfusion (e.symm.trans (congrArg List.isEmpty h))) (ov bp sc us pw hk hs hn hp port Rl pn pl hq q hf fg bare sp I)
def lr:List PV->Option aD:=fun xs=>match xs with
 |[.ptr 0 0,aE 1 (.raw (.pointer bp)) sc us pw hk hs hn hp port Rl pn pl hq q hf fg bare sp I]=>some ⟨pl.length<=1000000,.tup [.tup [],aE 1 (.raw (.pointer bp)) sc us pw hk hs hn hp port Rl ((cu sc (pn,pl)).1) ((cu sc (pn,pl)).2) hq q hf fg bare sp I]⟩
 |_=>none
theorem tH:∀xs c,lr xs=some c->ae Tryz.prog az 87 xs c:=fun xs c h=>by
 unfold lr at h;split at h
 ·injection h with h;subst h;exact D6 _ _ _ _ _ _ _ _ _ _ _ _ _ _ _ _ _ _ _
 ·cases h
end
section
theorem tI(sc:Bs)(p:Pa):(cu sc p).2.length<=p.2.length:=by
 unfold cu;split
 ·exact Nat.le_refl _
 ·show(p.2.take _).length<=_
  rw [List.length_take];omega
def Lz:cM:=bS [(163,sY),(164,yo),(123,ou),(87,lr),(26,gh)]
def LA(bp:Option Addr)(sc us pw:Bs)(hk:Int)(hs:Bs)(hn:Int)(hp:List Int)(port:Int)(Rl pn:Bool)(pl:List Bs)(hq:Bool)(q:Bs)(hf:Bool)(fg:Bs)(bare sp:Bool)(I:Bs)(t:Bs)(last:Bool):aP:=fun i=>none
theorem Ip:df Tryz.prog az Lz:=ah AT (ah DF (ah mR (ah tH (ah eU ax))))
theorem NP(bp:Option Addr)(sc us pw:Bs)(hk:Int)(hs:Bs)(hn:Int)(hp:List Int)(port:Int)(Rl pn:Bool)(pl:List Bs)(hq:Bool)(q:Bs)(hf:Bool)(fg:Bs)(bare sp:Bool)(I:Bs)(t:Bs)(last:Bool)(k:PV->List PV->Prop):b9 Tryz.prog Lz az (LA bp sc us pw hk hs hn hp port Rl pn pl hq q hf fg bare sp I t last) 1000 Tryz.f139 [.ptr 0 0,.str t,.bool last] [aE 1 (.raw (.pointer bp)) sc us pw hk hs hn hp port Rl pn pl hq q hf fg bare sp I] k=(
 (List.length t).le 1000000/\
 (nP t=true->
 pl.length.le 1000000/\
 (last=true->
 Int.ofNat ((cu sc (pn,pl)).2++[(bL #[])]).length<=cN/\
 k (PV.tup []) [ct (PV.raw (Go.Value.pointer bp)) 1 sc us pw hk hs hn hp port Rl false ((cu sc (pn,pl)).2++[(bL #[])]) hq q hf fg bare sp I])/\
 (last=false->
 k (PV.tup []) [ct (PV.raw (Go.Value.pointer bp)) 1 sc us pw hk hs hn hp port Rl ((cu sc (pn,pl)).1) ((cu sc (pn,pl)).2) hq q hf fg bare sp I]))/\
 (nP t=false->
 (List.length t).le 1000000/\
 (nO t=true->
 (last=true->
 Int.ofNat (pl++[(bL #[])]).length<=cN/\
 k (PV.tup []) [ct (PV.raw (Go.Value.pointer bp)) 1 sc us pw hk hs hn hp port Rl false (pl++[(bL #[])]) hq q hf fg bare sp I])/\
 (last=false->
 k (PV.tup []) [ct (PV.raw (Go.Value.pointer bp)) 1 sc us pw hk hs hn hp port Rl pn pl hq q hf fg bare sp I]))/\
 (nO t=false->
 ((bif decide (sc=(bL #[102,105,108,101]))then decide (Int.ofNat pl.length=0)else false)=true->
 True)/\
 ((bif bif decide (sc=(bL #[102,105,108,101]))then decide (Int.ofNat pl.length=0)else false then cc t else false)=true->
 upto 0 1 (ai t)/\
 (ab t 1).length+(bL #[58]).length<=Go.Vc.maxLen/\
 (Int.ofNat (pl++[ab t 1++(bL #[58])]).length<=cN/\
 k (PV.tup []) [ct (PV.raw (Go.Value.pointer bp)) 1 sc us pw hk hs hn hp port Rl false (pl++[ab t 1++(bL #[58])]) hq q hf fg bare sp I])/\
 Int.ofNat (pl++[ab t 1++(bL #[58])]).length<=cN/\
 k (PV.tup []) [ct (PV.raw (Go.Value.pointer bp)) 1 sc us pw hk hs hn hp port Rl false (pl++[ab t 1++(bL #[58])]) hq q hf fg bare sp I])/\
 ((bif bif decide (sc=(bL #[102,105,108,101]))then decide (Int.ofNat pl.length=0)else false then cc t else false)=false->
 ((List.length t<=300000/\
 (0:Int)<=4/\
 (4:Int)<=6)/\
 Int.ofNat (pl++[bz 4 t]).length<=cN/\
 k (PV.tup []) [ct (PV.raw (Go.Value.pointer bp)) 1 sc us pw hk hs hn hp port Rl false (pl++[bz 4 t]) hq q hf fg bare sp I])/\
 (List.length t<=300000/\
 (0:Int)<=4/\
 (4:Int)<=6)/\
 (Int.ofNat (pl++[bz 4 t]).length<=cN/\
 k (PV.tup []) [ct (PV.raw (Go.Value.pointer bp)) 1 sc us pw hk hs hn hp port Rl false (pl++[bz 4 t]) hq q hf fg bare sp I])/\
 Int.ofNat (pl++[bz 4 t]).length<=cN/\
 k (PV.tup []) [ct (PV.raw (Go.Value.pointer bp)) 1 sc us pw hk hs hn hp port Rl false (pl++[bz 4 t]) hq q hf fg bare sp I])))):=by kernel_rfl
attribute [local irreducible] Go.Vc.cD Go.Vc.b9
theorem Iq(bp:Option Addr)(sc us pw:Bs)(hk:Int)(hs:Bs)(hn:Int)(hp:List Int)(port:Int)(Rl pn:Bool)(pl:List Bs)(hq:Bool)(q:Bs)(hf:Bool)(fg:Bs)(bare sp:Bool)(I:Bs)(t:Bs)(last:Bool):bE Tryz.prog az 139 [.ptr 0 0,.str t,.bool last] [aE 1 (.raw (.pointer bp)) sc us pw hk hs hn hp port Rl pn pl hq q hf fg bare sp I] (pl.length<=1000000/\t.length<=300000) (.tup []) [aE 1 (.raw (.pointer bp)) sc us pw hk hs hn hp port Rl ((dr sc (pn,pl) t last).1) ((dr sc (pn,pl) t last).2) hq q hf fg bare sp I]:=bT (by kernel_rfl) Ip (H:=LA bp sc us pw hk hs hn hp port Rl pn pl hq q hf fg bare sp I t last) (fuel:=1000) Tryz.func139 (by kernel_rfl) (Nat.le_of_ble_eq_true rfl) fun hpre=>(NP bp sc us pw hk hs hn hp port Rl pn pl hq q hf fg bare sp I t last _).mpr (by
 obtain ⟨hp1,hp2⟩:=hpre;have hm:∀(p:List Bs) (x:Bs),p.length<=1000000->Int.ofNat (p++[x]).length<=cN:=fun p x h=>by
  rw [List.length_append];show((p.length+1:Nat):Int)<=16777216;omega
 have hsl:=tI sc (pn,pl);have ht:(List.length t).le 1000000:=show t.length<=1000000 by omega
 have hcond:(bif bif decide (sc=(bL #[102,105,108,101]))then decide (Int.ofNat pl.length=(0:Int))else false then cc t else false)=decide (sc=fL/\pl=[]/\cc t=true):=by
  rw [Bool.eq_iff_iff];simp only [x5,Bool.and_eq_true,decide_eq_true_eq];constructor
  ·rintro ⟨⟨a,b⟩,c⟩
   exact ⟨a,List.eq_nil_of_length_eq_zero (Int.ofNat.inj b),c⟩
  ·rintro ⟨a,b,c⟩
   exact ⟨⟨a,by rw [b];rfl⟩,c⟩
 rw [hcond];refine ⟨ht,fun h=>⟨hp1,fun hl=>⟨hm _ _ (Nat.le_trans hsl hp1),?_⟩,fun hl=>?_⟩,fun h=>⟨ht,fun h2=>⟨fun hl=>⟨hm _ _ hp1,?_⟩,fun hl=>?_⟩,fun h2=>⟨fun _=>trivial,fun h3=>?_,fun h3=>?_⟩⟩⟩
 ·have e:dr sc (pn,pl) t last=(false,(cu sc (pn,pl)).2++[[]]):=by unfold dr;rw [if_pos h,hl];rfl
  rw [e];exact ⟨rfl,rfl⟩
 ·have e:dr sc (pn,pl) t last=cu sc (pn,pl):=by unfold dr;rw [if_pos h,hl];rfl
  rw [e];exact ⟨rfl,rfl⟩
 ·have e:dr sc (pn,pl) t last=(false,pl++[[]]):=by unfold dr;rw [if_neg (by rw [h];decide),if_pos h2,hl];rfl
  rw [e];exact ⟨rfl,rfl⟩
 ·have e:dr sc (pn,pl) t last=(pn,pl):=by unfold dr;rw [if_neg (by rw [h];decide),if_pos h2,hl];rfl
  rw [e];exact ⟨rfl,rfl⟩
 ·have hc:=of_decide_eq_true h3
  have e:dr sc (pn,pl) t last=(false,pl++[ab t 1++[58]]):=by unfold dr;rw [if_neg (by rw [h];decide),if_neg (by rw [h2];decide),if_pos hc]
  have h2l:t.length=2:=by
   have:=hc.2.2;unfold cc at this;simp only [Bool.and_eq_true,decide_eq_true_eq]at this;exact this.1.1
  rw [e];have hk:(ab t 1).length<=1:=by unfold ab;rw [List.length_take];exact Nat.min_le_left _ _
  exact ⟨⟨Int.le_refl _,by omega,by unfold ai;omega⟩,Nat.le_trans (Nat.add_le_add_right hk _) (by decide),⟨hm _ _ hp1,rfl,rfl⟩,hm _ _ hp1,rfl,rfl⟩
 ·have hc:=of_decide_eq_false h3
  have e:dr sc (pn,pl) t last=(false,pl++[bz 4 t]):=by unfold dr;rw [if_neg (by rw [h];decide),if_neg (by rw [h2];decide),if_neg hc]
  rw [e];exact ⟨⟨⟨hp2,by omega,by omega⟩,hm _ _ hp1,rfl,rfl⟩,⟨hp2,by omega,by omega⟩,⟨hm _ _ hp1,rfl,rfl⟩,hm _ _ hp1,rfl,rfl⟩)
theorem NQ(bp:Option Addr)(sc us pw:Bs)(hk:Int)(hs:Bs)(hn:Int)(hp:List Int)(port:Int)(Rl pn:Bool)(pl:List Bs)(hq:Bool)(q:Bs)(hf:Bool)(fg:Bs)(bare sp:Bool)(I:Bs)(t:Bs)(last:Bool):ae Tryz.prog az 139 [.ptr 0 0,.str t,.bool last,aE 1 (.raw (.pointer bp)) sc us pw hk hs hn hp port Rl pn pl hq q hf fg bare sp I] ⟨pl.length<=1000000/\t.length<=300000,.tup [.tup [],aE 1 (.raw (.pointer bp)) sc us pw hk hs hn hp port Rl ((dr sc (pn,pl) t last).1) ((dr sc (pn,pl) t last).2) hq q hf fg bare sp I]⟩:=ae.aZ (fun h=>by have e:List.isEmpty (PV.aC PV.bU [.ptr 0 0,.str t,.bool last,aE 1 (.raw (.pointer bp)) sc us pw hk hs hn hp port Rl pn pl hq q hf fg bare sp I])=false:=(by kernel_rfl);exact Bool.noConfusion (e.symm.trans (congrArg List.isEmpty h))) (Iq bp sc us pw hk hs hn hp port Rl pn pl hq q hf fg bare sp I t last)
def tJ:List PV->Option aD:=fun xs=>match xs with
 |[.ptr 0 0,.str t,.bool last,aE 1 (.raw (.pointer bp)) sc us pw hk hs hn hp port Rl pn pl hq q hf fg bare sp I]=>some ⟨pl.length<=1000000/\t.length<=300000,.tup [.tup [],aE 1 (.raw (.pointer bp)) sc us pw hk hs hn hp port Rl ((dr sc (pn,pl) t last).1) ((dr sc (pn,pl) t last).2) hq q hf fg bare sp I]⟩
 |_=>none
theorem Bm:∀xs c,tJ xs=some c->ae Tryz.prog az 139 xs c:=fun xs c h=>by
 unfold tJ at h;split at h
 ·injection h with h;subst h;exact NQ _ _ _ _ _ _ _ _ _ _ _ _ _ _ _ _ _ _ _ _ _
 ·cases h
end
section
theorem Ir(sc:Bs)(p:Pa)(t:Bs)(last:Bool):(dr sc p t last).2.length<=p.2.length+1:=by
 have h1:=tI sc p;unfold dr DL
 (repeat' split)<;>simp<;>omega
def LB:cM:=bS [(128,iX),(129,iV),(138,jk),(139,tJ)]
def LC(bp:Option Addr)(sc us pw:Bs)(hk:Int)(hs:Bs)(hn:Int)(hp:List Int)(port:Int)(Rl pn:Bool)(pl:List Bs)(hq:Bool)(q:Bs)(hf:Bool)(fg:Bs)(bare sp:Bool)(I:Bs):aP:=fun i=>bif Nat.beq i 2 then some ⟨(Bs)×(Bool×List Bs),(fun s x=>(VS.mk s.loc (((s.put 2 (.str x.1)).put 4 .undef).put 29 .undef).env [(0,aE 1 (.raw (.pointer bp)) sc us pw hk hs hn hp port Rl (x.2.1) (x.2.2) hq q hf fg bare sp (aa I (aI I)))])),(fun s=>(s.str 2,((s.bx 0 [0,6]).nh,(s.bx 0 [0,6]).mh))),(fun s x=>let t:=x.1;let p:=x.2;t.length<=300000/\p.2.length+t.length<=pl.length+I.length/\qH sc (fP sp) t p=bQ sp sc (ab I (aI I)) (pn,pl)),(fun s x=>let t:=x.1;let p:=x.2;t.length),[4,29]⟩else none
theorem It:df Tryz.prog az LB:=ah gZ (ah gX (ah lq (ah Bm ax)))
theorem NR(bp:Option Addr)(sc us pw:Bs)(hk:Int)(hs:Bs)(hn:Int)(hp:List Int)(port:Int)(Rl pn:Bool)(pl:List Bs)(hq:Bool)(q:Bs)(hf:Bool)(fg:Bs)(bare sp:Bool)(I:Bs)(k:PV->List PV->Prop):b9 Tryz.prog LB az (LC bp sc us pw hk hs hn hp port Rl pn pl hq q hf fg bare sp I) 1000 Tryz.f90 [.ptr 0 0] [aE 1 (.raw (.pointer bp)) sc us pw hk hs hn hp port Rl pn pl hq q hf fg bare sp I] k=(
 (List.length I<=1000000/\
 (bL #[63,35]).length<=1000000/\
 ∀(b:UInt8),b∈(bL #[63,35])->
 b.toNat<128)/\
 ((0:Int)<=↑(bo I (bL #[63,35]))/\
 ↑(bo I (bL #[63,35]))<=ai I)/\
 True/\
 VS.mk [] [(0,PV.ptr 0 0),(2,PV.str (ab I ↑(bo I (bL #[63,35])))),(3,PV.str (fP sp)),uZ 4,uZ 29] [((0:Nat),ct (PV.raw (Go.Value.pointer bp)) 1 sc us pw hk hs hn hp port Rl pn pl hq q hf fg bare sp (aa I ↑(bo I (bL #[63,35]))))]=VS.mk [] [(0,PV.ptr 0 0),(2,PV.str (ab I ↑(bo I (bL #[63,35])))),(3,PV.str (fP sp)),uZ 4,uZ 29] [((0:Nat),ct (PV.raw (Go.Value.pointer bp)) 1 sc us pw hk hs hn hp port Rl pn pl hq q hf fg bare sp (aa I ↑(aI I)))]/\
 ((ab I ↑(bo I (bL #[63,35]))).length<=(300000:Nat)/\
 pl.length+(ab I ↑(bo I (bL #[63,35]))).length<=pl.length+List.length I/\
 qH sc (fP sp) (ab I ↑(bo I (bL #[63,35]))) (pn,pl)=bQ sp sc (ab I ↑(aI I)) (pn,pl))/\
 ∀(x:Bs×Bool×List Bs),List.length x.1<=300000/\
 x.2.2.length+List.length x.1<=pl.length+List.length I/\
 qH sc (fP sp) x.1 x.2=bQ sp sc (ab I ↑(aI I)) (pn,pl)->
 (List.length x.1<=(1000000:Nat)/\
 List.length (fP sp)<=1000000/\
 ∀(b:UInt8),b∈fP sp->
 b.toNat<128)/\
 upto 0 (↑(bo x.1 (fP sp))) (ai x.1)/\
 (x.2.2.length<=(1000000:Nat)/\
 (ab x.1 ↑(bo x.1 (fP sp))).length<=(300000:Nat))/\
 (decide (↑(bo x.1 (fP sp))=ai x.1)=true->
 k (PV.tup []) [ct (PV.raw (Go.Value.pointer bp)) 1 sc us pw hk hs hn hp port Rl ((dr sc (x.2.1,x.2.2) (ab x.1 ↑(bo x.1 (fP sp))) (decide (↑(bo x.1 (fP sp))=ai x.1))).1) ((dr sc (x.2.1,x.2.2) (ab x.1 ↑(bo x.1 (fP sp))) (decide (↑(bo x.1 (fP sp))=ai x.1))).2) hq q hf fg bare sp (aa I ↑(aI I))])/\
 (decide (↑(bo x.1 (fP sp))=ai x.1)=false->
 av (↑(bo x.1 (fP sp))+(1:Int))/\
 upto (↑(bo x.1 (fP sp))+(1:Int)) (ai x.1) (ai x.1)/\
 eK (VS.mk [] [(0,PV.ptr 0 0),(2,PV.str (aa x.1 (↑(bo x.1 (fP sp))+(1:Int)))),(3,PV.str (fP sp)),uZ 4,uZ 29] [((0:Nat),ct (PV.raw (Go.Value.pointer bp)) 1 sc us pw hk hs hn hp port Rl ((dr sc (x.2.1,x.2.2) (ab x.1 ↑(bo x.1 (fP sp))) (decide (↑(bo x.1 (fP sp))=ai x.1))).1) ((dr sc (x.2.1,x.2.2) (ab x.1 ↑(bo x.1 (fP sp))) (decide (↑(bo x.1 (fP sp))=ai x.1))).2) hq q hf fg bare sp (aa I ↑(aI I)))])/\
 ((aa x.1 (↑(bo x.1 (fP sp))+(1:Int))).length<=(300000:Nat)/\
 (dr sc (x.2.1,x.2.2) (ab x.1 ↑(bo x.1 (fP sp))) (decide (↑(bo x.1 (fP sp))=ai x.1))).2.length+(aa x.1 (↑(bo x.1 (fP sp))+(1:Int))).length<=pl.length+List.length I/\
 qH sc (fP sp) (aa x.1 (↑(bo x.1 (fP sp))+(1:Int))) ((dr sc (x.2.1,x.2.2) (ab x.1 ↑(bo x.1 (fP sp))) (decide (↑(bo x.1 (fP sp))=ai x.1))).1,(dr sc (x.2.1,x.2.2) (ab x.1 ↑(bo x.1 (fP sp))) (decide (↑(bo x.1 (fP sp))=ai x.1))).2)=bQ sp sc (ab I ↑(aI I)) (pn,pl))/\
 (aa x.1 (↑(bo x.1 (fP sp))+(1:Int))).length<List.length x.1)):=by kernel_rfl
attribute [local irreducible] Go.Vc.cD Go.Vc.b9
theorem wQ(bp:Option Addr)(sc us pw:Bs)(hk:Int)(hs:Bs)(hn:Int)(hp:List Int)(port:Int)(Rl pn:Bool)(pl:List Bs)(hq:Bool)(q:Bs)(hf:Bool)(fg:Bs)(bare sp:Bool)(I:Bs):bE Tryz.prog az 90 [.ptr 0 0] [aE 1 (.raw (.pointer bp)) sc us pw hk hs hn hp port Rl pn pl hq q hf fg bare sp I] (I.length<=300000/\pl.length<=100000) (.tup []) [aE 1 (.raw (.pointer bp)) sc us pw hk hs hn hp port Rl ((bQ sp sc (ab I (aI I)) (pn,pl)).1) ((bQ sp sc (ab I (aI I)) (pn,pl)).2) hq q hf fg bare sp (aa I (aI I))]:=bT (by kernel_rfl) It (H:=LC bp sc us pw hk hs hn hp port Rl pn pl hq q hf fg bare sp I) (fuel:=1000) Tryz.func90 (by kernel_rfl) (Nat.le_of_ble_eq_true rfl) fun hpre=>(NR bp sc us pw hk hs hn hp port Rl pn pl hq q hf fg bare sp I _).mpr (by
 obtain ⟨hp1,hp2⟩:=hpre;have h63:∀b:UInt8,b∈(bL #[63,35])->b.toNat<128:=by rw [show(bL #[63,35])=([63,35]:Bs)from rfl];decide
 have hs3:∀b:UInt8,b∈fP sp->b.toNat<128:=by unfold fP;split<;>decide
 have hs2:(fP sp).length<=1000000:=by unfold fP;split<;>decide
 have e3:=gJ I (bL #[63,35]);have e4:(ab I (bo I (bL #[63,35]):Int)).length<=I.length:=by unfold ab;rw [List.length_take];exact Nat.min_le_right _ _
 refine ⟨⟨by omega,by decide,h63⟩,⟨by omega,by unfold ai;exact Int.ofNat_le.2 e3⟩,trivial,rfl,⟨by omega,by omega,rfl⟩,fun x ⟨h1,h2,h3⟩=>?_⟩;have e5:=gJ x.1 (fP sp);rw [DM]at h3;generalize bo x.1 (fP sp)=n at *;have e6:ab x.1 (n:Int)=x.1.take n:=by unfold ab;rw [Int.toNat_natCast]
 have e7:aa x.1 ((n:Int)+1)=x.1.drop (n+1):=by unfold aa;congr 1
 have e8:(x.1.take n).length<=300000:=by rw [List.length_take];omega
 rw [e6,e7];refine ⟨⟨by omega,hs2,hs3⟩,⟨Int.le_refl _,by omega,by unfold ai;omega⟩,⟨by omega,e8⟩,fun h=>?_,fun h=>?_⟩
 ·have hl:n=x.1.length:=by have:=of_decide_eq_true h;unfold ai at this;omega
  rw [if_pos hl]at h3;have e9:x.1.take n=x.1:=by rw [hl,List.take_length]
  rw [h,e9,<-h3];exact ⟨rfl,rfl⟩
 ·have hl:¬n=x.1.length:=by have:=of_decide_eq_false h;unfold ai at this;omega
  rw [if_neg hl]at h3;have e10:(x.1.drop (n+1)).length=x.1.length-(n+1):=List.length_drop;have e11:=Ir sc x.2 (x.1.take n) false;rw [h];refine ⟨by unfold av;omega,⟨by omega,by unfold ai;omega,Int.le_refl _⟩,rfl,⟨by omega,?_,h3⟩,by omega⟩;show(dr sc x.2 (x.1.take n) false).2.length+_ <=_;omega)
theorem NS(bp:Option Addr)(sc us pw:Bs)(hk:Int)(hs:Bs)(hn:Int)(hp:List Int)(port:Int)(Rl pn:Bool)(pl:List Bs)(hq:Bool)(q:Bs)(hf:Bool)(fg:Bs)(bare sp:Bool)(I:Bs):ae Tryz.prog az 90 [.ptr 0 0,aE 1 (.raw (.pointer bp)) sc us pw hk hs hn hp port Rl pn pl hq q hf fg bare sp I] ⟨I.length<=300000/\pl.length<=100000,.tup [.tup [],aE 1 (.raw (.pointer bp)) sc us pw hk hs hn hp port Rl ((bQ sp sc (ab I (aI I)) (pn,pl)).1) ((bQ sp sc (ab I (aI I)) (pn,pl)).2) hq q hf fg bare sp (aa I (aI I))]⟩:=ae.aZ (fun h=>by have e:List.isEmpty (PV.aC PV.bU [.ptr 0 0,aE 1 (.raw (.pointer bp)) sc us pw hk hs hn hp port Rl pn pl hq q hf fg bare sp I])=false:=(by kernel_rfl);exact Bool.noConfusion (e.symm.trans (congrArg List.isEmpty h))) (wQ bp sc us pw hk hs hn hp port Rl pn pl hq q hf fg bare sp I)
def ow:List PV->Option aD:=fun xs=>match xs with
 |[.ptr 0 0,aE 1 (.raw (.pointer bp)) sc us pw hk hs hn hp port Rl pn pl hq q hf fg bare sp I]=>some ⟨I.length<=300000/\pl.length<=100000,.tup [.tup [],aE 1 (.raw (.pointer bp)) sc us pw hk hs hn hp port Rl ((bQ sp sc (ab I (aI I)) (pn,pl)).1) ((bQ sp sc (ab I (aI I)) (pn,pl)).2) hq q hf fg bare sp (aa I (aI I))]⟩
 |_=>none
theorem qP:∀xs c,ow xs=some c->ae Tryz.prog az 90 xs c:=fun xs c h=>by
 unfold ow at h;split at h
 ·injection h with h;subst h;exact NS _ _ _ _ _ _ _ _ _ _ _ _ _ _ _ _ _ _ _
 ·cases h
end
section
def Oy:cM:=bS [(158,oa)]
def Oz(l m:Bs):aP:=fun i=>none
theorem LD:df Tryz.prog az Oy:=ah qE ax
theorem PI(l m:Bs)(k:PV->Prop):cD Tryz.prog Oy az (Oz l m) 1000 Tryz.f130 [.str l,.str m] k=(
 (List.length l<=1000000/\List.length m<=1000000)/\k (PV.bool (iU l m))):=by kernel_rfl
attribute [local irreducible] Go.Vc.cD
theorem PJ(l m:Bs):ae Tryz.prog az 130 [.str l,.str m] ⟨l.length<=1000000/\m.length<=1000000,.bool (iU l m)⟩:=bR (by kernel_rfl) LD (H:=Oz l m) (fuel:=1000) Tryz.func130 (by kernel_rfl) fun hpre=>(PI l m _).mpr (by
 exact ⟨hpre,rfl⟩)
def yL:List PV->Option aD:=fun xs=>match xs with
 |[.str l,.str m]=>some ⟨l.length<=1000000/\m.length<=1000000,.bool (iU l m)⟩
 |_=>none
theorem D7:∀xs c,yL xs=some c->ae Tryz.prog az 130 xs c:=fun xs c h=>by
 unfold yL at h;split at h
 ·injection h with h;subst h;exact PJ _ _
 ·cases h
end
section
theorem wR(k:Int)(l:Bs):(bz k l).length<=12*l.length:=by
 have hpl:(aF l).length<=4*l.length:=by
  have a:=(nJ (dv l)).2;have b:=kR _ l (Nat.le_refl _);unfold aF;omega
 unfold bz;split
 ·have:=zP (fY k) (aF l);omega
 ·omega
theorem Qp(l:Bs):iU l [32]=decide (0<l.length/\ag l (l.length-1)=32):=by
 unfold iU ai aa;rcases List.eq_nil_or_concat l with rfl|⟨L,b,rfl⟩
 ·rfl
 ·have h1:(((L.concat b).length:Int)-(([32]:Bs).length:Int)).toNat=L.length:=by simp
  have h2:ag (L.concat b) ((L.concat b).length-1)=b.toNat:=by
   unfold ag;have:(((L.concat b).length:Int)-1).toNat=L.length:=by simp
   rw [this];simp
  rw [h1,h2];have h3:decide ((([32]:Bs).length:Int)<=((L.concat b).length:Int))=true:=decide_eq_true (by simp;omega);have h4:(0:Nat)<(L.concat b).length:=by simp
  rw [h3,cond_true,decide_eq_decide];have h5:(L.concat b).drop L.length=[b]:=by simp
  rw [h5];simp only [h4,true_and,List.cons.injEq,and_true];constructor
  ·rintro rfl;rfl
  ·intro h;exact UInt8.toNat_inj.1 (by have:(32:UInt8).toNat=32:=rfl;omega)
def Bn:cM:=bS [(128,iX),(129,iV),(130,yL),(26,gh)]
def Bo(bp:Option Addr)(sc us pw:Bs)(hk:Int)(hs:Bs)(hn:Int)(hp:List Int)(port:Int)(Rl pn:Bool)(pl:List Bs)(hq:Bool)(q:Bs)(hf:Bool)(fg:Bs)(bare sp:Bool)(I:Bs):aP:=fun i=>none
theorem Bp:df Tryz.prog az Bn:=ah gZ (ah gX (ah D7 (ah eU ax)))
theorem Iu(bp:Option Addr)(sc us pw:Bs)(hk:Int)(hs:Bs)(hn:Int)(hp:List Int)(port:Int)(Rl pn:Bool)(pl:List Bs)(hq:Bool)(q:Bs)(hf:Bool)(fg:Bs)(bare sp:Bool)(I:Bs)(k:PV->List PV->Prop):b9 Tryz.prog Bn az (Bo bp sc us pw hk hs hn hp port Rl pn pl hq q hf fg bare sp I) 1000 Tryz.f81 [.ptr 0 0] [aE 1 (.raw (.pointer bp)) sc us pw hk hs hn hp port Rl pn pl hq q hf fg bare sp I] k=(
 (List.length I<=1000000/\
 (bL #[63,35]).length<=1000000/\
 ∀(b:UInt8),b∈(bL #[63,35])->
 b.toNat<128)/\
 ((0:Int)<=↑(bo I (bL #[63,35]))/\
 ↑(bo I (bL #[63,35]))<=ai I)/\
 ((!decide (aa I ↑(bo I (bL #[63,35]))=(bL #[])))=true->
 (ab I ↑(bo I (bL #[63,35]))).length<=(1000000:Nat)/\
 (bL #[32]).length<=1000000)/\
 ((bif !decide (aa I ↑(bo I (bL #[63,35]))=(bL #[]))then iU (ab I ↑(bo I (bL #[63,35]))) (bL #[32])else false)=true->
 av (ai (ab I ↑(bo I (bL #[63,35])))-(1:Int))/\
 upto 0 (ai (ab I ↑(bo I (bL #[63,35])))-(1:Int)) (ai (ab I ↑(bo I (bL #[63,35]))))/\
 ((ab (ab I ↑(bo I (bL #[63,35]))) (ai (ab I ↑(bo I (bL #[63,35])))-(1:Int))).length<=(300000:Nat)/\
 (0:Int)<=0/\
 (0:Int)<=6)/\
 (bz 0 (ab (ab I ↑(bo I (bL #[63,35]))) (ai (ab I ↑(bo I (bL #[63,35])))-(1:Int)))).length+(bL #[37,50,48]).length<=Go.Vc.maxLen/\
 k (PV.tup []) [ct (PV.raw (Go.Value.pointer bp)) 0 sc us pw hk hs hn hp port true false ([bz 0 (ab (ab I ↑(bo I (bL #[63,35]))) (ai (ab I ↑(bo I (bL #[63,35])))-(1:Int)))++(bL #[37,50,48])]) hq q hf fg bare sp (aa I ↑(bo I (bL #[63,35])))])/\
 ((bif !decide (aa I ↑(bo I (bL #[63,35]))=(bL #[]))then iU (ab I ↑(bo I (bL #[63,35]))) (bL #[32])else false)=false->
 ((ab I ↑(bo I (bL #[63,35]))).length<=(300000:Nat)/\
 (0:Int)<=0/\
 (0:Int)<=6)/\
 (bz 0 (ab I ↑(bo I (bL #[63,35])))).length+(bL #[]).length<=Go.Vc.maxLen/\
 k (PV.tup []) [ct (PV.raw (Go.Value.pointer bp)) 0 sc us pw hk hs hn hp port true false ([bz 0 (ab I ↑(bo I (bL #[63,35])))++(bL #[])]) hq q hf fg bare sp (aa I ↑(bo I (bL #[63,35])))])):=by kernel_rfl
attribute [local irreducible] Go.Vc.cD Go.Vc.b9
theorem Bq(bp:Option Addr)(sc us pw:Bs)(hk:Int)(hs:Bs)(hn:Int)(hp:List Int)(port:Int)(Rl pn:Bool)(pl:List Bs)(hq:Bool)(q:Bs)(hf:Bool)(fg:Bs)(bare sp:Bool)(I:Bs):bE Tryz.prog az 81 [.ptr 0 0] [aE 1 (.raw (.pointer bp)) sc us pw hk hs hn hp port Rl pn pl hq q hf fg bare sp I] (I.length<=300000) (.tup []) [aE 0 (.raw (.pointer bp)) sc us pw hk hs hn hp port true false ([pH (ab I (aI I)) (aa I (aI I))]) hq q hf fg bare sp (aa I (aI I))]:=bT (by kernel_rfl) Bp (H:=Bo bp sc us pw hk hs hn hp port Rl pn pl hq q hf fg bare sp I) (fuel:=1000) Tryz.func81 (by kernel_rfl) (Nat.le_of_ble_eq_true rfl) fun hpre=>(Iu bp sc us pw hk hs hn hp port Rl pn pl hq q hf fg bare sp I _).mpr (by
 obtain ⟨n,e1⟩:∃n,n=bo I (bL #[63,35]):=⟨_,rfl⟩;have e2:aI I=n:=e1.symm;have h63:∀b:UInt8,b∈(bL #[63,35])->b.toNat<128:=by rw [show(bL #[63,35])=([63,35]:Bs)from rfl];decide
 rw [<-e1];have e3:n<=I.length:=by rw [e1];exact gJ _ _
 obtain ⟨S,e4⟩:∃S,S=ab I (n:Int):=⟨_,rfl⟩;obtain ⟨D,e5⟩:∃D,D=aa I (n:Int):=⟨_,rfl⟩;rw [<-e4,<-e5];have e6:S.length<=300000:=by rw [e4];unfold ab;rw [List.length_take];omega
 have e7:pH (ab I (aI I)) (aa I (aI I))=pH S D:=by rw [e2,<-e4,<-e5]
 have e8:aa I (aI I:Int)=D:=by rw [e2,<-e5]
 have e9:(ab S (ai S-1)).length<=300000:=by unfold ab;rw [List.length_take];omega
 have hcond:(bif !decide (D=(bL #[]))then iU S (bL #[32])else false)=decide (D≠[]/\0<S.length/\ag S (S.length-1)=32):=by
  rw [show iU S (bL #[32])=iU S [32]from rfl,Qp,Bool.eq_iff_iff];simp only [x5,Bool.and_eq_true,decide_eq_true_eq,Bool.not_eq_true',decide_eq_false_iff_not]
  try exact Iff.rfl
 rw [hcond,e7];rw [e8];refine ⟨⟨by omega,by decide,h63⟩,⟨by omega,by unfold ai;exact Int.ofNat_le.2 e3⟩,fun _=>⟨by omega,by decide⟩,fun h=>?_,fun h=>?_⟩
 ·have hc:=of_decide_eq_true h
  have ex:pH S D=bz 0 (ab S (ai S-1))++QO:=by unfold pH;rw [if_pos hc];rfl
  rw [ex];exact ⟨by unfold av ai;omega,by unfold upto ai;omega,⟨e9,by omega,by omega⟩,Nat.le_trans (Nat.add_le_add_right (wR 0 _) _) (Nat.le_trans (show _ <=12*300000+3 from Nat.add_le_add (Nat.mul_le_mul_left 12 e9) (by decide)) (by decide)),rfl,rfl⟩
 ·have hc:=of_decide_eq_false h
  have ex:pH S D=bz 0 S:=by unfold pH;rw [if_neg hc]
  rw [ex,show(bL #[])=([]:Bs)from rfl,List.append_nil];exact ⟨⟨e6,by omega,by omega⟩,Nat.le_trans (Nat.add_le_add_right (wR 0 _) _) (Nat.le_trans (show _ <=12*300000+0 from Nat.add_le_add (Nat.mul_le_mul_left 12 e6) (by decide)) (by decide)),rfl,rfl⟩)
theorem Iv(bp:Option Addr)(sc us pw:Bs)(hk:Int)(hs:Bs)(hn:Int)(hp:List Int)(port:Int)(Rl pn:Bool)(pl:List Bs)(hq:Bool)(q:Bs)(hf:Bool)(fg:Bs)(bare sp:Bool)(I:Bs):ae Tryz.prog az 81 [.ptr 0 0,aE 1 (.raw (.pointer bp)) sc us pw hk hs hn hp port Rl pn pl hq q hf fg bare sp I] ⟨I.length<=300000,.tup [.tup [],aE 0 (.raw (.pointer bp)) sc us pw hk hs hn hp port true false ([pH (ab I (aI I)) (aa I (aI I))]) hq q hf fg bare sp (aa I (aI I))]⟩:=ae.aZ (fun h=>by have e:List.isEmpty (PV.aC PV.bU [.ptr 0 0,aE 1 (.raw (.pointer bp)) sc us pw hk hs hn hp port Rl pn pl hq q hf fg bare sp I])=false:=(by kernel_rfl);exact Bool.noConfusion (e.symm.trans (congrArg List.isEmpty h))) (Bq bp sc us pw hk hs hn hp port Rl pn pl hq q hf fg bare sp I)
def mS:List PV->Option aD:=fun xs=>match xs with
 |[.ptr 0 0,aE 1 (.raw (.pointer bp)) sc us pw hk hs hn hp port Rl pn pl hq q hf fg bare sp I]=>some ⟨I.length<=300000,.tup [.tup [],aE 0 (.raw (.pointer bp)) sc us pw hk hs hn hp port true false ([pH (ab I (aI I)) (aa I (aI I))]) hq q hf fg bare sp (aa I (aI I))]⟩
 |_=>none
theorem uK:∀xs c,mS xs=some c->ae Tryz.prog az 81 xs c:=fun xs c h=>by
 unfold mS at h;split at h
 ·injection h with h;subst h;exact Iv _ _ _ _ _ _ _ _ _ _ _ _ _ _ _ _ _ _ _
 ·cases h
end
section
def fb(I:Bs)(hq:Bool):Bool:=if preB I [63]=true then true else hq
def fc(sp:Bool)(I q:Bs):Bs:=if preB I [63]=true then bz (if sp=true then 3 else 2) (ab (aa I 1) (Bb (aa I 1)))else q
def bX(I:Bs):Bs:=if preB I [63]=true then aa (aa I 1) (Bb (aa I 1))else I
theorem LF(r:RS):r.query={r with hq:=fb r.I r.hq,q:=fc r.sp r.I r.q,I:=bX r.I}:=by
 unfold RS.query fb fc bX;split<;>rfl
def FT:cM:=bS [(80,ln),(128,iX),(129,iV),(26,gh)]
def FU(bp:Option Addr)(sc us pw:Bs)(hk:Int)(hs:Bs)(hn:Int)(hp:List Int)(port:Int)(Rl pn:Bool)(pl:List Bs)(hq:Bool)(q:Bs)(hf:Bool)(fg:Bs)(bare sp:Bool)(I:Bs):aP:=fun i=>none
theorem D8:df Tryz.prog az FT:=ah lp (ah gZ (ah gX (ah eU ax)))
theorem LG(bp:Option Addr)(sc us pw:Bs)(hk:Int)(hs:Bs)(hn:Int)(hp:List Int)(port:Int)(Rl pn:Bool)(pl:List Bs)(hq:Bool)(q:Bs)(hf:Bool)(fg:Bs)(bare sp:Bool)(I:Bs)(k:PV->List PV->Prop):b9 Tryz.prog FT az (FU bp sc us pw hk hs hn hp port Rl pn pl hq q hf fg bare sp I) 1000 Tryz.f91 [.ptr 0 0] [aE 1 (.raw (.pointer bp)) sc us pw hk hs hn hp port Rl pn pl hq q hf fg bare sp I] k=(
 True/\
 ((!(aq I (bL #[63])).2)=true->
 k (PV.tup []) [ct (PV.raw (Go.Value.pointer bp)) 1 sc us pw hk hs hn hp port Rl pn pl hq q hf fg bare sp ((aq I (bL #[63])).1)])/\
 ((!(aq I (bL #[63])).2)=false->
 (sp=true->
 (List.length (aq I (bL #[63])).1<=1000000/\
 (bL #[35]).length<=1000000/\
 ∀(b:UInt8),b∈(bL #[35])->
 b.toNat<128)/\
 ((0:Int)<=↑(bo (aq I (bL #[63])).1 (bL #[35]))/\
 ↑(bo (aq I (bL #[63])).1 (bL #[35]))<=ai (aq I (bL #[63])).1)/\
 ((ab (aq I (bL #[63])).1 ↑(bo (aq I (bL #[63])).1 (bL #[35]))).length<=(300000:Nat)/\
 (0:Int)<=3/\
 (3:Int)<=6)/\
 k (PV.tup []) [ct (PV.raw (Go.Value.pointer bp)) 1 sc us pw hk hs hn hp port Rl pn pl true (bz 3 (ab (aq I (bL #[63])).1 ↑(bo (aq I (bL #[63])).1 (bL #[35])))) hf fg bare sp (aa (aq I (bL #[63])).1 ↑(bo (aq I (bL #[63])).1 (bL #[35])))])/\
 (sp=false->
 (List.length (aq I (bL #[63])).1<=1000000/\
 (bL #[35]).length<=1000000/\
 ∀(b:UInt8),b∈(bL #[35])->
 b.toNat<128)/\
 ((0:Int)<=↑(bo (aq I (bL #[63])).1 (bL #[35]))/\
 ↑(bo (aq I (bL #[63])).1 (bL #[35]))<=ai (aq I (bL #[63])).1)/\
 ((ab (aq I (bL #[63])).1 ↑(bo (aq I (bL #[63])).1 (bL #[35]))).length<=(300000:Nat)/\
 (0:Int)<=2/\
 (2:Int)<=6)/\
 k (PV.tup []) [ct (PV.raw (Go.Value.pointer bp)) 1 sc us pw hk hs hn hp port Rl pn pl true (bz 2 (ab (aq I (bL #[63])).1 ↑(bo (aq I (bL #[63])).1 (bL #[35])))) hf fg bare sp (aa (aq I (bL #[63])).1 ↑(bo (aq I (bL #[63])).1 (bL #[35])))]))):=by kernel_rfl
attribute [local irreducible] Go.Vc.cD Go.Vc.b9
theorem tK(bp:Option Addr)(sc us pw:Bs)(hk:Int)(hs:Bs)(hn:Int)(hp:List Int)(port:Int)(Rl pn:Bool)(pl:List Bs)(hq:Bool)(q:Bs)(hf:Bool)(fg:Bs)(bare sp:Bool)(I:Bs):bE Tryz.prog az 91 [.ptr 0 0] [aE 1 (.raw (.pointer bp)) sc us pw hk hs hn hp port Rl pn pl hq q hf fg bare sp I] (I.length<=300000) (.tup []) [aE 1 (.raw (.pointer bp)) sc us pw hk hs hn hp port Rl pn pl (fb I hq) (fc sp I q) hf fg bare sp (bX I)]:=bT (by kernel_rfl) D8 (H:=FU bp sc us pw hk hs hn hp port Rl pn pl hq q hf fg bare sp I) (fuel:=1000) Tryz.func91 (by kernel_rfl) (Nat.le_of_ble_eq_true rfl) fun hpre=>(LG bp sc us pw hk hs hn hp port Rl pn pl hq q hf fg bare sp I _).mpr (by
 have ec:(bL #[63])=([63]:Bs):=rfl;have ed:(bL #[35])=([35]:Bs):=rfl;have h35:∀b:UInt8,b∈(bL #[35])->b.toNat<128:=by rw [ed];decide
 cases hc:preB I [63]with
 |false=>
  have e1:aq I (bL #[63])=(I,false):=by unfold aq;rw [ec,hc];rfl
  have e2:fb I hq=hq/\fc sp I q=q/\bX I=I:=by unfold fb fc bX;rw [hc];exact ⟨rfl,rfl,rfl⟩
  rw [e1,e2.1,e2.2.1,e2.2.2];exact ⟨trivial,fun _=>⟨rfl,rfl⟩,fun h=>by cases h⟩
 |true=>
  have e1:aq I (bL #[63])=(aa I 1,true):=by unfold aq;rw [ec,hc];rfl
  have e2:fb I hq=true/\fc sp I q=bz (if sp=true then 3 else 2) (ab (aa I 1) (Bb (aa I 1)))/\bX I=aa (aa I 1) (Bb (aa I 1)):=⟨if_pos hc,if_pos hc,if_pos hc⟩
  have hl:(aa I 1).length<=300000:=by unfold aa;rw [List.length_drop];omega
  have hi:=gJ (aa I 1) (bL #[35]);have ht:(ab (aa I 1) (bo (aa I 1) (bL #[35]):Int)).length<=300000:=by unfold ab;rw [List.length_take];omega
  rw [e1,e2.1,e2.2.1,e2.2.2];refine ⟨trivial,fun h=>(by cases h),fun _=>⟨fun hsp=>?_,fun hsp=>?_⟩⟩
  ·subst hsp
   exact ⟨⟨Nat.le_trans hl (by decide),by decide,h35⟩,⟨by omega,by unfold ai;exact Int.ofNat_le.2 hi⟩,⟨ht,by omega,by omega⟩,rfl,rfl⟩
  ·subst hsp
   exact ⟨⟨Nat.le_trans hl (by decide),by decide,h35⟩,⟨by omega,by unfold ai;exact Int.ofNat_le.2 hi⟩,⟨ht,by omega,by omega⟩,rfl,rfl⟩)
theorem LH(bp:Option Addr)(sc us pw:Bs)(hk:Int)(hs:Bs)(hn:Int)(hp:List Int)(port:Int)(Rl pn:Bool)(pl:List Bs)(hq:Bool)(q:Bs)(hf:Bool)(fg:Bs)(bare sp:Bool)(I:Bs):ae Tryz.prog az 91 [.ptr 0 0,aE 1 (.raw (.pointer bp)) sc us pw hk hs hn hp port Rl pn pl hq q hf fg bare sp I] ⟨I.length<=300000,.tup [.tup [],aE 1 (.raw (.pointer bp)) sc us pw hk hs hn hp port Rl pn pl (fb I hq) (fc sp I q) hf fg bare sp (bX I)]⟩:=ae.aZ (fun h=>by have e:List.isEmpty (PV.aC PV.bU [.ptr 0 0,aE 1 (.raw (.pointer bp)) sc us pw hk hs hn hp port Rl pn pl hq q hf fg bare sp I])=false:=(by kernel_rfl);exact Bool.noConfusion (e.symm.trans (congrArg List.isEmpty h))) (tK bp sc us pw hk hs hn hp port Rl pn pl hq q hf fg bare sp I)
def pO:List PV->Option aD:=fun xs=>match xs with
 |[.ptr 0 0,aE 1 (.raw (.pointer bp)) sc us pw hk hs hn hp port Rl pn pl hq q hf fg bare sp I]=>some ⟨I.length<=300000,.tup [.tup [],aE 1 (.raw (.pointer bp)) sc us pw hk hs hn hp port Rl pn pl (fb I hq) (fc sp I q) hf fg bare sp (bX I)]⟩
 |_=>none
theorem yM:∀xs c,pO xs=some c->ae Tryz.prog az 91 xs c:=fun xs c h=>by
 unfold pO at h;split at h
 ·injection h with h;subst h;exact LH _ _ _ _ _ _ _ _ _ _ _ _ _ _ _ _ _ _ _
 ·cases h
end
section
def FV:cM:=bS [(127,oq)]
def FW(bp:Option Addr)(sc us pw:Bs)(hk:Int)(hs:Bs)(hn:Int)(hp:List Int)(port:Int)(Rl pn:Bool)(pl:List Bs)(hq:Bool)(q:Bs)(hf:Bool)(fg:Bs)(bare sp:Bool)(I:Bs)(p:Bs):aP:=fun i=>none
theorem D9:df Tryz.prog az FV:=ah qL ax
theorem LI(bp:Option Addr)(sc us pw:Bs)(hk:Int)(hs:Bs)(hn:Int)(hp:List Int)(port:Int)(Rl pn:Bool)(pl:List Bs)(hq:Bool)(q:Bs)(hf:Bool)(fg:Bs)(bare sp:Bool)(I:Bs)(p:Bs)(k:PV->List PV->Prop):b9 Tryz.prog FV az (FW bp sc us pw hk hs hn hp port Rl pn pl hq q hf fg bare sp I p) 1000 Tryz.f80 [.ptr 0 0,.str p] [aE 0 (.raw (.pointer bp)) sc us pw hk hs hn hp port Rl pn pl hq q hf fg bare sp I] k=(
 True/\
 k (PV.bool (aq I p).2) [ct (PV.raw (Go.Value.pointer bp)) 0 sc us pw hk hs hn hp port Rl pn pl hq q hf fg bare sp ((aq I p).1)]):=by kernel_rfl
attribute [local irreducible] Go.Vc.cD Go.Vc.b9
theorem Ea(bp:Option Addr)(sc us pw:Bs)(hk:Int)(hs:Bs)(hn:Int)(hp:List Int)(port:Int)(Rl pn:Bool)(pl:List Bs)(hq:Bool)(q:Bs)(hf:Bool)(fg:Bs)(bare sp:Bool)(I:Bs)(p:Bs):bE Tryz.prog az 80 [.ptr 0 0,.str p] [aE 0 (.raw (.pointer bp)) sc us pw hk hs hn hp port Rl pn pl hq q hf fg bare sp I] True (.bool (aq I p).2) [aE 0 (.raw (.pointer bp)) sc us pw hk hs hn hp port Rl pn pl hq q hf fg bare sp ((aq I p).1)]:=bT (by kernel_rfl) D9 (H:=FW bp sc us pw hk hs hn hp port Rl pn pl hq q hf fg bare sp I p) (fuel:=1000) Tryz.func80 (by kernel_rfl) (Nat.le_of_ble_eq_true rfl) fun hpre=>(LI bp sc us pw hk hs hn hp port Rl pn pl hq q hf fg bare sp I p _).mpr (by
 exact ⟨trivial,rfl,rfl⟩)
theorem LJ(bp:Option Addr)(sc us pw:Bs)(hk:Int)(hs:Bs)(hn:Int)(hp:List Int)(port:Int)(Rl pn:Bool)(pl:List Bs)(hq:Bool)(q:Bs)(hf:Bool)(fg:Bs)(bare sp:Bool)(I:Bs)(p:Bs):ae Tryz.prog az 80 [.ptr 0 0,.str p,aE 0 (.raw (.pointer bp)) sc us pw hk hs hn hp port Rl pn pl hq q hf fg bare sp I] ⟨True,.tup [.bool (aq I p).2,aE 0 (.raw (.pointer bp)) sc us pw hk hs hn hp port Rl pn pl hq q hf fg bare sp ((aq I p).1)]⟩:=ae.aZ (fun h=>by have e:List.isEmpty (PV.aC PV.bU [.ptr 0 0,.str p,aE 0 (.raw (.pointer bp)) sc us pw hk hs hn hp port Rl pn pl hq q hf fg bare sp I])=false:=(by kernel_rfl);exact Bool.noConfusion (e.symm.trans (congrArg List.isEmpty h))) (Ea bp sc us pw hk hs hn hp port Rl pn pl hq q hf fg bare sp I p)
def lQ:List PV->Option aD:=fun xs=>match xs with
 |[.ptr 0 0,.str p,aE 0 (.raw (.pointer bp)) sc us pw hk hs hn hp port Rl pn pl hq q hf fg bare sp I]=>some ⟨True,.tup [.bool (aq I p).2,aE 0 (.raw (.pointer bp)) sc us pw hk hs hn hp port Rl pn pl hq q hf fg bare sp ((aq I p).1)]⟩
 |_=>none
theorem ox:∀xs c,lQ xs=some c->ae Tryz.prog az 80 xs c:=fun xs c h=>by
 unfold lQ at h;split at h
 ·injection h with h;subst h;exact LJ _ _ _ _ _ _ _ _ _ _ _ _ _ _ _ _ _ _ _ _
 ·cases h
end
section
def FX:cM:=bS []
def FY(bp:Option Addr)(sc us pw:Bs)(hk:Int)(hs:Bs)(hn:Int)(hp:List Int)(port:Int)(Rl pn:Bool)(pl:List Bs)(hq:Bool)(q:Bs)(hf:Bool)(fg:Bs)(bare sp:Bool)(I:Bs)(z:Int):aP:=fun i=>none
theorem Eb:df Tryz.prog az FX:=ax
theorem LK(bp:Option Addr)(sc us pw:Bs)(hk:Int)(hs:Bs)(hn:Int)(hp:List Int)(port:Int)(Rl pn:Bool)(pl:List Bs)(hq:Bool)(q:Bs)(hf:Bool)(fg:Bs)(bare sp:Bool)(I:Bs)(z:Int)(k:PV->List PV->Prop):b9 Tryz.prog FX az (FY bp sc us pw hk hs hn hp port Rl pn pl hq q hf fg bare sp I z) 1000 Tryz.f128 [.ptr 0 0,.int .i64 z] [aE 0 (.raw (.pointer bp)) sc us pw hk hs hn hp port Rl pn pl hq q hf fg bare sp I] k=(
 upto 0 z (ai I)/\
 upto z (ai I) (ai I)/\
 k (PV.str (ab I z)) [ct (PV.raw (Go.Value.pointer bp)) 0 sc us pw hk hs hn hp port Rl pn pl hq q hf fg bare sp (aa I z)]):=by kernel_rfl
attribute [local irreducible] Go.Vc.cD Go.Vc.b9
theorem Ec(bp:Option Addr)(sc us pw:Bs)(hk:Int)(hs:Bs)(hn:Int)(hp:List Int)(port:Int)(Rl pn:Bool)(pl:List Bs)(hq:Bool)(q:Bs)(hf:Bool)(fg:Bs)(bare sp:Bool)(I:Bs)(z:Int):bE Tryz.prog az 128 [.ptr 0 0,.int .i64 z] [aE 0 (.raw (.pointer bp)) sc us pw hk hs hn hp port Rl pn pl hq q hf fg bare sp I] (0<=z/\z<=ai I) (.str (ab I z)) [aE 0 (.raw (.pointer bp)) sc us pw hk hs hn hp port Rl pn pl hq q hf fg bare sp (aa I z)]:=bT (by kernel_rfl) Eb (H:=FY bp sc us pw hk hs hn hp port Rl pn pl hq q hf fg bare sp I z) (fuel:=1000) Tryz.func128 (by kernel_rfl) (Nat.le_of_ble_eq_true rfl) fun hpre=>(LK bp sc us pw hk hs hn hp port Rl pn pl hq q hf fg bare sp I z _).mpr (by
 obtain ⟨h0,h1⟩:=hpre;exact ⟨⟨by omega,h0,h1⟩,⟨h0,h1,Int.le_refl _⟩,rfl,rfl⟩)
theorem LL(bp:Option Addr)(sc us pw:Bs)(hk:Int)(hs:Bs)(hn:Int)(hp:List Int)(port:Int)(Rl pn:Bool)(pl:List Bs)(hq:Bool)(q:Bs)(hf:Bool)(fg:Bs)(bare sp:Bool)(I:Bs)(z:Int):ae Tryz.prog az 128 [.ptr 0 0,.int .i64 z,aE 0 (.raw (.pointer bp)) sc us pw hk hs hn hp port Rl pn pl hq q hf fg bare sp I] ⟨0<=z/\z<=ai I,.tup [.str (ab I z),aE 0 (.raw (.pointer bp)) sc us pw hk hs hn hp port Rl pn pl hq q hf fg bare sp (aa I z)]⟩:=ae.aZ (fun h=>by have e:List.isEmpty (PV.aC PV.bU [.ptr 0 0,.int .i64 z,aE 0 (.raw (.pointer bp)) sc us pw hk hs hn hp port Rl pn pl hq q hf fg bare sp I])=false:=(by kernel_rfl);exact Bool.noConfusion (e.symm.trans (congrArg List.isEmpty h))) (Ec bp sc us pw hk hs hn hp port Rl pn pl hq q hf fg bare sp I z)
def pP:List PV->Option aD:=fun xs=>match xs with
 |[.ptr 0 0,.int .i64 z,aE 0 (.raw (.pointer bp)) sc us pw hk hs hn hp port Rl pn pl hq q hf fg bare sp I]=>some ⟨0<=z/\z<=ai I,.tup [.str (ab I z),aE 0 (.raw (.pointer bp)) sc us pw hk hs hn hp port Rl pn pl hq q hf fg bare sp (aa I z)]⟩
 |_=>none
theorem yN:∀xs c,pP xs=some c->ae Tryz.prog az 128 xs c:=fun xs c h=>by
 unfold pP at h;split at h
 ·injection h with h;subst h;exact LL _ _ _ _ _ _ _ _ _ _ _ _ _ _ _ _ _ _ _ _
 ·cases h
end
section
def Br:cM:=bS [(80,lQ),(128,pP),(129,iV),(26,gh)]
def Bt(bp:Option Addr)(sc us pw:Bs)(hk:Int)(hs:Bs)(hn:Int)(hp:List Int)(port:Int)(Rl pn:Bool)(pl:List Bs)(hq:Bool)(q:Bs)(hf:Bool)(fg:Bs)(bare sp:Bool)(I:Bs):aP:=fun i=>none
theorem Bu:df Tryz.prog az Br:=ah ox (ah yN (ah gX (ah eU ax)))
theorem Iw(bp:Option Addr)(sc us pw:Bs)(hk:Int)(hs:Bs)(hn:Int)(hp:List Int)(port:Int)(Rl pn:Bool)(pl:List Bs)(hq:Bool)(q:Bs)(hf:Bool)(fg:Bs)(bare sp:Bool)(I:Bs)(k:PV->List PV->Prop):b9 Tryz.prog Br az (Bt bp sc us pw hk hs hn hp port Rl pn pl hq q hf fg bare sp I) 1000 Tryz.f91 [.ptr 0 0] [aE 0 (.raw (.pointer bp)) sc us pw hk hs hn hp port Rl pn pl hq q hf fg bare sp I] k=(
 True/\
 ((!(aq I (bL #[63])).2)=true->
 k (PV.tup []) [ct (PV.raw (Go.Value.pointer bp)) 0 sc us pw hk hs hn hp port Rl pn pl hq q hf fg bare sp ((aq I (bL #[63])).1)])/\
 ((!(aq I (bL #[63])).2)=false->
 (sp=true->
 (List.length (aq I (bL #[63])).1<=1000000/\
 (bL #[35]).length<=1000000/\
 ∀(b:UInt8),b∈(bL #[35])->
 b.toNat<128)/\
 ((0:Int)<=↑(bo (aq I (bL #[63])).1 (bL #[35]))/\
 ↑(bo (aq I (bL #[63])).1 (bL #[35]))<=ai (aq I (bL #[63])).1)/\
 ((ab (aq I (bL #[63])).1 ↑(bo (aq I (bL #[63])).1 (bL #[35]))).length<=(300000:Nat)/\
 (0:Int)<=3/\
 (3:Int)<=6)/\
 k (PV.tup []) [ct (PV.raw (Go.Value.pointer bp)) 0 sc us pw hk hs hn hp port Rl pn pl true (bz 3 (ab (aq I (bL #[63])).1 ↑(bo (aq I (bL #[63])).1 (bL #[35])))) hf fg bare sp (aa (aq I (bL #[63])).1 ↑(bo (aq I (bL #[63])).1 (bL #[35])))])/\
 (sp=false->
 (List.length (aq I (bL #[63])).1<=1000000/\
 (bL #[35]).length<=1000000/\
 ∀(b:UInt8),b∈(bL #[35])->
 b.toNat<128)/\
 ((0:Int)<=↑(bo (aq I (bL #[63])).1 (bL #[35]))/\
 ↑(bo (aq I (bL #[63])).1 (bL #[35]))<=ai (aq I (bL #[63])).1)/\
 ((ab (aq I (bL #[63])).1 ↑(bo (aq I (bL #[63])).1 (bL #[35]))).length<=(300000:Nat)/\
 (0:Int)<=2/\
 (2:Int)<=6)/\
 k (PV.tup []) [ct (PV.raw (Go.Value.pointer bp)) 0 sc us pw hk hs hn hp port Rl pn pl true (bz 2 (ab (aq I (bL #[63])).1 ↑(bo (aq I (bL #[63])).1 (bL #[35])))) hf fg bare sp (aa (aq I (bL #[63])).1 ↑(bo (aq I (bL #[63])).1 (bL #[35])))]))):=by kernel_rfl
attribute [local irreducible] Go.Vc.cD Go.Vc.b9
theorem Bv(bp:Option Addr)(sc us pw:Bs)(hk:Int)(hs:Bs)(hn:Int)(hp:List Int)(port:Int)(Rl pn:Bool)(pl:List Bs)(hq:Bool)(q:Bs)(hf:Bool)(fg:Bs)(bare sp:Bool)(I:Bs):bE Tryz.prog az 91 [.ptr 0 0] [aE 0 (.raw (.pointer bp)) sc us pw hk hs hn hp port Rl pn pl hq q hf fg bare sp I] (I.length<=300000) (.tup []) [aE 0 (.raw (.pointer bp)) sc us pw hk hs hn hp port Rl pn pl (fb I hq) (fc sp I q) hf fg bare sp (bX I)]:=bT (by kernel_rfl) Bu (H:=Bt bp sc us pw hk hs hn hp port Rl pn pl hq q hf fg bare sp I) (fuel:=1000) Tryz.func91 (by kernel_rfl) (Nat.le_of_ble_eq_true rfl) fun hpre=>(Iw bp sc us pw hk hs hn hp port Rl pn pl hq q hf fg bare sp I _).mpr (by
 have ec:(bL #[63])=([63]:Bs):=rfl;have ed:(bL #[35])=([35]:Bs):=rfl;have h35:∀b:UInt8,b∈(bL #[35])->b.toNat<128:=by rw [ed];decide
 cases hc:preB I [63]with
 |false=>
  have e1:aq I (bL #[63])=(I,false):=by unfold aq;rw [ec,hc];rfl
  have e2:fb I hq=hq/\fc sp I q=q/\bX I=I:=by unfold fb fc bX;rw [hc];exact ⟨rfl,rfl,rfl⟩
  rw [e1,e2.1,e2.2.1,e2.2.2];exact ⟨trivial,fun _=>⟨rfl,rfl⟩,fun h=>by cases h⟩
 |true=>
  have e1:aq I (bL #[63])=(aa I 1,true):=by unfold aq;rw [ec,hc];rfl
  have e2:fb I hq=true/\fc sp I q=bz (if sp=true then 3 else 2) (ab (aa I 1) (Bb (aa I 1)))/\bX I=aa (aa I 1) (Bb (aa I 1)):=⟨if_pos hc,if_pos hc,if_pos hc⟩
  have hl:(aa I 1).length<=300000:=by unfold aa;rw [List.length_drop];omega
  have hi:=gJ (aa I 1) (bL #[35]);have ht:(ab (aa I 1) (bo (aa I 1) (bL #[35]):Int)).length<=300000:=by unfold ab;rw [List.length_take];omega
  rw [e1,e2.1,e2.2.1,e2.2.2];refine ⟨trivial,fun h=>(by cases h),fun _=>⟨fun hsp=>?_,fun hsp=>?_⟩⟩
  ·subst hsp
   exact ⟨⟨Nat.le_trans hl (by decide),by decide,h35⟩,⟨by omega,by unfold ai;exact Int.ofNat_le.2 hi⟩,⟨ht,by omega,by omega⟩,rfl,rfl⟩
  ·subst hsp
   exact ⟨⟨Nat.le_trans hl (by decide),by decide,h35⟩,⟨by omega,by unfold ai;exact Int.ofNat_le.2 hi⟩,⟨ht,by omega,by omega⟩,rfl,rfl⟩)
theorem Ix(bp:Option Addr)(sc us pw:Bs)(hk:Int)(hs:Bs)(hn:Int)(hp:List Int)(port:Int)(Rl pn:Bool)(pl:List Bs)(hq:Bool)(q:Bs)(hf:Bool)(fg:Bs)(bare sp:Bool)(I:Bs):ae Tryz.prog az 91 [.ptr 0 0,aE 0 (.raw (.pointer bp)) sc us pw hk hs hn hp port Rl pn pl hq q hf fg bare sp I] ⟨I.length<=300000,.tup [.tup [],aE 0 (.raw (.pointer bp)) sc us pw hk hs hn hp port Rl pn pl (fb I hq) (fc sp I q) hf fg bare sp (bX I)]⟩:=ae.aZ (fun h=>by have e:List.isEmpty (PV.aC PV.bU [.ptr 0 0,aE 0 (.raw (.pointer bp)) sc us pw hk hs hn hp port Rl pn pl hq q hf fg bare sp I])=false:=(by kernel_rfl);exact Bool.noConfusion (e.symm.trans (congrArg List.isEmpty h))) (Bv bp sc us pw hk hs hn hp port Rl pn pl hq q hf fg bare sp I)
def mT:List PV->Option aD:=fun xs=>match xs with
 |[.ptr 0 0,aE 0 (.raw (.pointer bp)) sc us pw hk hs hn hp port Rl pn pl hq q hf fg bare sp I]=>some ⟨I.length<=300000,.tup [.tup [],aE 0 (.raw (.pointer bp)) sc us pw hk hs hn hp port Rl pn pl (fb I hq) (fc sp I q) hf fg bare sp (bX I)]⟩
 |_=>none
theorem uL:∀xs c,mT xs=some c->ae Tryz.prog az 91 xs c:=fun xs c h=>by
 unfold mT at h;split at h
 ·injection h with h;subst h;exact Ix _ _ _ _ _ _ _ _ _ _ _ _ _ _ _ _ _ _ _
 ·cases h
end
section
def fe(I:Bs)(hf:Bool):Bool:=if preB I [35]=true then true else hf
def ff(I fg:Bs):Bs:=if preB I [35]=true then bz 1 (aa I 1)else fg
def fh(I:Bs):Bs:=if preB I [35]=true then aa I 1 else I
theorem NT(r:RS):r.Py={r with hf:=fe r.I r.hf,fg:=ff r.I r.fg,I:=fh r.I}:=by
 unfold RS.Py fe ff fh;split<;>rfl
def tL:cM:=bS [(80,ln),(26,gh)]
def tM(bp:Option Addr)(sc us pw:Bs)(hk:Int)(hs:Bs)(hn:Int)(hp:List Int)(port:Int)(Rl pn:Bool)(pl:List Bs)(hq:Bool)(q:Bs)(hf:Bool)(fg:Bs)(bare sp:Bool)(I:Bs):aP:=fun i=>none
theorem uM:df Tryz.prog az tL:=ah lp (ah eU ax)
theorem Bw(bp:Option Addr)(sc us pw:Bs)(hk:Int)(hs:Bs)(hn:Int)(hp:List Int)(port:Int)(Rl pn:Bool)(pl:List Bs)(hq:Bool)(q:Bs)(hf:Bool)(fg:Bs)(bare sp:Bool)(I:Bs)(k:PV->List PV->Prop):b9 Tryz.prog tL az (tM bp sc us pw hk hs hn hp port Rl pn pl hq q hf fg bare sp I) 1000 Tryz.f92 [.ptr 0 0] [aE 1 (.raw (.pointer bp)) sc us pw hk hs hn hp port Rl pn pl hq q hf fg bare sp I] k=(
 True/\
 ((aq I (bL #[35])).2=true->
 (List.length (aq I (bL #[35])).1<=300000/\
 (0:Int)<=1/\
 (1:Int)<=6)/\
 k (PV.tup []) [ct (PV.raw (Go.Value.pointer bp)) 1 sc us pw hk hs hn hp port Rl pn pl hq q true (bz 1 (aq I (bL #[35])).1) bare sp ((aq I (bL #[35])).1)])/\
 ((aq I (bL #[35])).2=false->
 k (PV.tup []) [ct (PV.raw (Go.Value.pointer bp)) 1 sc us pw hk hs hn hp port Rl pn pl hq q hf fg bare sp ((aq I (bL #[35])).1)])):=by kernel_rfl
attribute [local irreducible] Go.Vc.cD Go.Vc.b9
theorem mc(bp:Option Addr)(sc us pw:Bs)(hk:Int)(hs:Bs)(hn:Int)(hp:List Int)(port:Int)(Rl pn:Bool)(pl:List Bs)(hq:Bool)(q:Bs)(hf:Bool)(fg:Bs)(bare sp:Bool)(I:Bs):bE Tryz.prog az 92 [.ptr 0 0] [aE 1 (.raw (.pointer bp)) sc us pw hk hs hn hp port Rl pn pl hq q hf fg bare sp I] (I.length<=300000) (.tup []) [aE 1 (.raw (.pointer bp)) sc us pw hk hs hn hp port Rl pn pl hq q (fe I hf) (ff I fg) bare sp (fh I)]:=bT (by kernel_rfl) uM (H:=tM bp sc us pw hk hs hn hp port Rl pn pl hq q hf fg bare sp I) (fuel:=1000) Tryz.func92 (by kernel_rfl) (Nat.le_of_ble_eq_true rfl) fun hpre=>(Bw bp sc us pw hk hs hn hp port Rl pn pl hq q hf fg bare sp I _).mpr (by
 have ed:(bL #[35])=([35]:Bs):=rfl;cases hc:preB I [35]with
 |false=>
  have e1:aq I (bL #[35])=(I,false):=by unfold aq;rw [ed,hc];rfl
  have e2:fe I hf=hf/\ff I fg=fg/\fh I=I:=by unfold fe ff fh;rw [hc];exact ⟨rfl,rfl,rfl⟩
  rw [e1,e2.1,e2.2.1,e2.2.2];exact ⟨trivial,fun h=>(by cases h),fun _=>⟨rfl,rfl⟩⟩
 |true=>
  have e1:aq I (bL #[35])=(aa I 1,true):=by unfold aq;rw [ed,hc];rfl
  have e2:fe I hf=true/\ff I fg=bz 1 (aa I 1)/\fh I=aa I 1:=⟨if_pos hc,if_pos hc,if_pos hc⟩;have hl:(aa I 1).length<=300000:=by unfold aa;rw [List.length_drop];omega
  rw [e1,e2.1,e2.2.1,e2.2.2];exact ⟨trivial,fun _=>⟨⟨hl,by omega,by omega⟩,rfl,rfl⟩,fun h=>(by cases h)⟩)
theorem Bx(bp:Option Addr)(sc us pw:Bs)(hk:Int)(hs:Bs)(hn:Int)(hp:List Int)(port:Int)(Rl pn:Bool)(pl:List Bs)(hq:Bool)(q:Bs)(hf:Bool)(fg:Bs)(bare sp:Bool)(I:Bs):ae Tryz.prog az 92 [.ptr 0 0,aE 1 (.raw (.pointer bp)) sc us pw hk hs hn hp port Rl pn pl hq q hf fg bare sp I] ⟨I.length<=300000,.tup [.tup [],aE 1 (.raw (.pointer bp)) sc us pw hk hs hn hp port Rl pn pl hq q (fe I hf) (ff I fg) bare sp (fh I)]⟩:=ae.aZ (fun h=>by have e:List.isEmpty (PV.aC PV.bU [.ptr 0 0,aE 1 (.raw (.pointer bp)) sc us pw hk hs hn hp port Rl pn pl hq q hf fg bare sp I])=false:=(by kernel_rfl);exact Bool.noConfusion (e.symm.trans (congrArg List.isEmpty h))) (mc bp sc us pw hk hs hn hp port Rl pn pl hq q hf fg bare sp I)
def kp:List PV->Option aD:=fun xs=>match xs with
 |[.ptr 0 0,aE 1 (.raw (.pointer bp)) sc us pw hk hs hn hp port Rl pn pl hq q hf fg bare sp I]=>some ⟨I.length<=300000,.tup [.tup [],aE 1 (.raw (.pointer bp)) sc us pw hk hs hn hp port Rl pn pl hq q (fe I hf) (ff I fg) bare sp (fh I)]⟩
 |_=>none
theorem re:∀xs c,kp xs=some c->ae Tryz.prog az 92 xs c:=fun xs c h=>by
 unfold kp at h;split at h
 ·injection h with h;subst h;exact Bx _ _ _ _ _ _ _ _ _ _ _ _ _ _ _ _ _ _ _
 ·cases h
end
section
def qQ:cM:=bS [(80,lQ),(26,gh)]
def qR(bp:Option Addr)(sc us pw:Bs)(hk:Int)(hs:Bs)(hn:Int)(hp:List Int)(port:Int)(Rl pn:Bool)(pl:List Bs)(hq:Bool)(q:Bs)(hf:Bool)(fg:Bs)(bare sp:Bool)(I:Bs):aP:=fun i=>none
theorem tN:df Tryz.prog az qQ:=ah ox (ah eU ax)
theorem yO(bp:Option Addr)(sc us pw:Bs)(hk:Int)(hs:Bs)(hn:Int)(hp:List Int)(port:Int)(Rl pn:Bool)(pl:List Bs)(hq:Bool)(q:Bs)(hf:Bool)(fg:Bs)(bare sp:Bool)(I:Bs)(k:PV->List PV->Prop):b9 Tryz.prog qQ az (qR bp sc us pw hk hs hn hp port Rl pn pl hq q hf fg bare sp I) 1000 Tryz.f92 [.ptr 0 0] [aE 0 (.raw (.pointer bp)) sc us pw hk hs hn hp port Rl pn pl hq q hf fg bare sp I] k=(
 True/\
 ((aq I (bL #[35])).2=true->
 (List.length (aq I (bL #[35])).1<=300000/\
 (0:Int)<=1/\
 (1:Int)<=6)/\
 k (PV.tup []) [ct (PV.raw (Go.Value.pointer bp)) 0 sc us pw hk hs hn hp port Rl pn pl hq q true (bz 1 (aq I (bL #[35])).1) bare sp ((aq I (bL #[35])).1)])/\
 ((aq I (bL #[35])).2=false->
 k (PV.tup []) [ct (PV.raw (Go.Value.pointer bp)) 0 sc us pw hk hs hn hp port Rl pn pl hq q hf fg bare sp ((aq I (bL #[35])).1)])):=by kernel_rfl
attribute [local irreducible] Go.Vc.cD Go.Vc.b9
theorem tO(bp:Option Addr)(sc us pw:Bs)(hk:Int)(hs:Bs)(hn:Int)(hp:List Int)(port:Int)(Rl pn:Bool)(pl:List Bs)(hq:Bool)(q:Bs)(hf:Bool)(fg:Bs)(bare sp:Bool)(I:Bs):bE Tryz.prog az 92 [.ptr 0 0] [aE 0 (.raw (.pointer bp)) sc us pw hk hs hn hp port Rl pn pl hq q hf fg bare sp I] (I.length<=300000) (.tup []) [aE 0 (.raw (.pointer bp)) sc us pw hk hs hn hp port Rl pn pl hq q (fe I hf) (ff I fg) bare sp (fh I)]:=bT (by kernel_rfl) tN (H:=qR bp sc us pw hk hs hn hp port Rl pn pl hq q hf fg bare sp I) (fuel:=1000) Tryz.func92 (by kernel_rfl) (Nat.le_of_ble_eq_true rfl) fun hpre=>(yO bp sc us pw hk hs hn hp port Rl pn pl hq q hf fg bare sp I _).mpr (by
 have ed:(bL #[35])=([35]:Bs):=rfl;cases hc:preB I [35]with
 |false=>
  have e1:aq I (bL #[35])=(I,false):=by unfold aq;rw [ed,hc];rfl
  have e2:fe I hf=hf/\ff I fg=fg/\fh I=I:=by unfold fe ff fh;rw [hc];exact ⟨rfl,rfl,rfl⟩
  rw [e1,e2.1,e2.2.1,e2.2.2];exact ⟨trivial,fun h=>(by cases h),fun _=>⟨rfl,rfl⟩⟩
 |true=>
  have e1:aq I (bL #[35])=(aa I 1,true):=by unfold aq;rw [ed,hc];rfl
  have e2:fe I hf=true/\ff I fg=bz 1 (aa I 1)/\fh I=aa I 1:=⟨if_pos hc,if_pos hc,if_pos hc⟩;have hl:(aa I 1).length<=300000:=by unfold aa;rw [List.length_drop];omega
  rw [e1,e2.1,e2.2.1,e2.2.2];exact ⟨trivial,fun _=>⟨⟨hl,by omega,by omega⟩,rfl,rfl⟩,fun h=>(by cases h)⟩)
theorem yP(bp:Option Addr)(sc us pw:Bs)(hk:Int)(hs:Bs)(hn:Int)(hp:List Int)(port:Int)(Rl pn:Bool)(pl:List Bs)(hq:Bool)(q:Bs)(hf:Bool)(fg:Bs)(bare sp:Bool)(I:Bs):ae Tryz.prog az 92 [.ptr 0 0,aE 0 (.raw (.pointer bp)) sc us pw hk hs hn hp port Rl pn pl hq q hf fg bare sp I] ⟨I.length<=300000,.tup [.tup [],aE 0 (.raw (.pointer bp)) sc us pw hk hs hn hp port Rl pn pl hq q (fe I hf) (ff I fg) bare sp (fh I)]⟩:=ae.aZ (fun h=>by have e:List.isEmpty (PV.aC PV.bU [.ptr 0 0,aE 0 (.raw (.pointer bp)) sc us pw hk hs hn hp port Rl pn pl hq q hf fg bare sp I])=false:=(by kernel_rfl);exact Bool.noConfusion (e.symm.trans (congrArg List.isEmpty h))) (tO bp sc us pw hk hs hn hp port Rl pn pl hq q hf fg bare sp I)
def jv:List PV->Option aD:=fun xs=>match xs with
 |[.ptr 0 0,aE 0 (.raw (.pointer bp)) sc us pw hk hs hn hp port Rl pn pl hq q hf fg bare sp I]=>some ⟨I.length<=300000,.tup [.tup [],aE 0 (.raw (.pointer bp)) sc us pw hk hs hn hp port Rl pn pl hq q (fe I hf) (ff I fg) bare sp (fh I)]⟩
 |_=>none
theorem pQ:∀xs c,jv xs=some c->ae Tryz.prog az 92 xs c:=fun xs c h=>by
 unfold jv at h;split at h
 ·injection h with h;subst h;exact yP _ _ _ _ _ _ _ _ _ _ _ _ _ _ _ _ _ _ _
 ·cases h
end
section
attribute [local instance] PW
theorem fG(bp:Option Addr):ofRaw bp (.raw (.pointer bp))=.ptr 1 0:=by unfold ofRaw;exact if_pos rfl
theorem Iy(sc us pw:Bs)(hk:Int)(hs:Bs)(hn:Int)(hp:List Int)(port:Int)(Rl pn:Bool)(pl:List Bs)(hq:Bool)(q:Bs)(hf:Bool)(fg:Bs)(bare sp:Bool)(I:Bs)(at_:Int)(Rm Rv Ru:Bs)(Rp:Int)(Rq:Bs)(Rr:Int)(Rs:List Int)(Rj:Int)(Rk Ro:Bool)(Rn:List Bs)(Rt:Bool)(bq:Bs)(Rw:Bool)(Rx:Bs):ae Tryz.prog az 82 [.ptr 0 0,.int .i64 at_,aE 1 (.ptr 1 0) sc us pw hk hs hn hp port Rl pn pl hq q hf fg bare sp I,bW 0 Rm Rv Ru Rp Rq Rr Rs Rj Rk Ro Rn Rt bq Rw Rx] ⟨0<=at_/\at_<1000,.tup [.bool (aB sp I at_),aE 1 (.ptr 1 0) sc us pw hk hs hn hp port Rl pn pl hq q hf fg bare sp I,bW 0 Rm Rv Ru Rp Rq Rr Rs Rj Rk Ro Rn Rt bq Rw Rx]⟩:=
 ae.aZ (fun h=>by have e:List.isEmpty (PV.aC PV.bU [.ptr 0 0,.int .i64 at_,aE 1 (.ptr 1 0) sc us pw hk hs hn hp port Rl pn pl hq q hf fg bare sp I,bW 0 Rm Rv Ru Rp Rq Rr Rs Rj Rk Ro Rn Rt bq Rw Rx])=false:=(by kernel_rfl);exact Bool.noConfusion (e.symm.trans (congrArg List.isEmpty h)))
  (fB (fun bp=>(aE 1 (.raw (.pointer bp)) sc us pw hk hs hn hp port Rl pn pl hq q hf fg bare sp I)) (fun bp=>(aE 1 (.raw (.pointer bp)) sc us pw hk hs hn hp port Rl pn pl hq q hf fg bare sp I)) (fun bp=>tq bp sc us pw hk hs hn hp port Rl pn pl hq q hf fg bare sp I at_) (fun bp=>rfl) (fun bp=>by
    show PV.agg [_,ofRaw bp (.raw (.pointer bp)),_,_,_]=_;rw [fG];rfl) (fun bp=>rfl) rfl)
theorem uN(sc us pw:Bs)(hk:Int)(hs:Bs)(hn:Int)(hp:List Int)(port:Int)(Rl pn:Bool)(pl:List Bs)(hq:Bool)(q:Bs)(hf:Bool)(fg:Bs)(bare sp:Bool)(I:Bs)(Rm Rv Ru:Bs)(Rp:Int)(Rq:Bs)(Rr:Int)(Rs:List Int)(Rj:Int)(Rk Ro:Bool)(Rn:List Bs)(Rt:Bool)(bq:Bs)(Rw:Bool)(Rx:Bs):ae Tryz.prog az 84 [.ptr 0 0,aE 1 (.ptr 1 0) sc us pw hk hs hn hp port Rl pn pl hq q hf fg bare sp I,bW 0 Rm Rv Ru Rp Rq Rr Rs Rj Rk Ro Rn Rt bq Rw Rx] ⟨True,.tup [.bool (aB sp I 0),aE 1 (.ptr 1 0) sc us pw hk hs hn hp port Rl pn pl hq q hf fg bare sp (if aB sp I 0=true then aa I 1 else I),bW 0 Rm Rv Ru Rp Rq Rr Rs Rj Rk Ro Rn Rt bq Rw Rx]⟩:=
 ae.aZ (fun h=>by have e:List.isEmpty (PV.aC PV.bU [.ptr 0 0,aE 1 (.ptr 1 0) sc us pw hk hs hn hp port Rl pn pl hq q hf fg bare sp I,bW 0 Rm Rv Ru Rp Rq Rr Rs Rj Rk Ro Rn Rt bq Rw Rx])=false:=(by kernel_rfl);exact Bool.noConfusion (e.symm.trans (congrArg List.isEmpty h)))
  (fB (fun bp=>(aE 1 (.raw (.pointer bp)) sc us pw hk hs hn hp port Rl pn pl hq q hf fg bare sp I)) (fun bp=>(aE 1 (.raw (.pointer bp)) sc us pw hk hs hn hp port Rl pn pl hq q hf fg bare sp (if aB sp I 0=true then aa I 1 else I))) (fun bp=>ll bp sc us pw hk hs hn hp port Rl pn pl hq q hf fg bare sp I) (fun bp=>rfl) (fun bp=>by
    show PV.agg [_,ofRaw bp (.raw (.pointer bp)),_,_,_]=_;rw [fG];rfl) (fun bp=>rfl) rfl)
theorem Ed(sc us pw:Bs)(hk:Int)(hs:Bs)(hn:Int)(hp:List Int)(port:Int)(Rl pn:Bool)(pl:List Bs)(hq:Bool)(q:Bs)(hf:Bool)(fg:Bs)(bare sp:Bool)(I:Bs)(Rm Rv Ru:Bs)(Rp:Int)(Rq:Bs)(Rr:Int)(Rs:List Int)(Rj:Int)(Rk Ro:Bool)(Rn:List Bs)(Rt:Bool)(bq:Bs)(Rw:Bool)(Rx:Bs):ae Tryz.prog az 89 [.ptr 0 0,aE 1 (.ptr 1 0) sc us pw hk hs hn hp port Rl pn pl hq q hf fg bare sp I,bW 0 Rm Rv Ru Rp Rq Rr Rs Rj Rk Ro Rn Rt bq Rw Rx] ⟨True,.tup [.bool (ck I),aE 1 (.ptr 1 0) sc us pw hk hs hn hp port Rl pn pl hq q hf fg bare sp I,bW 0 Rm Rv Ru Rp Rq Rr Rs Rj Rk Ro Rn Rt bq Rw Rx]⟩:=
 ae.aZ (fun h=>by have e:List.isEmpty (PV.aC PV.bU [.ptr 0 0,aE 1 (.ptr 1 0) sc us pw hk hs hn hp port Rl pn pl hq q hf fg bare sp I,bW 0 Rm Rv Ru Rp Rq Rr Rs Rj Rk Ro Rn Rt bq Rw Rx])=false:=(by kernel_rfl);exact Bool.noConfusion (e.symm.trans (congrArg List.isEmpty h)))
  (fB (fun bp=>(aE 1 (.raw (.pointer bp)) sc us pw hk hs hn hp port Rl pn pl hq q hf fg bare sp I)) (fun bp=>(aE 1 (.raw (.pointer bp)) sc us pw hk hs hn hp port Rl pn pl hq q hf fg bare sp I)) (fun bp=>qM bp sc us pw hk hs hn hp port Rl pn pl hq q hf fg bare sp I) (fun bp=>rfl) (fun bp=>by
    show PV.agg [_,ofRaw bp (.raw (.pointer bp)),_,_,_]=_;rw [fG];rfl) (fun bp=>rfl) rfl)
def lu:List PV->Option aD:=fun xs=>match xs with
 |[.ptr 0 0,aE 1 (.ptr 1 0) sc us pw hk hs hn hp port Rl pn pl hq q hf fg bare sp I,bW 0 Rm Rv Ru Rp Rq Rr Rs Rj Rk Ro Rn Rt bq Rw Rx]=>some ⟨True,.tup [.bool (ck I),aE 1 (.ptr 1 0) sc us pw hk hs hn hp port Rl pn pl hq q hf fg bare sp I,bW 0 Rm Rv Ru Rp Rq Rr Rs Rj Rk Ro Rn Rt bq Rw Rx]⟩
 |_=>none
theorem tP:∀xs c,lu xs=some c->ae Tryz.prog az 89 xs c:=fun xs c h=>by
 unfold lu at h;split at h
 ·injection h with h;subst h;exact Ed _ _ _ _ _ _ _ _ _ _ _ _ _ _ _ _ _ _ _ _ _ _ _ _ _ _ _ _ _ _ _ _ _
 ·cases h
theorem By(sc us pw:Bs)(hk:Int)(hs:Bs)(hn:Int)(hp:List Int)(port:Int)(Rl pn:Bool)(pl:List Bs)(hq:Bool)(q:Bs)(hf:Bool)(fg:Bs)(bare sp:Bool)(I:Bs)(Rm Rv Ru:Bs)(Rp:Int)(Rq:Bs)(Rr:Int)(Rs:List Int)(Rj:Int)(Rk Ro:Bool)(Rn:List Bs)(Rt:Bool)(bq:Bs)(Rw:Bool)(Rx:Bs):ae Tryz.prog az 87 [.ptr 0 0,aE 1 (.ptr 1 0) sc us pw hk hs hn hp port Rl pn pl hq q hf fg bare sp I,bW 0 Rm Rv Ru Rp Rq Rr Rs Rj Rk Ro Rn Rt bq Rw Rx] ⟨pl.length<=1000000,.tup [.tup [],aE 1 (.ptr 1 0) sc us pw hk hs hn hp port Rl ((cu sc (pn,pl)).1) ((cu sc (pn,pl)).2) hq q hf fg bare sp I,bW 0 Rm Rv Ru Rp Rq Rr Rs Rj Rk Ro Rn Rt bq Rw Rx]⟩:=
 ae.aZ (fun h=>by have e:List.isEmpty (PV.aC PV.bU [.ptr 0 0,aE 1 (.ptr 1 0) sc us pw hk hs hn hp port Rl pn pl hq q hf fg bare sp I,bW 0 Rm Rv Ru Rp Rq Rr Rs Rj Rk Ro Rn Rt bq Rw Rx])=false:=(by kernel_rfl);exact Bool.noConfusion (e.symm.trans (congrArg List.isEmpty h)))
  (fB (fun bp=>(aE 1 (.raw (.pointer bp)) sc us pw hk hs hn hp port Rl pn pl hq q hf fg bare sp I)) (fun bp=>(aE 1 (.raw (.pointer bp)) sc us pw hk hs hn hp port Rl ((cu sc (pn,pl)).1) ((cu sc (pn,pl)).2) hq q hf fg bare sp I)) (fun bp=>ov bp sc us pw hk hs hn hp port Rl pn pl hq q hf fg bare sp I) (fun bp=>rfl) (fun bp=>by
    show PV.agg [_,ofRaw bp (.raw (.pointer bp)),_,_,_]=_;rw [fG];rfl) (fun bp=>rfl) rfl)
def kq:List PV->Option aD:=fun xs=>match xs with
 |[.ptr 0 0,aE 1 (.ptr 1 0) sc us pw hk hs hn hp port Rl pn pl hq q hf fg bare sp I,bW 0 Rm Rv Ru Rp Rq Rr Rs Rj Rk Ro Rn Rt bq Rw Rx]=>some ⟨pl.length<=1000000,.tup [.tup [],aE 1 (.ptr 1 0) sc us pw hk hs hn hp port Rl ((cu sc (pn,pl)).1) ((cu sc (pn,pl)).2) hq q hf fg bare sp I,bW 0 Rm Rv Ru Rp Rq Rr Rs Rj Rk Ro Rn Rt bq Rw Rx]⟩
 |_=>none
theorem rf:∀xs c,kq xs=some c->ae Tryz.prog az 87 xs c:=fun xs c h=>by
 unfold kq at h;split at h
 ·injection h with h;subst h;exact By _ _ _ _ _ _ _ _ _ _ _ _ _ _ _ _ _ _ _ _ _ _ _ _ _ _ _ _ _ _ _ _ _
 ·cases h
theorem LM(sc us pw:Bs)(hk:Int)(hs:Bs)(hn:Int)(hp:List Int)(port:Int)(Rl pn:Bool)(pl:List Bs)(hq:Bool)(q:Bs)(hf:Bool)(fg:Bs)(bare sp:Bool)(I:Bs)(Rm Rv Ru:Bs)(Rp:Int)(Rq:Bs)(Rr:Int)(Rs:List Int)(Rj:Int)(Rk Ro:Bool)(Rn:List Bs)(Rt:Bool)(bq:Bs)(Rw:Bool)(Rx:Bs):ae Tryz.prog az 90 [.ptr 0 0,aE 1 (.ptr 1 0) sc us pw hk hs hn hp port Rl pn pl hq q hf fg bare sp I,bW 0 Rm Rv Ru Rp Rq Rr Rs Rj Rk Ro Rn Rt bq Rw Rx] ⟨I.length<=300000/\pl.length<=100000,.tup [.tup [],aE 1 (.ptr 1 0) sc us pw hk hs hn hp port Rl ((bQ sp sc (ab I (aI I)) (pn,pl)).1) ((bQ sp sc (ab I (aI I)) (pn,pl)).2) hq q hf fg bare sp (aa I (aI I)),bW 0 Rm Rv Ru Rp Rq Rr Rs Rj Rk Ro Rn Rt bq Rw Rx]⟩:=
 ae.aZ (fun h=>by have e:List.isEmpty (PV.aC PV.bU [.ptr 0 0,aE 1 (.ptr 1 0) sc us pw hk hs hn hp port Rl pn pl hq q hf fg bare sp I,bW 0 Rm Rv Ru Rp Rq Rr Rs Rj Rk Ro Rn Rt bq Rw Rx])=false:=(by kernel_rfl);exact Bool.noConfusion (e.symm.trans (congrArg List.isEmpty h)))
  (fB (fun bp=>(aE 1 (.raw (.pointer bp)) sc us pw hk hs hn hp port Rl pn pl hq q hf fg bare sp I)) (fun bp=>(aE 1 (.raw (.pointer bp)) sc us pw hk hs hn hp port Rl ((bQ sp sc (ab I (aI I)) (pn,pl)).1) ((bQ sp sc (ab I (aI I)) (pn,pl)).2) hq q hf fg bare sp (aa I (aI I)))) (fun bp=>wQ bp sc us pw hk hs hn hp port Rl pn pl hq q hf fg bare sp I) (fun bp=>rfl) (fun bp=>by
    show PV.agg [_,ofRaw bp (.raw (.pointer bp)),_,_,_]=_;rw [fG];rfl) (fun bp=>rfl) rfl)
def pR:List PV->Option aD:=fun xs=>match xs with
 |[.ptr 0 0,aE 1 (.ptr 1 0) sc us pw hk hs hn hp port Rl pn pl hq q hf fg bare sp I,bW 0 Rm Rv Ru Rp Rq Rr Rs Rj Rk Ro Rn Rt bq Rw Rx]=>some ⟨I.length<=300000/\pl.length<=100000,.tup [.tup [],aE 1 (.ptr 1 0) sc us pw hk hs hn hp port Rl ((bQ sp sc (ab I (aI I)) (pn,pl)).1) ((bQ sp sc (ab I (aI I)) (pn,pl)).2) hq q hf fg bare sp (aa I (aI I)),bW 0 Rm Rv Ru Rp Rq Rr Rs Rj Rk Ro Rn Rt bq Rw Rx]⟩
 |_=>none
theorem yQ:∀xs c,pR xs=some c->ae Tryz.prog az 90 xs c:=fun xs c h=>by
 unfold pR at h;split at h
 ·injection h with h;subst h;exact LM _ _ _ _ _ _ _ _ _ _ _ _ _ _ _ _ _ _ _ _ _ _ _ _ _ _ _ _ _ _ _ _ _
 ·cases h
theorem Iz(sc us pw:Bs)(hk:Int)(hs:Bs)(hn:Int)(hp:List Int)(port:Int)(Rl pn:Bool)(pl:List Bs)(hq:Bool)(q:Bs)(hf:Bool)(fg:Bs)(bare sp:Bool)(I:Bs)(Rm Rv Ru:Bs)(Rp:Int)(Rq:Bs)(Rr:Int)(Rs:List Int)(Rj:Int)(Rk Ro:Bool)(Rn:List Bs)(Rt:Bool)(bq:Bs)(Rw:Bool)(Rx:Bs):ae Tryz.prog az 91 [.ptr 0 0,aE 1 (.ptr 1 0) sc us pw hk hs hn hp port Rl pn pl hq q hf fg bare sp I,bW 0 Rm Rv Ru Rp Rq Rr Rs Rj Rk Ro Rn Rt bq Rw Rx] ⟨I.length<=300000,.tup [.tup [],aE 1 (.ptr 1 0) sc us pw hk hs hn hp port Rl pn pl (fb I hq) (fc sp I q) hf fg bare sp (bX I),bW 0 Rm Rv Ru Rp Rq Rr Rs Rj Rk Ro Rn Rt bq Rw Rx]⟩:=
 ae.aZ (fun h=>by have e:List.isEmpty (PV.aC PV.bU [.ptr 0 0,aE 1 (.ptr 1 0) sc us pw hk hs hn hp port Rl pn pl hq q hf fg bare sp I,bW 0 Rm Rv Ru Rp Rq Rr Rs Rj Rk Ro Rn Rt bq Rw Rx])=false:=(by kernel_rfl);exact Bool.noConfusion (e.symm.trans (congrArg List.isEmpty h)))
  (fB (fun bp=>(aE 1 (.raw (.pointer bp)) sc us pw hk hs hn hp port Rl pn pl hq q hf fg bare sp I)) (fun bp=>(aE 1 (.raw (.pointer bp)) sc us pw hk hs hn hp port Rl pn pl (fb I hq) (fc sp I q) hf fg bare sp (bX I))) (fun bp=>tK bp sc us pw hk hs hn hp port Rl pn pl hq q hf fg bare sp I) (fun bp=>rfl) (fun bp=>by
    show PV.agg [_,ofRaw bp (.raw (.pointer bp)),_,_,_]=_;rw [fG];rfl) (fun bp=>rfl) rfl)
def mU:List PV->Option aD:=fun xs=>match xs with
 |[.ptr 0 0,aE 1 (.ptr 1 0) sc us pw hk hs hn hp port Rl pn pl hq q hf fg bare sp I,bW 0 Rm Rv Ru Rp Rq Rr Rs Rj Rk Ro Rn Rt bq Rw Rx]=>some ⟨I.length<=300000,.tup [.tup [],aE 1 (.ptr 1 0) sc us pw hk hs hn hp port Rl pn pl (fb I hq) (fc sp I q) hf fg bare sp (bX I),bW 0 Rm Rv Ru Rp Rq Rr Rs Rj Rk Ro Rn Rt bq Rw Rx]⟩
 |_=>none
theorem uO:∀xs c,mU xs=some c->ae Tryz.prog az 91 xs c:=fun xs c h=>by
 unfold mU at h;split at h
 ·injection h with h;subst h;exact Iz _ _ _ _ _ _ _ _ _ _ _ _ _ _ _ _ _ _ _ _ _ _ _ _ _ _ _ _ _ _ _ _ _
 ·cases h
theorem yR(sc us pw:Bs)(hk:Int)(hs:Bs)(hn:Int)(hp:List Int)(port:Int)(Rl pn:Bool)(pl:List Bs)(hq:Bool)(q:Bs)(hf:Bool)(fg:Bs)(bare sp:Bool)(I:Bs)(Rm Rv Ru:Bs)(Rp:Int)(Rq:Bs)(Rr:Int)(Rs:List Int)(Rj:Int)(Rk Ro:Bool)(Rn:List Bs)(Rt:Bool)(bq:Bs)(Rw:Bool)(Rx:Bs):ae Tryz.prog az 92 [.ptr 0 0,aE 1 (.ptr 1 0) sc us pw hk hs hn hp port Rl pn pl hq q hf fg bare sp I,bW 0 Rm Rv Ru Rp Rq Rr Rs Rj Rk Ro Rn Rt bq Rw Rx] ⟨I.length<=300000,.tup [.tup [],aE 1 (.ptr 1 0) sc us pw hk hs hn hp port Rl pn pl hq q (fe I hf) (ff I fg) bare sp (fh I),bW 0 Rm Rv Ru Rp Rq Rr Rs Rj Rk Ro Rn Rt bq Rw Rx]⟩:=
 ae.aZ (fun h=>by have e:List.isEmpty (PV.aC PV.bU [.ptr 0 0,aE 1 (.ptr 1 0) sc us pw hk hs hn hp port Rl pn pl hq q hf fg bare sp I,bW 0 Rm Rv Ru Rp Rq Rr Rs Rj Rk Ro Rn Rt bq Rw Rx])=false:=(by kernel_rfl);exact Bool.noConfusion (e.symm.trans (congrArg List.isEmpty h)))
  (fB (fun bp=>(aE 1 (.raw (.pointer bp)) sc us pw hk hs hn hp port Rl pn pl hq q hf fg bare sp I)) (fun bp=>(aE 1 (.raw (.pointer bp)) sc us pw hk hs hn hp port Rl pn pl hq q (fe I hf) (ff I fg) bare sp (fh I))) (fun bp=>mc bp sc us pw hk hs hn hp port Rl pn pl hq q hf fg bare sp I) (fun bp=>rfl) (fun bp=>by
    show PV.agg [_,ofRaw bp (.raw (.pointer bp)),_,_,_]=_;rw [fG];rfl) (fun bp=>rfl) rfl)
def jw:List PV->Option aD:=fun xs=>match xs with
 |[.ptr 0 0,aE 1 (.ptr 1 0) sc us pw hk hs hn hp port Rl pn pl hq q hf fg bare sp I,bW 0 Rm Rv Ru Rp Rq Rr Rs Rj Rk Ro Rn Rt bq Rw Rx]=>some ⟨I.length<=300000,.tup [.tup [],aE 1 (.ptr 1 0) sc us pw hk hs hn hp port Rl pn pl hq q (fe I hf) (ff I fg) bare sp (fh I),bW 0 Rm Rv Ru Rp Rq Rr Rs Rj Rk Ro Rn Rt bq Rw Rx]⟩
 |_=>none
theorem pS:∀xs c,jw xs=some c->ae Tryz.prog az 92 xs c:=fun xs c h=>by
 unfold jw at h;split at h
 ·injection h with h;subst h;exact yR _ _ _ _ _ _ _ _ _ _ _ _ _ _ _ _ _ _ _ _ _ _ _ _ _ _ _ _ _ _ _ _ _
 ·cases h
end
section
def Bz:cM:=bS []
def BA(sc us pw:Bs)(hk:Int)(hs:Bs)(hn:Int)(hp:List Int)(port:Int)(Rl pn:Bool)(pl:List Bs)(hq:Bool)(q:Bs)(hf:Bool)(fg:Bs)(bare sp:Bool)(I:Bs)(Rm Rv Ru:Bs)(Rp:Int)(Rq:Bs)(Rr:Int)(Rs:List Int)(Rj:Int)(Rk Ro:Bool)(Rn:List Bs)(Rt:Bool)(bq:Bs)(Rw:Bool)(Rx:Bs):aP:=fun i=>none
theorem BC:df Tryz.prog az Bz:=ax
theorem IA(sc us pw:Bs)(hk:Int)(hs:Bs)(hn:Int)(hp:List Int)(port:Int)(Rl pn:Bool)(pl:List Bs)(hq:Bool)(q:Bs)(hf:Bool)(fg:Bs)(bare sp:Bool)(I:Bs)(Rm Rv Ru:Bs)(Rp:Int)(Rq:Bs)(Rr:Int)(Rs:List Int)(Rj:Int)(Rk Ro:Bool)(Rn:List Bs)(Rt:Bool)(bq:Bs)(Rw:Bool)(Rx:Bs)(k:PV->List PV->Prop):b9 Tryz.prog Bz az (BA sc us pw hk hs hn hp port Rl pn pl hq q hf fg bare sp I Rm Rv Ru Rp Rq Rr Rs Rj Rk Ro Rn Rt bq Rw Rx) 1000 Tryz.f77 [.ptr 0 0] [aE 1 (.ptr 1 0) sc us pw hk hs hn hp port Rl pn pl hq q hf fg bare sp I,bW 0 Rm Rv Ru Rp Rq Rr Rs Rj Rk Ro Rn Rt bq Rw Rx] k=(
 k (PV.bool (decide (Rm=sc))) [ct (PV.ptr 1 0) 1 sc us pw hk hs hn hp port Rl pn pl hq q hf fg bare sp I,bW 0 Rm Rv Ru Rp Rq Rr Rs Rj Rk Ro Rn Rt bq Rw Rx]):=by kernel_rfl
attribute [local irreducible] Go.Vc.cD Go.Vc.b9
theorem BD(sc us pw:Bs)(hk:Int)(hs:Bs)(hn:Int)(hp:List Int)(port:Int)(Rl pn:Bool)(pl:List Bs)(hq:Bool)(q:Bs)(hf:Bool)(fg:Bs)(bare sp:Bool)(I:Bs)(Rm Rv Ru:Bs)(Rp:Int)(Rq:Bs)(Rr:Int)(Rs:List Int)(Rj:Int)(Rk Ro:Bool)(Rn:List Bs)(Rt:Bool)(bq:Bs)(Rw:Bool)(Rx:Bs):bE Tryz.prog az 77 [.ptr 0 0] [aE 1 (.ptr 1 0) sc us pw hk hs hn hp port Rl pn pl hq q hf fg bare sp I,bW 0 Rm Rv Ru Rp Rq Rr Rs Rj Rk Ro Rn Rt bq Rw Rx] True (.bool (decide (Rm=sc))) [aE 1 (.ptr 1 0) sc us pw hk hs hn hp port Rl pn pl hq q hf fg bare sp I,bW 0 Rm Rv Ru Rp Rq Rr Rs Rj Rk Ro Rn Rt bq Rw Rx]:=bT (by kernel_rfl) BC (H:=BA sc us pw hk hs hn hp port Rl pn pl hq q hf fg bare sp I Rm Rv Ru Rp Rq Rr Rs Rj Rk Ro Rn Rt bq Rw Rx) (fuel:=1000) Tryz.func77 (by kernel_rfl) (Nat.le_of_ble_eq_true rfl) fun hpre=>(IA sc us pw hk hs hn hp port Rl pn pl hq q hf fg bare sp I Rm Rv Ru Rp Rq Rr Rs Rj Rk Ro Rn Rt bq Rw Rx _).mpr (by
 exact ⟨rfl,rfl⟩)
theorem IB(sc us pw:Bs)(hk:Int)(hs:Bs)(hn:Int)(hp:List Int)(port:Int)(Rl pn:Bool)(pl:List Bs)(hq:Bool)(q:Bs)(hf:Bool)(fg:Bs)(bare sp:Bool)(I:Bs)(Rm Rv Ru:Bs)(Rp:Int)(Rq:Bs)(Rr:Int)(Rs:List Int)(Rj:Int)(Rk Ro:Bool)(Rn:List Bs)(Rt:Bool)(bq:Bs)(Rw:Bool)(Rx:Bs):ae Tryz.prog az 77 [.ptr 0 0,aE 1 (.ptr 1 0) sc us pw hk hs hn hp port Rl pn pl hq q hf fg bare sp I,bW 0 Rm Rv Ru Rp Rq Rr Rs Rj Rk Ro Rn Rt bq Rw Rx] ⟨True,.tup [.bool (decide (Rm=sc)),aE 1 (.ptr 1 0) sc us pw hk hs hn hp port Rl pn pl hq q hf fg bare sp I,bW 0 Rm Rv Ru Rp Rq Rr Rs Rj Rk Ro Rn Rt bq Rw Rx]⟩:=ae.aZ (fun h=>by have e:List.isEmpty (PV.aC PV.bU [.ptr 0 0,aE 1 (.ptr 1 0) sc us pw hk hs hn hp port Rl pn pl hq q hf fg bare sp I,bW 0 Rm Rv Ru Rp Rq Rr Rs Rj Rk Ro Rn Rt bq Rw Rx])=false:=(by kernel_rfl);exact Bool.noConfusion (e.symm.trans (congrArg List.isEmpty h))) (BD sc us pw hk hs hn hp port Rl pn pl hq q hf fg bare sp I Rm Rv Ru Rp Rq Rr Rs Rj Rk Ro Rn Rt bq Rw Rx)
end
section
def oy:cM:=bS []
def oz(sc us pw:Bs)(hk:Int)(hs:Bs)(hn:Int)(hp:List Int)(port:Int)(Rl pn:Bool)(pl:List Bs)(hq:Bool)(q:Bs)(hf:Bool)(fg:Bs)(bare sp:Bool)(I:Bs)(Rm Rv Ru:Bs)(Rp:Int)(Rq:Bs)(Rr:Int)(Rs:List Int)(Rj:Int)(Rk Ro:Bool)(Rn:List Bs)(Rt:Bool)(bq:Bs)(Rw:Bool)(Rx:Bs):aP:=fun i=>none
theorem rh:df Tryz.prog az oy:=ax
def ic(P:Prop):Prop:=(P/\P/\P)/\(P/\P)/\P
theorem mV {P:Prop}(h:P):ic P:=by
 unfold ic
 repeat' (first|exact h|constructor)
theorem uP(sc us pw:Bs)(hk:Int)(hs:Bs)(hn:Int)(hp:List Int)(port:Int)(Rl pn:Bool)(pl:List Bs)(hq:Bool)(q:Bs)(hf:Bool)(fg:Bs)(bare sp:Bool)(I:Bs)(Rm Rv Ru:Bs)(Rp:Int)(Rq:Bs)(Rr:Int)(Rs:List Int)(Rj:Int)(Rk Ro:Bool)(Rn:List Bs)(Rt:Bool)(bq:Bs)(Rw:Bool)(Rx:Bs)(k:PV->List PV->Prop):b9 Tryz.prog oy az (oz sc us pw hk hs hn hp port Rl pn pl hq q hf fg bare sp I Rm Rv Ru Rp Rq Rr Rs Rj Rk Ro Rn Rt bq Rw Rx) 1000 Tryz.f120 [.ptr 0 0] [aE 1 (.ptr 1 0) sc us pw hk hs hn hp port Rl pn pl hq q hf fg bare sp I,bW 0 Rm Rv Ru Rp Rq Rr Rs Rj Rk Ro Rn Rt bq Rw Rx] k=(
 ic (k (PV.tup []) [ct (PV.ptr 1 0) 1 sc us pw hk hs hn hp port Rl pn pl Rt bq hf fg bare sp I,bW 0 Rm Rv Ru Rp Rq Rr Rs Rj Rk Ro Rn Rt bq Rw Rx])):=by kernel_rfl
attribute [local irreducible] Go.Vc.cD Go.Vc.b9
theorem ri(sc us pw:Bs)(hk:Int)(hs:Bs)(hn:Int)(hp:List Int)(port:Int)(Rl pn:Bool)(pl:List Bs)(hq:Bool)(q:Bs)(hf:Bool)(fg:Bs)(bare sp:Bool)(I:Bs)(Rm Rv Ru:Bs)(Rp:Int)(Rq:Bs)(Rr:Int)(Rs:List Int)(Rj:Int)(Rk Ro:Bool)(Rn:List Bs)(Rt:Bool)(bq:Bs)(Rw:Bool)(Rx:Bs):bE Tryz.prog az 120 [.ptr 0 0] [aE 1 (.ptr 1 0) sc us pw hk hs hn hp port Rl pn pl hq q hf fg bare sp I,bW 0 Rm Rv Ru Rp Rq Rr Rs Rj Rk Ro Rn Rt bq Rw Rx] True (.tup []) [aE 1 (.ptr 1 0) sc us pw hk hs hn hp port Rl pn pl Rt bq hf fg bare sp I,bW 0 Rm Rv Ru Rp Rq Rr Rs Rj Rk Ro Rn Rt bq Rw Rx]:=bT (by kernel_rfl) rh (H:=oz sc us pw hk hs hn hp port Rl pn pl hq q hf fg bare sp I Rm Rv Ru Rp Rq Rr Rs Rj Rk Ro Rn Rt bq Rw Rx) (fuel:=1000) Tryz.func120 (by kernel_rfl) (Nat.le_of_ble_eq_true rfl) fun hpre=>(uP sc us pw hk hs hn hp port Rl pn pl hq q hf fg bare sp I Rm Rv Ru Rp Rq Rr Rs Rj Rk Ro Rn Rt bq Rw Rx _).mpr (by
 exact mV ⟨rfl,rfl⟩)
theorem uQ(sc us pw:Bs)(hk:Int)(hs:Bs)(hn:Int)(hp:List Int)(port:Int)(Rl pn:Bool)(pl:List Bs)(hq:Bool)(q:Bs)(hf:Bool)(fg:Bs)(bare sp:Bool)(I:Bs)(Rm Rv Ru:Bs)(Rp:Int)(Rq:Bs)(Rr:Int)(Rs:List Int)(Rj:Int)(Rk Ro:Bool)(Rn:List Bs)(Rt:Bool)(bq:Bs)(Rw:Bool)(Rx:Bs):ae Tryz.prog az 120 [.ptr 0 0,aE 1 (.ptr 1 0) sc us pw hk hs hn hp port Rl pn pl hq q hf fg bare sp I,bW 0 Rm Rv Ru Rp Rq Rr Rs Rj Rk Ro Rn Rt bq Rw Rx] ⟨True,.tup [.tup [],aE 1 (.ptr 1 0) sc us pw hk hs hn hp port Rl pn pl Rt bq hf fg bare sp I,bW 0 Rm Rv Ru Rp Rq Rr Rs Rj Rk Ro Rn Rt bq Rw Rx]⟩:=ae.aZ (fun h=>by have e:List.isEmpty (PV.aC PV.bU [.ptr 0 0,aE 1 (.ptr 1 0) sc us pw hk hs hn hp port Rl pn pl hq q hf fg bare sp I,bW 0 Rm Rv Ru Rp Rq Rr Rs Rj Rk Ro Rn Rt bq Rw Rx])=false:=(by kernel_rfl);exact Bool.noConfusion (e.symm.trans (congrArg List.isEmpty h))) (ri sc us pw hk hs hn hp port Rl pn pl hq q hf fg bare sp I Rm Rv Ru Rp Rq Rr Rs Rj Rk Ro Rn Rt bq Rw Rx)
def iY:List PV->Option aD:=fun xs=>match xs with
 |[.ptr 0 0,aE 1 (.ptr 1 0) sc us pw hk hs hn hp port Rl pn pl hq q hf fg bare sp I,bW 0 Rm Rv Ru Rp Rq Rr Rs Rj Rk Ro Rn Rt bq Rw Rx]=>some ⟨True,.tup [.tup [],aE 1 (.ptr 1 0) sc us pw hk hs hn hp port Rl pn pl Rt bq hf fg bare sp I,bW 0 Rm Rv Ru Rp Rq Rr Rs Rj Rk Ro Rn Rt bq Rw Rx]⟩
 |_=>none
theorem oA:∀xs c,iY xs=some c->ae Tryz.prog az 120 xs c:=fun xs c h=>by
 unfold iY at h;split at h
 ·injection h with h;subst h;exact uQ _ _ _ _ _ _ _ _ _ _ _ _ _ _ _ _ _ _ _ _ _ _ _ _ _ _ _ _ _ _ _ _ _
 ·cases h
end
section
def BE:cM:=bS [(120,iY),(89,lu)]
def BF(sc us pw:Bs)(hk:Int)(hs:Bs)(hn:Int)(hp:List Int)(port:Int)(Rl pn:Bool)(pl:List Bs)(hq:Bool)(q:Bs)(hf:Bool)(fg:Bs)(bare sp:Bool)(I:Bs)(Rm Rv Ru:Bs)(Rp:Int)(Rq:Bs)(Rr:Int)(Rs:List Int)(Rj:Int)(Rk Ro:Bool)(Rn:List Bs)(Rt:Bool)(bq:Bs)(Rw:Bool)(Rx:Bs):aP:=fun i=>none
theorem BG:df Tryz.prog az BE:=ah oA (ah tP ax)
theorem IC(sc us pw:Bs)(hk:Int)(hs:Bs)(hn:Int)(hp:List Int)(port:Int)(Rl pn:Bool)(pl:List Bs)(hq:Bool)(q:Bs)(hf:Bool)(fg:Bs)(bare sp:Bool)(I:Bs)(Rm Rv Ru:Bs)(Rp:Int)(Rq:Bs)(Rr:Int)(Rs:List Int)(Rj:Int)(Rk Ro:Bool)(Rn:List Bs)(Rt:Bool)(bq:Bs)(Rw:Bool)(Rx:Bs)(k:PV->List PV->Prop):b9 Tryz.prog BE az (BF sc us pw hk hs hn hp port Rl pn pl hq q hf fg bare sp I Rm Rv Ru Rp Rq Rr Rs Rj Rk Ro Rn Rt bq Rw Rx) 1000 Tryz.f86 [.ptr 0 0] [aE 1 (.ptr 1 0) sc us pw hk hs hn hp port Rl pn pl hq q hf fg bare sp I,bW 0 Rm Rv Ru Rp Rq Rr Rs Rj Rk Ro Rn Rt bq Rw Rx] k=(
 (decide (I=(bL #[]))=false->
 within (0:Int) (ai I))/\
 ((bif decide (I=(bL #[]))then true else decide (ag I 0=35))=true->
 True/\
 True/\
 k (PV.bool (ck I)) [ct (PV.ptr 1 0) 1 sc us pw hk hs hn hp port Rl pn pl Rt bq hf fg bare sp I,bW 0 Rm Rv Ru Rp Rq Rr Rs Rj Rk Ro Rn Rt bq Rw Rx])/\
 ((bif decide (I=(bL #[]))then true else decide (ag I 0=35))=false->
 True/\
 k (PV.bool (ck I)) [ct (PV.ptr 1 0) 1 sc us pw hk hs hn hp port Rl pn pl hq q hf fg bare sp I,bW 0 Rm Rv Ru Rp Rq Rr Rs Rj Rk Ro Rn Rt bq Rw Rx])):=by kernel_rfl
attribute [local irreducible] Go.Vc.cD Go.Vc.b9
theorem BH(sc us pw:Bs)(hk:Int)(hs:Bs)(hn:Int)(hp:List Int)(port:Int)(Rl pn:Bool)(pl:List Bs)(hq:Bool)(q:Bs)(hf:Bool)(fg:Bs)(bare sp:Bool)(I:Bs)(Rm Rv Ru:Bs)(Rp:Int)(Rq:Bs)(Rr:Int)(Rs:List Int)(Rj:Int)(Rk Ro:Bool)(Rn:List Bs)(Rt:Bool)(bq:Bs)(Rw:Bool)(Rx:Bs):bE Tryz.prog az 86 [.ptr 0 0] [aE 1 (.ptr 1 0) sc us pw hk hs hn hp port Rl pn pl hq q hf fg bare sp I,bW 0 Rm Rv Ru Rp Rq Rr Rs Rj Rk Ro Rn Rt bq Rw Rx] True (.bool (ck I)) [aE 1 (.ptr 1 0) sc us pw hk hs hn hp port Rl pn pl (((RS.mk sc us pw hk hs hn hp port Rl pn pl hq q hf fg bare sp I).tj (RS.mk Rm Rv Ru Rp Rq Rr Rs Rj Rk Ro Rn Rt bq Rw Rx false false [])).hq) (((RS.mk sc us pw hk hs hn hp port Rl pn pl hq q hf fg bare sp I).tj (RS.mk Rm Rv Ru Rp Rq Rr Rs Rj Rk Ro Rn Rt bq Rw Rx false false [])).q) hf fg bare sp I,bW 0 Rm Rv Ru Rp Rq Rr Rs Rj Rk Ro Rn Rt bq Rw Rx]:=bT (by kernel_rfl) BG (H:=BF sc us pw hk hs hn hp port Rl pn pl hq q hf fg bare sp I Rm Rv Ru Rp Rq Rr Rs Rj Rk Ro Rn Rt bq Rw Rx) (fuel:=1000) Tryz.func86 (by kernel_rfl) (Nat.le_of_ble_eq_true rfl) fun hpre=>(IC sc us pw hk hs hn hp port Rl pn pl hq q hf fg bare sp I Rm Rv Ru Rp Rq Rr Rs Rj Rk Ro Rn Rt bq Rw Rx _).mpr (by
 refine ⟨fun h=>?_,fun h=>⟨trivial,trivial,?_⟩,fun h=>⟨trivial,?_⟩⟩
 ·have:¬I=[]:=of_decide_eq_false h
  have:0<I.length:=List.length_pos_iff.2 this;unfold within ai;omega
 ·have h2:wH I=true:=by
   unfold wH;cases e:decide (I=(bL #[]))with
   |true=>rfl
   |false=>rw [e]at h;exact h
  have e:(RS.mk sc us pw hk hs hn hp port Rl pn pl hq q hf fg bare sp I).tj (RS.mk Rm Rv Ru Rp Rq Rr Rs Rj Rk Ro Rn Rt bq Rw Rx false false [])=(RS.mk sc us pw hk hs hn hp port Rl pn pl hq q hf fg bare sp I).Lb (RS.mk Rm Rv Ru Rp Rq Rr Rs Rj Rk Ro Rn Rt bq Rw Rx false false []):=if_pos h2;rw [e];exact ⟨rfl,rfl⟩
 ·have h2:¬wH I=true:=by
   unfold wH;cases e:decide (I=(bL #[]))with
   |true=>rw [e]at h;cases h
   |false=>
    rw [e]at h;intro g;exact Bool.noConfusion (g.symm.trans h)
  have e:(RS.mk sc us pw hk hs hn hp port Rl pn pl hq q hf fg bare sp I).tj (RS.mk Rm Rv Ru Rp Rq Rr Rs Rj Rk Ro Rn Rt bq Rw Rx false false [])=(RS.mk sc us pw hk hs hn hp port Rl pn pl hq q hf fg bare sp I):=if_neg h2;rw [e];exact ⟨rfl,rfl⟩)
theorem ID(sc us pw:Bs)(hk:Int)(hs:Bs)(hn:Int)(hp:List Int)(port:Int)(Rl pn:Bool)(pl:List Bs)(hq:Bool)(q:Bs)(hf:Bool)(fg:Bs)(bare sp:Bool)(I:Bs)(Rm Rv Ru:Bs)(Rp:Int)(Rq:Bs)(Rr:Int)(Rs:List Int)(Rj:Int)(Rk Ro:Bool)(Rn:List Bs)(Rt:Bool)(bq:Bs)(Rw:Bool)(Rx:Bs):ae Tryz.prog az 86 [.ptr 0 0,aE 1 (.ptr 1 0) sc us pw hk hs hn hp port Rl pn pl hq q hf fg bare sp I,bW 0 Rm Rv Ru Rp Rq Rr Rs Rj Rk Ro Rn Rt bq Rw Rx] ⟨True,.tup [.bool (ck I),aE 1 (.ptr 1 0) sc us pw hk hs hn hp port Rl pn pl (((RS.mk sc us pw hk hs hn hp port Rl pn pl hq q hf fg bare sp I).tj (RS.mk Rm Rv Ru Rp Rq Rr Rs Rj Rk Ro Rn Rt bq Rw Rx false false [])).hq) (((RS.mk sc us pw hk hs hn hp port Rl pn pl hq q hf fg bare sp I).tj (RS.mk Rm Rv Ru Rp Rq Rr Rs Rj Rk Ro Rn Rt bq Rw Rx false false [])).q) hf fg bare sp I,bW 0 Rm Rv Ru Rp Rq Rr Rs Rj Rk Ro Rn Rt bq Rw Rx]⟩:=ae.aZ (fun h=>by have e:List.isEmpty (PV.aC PV.bU [.ptr 0 0,aE 1 (.ptr 1 0) sc us pw hk hs hn hp port Rl pn pl hq q hf fg bare sp I,bW 0 Rm Rv Ru Rp Rq Rr Rs Rj Rk Ro Rn Rt bq Rw Rx])=false:=(by kernel_rfl);exact Bool.noConfusion (e.symm.trans (congrArg List.isEmpty h))) (BH sc us pw hk hs hn hp port Rl pn pl hq q hf fg bare sp I Rm Rv Ru Rp Rq Rr Rs Rj Rk Ro Rn Rt bq Rw Rx)
end
section
attribute [local instance] PW
theorem IE {x:RS}(b:RS)(h:ck x.I=false):x.tj b=x:=by
 refine if_neg fun g=>?_;unfold ck at h;unfold wH at g;rw [Bool.or_eq_false_iff,Bool.or_eq_false_iff]at h;rw [h.1,h.2.2]at g;cases g
theorem Ee(sc us pw:Bs)(hk:Int)(hs:Bs)(hn:Int)(hp:List Int)(port:Int)(Rl pn:Bool)(pl:List Bs)(hq:Bool)(q:Bs)(hf:Bool)(fg:Bs)(bare sp:Bool)(I:Bs)(at_:Int)(Rm Rv Ru:Bs)(Rp:Int)(Rq:Bs)(Rr:Int)(Rs:List Int)(Rj:Int)(Rk Ro:Bool)(Rn:List Bs)(Rt:Bool)(bq:Bs)(Rw:Bool)(Rx:Bs):ae Tryz.prog az 82 [.ptr 0 0,.int .i64 at_,aE 1 (.ptr 1 0) sc us pw hk hs hn hp port Rl pn pl hq q hf fg bare sp I,bW 0 Rm Rv Ru Rp Rq Rr Rs Rj Rk Ro Rn Rt bq Rw Rx] ⟨(0<=at_/\at_<1000)/\aB sp I at_=false,.tup [.bool false,aE 1 (.ptr 1 0) sc us pw hk hs hn hp port Rl pn pl hq q hf fg bare sp I,bW 0 Rm Rv Ru Rp Rq Rr Rs Rj Rk Ro Rn Rt bq Rw Rx]⟩:=
 ae.Qr (Iy sc us pw hk hs hn hp port Rl pn pl hq q hf fg bare sp I at_ Rm Rv Ru Rp Rq Rr Rs Rj Rk Ro Rn Rt bq Rw Rx) (fun h=>by have e:List.isEmpty (PV.aC PV.bU [.ptr 0 0,.int .i64 at_,aE 1 (.ptr 1 0) sc us pw hk hs hn hp port Rl pn pl hq q hf fg bare sp I,bW 0 Rm Rv Ru Rp Rq Rr Rs Rj Rk Ro Rn Rt bq Rw Rx])=false:=(by kernel_rfl);exact Bool.noConfusion (e.symm.trans (congrArg List.isEmpty h))) (fun h=>h.1) (fun h=>by rw [h.2])
def lv:List PV->Option aD:=fun xs=>match xs with
 |[.ptr 0 0,.int .i64 at_,aE 1 (.ptr 1 0) sc us pw hk hs hn hp port Rl pn pl hq q hf fg bare sp I,bW 0 Rm Rv Ru Rp Rq Rr Rs Rj Rk Ro Rn Rt bq Rw Rx]=>some ⟨(0<=at_/\at_<1000)/\aB sp I at_=false,.tup [.bool false,aE 1 (.ptr 1 0) sc us pw hk hs hn hp port Rl pn pl hq q hf fg bare sp I,bW 0 Rm Rv Ru Rp Rq Rr Rs Rj Rk Ro Rn Rt bq Rw Rx]⟩
 |_=>none
theorem tQ:∀xs c,lv xs=some c->ae Tryz.prog az 82 xs c:=fun xs c h=>by
 unfold lv at h;split at h
 ·injection h with h;subst h;exact Ee _ _ _ _ _ _ _ _ _ _ _ _ _ _ _ _ _ _ _ _ _ _ _ _ _ _ _ _ _ _ _ _ _ _
 ·cases h
theorem tR(sc us pw:Bs)(hk:Int)(hs:Bs)(hn:Int)(hp:List Int)(port:Int)(Rl pn:Bool)(pl:List Bs)(hq:Bool)(q:Bs)(hf:Bool)(fg:Bs)(bare sp:Bool)(I:Bs)(Rm Rv Ru:Bs)(Rp:Int)(Rq:Bs)(Rr:Int)(Rs:List Int)(Rj:Int)(Rk Ro:Bool)(Rn:List Bs)(Rt:Bool)(bq:Bs)(Rw:Bool)(Rx:Bs):ae Tryz.prog az 84 [.ptr 0 0,aE 1 (.ptr 1 0) sc us pw hk hs hn hp port Rl pn pl hq q hf fg bare sp I,bW 0 Rm Rv Ru Rp Rq Rr Rs Rj Rk Ro Rn Rt bq Rw Rx] ⟨aB sp I 0=false,.tup [.bool false,aE 1 (.ptr 1 0) sc us pw hk hs hn hp port Rl pn pl hq q hf fg bare sp I,bW 0 Rm Rv Ru Rp Rq Rr Rs Rj Rk Ro Rn Rt bq Rw Rx]⟩:=
 ae.Qr (uN sc us pw hk hs hn hp port Rl pn pl hq q hf fg bare sp I Rm Rv Ru Rp Rq Rr Rs Rj Rk Ro Rn Rt bq Rw Rx) (fun h=>by have e:List.isEmpty (PV.aC PV.bU [.ptr 0 0,aE 1 (.ptr 1 0) sc us pw hk hs hn hp port Rl pn pl hq q hf fg bare sp I,bW 0 Rm Rv Ru Rp Rq Rr Rs Rj Rk Ro Rn Rt bq Rw Rx])=false:=(by kernel_rfl);exact Bool.noConfusion (e.symm.trans (congrArg List.isEmpty h))) (fun h=>trivial) (fun h=>by rw [h];rfl)
def ie:List PV->Option aD:=fun xs=>match xs with
 |[.ptr 0 0,aE 1 (.ptr 1 0) sc us pw hk hs hn hp port Rl pn pl hq q hf fg bare sp I,bW 0 Rm Rv Ru Rp Rq Rr Rs Rj Rk Ro Rn Rt bq Rw Rx]=>some ⟨aB sp I 0=false,.tup [.bool false,aE 1 (.ptr 1 0) sc us pw hk hs hn hp port Rl pn pl hq q hf fg bare sp I,bW 0 Rm Rv Ru Rp Rq Rr Rs Rj Rk Ro Rn Rt bq Rw Rx]⟩
 |_=>none
theorem mW:∀xs c,ie xs=some c->ae Tryz.prog az 84 xs c:=fun xs c h=>by
 unfold ie at h;split at h
 ·injection h with h;subst h;exact tR _ _ _ _ _ _ _ _ _ _ _ _ _ _ _ _ _ _ _ _ _ _ _ _ _ _ _ _ _ _ _ _ _
 ·cases h
theorem Ef(sc us pw:Bs)(hk:Int)(hs:Bs)(hn:Int)(hp:List Int)(port:Int)(Rl pn:Bool)(pl:List Bs)(hq:Bool)(q:Bs)(hf:Bool)(fg:Bs)(bare sp:Bool)(I:Bs)(Rm Rv Ru:Bs)(Rp:Int)(Rq:Bs)(Rr:Int)(Rs:List Int)(Rj:Int)(Rk Ro:Bool)(Rn:List Bs)(Rt:Bool)(bq:Bs)(Rw:Bool)(Rx:Bs):ae Tryz.prog az 77 [.ptr 0 0,aE 1 (.ptr 1 0) sc us pw hk hs hn hp port Rl pn pl hq q hf fg bare sp I,bW 0 Rm Rv Ru Rp Rq Rr Rs Rj Rk Ro Rn Rt bq Rw Rx] ⟨Rm=sc,.tup [.bool true,aE 1 (.ptr 1 0) sc us pw hk hs hn hp port Rl pn pl hq q hf fg bare sp I,bW 0 Rm Rv Ru Rp Rq Rr Rs Rj Rk Ro Rn Rt bq Rw Rx]⟩:=
 ae.Qr (IB sc us pw hk hs hn hp port Rl pn pl hq q hf fg bare sp I Rm Rv Ru Rp Rq Rr Rs Rj Rk Ro Rn Rt bq Rw Rx) (fun h=>by have e:List.isEmpty (PV.aC PV.bU [.ptr 0 0,aE 1 (.ptr 1 0) sc us pw hk hs hn hp port Rl pn pl hq q hf fg bare sp I,bW 0 Rm Rv Ru Rp Rq Rr Rs Rj Rk Ro Rn Rt bq Rw Rx])=false:=(by kernel_rfl);exact Bool.noConfusion (e.symm.trans (congrArg List.isEmpty h))) (fun h=>trivial) (fun h=>by rw [decide_eq_true h])
def jl:List PV->Option aD:=fun xs=>match xs with
 |[.ptr 0 0,aE 1 (.ptr 1 0) sc us pw hk hs hn hp port Rl pn pl hq q hf fg bare sp I,bW 0 Rm Rv Ru Rp Rq Rr Rs Rj Rk Ro Rn Rt bq Rw Rx]=>some ⟨Rm=sc,.tup [.bool true,aE 1 (.ptr 1 0) sc us pw hk hs hn hp port Rl pn pl hq q hf fg bare sp I,bW 0 Rm Rv Ru Rp Rq Rr Rs Rj Rk Ro Rn Rt bq Rw Rx]⟩
 |_=>none
theorem lx:∀xs c,jl xs=some c->ae Tryz.prog az 77 xs c:=fun xs c h=>by
 unfold jl at h;split at h
 ·injection h with h;subst h;exact Ef _ _ _ _ _ _ _ _ _ _ _ _ _ _ _ _ _ _ _ _ _ _ _ _ _ _ _ _ _ _ _ _ _
 ·cases h
theorem IF(sc us pw:Bs)(hk:Int)(hs:Bs)(hn:Int)(hp:List Int)(port:Int)(Rl pn:Bool)(pl:List Bs)(hq:Bool)(q:Bs)(hf:Bool)(fg:Bs)(bare sp:Bool)(I:Bs)(Rm Rv Ru:Bs)(Rp:Int)(Rq:Bs)(Rr:Int)(Rs:List Int)(Rj:Int)(Rk Ro:Bool)(Rn:List Bs)(Rt:Bool)(bq:Bs)(Rw:Bool)(Rx:Bs):ae Tryz.prog az 86 [.ptr 0 0,aE 1 (.ptr 1 0) sc us pw hk hs hn hp port Rl pn pl hq q hf fg bare sp I,bW 0 Rm Rv Ru Rp Rq Rr Rs Rj Rk Ro Rn Rt bq Rw Rx] ⟨ck I=false,.tup [.bool false,aE 1 (.ptr 1 0) sc us pw hk hs hn hp port Rl pn pl hq q hf fg bare sp I,bW 0 Rm Rv Ru Rp Rq Rr Rs Rj Rk Ro Rn Rt bq Rw Rx]⟩:=
 ae.Qr (ID sc us pw hk hs hn hp port Rl pn pl hq q hf fg bare sp I Rm Rv Ru Rp Rq Rr Rs Rj Rk Ro Rn Rt bq Rw Rx) (fun h=>by have e:List.isEmpty (PV.aC PV.bU [.ptr 0 0,aE 1 (.ptr 1 0) sc us pw hk hs hn hp port Rl pn pl hq q hf fg bare sp I,bW 0 Rm Rv Ru Rp Rq Rr Rs Rj Rk Ro Rn Rt bq Rw Rx])=false:=(by kernel_rfl);exact Bool.noConfusion (e.symm.trans (congrArg List.isEmpty h))) (fun h=>trivial) (fun h=>by rw [IE (x:=(RS.mk sc us pw hk hs hn hp port Rl pn pl hq q hf fg bare sp I)) (RS.mk Rm Rv Ru Rp Rq Rr Rs Rj Rk Ro Rn Rt bq Rw Rx false false []) h,h])
def mX:List PV->Option aD:=fun xs=>match xs with
 |[.ptr 0 0,aE 1 (.ptr 1 0) sc us pw hk hs hn hp port Rl pn pl hq q hf fg bare sp I,bW 0 Rm Rv Ru Rp Rq Rr Rs Rj Rk Ro Rn Rt bq Rw Rx]=>some ⟨ck I=false,.tup [.bool false,aE 1 (.ptr 1 0) sc us pw hk hs hn hp port Rl pn pl hq q hf fg bare sp I,bW 0 Rm Rv Ru Rp Rq Rr Rs Rj Rk Ro Rn Rt bq Rw Rx]⟩
 |_=>none
theorem uR:∀xs c,mX xs=some c->ae Tryz.prog az 86 xs c:=fun xs c h=>by
 unfold mX at h;split at h
 ·injection h with h;subst h;exact IF _ _ _ _ _ _ _ _ _ _ _ _ _ _ _ _ _ _ _ _ _ _ _ _ _ _ _ _ _ _ _ _ _
 ·cases h
end
section
def wS:cM:=bS [(156,yw),(87,kq)]
def wT(sc us pw:Bs)(hk:Int)(hs:Bs)(hn:Int)(hp:List Int)(port:Int)(Rl pn:Bool)(pl:List Bs)(hq:Bool)(q:Bs)(hf:Bool)(fg:Bs)(bare sp:Bool)(I:Bs)(Rm Rv Ru:Bs)(Rp:Int)(Rq:Bs)(Rr:Int)(Rs:List Int)(Rj:Int)(Rk Ro:Bool)(Rn:List Bs)(Rt:Bool)(bq:Bs)(Rw:Bool)(Rx:Bs):aP:=fun i=>none
theorem yS:df Tryz.prog az wS:=ah DR (ah rf ax)
theorem Eg(sc us pw:Bs)(hk:Int)(hs:Bs)(hn:Int)(hp:List Int)(port:Int)(Rl pn:Bool)(pl:List Bs)(hq:Bool)(q:Bs)(hf:Bool)(fg:Bs)(bare sp:Bool)(I:Bs)(Rm Rv Ru:Bs)(Rp:Int)(Rq:Bs)(Rr:Int)(Rs:List Int)(Rj:Int)(Rk Ro:Bool)(Rn:List Bs)(Rt:Bool)(bq:Bs)(Rw:Bool)(Rx:Bs)(k:PV->List PV->Prop):b9 Tryz.prog wS az (wT sc us pw hk hs hn hp port Rl pn pl hq q hf fg bare sp I Rm Rv Ru Rp Rq Rr Rs Rj Rk Ro Rn Rt bq Rw Rx) 1000 Tryz.f122 [.ptr 0 0] [aE 1 (.ptr 1 0) sc us pw hk hs hn hp port Rl pn pl hq q hf fg bare sp I,bW 0 Rm Rv Ru Rp Rq Rr Rs Rj Rk Ro Rn Rt bq Rw Rx] k=(
 (List.length I).le 1000000/\
 (bN I=true->
 k (PV.tup []) [ct (PV.ptr 1 0) 0 sc us pw hk hs hn hp port Rl true ([]) hq q hf fg bare sp I,bW 0 Rm Rv Ru Rp Rq Rr Rs Rj Rk Ro Rn Rt bq Rw Rx])/\
 (bN I=false->
 pl.length.le 1000000/\
 k (PV.tup []) [ct (PV.ptr 1 0) 1 sc us pw hk hs hn hp port Rl ((cu sc (pn,pl)).1) ((cu sc (pn,pl)).2) hq q hf fg bare sp I,bW 0 Rm Rv Ru Rp Rq Rr Rs Rj Rk Ro Rn Rt bq Rw Rx])):=by kernel_rfl
attribute [local irreducible] Go.Vc.cD Go.Vc.b9
theorem yT(sc us pw:Bs)(hk:Int)(hs:Bs)(hn:Int)(hp:List Int)(port:Int)(Rl pn:Bool)(pl:List Bs)(hq:Bool)(q:Bs)(hf:Bool)(fg:Bs)(bare sp:Bool)(I:Bs)(Rm Rv Ru:Bs)(Rp:Int)(Rq:Bs)(Rr:Int)(Rs:List Int)(Rj:Int)(Rk Ro:Bool)(Rn:List Bs)(Rt:Bool)(bq:Bs)(Rw:Bool)(Rx:Bs):bE Tryz.prog az 122 [.ptr 0 0] [aE 1 (.ptr 1 0) sc us pw hk hs hn hp port Rl pn pl hq q hf fg bare sp I,bW 0 Rm Rv Ru Rp Rq Rr Rs Rj Rk Ro Rn Rt bq Rw Rx] (I.length<=300000/\pl.length<=1000000/\bN I=false) (.tup []) [aE 1 (.ptr 1 0) sc us pw hk hs hn hp port Rl (((RS.mk sc us pw hk hs hn hp port Rl pn pl hq q hf fg bare sp I).short).pn) (((RS.mk sc us pw hk hs hn hp port Rl pn pl hq q hf fg bare sp I).short).pl) hq q hf fg bare sp I,bW 0 Rm Rv Ru Rp Rq Rr Rs Rj Rk Ro Rn Rt bq Rw Rx]:=bT (by kernel_rfl) yS (H:=wT sc us pw hk hs hn hp port Rl pn pl hq q hf fg bare sp I Rm Rv Ru Rp Rq Rr Rs Rj Rk Ro Rn Rt bq Rw Rx) (fuel:=1000) Tryz.func122 (by kernel_rfl) (Nat.le_of_ble_eq_true rfl) fun hpre=>(Eg sc us pw hk hs hn hp port Rl pn pl hq q hf fg bare sp I Rm Rv Ru Rp Rq Rr Rs Rj Rk Ro Rn Rt bq Rw Rx _).mpr (by
 obtain ⟨h1,h2,h3⟩:=hpre;exact ⟨show I.length<=1000000 by omega,fun h=>absurd (h.symm.trans h3) nofun,fun _=>⟨h2,rfl,rfl⟩⟩)
theorem Eh(sc us pw:Bs)(hk:Int)(hs:Bs)(hn:Int)(hp:List Int)(port:Int)(Rl pn:Bool)(pl:List Bs)(hq:Bool)(q:Bs)(hf:Bool)(fg:Bs)(bare sp:Bool)(I:Bs)(Rm Rv Ru:Bs)(Rp:Int)(Rq:Bs)(Rr:Int)(Rs:List Int)(Rj:Int)(Rk Ro:Bool)(Rn:List Bs)(Rt:Bool)(bq:Bs)(Rw:Bool)(Rx:Bs):ae Tryz.prog az 122 [.ptr 0 0,aE 1 (.ptr 1 0) sc us pw hk hs hn hp port Rl pn pl hq q hf fg bare sp I,bW 0 Rm Rv Ru Rp Rq Rr Rs Rj Rk Ro Rn Rt bq Rw Rx] ⟨I.length<=300000/\pl.length<=1000000/\bN I=false,.tup [.tup [],aE 1 (.ptr 1 0) sc us pw hk hs hn hp port Rl (((RS.mk sc us pw hk hs hn hp port Rl pn pl hq q hf fg bare sp I).short).pn) (((RS.mk sc us pw hk hs hn hp port Rl pn pl hq q hf fg bare sp I).short).pl) hq q hf fg bare sp I,bW 0 Rm Rv Ru Rp Rq Rr Rs Rj Rk Ro Rn Rt bq Rw Rx]⟩:=ae.aZ (fun h=>by have e:List.isEmpty (PV.aC PV.bU [.ptr 0 0,aE 1 (.ptr 1 0) sc us pw hk hs hn hp port Rl pn pl hq q hf fg bare sp I,bW 0 Rm Rv Ru Rp Rq Rr Rs Rj Rk Ro Rn Rt bq Rw Rx])=false:=(by kernel_rfl);exact Bool.noConfusion (e.symm.trans (congrArg List.isEmpty h))) (yT sc us pw hk hs hn hp port Rl pn pl hq q hf fg bare sp I Rm Rv Ru Rp Rq Rr Rs Rj Rk Ro Rn Rt bq Rw Rx)
def ly:List PV->Option aD:=fun xs=>match xs with
 |[.ptr 0 0,aE 1 (.ptr 1 0) sc us pw hk hs hn hp port Rl pn pl hq q hf fg bare sp I,bW 0 Rm Rv Ru Rp Rq Rr Rs Rj Rk Ro Rn Rt bq Rw Rx]=>some ⟨I.length<=300000/\pl.length<=1000000/\bN I=false,.tup [.tup [],aE 1 (.ptr 1 0) sc us pw hk hs hn hp port Rl (((RS.mk sc us pw hk hs hn hp port Rl pn pl hq q hf fg bare sp I).short).pn) (((RS.mk sc us pw hk hs hn hp port Rl pn pl hq q hf fg bare sp I).short).pl) hq q hf fg bare sp I,bW 0 Rm Rv Ru Rp Rq Rr Rs Rj Rk Ro Rn Rt bq Rw Rx]⟩
 |_=>none
theorem tS:∀xs c,ly xs=some c->ae Tryz.prog az 122 xs c:=fun xs c h=>by
 unfold ly at h;split at h
 ·injection h with h;subst h;exact Eh _ _ _ _ _ _ _ _ _ _ _ _ _ _ _ _ _ _ _ _ _ _ _ _ _ _ _ _ _ _ _ _ _
 ·cases h
end
section
def wU:cM:=bS [(119,tg),(27,eR)]
def wV(sc us pw:Bs)(hk:Int)(hs:Bs)(hn:Int)(hp:List Int)(port:Int)(Rl pn:Bool)(pl:List Bs)(hq:Bool)(q:Bs)(hf:Bool)(fg:Bs)(bare sp:Bool)(I:Bs):aP:=fun i=>none
theorem yU:df Tryz.prog az wU:=ah Be (ah eS ax)
theorem Ei(sc us pw:Bs)(hk:Int)(hs:Bs)(hn:Int)(hp:List Int)(port:Int)(Rl pn:Bool)(pl:List Bs)(hq:Bool)(q:Bs)(hf:Bool)(fg:Bs)(bare sp:Bool)(I:Bs)(k:PV->List PV->Prop):b9 Tryz.prog wU az (wV sc us pw hk hs hn hp port Rl pn pl hq q hf fg bare sp I) 1000 Tryz.f75 [.ptr 0 0] [aE 1 (.raw (.pointer none)) sc us pw hk hs hn hp port Rl pn pl hq q hf fg bare sp I] k=(
 (List.length I<=300000/\
 (ak I I 0).2.2=true)/\
 (true=true->
 True/\
 ((!true)=true->
 False)/\
 ((!true)=true->
 False)/\
 ((!true)=true->
 False)/\
 (false=true->
 False)/\
 (false=false->
 k (PV.int .i64 0) [ct (PV.raw (Go.Value.pointer none)) 1 ((ak I I 0).1) us pw hk hs hn hp port Rl pn pl hq q hf fg (!true) (bK (ak I I 0).1) ((ak I I 0).2.1)]))/\
 (true=false->
 (true=true->
 (true=true->
 k (PV.int .i64 8) [ct (PV.raw (Go.Value.pointer none)) 1 sc us pw hk hs hn hp port Rl pn pl hq q hf fg bare sp I])/\
 (true=false->
 False))/\
 (true=false->
 False))):=by kernel_rfl
attribute [local irreducible] Go.Vc.cD Go.Vc.b9
theorem yV(sc us pw:Bs)(hk:Int)(hs:Bs)(hn:Int)(hp:List Int)(port:Int)(Rl pn:Bool)(pl:List Bs)(hq:Bool)(q:Bs)(hf:Bool)(fg:Bs)(bare sp:Bool)(I:Bs):bE Tryz.prog az 75 [.ptr 0 0] [aE 1 (.raw (.pointer none)) sc us pw hk hs hn hp port Rl pn pl hq q hf fg bare sp I] (I.length<=300000/\(ak I I 0).2.2=true) (.int .i64 0) [aE 1 (.raw (.pointer none)) ((ak I I 0).1) us pw hk hs hn hp port Rl pn pl hq q hf fg false (bK (ak I I 0).1) ((ak I I 0).2.1)]:=bT (by kernel_rfl) yU (H:=wV sc us pw hk hs hn hp port Rl pn pl hq q hf fg bare sp I) (fuel:=1000) Tryz.func75 (by kernel_rfl) (Nat.le_of_ble_eq_true rfl) fun hpre=>(Ei sc us pw hk hs hn hp port Rl pn pl hq q hf fg bare sp I _).mpr (by
 exact ⟨hpre,fun _=>⟨trivial,fun h=>(by cases h),fun h=>(by cases h),fun h=>(by cases h),fun h=>(by cases h),fun _=>⟨rfl,rfl⟩⟩,fun h=>(by cases h)⟩)
theorem Ej(sc us pw:Bs)(hk:Int)(hs:Bs)(hn:Int)(hp:List Int)(port:Int)(Rl pn:Bool)(pl:List Bs)(hq:Bool)(q:Bs)(hf:Bool)(fg:Bs)(bare sp:Bool)(I:Bs):ae Tryz.prog az 75 [.ptr 0 0,aE 1 (.raw (.pointer none)) sc us pw hk hs hn hp port Rl pn pl hq q hf fg bare sp I] ⟨I.length<=300000/\(ak I I 0).2.2=true,.tup [.int .i64 0,aE 1 (.raw (.pointer none)) ((ak I I 0).1) us pw hk hs hn hp port Rl pn pl hq q hf fg false (bK (ak I I 0).1) ((ak I I 0).2.1)]⟩:=ae.aZ (fun h=>by have e:List.isEmpty (PV.aC PV.bU [.ptr 0 0,aE 1 (.raw (.pointer none)) sc us pw hk hs hn hp port Rl pn pl hq q hf fg bare sp I])=false:=(by kernel_rfl);exact Bool.noConfusion (e.symm.trans (congrArg List.isEmpty h))) (yV sc us pw hk hs hn hp port Rl pn pl hq q hf fg bare sp I)
def lz:List PV->Option aD:=fun xs=>match xs with
 |[.ptr 0 0,aE 1 (.raw (.pointer none)) sc us pw hk hs hn hp port Rl pn pl hq q hf fg bare sp I]=>some ⟨I.length<=300000/\(ak I I 0).2.2=true,.tup [.int .i64 0,aE 1 (.raw (.pointer none)) ((ak I I 0).1) us pw hk hs hn hp port Rl pn pl hq q hf fg false (bK (ak I I 0).1) ((ak I I 0).2.1)]⟩
 |_=>none
theorem tT:∀xs c,lz xs=some c->ae Tryz.prog az 75 xs c:=fun xs c h=>by
 unfold lz at h;split at h
 ·injection h with h;subst h;exact Ej _ _ _ _ _ _ _ _ _ _ _ _ _ _ _ _ _ _
 ·cases h
end
section
def FZ:cM:=bS []
def F1(sc us pw:Bs)(hk:Int)(hs:Bs)(hn:Int)(hp:List Int)(port:Int)(Rl pn:Bool)(pl:List Bs)(hq:Bool)(q:Bs)(hf:Bool)(fg:Bs)(bare sp:Bool)(I:Bs):aP:=fun i=>none
theorem Ek:df Tryz.prog az FZ:=ax
theorem LN(sc us pw:Bs)(hk:Int)(hs:Bs)(hn:Int)(hp:List Int)(port:Int)(Rl pn:Bool)(pl:List Bs)(hq:Bool)(q:Bs)(hf:Bool)(fg:Bs)(bare sp:Bool)(I:Bs)(k:PV->List PV->Prop):b9 Tryz.prog FZ az (F1 sc us pw hk hs hn hp port Rl pn pl hq q hf fg bare sp I) 1000 Tryz.f77 [.ptr 0 0] [aE 1 (.raw (.pointer none)) sc us pw hk hs hn hp port Rl pn pl hq q hf fg bare sp I] k=(
 (false=true->
 False)/\
 (false=true->
 False)/\
 (false=true->
 False)/\
 (false=true->
 False)/\
 k (PV.bool false) [ct (PV.raw (Go.Value.pointer none)) 1 sc us pw hk hs hn hp port Rl pn pl hq q hf fg bare sp I]):=by kernel_rfl
attribute [local irreducible] Go.Vc.cD Go.Vc.b9
theorem El(sc us pw:Bs)(hk:Int)(hs:Bs)(hn:Int)(hp:List Int)(port:Int)(Rl pn:Bool)(pl:List Bs)(hq:Bool)(q:Bs)(hf:Bool)(fg:Bs)(bare sp:Bool)(I:Bs):bE Tryz.prog az 77 [.ptr 0 0] [aE 1 (.raw (.pointer none)) sc us pw hk hs hn hp port Rl pn pl hq q hf fg bare sp I] True (.bool false) [aE 1 (.raw (.pointer none)) sc us pw hk hs hn hp port Rl pn pl hq q hf fg bare sp I]:=bT (by kernel_rfl) Ek (H:=F1 sc us pw hk hs hn hp port Rl pn pl hq q hf fg bare sp I) (fuel:=1000) Tryz.func77 (by kernel_rfl) (Nat.le_of_ble_eq_true rfl) fun hpre=>(LN sc us pw hk hs hn hp port Rl pn pl hq q hf fg bare sp I _).mpr (by
 exact ⟨nofun,nofun,nofun,nofun,rfl,rfl⟩)
theorem LO(sc us pw:Bs)(hk:Int)(hs:Bs)(hn:Int)(hp:List Int)(port:Int)(Rl pn:Bool)(pl:List Bs)(hq:Bool)(q:Bs)(hf:Bool)(fg:Bs)(bare sp:Bool)(I:Bs):ae Tryz.prog az 77 [.ptr 0 0,aE 1 (.raw (.pointer none)) sc us pw hk hs hn hp port Rl pn pl hq q hf fg bare sp I] ⟨True,.tup [.bool false,aE 1 (.raw (.pointer none)) sc us pw hk hs hn hp port Rl pn pl hq q hf fg bare sp I]⟩:=ae.aZ (fun h=>by have e:List.isEmpty (PV.aC PV.bU [.ptr 0 0,aE 1 (.raw (.pointer none)) sc us pw hk hs hn hp port Rl pn pl hq q hf fg bare sp I])=false:=(by kernel_rfl);exact Bool.noConfusion (e.symm.trans (congrArg List.isEmpty h))) (El sc us pw hk hs hn hp port Rl pn pl hq q hf fg bare sp I)
def iG:List PV->Option aD:=fun xs=>match xs with
 |[.ptr 0 0,aE 1 (.raw (.pointer none)) sc us pw hk hs hn hp port Rl pn pl hq q hf fg bare sp I]=>some ⟨True,.tup [.bool false,aE 1 (.raw (.pointer none)) sc us pw hk hs hn hp port Rl pn pl hq q hf fg bare sp I]⟩
 |_=>none
theorem iB:∀xs c,iG xs=some c->ae Tryz.prog az 77 xs c:=fun xs c h=>by
 unfold iG at h;split at h
 ·injection h with h;subst h;exact LO _ _ _ _ _ _ _ _ _ _ _ _ _ _ _ _ _ _
 ·cases h
end
section
def oB:cM:=bS [(77,iG)]
def oC(sc us pw:Bs)(hk:Int)(hs:Bs)(hn:Int)(hp:List Int)(port:Int)(Rl pn:Bool)(pl:List Bs)(hq:Bool)(q:Bs)(hf:Bool)(fg:Bs)(bare sp:Bool)(I:Bs):aP:=fun i=>none
theorem rj:df Tryz.prog az oB:=ah iB ax
theorem uS(sc us pw:Bs)(hk:Int)(hs:Bs)(hn:Int)(hp:List Int)(port:Int)(Rl pn:Bool)(pl:List Bs)(hq:Bool)(q:Bs)(hf:Bool)(fg:Bs)(bare sp:Bool)(I:Bs)(k:PV->List PV->Prop):b9 Tryz.prog oB az (oC sc us pw hk hs hn hp port Rl pn pl hq q hf fg bare sp I) 1000 Tryz.f121 [.ptr 0 0] [aE 1 (.raw (.pointer none)) sc us pw hk hs hn hp port Rl pn pl hq q hf fg bare sp I] k=(
 True/\
 ((!false)=true->
 k (PV.tup []) [ct (PV.raw (Go.Value.pointer none)) 1 sc us pw hk hs hn hp port Rl pn pl hq q hf fg bare sp I])/\
 ((!false)=false->
 False)):=by kernel_rfl
attribute [local irreducible] Go.Vc.cD Go.Vc.b9
theorem rk(sc us pw:Bs)(hk:Int)(hs:Bs)(hn:Int)(hp:List Int)(port:Int)(Rl pn:Bool)(pl:List Bs)(hq:Bool)(q:Bs)(hf:Bool)(fg:Bs)(bare sp:Bool)(I:Bs):bE Tryz.prog az 121 [.ptr 0 0] [aE 1 (.raw (.pointer none)) sc us pw hk hs hn hp port Rl pn pl hq q hf fg bare sp I] True (.tup []) [aE 1 (.raw (.pointer none)) sc us pw hk hs hn hp port Rl pn pl hq q hf fg bare sp I]:=bT (by kernel_rfl) rj (H:=oC sc us pw hk hs hn hp port Rl pn pl hq q hf fg bare sp I) (fuel:=1000) Tryz.func121 (by kernel_rfl) (Nat.le_of_ble_eq_true rfl) fun hpre=>(uS sc us pw hk hs hn hp port Rl pn pl hq q hf fg bare sp I _).mpr (by
 exact ⟨trivial,fun _=>⟨rfl,rfl⟩,fun h=>(by cases h)⟩)
theorem uT(sc us pw:Bs)(hk:Int)(hs:Bs)(hn:Int)(hp:List Int)(port:Int)(Rl pn:Bool)(pl:List Bs)(hq:Bool)(q:Bs)(hf:Bool)(fg:Bs)(bare sp:Bool)(I:Bs):ae Tryz.prog az 121 [.ptr 0 0,aE 1 (.raw (.pointer none)) sc us pw hk hs hn hp port Rl pn pl hq q hf fg bare sp I] ⟨True,.tup [.tup [],aE 1 (.raw (.pointer none)) sc us pw hk hs hn hp port Rl pn pl hq q hf fg bare sp I]⟩:=ae.aZ (fun h=>by have e:List.isEmpty (PV.aC PV.bU [.ptr 0 0,aE 1 (.raw (.pointer none)) sc us pw hk hs hn hp port Rl pn pl hq q hf fg bare sp I])=false:=(by kernel_rfl);exact Bool.noConfusion (e.symm.trans (congrArg List.isEmpty h))) (rk sc us pw hk hs hn hp port Rl pn pl hq q hf fg bare sp I)
def iZ:List PV->Option aD:=fun xs=>match xs with
 |[.ptr 0 0,aE 1 (.raw (.pointer none)) sc us pw hk hs hn hp port Rl pn pl hq q hf fg bare sp I]=>some ⟨True,.tup [.tup [],aE 1 (.raw (.pointer none)) sc us pw hk hs hn hp port Rl pn pl hq q hf fg bare sp I]⟩
 |_=>none
theorem oD:∀xs c,iZ xs=some c->ae Tryz.prog az 121 xs c:=fun xs c h=>by
 unfold iZ at h;split at h
 ·injection h with h;subst h;exact uT _ _ _ _ _ _ _ _ _ _ _ _ _ _ _ _ _ _
 ·cases h
end
section
theorem fp(r:RS):r.ay.1={r with hk:=r.ay.1.hk,hs:=r.ay.1.hs,hn:=r.ay.1.hn,hp:=r.ay.1.hp,I:=aa r.I (aj r.sp r.I)}:=by
 unfold RS.ay;dsimp only;split
 ·rfl
 ·split<;>rfl
theorem oE(sp:Bool)(l:Bs):List.length (if aB sp l (0:Int)=true then aa l (1:Int)else l)<=l.length:=by
 split
 ·exact dA l 1
 ·exact Nat.le_refl _
def F3:cM:=bS [(82,iF),(84,gK),(121,iZ),(77,iG),(124,gY),(123,ou),(125,ko),(90,ow)]
def F4(sc us pw:Bs)(hk:Int)(hs:Bs)(hn:Int)(hp:List Int)(port:Int)(Rl pn:Bool)(pl:List Bs)(hq:Bool)(q:Bs)(hf:Bool)(fg:Bs)(bare sp:Bool)(I:Bs):aP:=fun i=>none
theorem Em:df Tryz.prog az F3:=ah iA (ah jV (ah oD (ah iB (ah iW (ah mR (ah rb (ah qP ax)))))))
theorem LP(sc us pw:Bs)(hk:Int)(hs:Bs)(hn:Int)(hp:List Int)(port:Int)(Rl pn:Bool)(pl:List Bs)(hq:Bool)(q:Bs)(hf:Bool)(fg:Bs)(bare sp:Bool)(I:Bs)(k:PV->List PV->Prop):b9 Tryz.prog F3 az (F4 sc us pw hk hs hn hp port Rl pn pl hq q hf fg bare sp I) 1000 Tryz.f76 [.ptr 0 0] [aE 1 (.raw (.pointer none)) sc us pw hk hs hn hp port Rl pn pl hq q hf fg bare sp I] k=(
 ((0:Int)<=0/\
 (0:Int)<1000)/\
 (aB sp I 0=true->
 ((0:Int)<=1/\
 (1:Int)<1000)/\
 (aB sp I 1=true->
 upto 2 (ai I) (ai I)/\
 ((aa I 2).length.le 300000/\
 upto 0 (↑(aj sp (aa I 2))) (ai (aa I 2))/\
 True/\
 (cc (ab (aa I 2) ↑(aj sp (aa I 2)))=true->
 ((aa I 2).length<=300000/\
 pl.length<=100000)/\
 k (PV.int .i64 0) [ct (PV.raw (Go.Value.pointer none)) 1 sc us pw 1 hs hn hp port Rl ((bQ sp sc (ab (aa I 2) ↑(aI (aa I 2))) (pn,pl)).1) ((bQ sp sc (ab (aa I 2) ↑(aI (aa I 2))) (pn,pl)).2) hq q hf fg bare sp (aa (aa I 2) ↑(aI (aa I 2)))])/\
 (cc (ab (aa I 2) ↑(aj sp (aa I 2)))=false->
 (aa I 2).length.le 300000/\
 ((!decide ((RS.mk sc us pw 1 hs hn hp port Rl pn pl hq q hf fg bare sp (aa I 2)).ay.2=0))=true->
 k (PV.int .i64 (RS.mk sc us pw 1 hs hn hp port Rl pn pl hq q hf fg bare sp (aa I 2)).ay.2) [ct (PV.raw (Go.Value.pointer none)) 1 sc us pw ((RS.mk sc us pw 1 hs hn hp port Rl pn pl hq q hf fg bare sp (aa I 2)).ay.1.hk) ((RS.mk sc us pw 1 hs hn hp port Rl pn pl hq q hf fg bare sp (aa I 2)).ay.1.hs) ((RS.mk sc us pw 1 hs hn hp port Rl pn pl hq q hf fg bare sp (aa I 2)).ay.1.hn) ((RS.mk sc us pw 1 hs hn hp port Rl pn pl hq q hf fg bare sp (aa I 2)).ay.1.hp) port Rl pn pl hq q hf fg bare sp (aa (aa I 2) ↑(aj sp (aa I 2)))])/\
 ((!decide ((RS.mk sc us pw 1 hs hn hp port Rl pn pl hq q hf fg bare sp (aa I 2)).ay.2=0))=false->
 True/\
 (List.length (if aB sp (aa (aa I 2) ↑(aj sp (aa I 2))) 0=true then aa (aa (aa I 2) ↑(aj sp (aa I 2))) 1 else aa (aa I 2) ↑(aj sp (aa I 2)))<=(300000:Nat)/\
 pl.length<=(100000:Nat))/\
 k (PV.int .i64 0) [ct (PV.raw (Go.Value.pointer none)) 1 sc us pw ((RS.mk sc us pw 1 hs hn hp port Rl pn pl hq q hf fg bare sp (aa I 2)).ay.1.hk) ((RS.mk sc us pw 1 hs hn hp port Rl pn pl hq q hf fg bare sp (aa I 2)).ay.1.hs) ((RS.mk sc us pw 1 hs hn hp port Rl pn pl hq q hf fg bare sp (aa I 2)).ay.1.hn) ((RS.mk sc us pw 1 hs hn hp port Rl pn pl hq q hf fg bare sp (aa I 2)).ay.1.hp) port Rl ((bQ sp sc (ab (if aB sp (aa (aa I 2) ↑(aj sp (aa I 2))) 0=true then aa (aa (aa I 2) ↑(aj sp (aa I 2))) 1 else aa (aa I 2) ↑(aj sp (aa I 2))) ↑(aI (if aB sp (aa (aa I 2) ↑(aj sp (aa I 2))) 0=true then aa (aa (aa I 2) ↑(aj sp (aa I 2))) 1 else aa (aa I 2) ↑(aj sp (aa I 2))))) (pn,pl)).1) ((bQ sp sc (ab (if aB sp (aa (aa I 2) ↑(aj sp (aa I 2))) 0=true then aa (aa (aa I 2) ↑(aj sp (aa I 2))) 1 else aa (aa I 2) ↑(aj sp (aa I 2))) ↑(aI (if aB sp (aa (aa I 2) ↑(aj sp (aa I 2))) 0=true then aa (aa (aa I 2) ↑(aj sp (aa I 2))) 1 else aa (aa I 2) ↑(aj sp (aa I 2))))) (pn,pl)).2) hq q hf fg bare sp (aa (if aB sp (aa (aa I 2) ↑(aj sp (aa I 2))) 0=true then aa (aa (aa I 2) ↑(aj sp (aa I 2))) 1 else aa (aa I 2) ↑(aj sp (aa I 2))) ↑(aI (if aB sp (aa (aa I 2) ↑(aj sp (aa I 2))) 0=true then aa (aa (aa I 2) ↑(aj sp (aa I 2))) 1 else aa (aa I 2) ↑(aj sp (aa I 2)))))])))/\
 (aa I 2).length.le 300000/\
 upto 0 (↑(aj sp (aa I 2))) (ai (aa I 2))/\
 True/\
 (cc (ab (aa I 2) ↑(aj sp (aa I 2)))=true->
 ((aa I 2).length<=300000/\
 pl.length<=100000)/\
 k (PV.int .i64 0) [ct (PV.raw (Go.Value.pointer none)) 1 sc us pw 1 hs hn hp port Rl ((bQ sp sc (ab (aa I 2) ↑(aI (aa I 2))) (pn,pl)).1) ((bQ sp sc (ab (aa I 2) ↑(aI (aa I 2))) (pn,pl)).2) hq q hf fg bare sp (aa (aa I 2) ↑(aI (aa I 2)))])/\
 (cc (ab (aa I 2) ↑(aj sp (aa I 2)))=false->
 (aa I 2).length.le 300000/\
 ((!decide ((RS.mk sc us pw 1 hs hn hp port Rl pn pl hq q hf fg bare sp (aa I 2)).ay.2=0))=true->
 k (PV.int .i64 (RS.mk sc us pw 1 hs hn hp port Rl pn pl hq q hf fg bare sp (aa I 2)).ay.2) [ct (PV.raw (Go.Value.pointer none)) 1 sc us pw ((RS.mk sc us pw 1 hs hn hp port Rl pn pl hq q hf fg bare sp (aa I 2)).ay.1.hk) ((RS.mk sc us pw 1 hs hn hp port Rl pn pl hq q hf fg bare sp (aa I 2)).ay.1.hs) ((RS.mk sc us pw 1 hs hn hp port Rl pn pl hq q hf fg bare sp (aa I 2)).ay.1.hn) ((RS.mk sc us pw 1 hs hn hp port Rl pn pl hq q hf fg bare sp (aa I 2)).ay.1.hp) port Rl pn pl hq q hf fg bare sp (aa (aa I 2) ↑(aj sp (aa I 2)))])/\
 ((!decide ((RS.mk sc us pw 1 hs hn hp port Rl pn pl hq q hf fg bare sp (aa I 2)).ay.2=0))=false->
 True/\
 (List.length (if aB sp (aa (aa I 2) ↑(aj sp (aa I 2))) 0=true then aa (aa (aa I 2) ↑(aj sp (aa I 2))) 1 else aa (aa I 2) ↑(aj sp (aa I 2)))<=(300000:Nat)/\
 pl.length<=(100000:Nat))/\
 k (PV.int .i64 0) [ct (PV.raw (Go.Value.pointer none)) 1 sc us pw ((RS.mk sc us pw 1 hs hn hp port Rl pn pl hq q hf fg bare sp (aa I 2)).ay.1.hk) ((RS.mk sc us pw 1 hs hn hp port Rl pn pl hq q hf fg bare sp (aa I 2)).ay.1.hs) ((RS.mk sc us pw 1 hs hn hp port Rl pn pl hq q hf fg bare sp (aa I 2)).ay.1.hn) ((RS.mk sc us pw 1 hs hn hp port Rl pn pl hq q hf fg bare sp (aa I 2)).ay.1.hp) port Rl ((bQ sp sc (ab (if aB sp (aa (aa I 2) ↑(aj sp (aa I 2))) 0=true then aa (aa (aa I 2) ↑(aj sp (aa I 2))) 1 else aa (aa I 2) ↑(aj sp (aa I 2))) ↑(aI (if aB sp (aa (aa I 2) ↑(aj sp (aa I 2))) 0=true then aa (aa (aa I 2) ↑(aj sp (aa I 2))) 1 else aa (aa I 2) ↑(aj sp (aa I 2))))) (pn,pl)).1) ((bQ sp sc (ab (if aB sp (aa (aa I 2) ↑(aj sp (aa I 2))) 0=true then aa (aa (aa I 2) ↑(aj sp (aa I 2))) 1 else aa (aa I 2) ↑(aj sp (aa I 2))) ↑(aI (if aB sp (aa (aa I 2) ↑(aj sp (aa I 2))) 0=true then aa (aa (aa I 2) ↑(aj sp (aa I 2))) 1 else aa (aa I 2) ↑(aj sp (aa I 2))))) (pn,pl)).2) hq q hf fg bare sp (aa (if aB sp (aa (aa I 2) ↑(aj sp (aa I 2))) 0=true then aa (aa (aa I 2) ↑(aj sp (aa I 2))) 1 else aa (aa I 2) ↑(aj sp (aa I 2))) ↑(aI (if aB sp (aa (aa I 2) ↑(aj sp (aa I 2))) 0=true then aa (aa (aa I 2) ↑(aj sp (aa I 2))) 1 else aa (aa I 2) ↑(aj sp (aa I 2)))))])))/\
 (aB sp I 1=false->
 True/\
 (aB sp I 0=true->
 True/\
 (List.length (if aB sp I 0=true then aa I 1 else I)<=300000/\
 pl.length<=100000)/\
 k (PV.int .i64 0) [ct (PV.raw (Go.Value.pointer none)) 1 sc us pw 1 hs hn hp port Rl ((bQ sp sc (ab (if aB sp I 0=true then aa I 1 else I) ↑(aI (if aB sp I 0=true then aa I 1 else I))) (pn,pl)).1) ((bQ sp sc (ab (if aB sp I 0=true then aa I 1 else I) ↑(aI (if aB sp I 0=true then aa I 1 else I))) (pn,pl)).2) hq q hf fg bare sp (aa (if aB sp I 0=true then aa I 1 else I) ↑(aI (if aB sp I 0=true then aa I 1 else I)))])/\
 (aB sp I 0=false->
 True/\
 ((!false)=true->
 (List.length (if aB sp I 0=true then aa I 1 else I)<=300000/\
 pl.length<=100000)/\
 k (PV.int .i64 0) [ct (PV.raw (Go.Value.pointer none)) 1 sc us pw 1 hs hn hp port Rl ((bQ sp sc (ab (if aB sp I 0=true then aa I 1 else I) ↑(aI (if aB sp I 0=true then aa I 1 else I))) (pn,pl)).1) ((bQ sp sc (ab (if aB sp I 0=true then aa I 1 else I) ↑(aI (if aB sp I 0=true then aa I 1 else I))) (pn,pl)).2) hq q hf fg bare sp (aa (if aB sp I 0=true then aa I 1 else I) ↑(aI (if aB sp I 0=true then aa I 1 else I)))])/\
 ((!false)=false->
 False))))/\
 (aB sp I 0=!true->
 (false=true->
 upto 2 (ai I) (ai I)/\
 ((aa I 2).length.le 300000/\
 upto 0 (↑(aj sp (aa I 2))) (ai (aa I 2))/\
 True/\
 (cc (ab (aa I 2) ↑(aj sp (aa I 2)))=true->
 ((aa I 2).length<=300000/\
 pl.length<=100000)/\
 k (PV.int .i64 0) [ct (PV.raw (Go.Value.pointer none)) 1 sc us pw 1 hs hn hp port Rl ((bQ sp sc (ab (aa I 2) ↑(aI (aa I 2))) (pn,pl)).1) ((bQ sp sc (ab (aa I 2) ↑(aI (aa I 2))) (pn,pl)).2) hq q hf fg bare sp (aa (aa I 2) ↑(aI (aa I 2)))])/\
 (cc (ab (aa I 2) ↑(aj sp (aa I 2)))=false->
 (aa I 2).length.le 300000/\
 ((!decide ((RS.mk sc us pw 1 hs hn hp port Rl pn pl hq q hf fg bare sp (aa I 2)).ay.2=0))=true->
 k (PV.int .i64 (RS.mk sc us pw 1 hs hn hp port Rl pn pl hq q hf fg bare sp (aa I 2)).ay.2) [ct (PV.raw (Go.Value.pointer none)) 1 sc us pw ((RS.mk sc us pw 1 hs hn hp port Rl pn pl hq q hf fg bare sp (aa I 2)).ay.1.hk) ((RS.mk sc us pw 1 hs hn hp port Rl pn pl hq q hf fg bare sp (aa I 2)).ay.1.hs) ((RS.mk sc us pw 1 hs hn hp port Rl pn pl hq q hf fg bare sp (aa I 2)).ay.1.hn) ((RS.mk sc us pw 1 hs hn hp port Rl pn pl hq q hf fg bare sp (aa I 2)).ay.1.hp) port Rl pn pl hq q hf fg bare sp (aa (aa I 2) ↑(aj sp (aa I 2)))])/\
 ((!decide ((RS.mk sc us pw 1 hs hn hp port Rl pn pl hq q hf fg bare sp (aa I 2)).ay.2=0))=false->
 True/\
 (List.length (if aB sp (aa (aa I 2) ↑(aj sp (aa I 2))) 0=true then aa (aa (aa I 2) ↑(aj sp (aa I 2))) 1 else aa (aa I 2) ↑(aj sp (aa I 2)))<=(300000:Nat)/\
 pl.length<=(100000:Nat))/\
 k (PV.int .i64 0) [ct (PV.raw (Go.Value.pointer none)) 1 sc us pw ((RS.mk sc us pw 1 hs hn hp port Rl pn pl hq q hf fg bare sp (aa I 2)).ay.1.hk) ((RS.mk sc us pw 1 hs hn hp port Rl pn pl hq q hf fg bare sp (aa I 2)).ay.1.hs) ((RS.mk sc us pw 1 hs hn hp port Rl pn pl hq q hf fg bare sp (aa I 2)).ay.1.hn) ((RS.mk sc us pw 1 hs hn hp port Rl pn pl hq q hf fg bare sp (aa I 2)).ay.1.hp) port Rl ((bQ sp sc (ab (if aB sp (aa (aa I 2) ↑(aj sp (aa I 2))) 0=true then aa (aa (aa I 2) ↑(aj sp (aa I 2))) 1 else aa (aa I 2) ↑(aj sp (aa I 2))) ↑(aI (if aB sp (aa (aa I 2) ↑(aj sp (aa I 2))) 0=true then aa (aa (aa I 2) ↑(aj sp (aa I 2))) 1 else aa (aa I 2) ↑(aj sp (aa I 2))))) (pn,pl)).1) ((bQ sp sc (ab (if aB sp (aa (aa I 2) ↑(aj sp (aa I 2))) 0=true then aa (aa (aa I 2) ↑(aj sp (aa I 2))) 1 else aa (aa I 2) ↑(aj sp (aa I 2))) ↑(aI (if aB sp (aa (aa I 2) ↑(aj sp (aa I 2))) 0=true then aa (aa (aa I 2) ↑(aj sp (aa I 2))) 1 else aa (aa I 2) ↑(aj sp (aa I 2))))) (pn,pl)).2) hq q hf fg bare sp (aa (if aB sp (aa (aa I 2) ↑(aj sp (aa I 2))) 0=true then aa (aa (aa I 2) ↑(aj sp (aa I 2))) 1 else aa (aa I 2) ↑(aj sp (aa I 2))) ↑(aI (if aB sp (aa (aa I 2) ↑(aj sp (aa I 2))) 0=true then aa (aa (aa I 2) ↑(aj sp (aa I 2))) 1 else aa (aa I 2) ↑(aj sp (aa I 2)))))])))/\
 (aa I 2).length.le 300000/\
 upto 0 (↑(aj sp (aa I 2))) (ai (aa I 2))/\
 True/\
 (cc (ab (aa I 2) ↑(aj sp (aa I 2)))=true->
 ((aa I 2).length<=300000/\
 pl.length<=100000)/\
 k (PV.int .i64 0) [ct (PV.raw (Go.Value.pointer none)) 1 sc us pw 1 hs hn hp port Rl ((bQ sp sc (ab (aa I 2) ↑(aI (aa I 2))) (pn,pl)).1) ((bQ sp sc (ab (aa I 2) ↑(aI (aa I 2))) (pn,pl)).2) hq q hf fg bare sp (aa (aa I 2) ↑(aI (aa I 2)))])/\
 (cc (ab (aa I 2) ↑(aj sp (aa I 2)))=false->
 (aa I 2).length.le 300000/\
 ((!decide ((RS.mk sc us pw 1 hs hn hp port Rl pn pl hq q hf fg bare sp (aa I 2)).ay.2=0))=true->
 k (PV.int .i64 (RS.mk sc us pw 1 hs hn hp port Rl pn pl hq q hf fg bare sp (aa I 2)).ay.2) [ct (PV.raw (Go.Value.pointer none)) 1 sc us pw ((RS.mk sc us pw 1 hs hn hp port Rl pn pl hq q hf fg bare sp (aa I 2)).ay.1.hk) ((RS.mk sc us pw 1 hs hn hp port Rl pn pl hq q hf fg bare sp (aa I 2)).ay.1.hs) ((RS.mk sc us pw 1 hs hn hp port Rl pn pl hq q hf fg bare sp (aa I 2)).ay.1.hn) ((RS.mk sc us pw 1 hs hn hp port Rl pn pl hq q hf fg bare sp (aa I 2)).ay.1.hp) port Rl pn pl hq q hf fg bare sp (aa (aa I 2) ↑(aj sp (aa I 2)))])/\
 ((!decide ((RS.mk sc us pw 1 hs hn hp port Rl pn pl hq q hf fg bare sp (aa I 2)).ay.2=0))=false->
 True/\
 (List.length (if aB sp (aa (aa I 2) ↑(aj sp (aa I 2))) 0=true then aa (aa (aa I 2) ↑(aj sp (aa I 2))) 1 else aa (aa I 2) ↑(aj sp (aa I 2)))<=(300000:Nat)/\
 pl.length<=(100000:Nat))/\
 k (PV.int .i64 0) [ct (PV.raw (Go.Value.pointer none)) 1 sc us pw ((RS.mk sc us pw 1 hs hn hp port Rl pn pl hq q hf fg bare sp (aa I 2)).ay.1.hk) ((RS.mk sc us pw 1 hs hn hp port Rl pn pl hq q hf fg bare sp (aa I 2)).ay.1.hs) ((RS.mk sc us pw 1 hs hn hp port Rl pn pl hq q hf fg bare sp (aa I 2)).ay.1.hn) ((RS.mk sc us pw 1 hs hn hp port Rl pn pl hq q hf fg bare sp (aa I 2)).ay.1.hp) port Rl ((bQ sp sc (ab (if aB sp (aa (aa I 2) ↑(aj sp (aa I 2))) 0=true then aa (aa (aa I 2) ↑(aj sp (aa I 2))) 1 else aa (aa I 2) ↑(aj sp (aa I 2))) ↑(aI (if aB sp (aa (aa I 2) ↑(aj sp (aa I 2))) 0=true then aa (aa (aa I 2) ↑(aj sp (aa I 2))) 1 else aa (aa I 2) ↑(aj sp (aa I 2))))) (pn,pl)).1) ((bQ sp sc (ab (if aB sp (aa (aa I 2) ↑(aj sp (aa I 2))) 0=true then aa (aa (aa I 2) ↑(aj sp (aa I 2))) 1 else aa (aa I 2) ↑(aj sp (aa I 2))) ↑(aI (if aB sp (aa (aa I 2) ↑(aj sp (aa I 2))) 0=true then aa (aa (aa I 2) ↑(aj sp (aa I 2))) 1 else aa (aa I 2) ↑(aj sp (aa I 2))))) (pn,pl)).2) hq q hf fg bare sp (aa (if aB sp (aa (aa I 2) ↑(aj sp (aa I 2))) 0=true then aa (aa (aa I 2) ↑(aj sp (aa I 2))) 1 else aa (aa I 2) ↑(aj sp (aa I 2))) ↑(aI (if aB sp (aa (aa I 2) ↑(aj sp (aa I 2))) 0=true then aa (aa (aa I 2) ↑(aj sp (aa I 2))) 1 else aa (aa I 2) ↑(aj sp (aa I 2)))))])))/\
 (false=false->
 True/\
 (aB sp I 0=true->
 True/\
 (List.length (if aB sp I 0=true then aa I 1 else I)<=300000/\
 pl.length<=100000)/\
 k (PV.int .i64 0) [ct (PV.raw (Go.Value.pointer none)) 1 sc us pw 1 hs hn hp port Rl ((bQ sp sc (ab (if aB sp I 0=true then aa I 1 else I) ↑(aI (if aB sp I 0=true then aa I 1 else I))) (pn,pl)).1) ((bQ sp sc (ab (if aB sp I 0=true then aa I 1 else I) ↑(aI (if aB sp I 0=true then aa I 1 else I))) (pn,pl)).2) hq q hf fg bare sp (aa (if aB sp I 0=true then aa I 1 else I) ↑(aI (if aB sp I 0=true then aa I 1 else I)))])/\
 (aB sp I 0=false->
 True/\
 ((!false)=true->
 (List.length (if aB sp I 0=true then aa I 1 else I)<=300000/\
 pl.length<=100000)/\
 k (PV.int .i64 0) [ct (PV.raw (Go.Value.pointer none)) 1 sc us pw 1 hs hn hp port Rl ((bQ sp sc (ab (if aB sp I 0=true then aa I 1 else I) ↑(aI (if aB sp I 0=true then aa I 1 else I))) (pn,pl)).1) ((bQ sp sc (ab (if aB sp I 0=true then aa I 1 else I) ↑(aI (if aB sp I 0=true then aa I 1 else I))) (pn,pl)).2) hq q hf fg bare sp (aa (if aB sp I 0=true then aa I 1 else I) ↑(aI (if aB sp I 0=true then aa I 1 else I)))])/\
 ((!false)=false->
 False))))):=by kernel_rfl
attribute [local irreducible] Go.Vc.cD Go.Vc.b9
theorem En(sc us pw:Bs)(hk:Int)(hs:Bs)(hn:Int)(hp:List Int)(port:Int)(Rl pn:Bool)(pl:List Bs)(hq:Bool)(q:Bs)(hf:Bool)(fg:Bs)(bare sp:Bool)(I:Bs):bE Tryz.prog az 76 [.ptr 0 0] [aE 1 (.raw (.pointer none)) sc us pw hk hs hn hp port Rl pn pl hq q hf fg bare sp I] (I.length<=300000/\pl.length<=100000) (.int .i64 (RS.mk sc us pw hk hs hn hp port Rl pn pl hq q hf fg bare sp I).bj.2) [aE 1 (.raw (.pointer none)) sc us pw ((RS.mk sc us pw hk hs hn hp port Rl pn pl hq q hf fg bare sp I).bj.1.hk) ((RS.mk sc us pw hk hs hn hp port Rl pn pl hq q hf fg bare sp I).bj.1.hs) ((RS.mk sc us pw hk hs hn hp port Rl pn pl hq q hf fg bare sp I).bj.1.hn) ((RS.mk sc us pw hk hs hn hp port Rl pn pl hq q hf fg bare sp I).bj.1.hp) port Rl ((RS.mk sc us pw hk hs hn hp port Rl pn pl hq q hf fg bare sp I).bj.1.pn) ((RS.mk sc us pw hk hs hn hp port Rl pn pl hq q hf fg bare sp I).bj.1.pl) hq q hf fg bare sp ((RS.mk sc us pw hk hs hn hp port Rl pn pl hq q hf fg bare sp I).bj.1.I)]:=bT (by kernel_rfl) Em (H:=F4 sc us pw hk hs hn hp port Rl pn pl hq q hf fg bare sp I) (fuel:=1000) Tryz.func76 (by kernel_rfl) (Nat.le_of_ble_eq_true rfl) fun hpre=>(LP sc us pw hk hs hn hp port Rl pn pl hq q hf fg bare sp I _).mpr (by
 obtain ⟨hp1,hp2⟩:=hpre;have hl2:=dA I 2;have hs1:=oE sp I;have hB:∀k:PV->List PV->Prop,¬(aB sp I 0=true/\aB sp I 1=true)->(RS.mk sc us pw hk hs hn hp port Rl pn pl hq q hf fg bare sp I).bj=(({(RS.mk sc us pw hk hs hn hp port Rl pn pl hq q hf fg bare sp I)with hk:=1}:RS).shl.path,0):=fun _ h=>by
  unfold RS.bj;dsimp only;rw [if_neg h]
 refine ⟨⟨by omega,by omega⟩,fun h0=>⟨⟨by omega,by omega⟩,fun h1=>?_,fun h1=>?_⟩,fun h0=>⟨fun h=>(by cases h),fun _=>?_⟩⟩
 ·have hsl:=yv h1
  refine ⟨⟨by omega,by unfold ai at *;omega,Int.le_refl _⟩,(fun a=>⟨a,a⟩) ?_⟩;have he:=gJ (aa I 2) (fP sp++[63,35]);have he2:aj sp (aa I 2)<=(aa I 2).length:=he;have e0:(RS.mk sc us pw hk hs hn hp port Rl pn pl hq q hf fg bare sp I).bj=(if cc (ab (aa I 2) (aj sp (aa I 2)))=true then((RS.mk sc us pw 1 hs hn hp port Rl pn pl hq q hf fg bare sp (aa I 2)).path,0)else if(RS.mk sc us pw 1 hs hn hp port Rl pn pl hq q hf fg bare sp (aa I 2)).ay.2=0 then((RS.mk sc us pw 1 hs hn hp port Rl pn pl hq q hf fg bare sp (aa I 2)).ay.1.shl.path,0)else(RS.mk sc us pw 1 hs hn hp port Rl pn pl hq q hf fg bare sp (aa I 2)).ay):=by
   unfold RS.bj;dsimp only;rw [if_pos ⟨h0,h1⟩];rfl
  refine ⟨show(aa I 2).length<=300000 by omega,⟨Int.le_refl _,by omega,by unfold ai;omega⟩,trivial,fun h2=>⟨⟨by omega,hp2⟩,?_⟩,fun h2=>⟨show(aa I 2).length<=300000 by omega,fun h3=>?_,fun h3=>⟨trivial,⟨Nat.le_trans (oE sp _) (Nat.le_trans (dA _ _) (by omega)),hp2⟩,?_⟩⟩⟩
  ·rw [e0,if_pos h2];exact ⟨rfl,rfl⟩
  ·have h4:¬(RS.mk sc us pw 1 hs hn hp port Rl pn pl hq q hf fg bare sp (aa I 2)).ay.2=0:=by simpa using h3
   have er:=fp (RS.mk sc us pw 1 hs hn hp port Rl pn pl hq q hf fg bare sp (aa I 2));rw [e0,if_neg (by rw [h2];decide),if_neg h4];have e1:(RS.mk sc us pw 1 hs hn hp port Rl pn pl hq q hf fg bare sp (aa I 2)).ay.1.pn=pn:=by rw [er]
   have e2:(RS.mk sc us pw 1 hs hn hp port Rl pn pl hq q hf fg bare sp (aa I 2)).ay.1.pl=pl:=by rw [er]
   have e3:(RS.mk sc us pw 1 hs hn hp port Rl pn pl hq q hf fg bare sp (aa I 2)).ay.1.I=aa (aa I 2) (aj sp (aa I 2)):=by rw [er]
   rw [e1,e2,e3];exact ⟨rfl,rfl⟩
  ·have h4:(RS.mk sc us pw 1 hs hn hp port Rl pn pl hq q hf fg bare sp (aa I 2)).ay.2=0:=by simpa using h3
   have er:=fp (RS.mk sc us pw 1 hs hn hp port Rl pn pl hq q hf fg bare sp (aa I 2));have gen:∀G:RS,G={(RS.mk sc us pw 1 hs hn hp port Rl pn pl hq q hf fg bare sp (aa I 2))with hk:=G.hk,hs:=G.hs,hn:=G.hn,hp:=G.hp,I:=aa (aa I 2) (aj sp (aa I 2))}->G.shl=RS.mk sc us pw G.hk G.hs G.hn G.hp port Rl pn pl hq q hf fg bare sp (if aB sp (aa (aa I 2) (aj sp (aa I 2))) 0=true then aa (aa (aa I 2) (aj sp (aa I 2))) 1 else aa (aa I 2) (aj sp (aa I 2))):=fun G e=>by rw [e];rfl
   rw [e0,if_neg (by rw [h2];decide),if_pos h4,gen _ er];exact ⟨rfl,rfl⟩
 ·rw [hB (fun _ _=>True) (by rw [h1];simp)]
  exact ⟨trivial,fun _=>⟨trivial,⟨by omega,hp2⟩,rfl,rfl⟩,fun _=>⟨trivial,fun _=>⟨⟨by omega,hp2⟩,rfl,rfl⟩,fun h=>(by cases h)⟩⟩
 ·rw [hB (fun _ _=>True) (by rw [show aB sp I 0=false from h0];simp)]
  exact ⟨trivial,fun _=>⟨trivial,⟨by omega,hp2⟩,rfl,rfl⟩,fun _=>⟨trivial,fun _=>⟨⟨by omega,hp2⟩,rfl,rfl⟩,fun h=>(by cases h)⟩⟩)
theorem LQ(sc us pw:Bs)(hk:Int)(hs:Bs)(hn:Int)(hp:List Int)(port:Int)(Rl pn:Bool)(pl:List Bs)(hq:Bool)(q:Bs)(hf:Bool)(fg:Bs)(bare sp:Bool)(I:Bs):ae Tryz.prog az 76 [.ptr 0 0,aE 1 (.raw (.pointer none)) sc us pw hk hs hn hp port Rl pn pl hq q hf fg bare sp I] ⟨I.length<=300000/\pl.length<=100000,.tup [.int .i64 (RS.mk sc us pw hk hs hn hp port Rl pn pl hq q hf fg bare sp I).bj.2,aE 1 (.raw (.pointer none)) sc us pw ((RS.mk sc us pw hk hs hn hp port Rl pn pl hq q hf fg bare sp I).bj.1.hk) ((RS.mk sc us pw hk hs hn hp port Rl pn pl hq q hf fg bare sp I).bj.1.hs) ((RS.mk sc us pw hk hs hn hp port Rl pn pl hq q hf fg bare sp I).bj.1.hn) ((RS.mk sc us pw hk hs hn hp port Rl pn pl hq q hf fg bare sp I).bj.1.hp) port Rl ((RS.mk sc us pw hk hs hn hp port Rl pn pl hq q hf fg bare sp I).bj.1.pn) ((RS.mk sc us pw hk hs hn hp port Rl pn pl hq q hf fg bare sp I).bj.1.pl) hq q hf fg bare sp ((RS.mk sc us pw hk hs hn hp port Rl pn pl hq q hf fg bare sp I).bj.1.I)]⟩:=ae.aZ (fun h=>by have e:List.isEmpty (PV.aC PV.bU [.ptr 0 0,aE 1 (.raw (.pointer none)) sc us pw hk hs hn hp port Rl pn pl hq q hf fg bare sp I])=false:=(by kernel_rfl);exact Bool.noConfusion (e.symm.trans (congrArg List.isEmpty h))) (En sc us pw hk hs hn hp port Rl pn pl hq q hf fg bare sp I)
def pT:List PV->Option aD:=fun xs=>match xs with
 |[.ptr 0 0,aE 1 (.raw (.pointer none)) sc us pw hk hs hn hp port Rl pn pl hq q hf fg bare sp I]=>some ⟨I.length<=300000/\pl.length<=100000,.tup [.int .i64 (RS.mk sc us pw hk hs hn hp port Rl pn pl hq q hf fg bare sp I).bj.2,aE 1 (.raw (.pointer none)) sc us pw ((RS.mk sc us pw hk hs hn hp port Rl pn pl hq q hf fg bare sp I).bj.1.hk) ((RS.mk sc us pw hk hs hn hp port Rl pn pl hq q hf fg bare sp I).bj.1.hs) ((RS.mk sc us pw hk hs hn hp port Rl pn pl hq q hf fg bare sp I).bj.1.hn) ((RS.mk sc us pw hk hs hn hp port Rl pn pl hq q hf fg bare sp I).bj.1.hp) port Rl ((RS.mk sc us pw hk hs hn hp port Rl pn pl hq q hf fg bare sp I).bj.1.pn) ((RS.mk sc us pw hk hs hn hp port Rl pn pl hq q hf fg bare sp I).bj.1.pl) hq q hf fg bare sp ((RS.mk sc us pw hk hs hn hp port Rl pn pl hq q hf fg bare sp I).bj.1.I)]⟩
 |_=>none
theorem yW:∀xs c,pT xs=some c->ae Tryz.prog az 76 xs c:=fun xs c h=>by
 unfold pT at h;split at h
 ·injection h with h;subst h;exact LQ _ _ _ _ _ _ _ _ _ _ _ _ _ _ _ _ _ _
 ·cases h
end
section
def wW:cM:=bS [(119,oo),(27,eR)]
def wX(sc us pw:Bs)(hk:Int)(hs:Bs)(hn:Int)(hp:List Int)(port:Int)(Rl pn:Bool)(pl:List Bs)(hq:Bool)(q:Bs)(hf:Bool)(fg:Bs)(bare sp:Bool)(I:Bs):aP:=fun i=>none
theorem yX:df Tryz.prog az wW:=ah qI (ah eS ax)
theorem Eo(sc us pw:Bs)(hk:Int)(hs:Bs)(hn:Int)(hp:List Int)(port:Int)(Rl pn:Bool)(pl:List Bs)(hq:Bool)(q:Bs)(hf:Bool)(fg:Bs)(bare sp:Bool)(I:Bs)(k:PV->List PV->Prop):b9 Tryz.prog wW az (wX sc us pw hk hs hn hp port Rl pn pl hq q hf fg bare sp I) 1000 Tryz.f75 [.ptr 0 0] [aE 1 (.raw (.pointer none)) sc us pw hk hs hn hp port Rl pn pl hq q hf fg bare sp I] k=(
 (List.length I<=300000/\
 (ak I I 0).2.2=false)/\
 (false=true->
 True/\
 ((!false)=true->
 False)/\
 ((!false)=true->
 False)/\
 ((!false)=true->
 False)/\
 False)/\
 (false=false->
 (true=true->
 (true=true->
 k (PV.int .i64 8) [ct (PV.raw (Go.Value.pointer none)) 1 sc us pw hk hs hn hp port Rl pn pl hq q hf fg bare sp I])/\
 (true=false->
 False))/\
 (true=false->
 False))):=by kernel_rfl
attribute [local irreducible] Go.Vc.cD Go.Vc.b9
theorem yY(sc us pw:Bs)(hk:Int)(hs:Bs)(hn:Int)(hp:List Int)(port:Int)(Rl pn:Bool)(pl:List Bs)(hq:Bool)(q:Bs)(hf:Bool)(fg:Bs)(bare sp:Bool)(I:Bs):bE Tryz.prog az 75 [.ptr 0 0] [aE 1 (.raw (.pointer none)) sc us pw hk hs hn hp port Rl pn pl hq q hf fg bare sp I] (I.length<=300000/\(ak I I 0).2.2=false) (.int .i64 8) [aE 1 (.raw (.pointer none)) sc us pw hk hs hn hp port Rl pn pl hq q hf fg bare sp I]:=bT (by kernel_rfl) yX (H:=wX sc us pw hk hs hn hp port Rl pn pl hq q hf fg bare sp I) (fuel:=1000) Tryz.func75 (by kernel_rfl) (Nat.le_of_ble_eq_true rfl) fun hpre=>(Eo sc us pw hk hs hn hp port Rl pn pl hq q hf fg bare sp I _).mpr (by
 exact ⟨hpre,fun h=>(by cases h),fun _=>⟨fun _=>⟨fun _=>⟨rfl,rfl⟩,fun h=>(by cases h)⟩,fun h=>(by cases h)⟩⟩)
theorem Ep(sc us pw:Bs)(hk:Int)(hs:Bs)(hn:Int)(hp:List Int)(port:Int)(Rl pn:Bool)(pl:List Bs)(hq:Bool)(q:Bs)(hf:Bool)(fg:Bs)(bare sp:Bool)(I:Bs):ae Tryz.prog az 75 [.ptr 0 0,aE 1 (.raw (.pointer none)) sc us pw hk hs hn hp port Rl pn pl hq q hf fg bare sp I] ⟨I.length<=300000/\(ak I I 0).2.2=false,.tup [.int .i64 8,aE 1 (.raw (.pointer none)) sc us pw hk hs hn hp port Rl pn pl hq q hf fg bare sp I]⟩:=ae.aZ (fun h=>by have e:List.isEmpty (PV.aC PV.bU [.ptr 0 0,aE 1 (.raw (.pointer none)) sc us pw hk hs hn hp port Rl pn pl hq q hf fg bare sp I])=false:=(by kernel_rfl);exact Bool.noConfusion (e.symm.trans (congrArg List.isEmpty h))) (yY sc us pw hk hs hn hp port Rl pn pl hq q hf fg bare sp I)
def lA:List PV->Option aD:=fun xs=>match xs with
 |[.ptr 0 0,aE 1 (.raw (.pointer none)) sc us pw hk hs hn hp port Rl pn pl hq q hf fg bare sp I]=>some ⟨I.length<=300000/\(ak I I 0).2.2=false,.tup [.int .i64 8,aE 1 (.raw (.pointer none)) sc us pw hk hs hn hp port Rl pn pl hq q hf fg bare sp I]⟩
 |_=>none
theorem tU:∀xs c,lA xs=some c->ae Tryz.prog az 75 xs c:=fun xs c h=>by
 unfold lA at h;split at h
 ·injection h with h;subst h;exact Ep _ _ _ _ _ _ _ _ _ _ _ _ _ _ _ _ _ _
 ·cases h
end
section
def BI:cM:=bS [(75,lA),(77,iG),(78,dP)]
def BJ(sc us pw:Bs)(hk:Int)(hs:Bs)(hn:Int)(hp:List Int)(port:Int)(pn:Bool)(pl:List Bs)(hq:Bool)(q:Bs)(hf:Bool)(fg:Bs)(bare sp:Bool)(I:Bs):aP:=fun i=>none
theorem BK:df Tryz.prog az BI:=ah tU (ah iB (ah dq ax))
theorem IG(sc us pw:Bs)(hk:Int)(hs:Bs)(hn:Int)(hp:List Int)(port:Int)(pn:Bool)(pl:List Bs)(hq:Bool)(q:Bs)(hf:Bool)(fg:Bs)(bare sp:Bool)(I:Bs)(k:PV->List PV->Prop):b9 Tryz.prog BI az (BJ sc us pw hk hs hn hp port pn pl hq q hf fg bare sp I) 1000 Tryz.f47 [.ptr 0 0] [aE 1 (.raw (.pointer none)) sc us pw hk hs hn hp port false pn pl hq q hf fg bare sp I] k=(
 (List.length I<=300000/\
 (ak I I 0).2.2=false)/\
 ((!decide ((8:Int)=0))=true->
 k (PV.int .i64 8) [ct (PV.raw (Go.Value.pointer none)) 1 sc us pw hk hs hn hp port false pn pl hq q hf fg bare sp I])/\
 ((!decide ((8:Int)=0))=false->
 (false=true->
 False)/\
 (false=false->
 (decide (sc=(bL #[102,105,108,101]))=true->
 False)/\
 (decide (sc=(bL #[102,105,108,101]))=false->
 (bare=false->
 (sp=true->
 True/\
 (false=false->
 false=true->
 True)/\
 (false=true->
 False)/\
 (false=false->
 (sp=true->
 False)/\
 (sp=false->
 False)))/\
 (sp=!true->
 (false=false->
 false=true->
 True)/\
 (false=true->
 False)/\
 (false=false->
 (sp=true->
 False)/\
 (sp=false->
 False))))/\
 (bare=!false->
 ((!false)=false->
 false=true->
 True)/\
 (true=true->
 False)/\
 (true=false->
 (sp=true->
 False)/\
 (sp=false->
 False))))))):=by kernel_rfl
attribute [local irreducible] Go.Vc.cD Go.Vc.b9
theorem BL(sc us pw:Bs)(hk:Int)(hs:Bs)(hn:Int)(hp:List Int)(port:Int)(pn:Bool)(pl:List Bs)(hq:Bool)(q:Bs)(hf:Bool)(fg:Bs)(bare sp:Bool)(I:Bs):bE Tryz.prog az 47 [.ptr 0 0] [aE 1 (.raw (.pointer none)) sc us pw hk hs hn hp port false pn pl hq q hf fg bare sp I] (I.length<=300000/\(ak I I 0).2.2=false) (.int .i64 (RS.mk sc us pw hk hs hn hp port false pn pl hq q hf fg bare sp I).ao.2) [aE 0 (.raw (.pointer none)) ((RS.mk sc us pw hk hs hn hp port false pn pl hq q hf fg bare sp I).ao.1.sc) ((RS.mk sc us pw hk hs hn hp port false pn pl hq q hf fg bare sp I).ao.1.us) ((RS.mk sc us pw hk hs hn hp port false pn pl hq q hf fg bare sp I).ao.1.pw) ((RS.mk sc us pw hk hs hn hp port false pn pl hq q hf fg bare sp I).ao.1.hk) ((RS.mk sc us pw hk hs hn hp port false pn pl hq q hf fg bare sp I).ao.1.hs) ((RS.mk sc us pw hk hs hn hp port false pn pl hq q hf fg bare sp I).ao.1.hn) ((RS.mk sc us pw hk hs hn hp port false pn pl hq q hf fg bare sp I).ao.1.hp) ((RS.mk sc us pw hk hs hn hp port false pn pl hq q hf fg bare sp I).ao.1.port) ((RS.mk sc us pw hk hs hn hp port false pn pl hq q hf fg bare sp I).ao.1.Rl) ((RS.mk sc us pw hk hs hn hp port false pn pl hq q hf fg bare sp I).ao.1.pn) ((RS.mk sc us pw hk hs hn hp port false pn pl hq q hf fg bare sp I).ao.1.pl) ((RS.mk sc us pw hk hs hn hp port false pn pl hq q hf fg bare sp I).ao.1.hq) ((RS.mk sc us pw hk hs hn hp port false pn pl hq q hf fg bare sp I).ao.1.q) ((RS.mk sc us pw hk hs hn hp port false pn pl hq q hf fg bare sp I).ao.1.hf) ((RS.mk sc us pw hk hs hn hp port false pn pl hq q hf fg bare sp I).ao.1.fg) ((RS.mk sc us pw hk hs hn hp port false pn pl hq q hf fg bare sp I).ao.1.bare) ((RS.mk sc us pw hk hs hn hp port false pn pl hq q hf fg bare sp I).ao.1.sp) ((RS.mk sc us pw hk hs hn hp port false pn pl hq q hf fg bare sp I).ao.1.I)]:=xA (by kernel_rfl) BK (H:=BJ sc us pw hk hs hn hp port pn pl hq q hf fg bare sp I) (fuel:=1000) Tryz.func47 (by kernel_rfl) (Nat.le_of_ble_eq_true rfl) fun hpre=>(IG sc us pw hk hs hn hp port pn pl hq q hf fg bare sp I _).mpr (by
 have e:(RS.mk sc us pw hk hs hn hp port false pn pl hq q hf fg bare sp I).ao=((RS.mk sc us pw hk hs hn hp port false pn pl hq q hf fg bare sp I),8):=by
  unfold RS.ao;rw [show(RS.mk sc us pw hk hs hn hp port false pn pl hq q hf fg bare sp I).iz=((RS.mk sc us pw hk hs hn hp port false pn pl hq q hf fg bare sp I),8)from if_neg (by show ¬(ak I I 0).2.2=true;rw [hpre.2];decide)];rfl
 rw [e];exact ⟨hpre,fun _=>⟨rfl,rfl⟩,fun h=>absurd h (by decide)⟩)
end
section
def oF(l:Bs):H5:=if ar l (l.length-1)=93/\(dj ((l.take (l.length-1)).drop 1)).2=true then(4,[],0,(dj ((l.take (l.length-1)).drop 1)).1,0)else ob 8
def jm(d:Bs):H5:=if pG d=true then ob 9 else if d=[]\/iy d true=true then ob 8 else if sT d=true then(if jP d=true then(3,[],cj d,z8,0)else ob 8)else(2,d,0,z8,0)
def eh(l:Bs)(sp:Bool):H5:=if 0<l.length/\ar l 0=91 then oF l else if sp=false then(if iy l false=true then ob 8 else if l=[]then(1,[],0,z8,0)else(5,wu l,0,z8,0))else jm (br (bI l))
def F5:cM:=bS [(33,mH),(34,lg),(35,sV),(37,py),(36,mI),(38,km),(39,pB),(40,pC)]
def F6(l:Bs)(sp:Bool):aP:=fun i=>none
theorem Er:df Tryz.prog az F5:=ah uz (ah s5 (ah AR (ah yb (ah uA (ah ra (ah yj (ah yk (ax))))))))
theorem LR(l:Bs)(sp:Bool)(k:PV->Prop):cD Tryz.prog F5 az (F6 l sp) 1000 Tryz.f25 [.str l,.bool sp] k=(
 (decide ((0:Int)<ai l)=true->within (0:Int) (ai l))/\
 ((bif decide ((0:Int)<ai l)then decide (ag l 0=91)else false)=true->
 av (ai l-1)/\
 within (ai l-1) (ai l)/\
 ((!decide (ag l (ai l-1)=93))=true->
 k
 (PV.tup
 [PV.agg
 [PV.int .i64 0,PV.str [],PV.int .u32 0,
 PV.arr 8 (al.ints .u16 (List.replicate (8:Nat) 0))],
 PV.int .i64 8]))/\
 ((!decide (ag l (ai l-1)=93))=false->
 av (ai l-1)/\
 upto 1 (ai l-1) (ai l)/\
 (bZ l 1 (ai l-1)).length.le 1000/\
 ((!(dj (bZ l 1 (ai l-1))).2)=true->
 k
 (PV.tup
 [PV.agg
 [PV.int .i64 0,PV.str [],PV.int .u32 0,
 PV.arr 8 (al.ints .u16 (List.replicate (8:Nat) 0))],
 PV.int .i64 8]))/\
 ((!(dj (bZ l 1 (ai l-1))).2)=false->
 k
 (PV.tup
 [PV.agg
 [PV.int .i64 4,PV.str [],PV.int .u32 0,
 PV.arr 8
 (al.ints .u16
 (dj (bZ l 1 (ai l-1))).1)],
 PV.int .i64 0]))))/\
 ((bif decide ((0:Int)<ai l)then decide (ag l 0=91)else false)=false->
 ((!sp)=true->
 (List.length l).le 1000000/\
 (iy l false=true->
 k
 (PV.tup
 [PV.agg
 [PV.int .i64 0,PV.str [],PV.int .u32 0,
 PV.arr 8 (al.ints .u16 (List.replicate (8:Nat) 0))],
 PV.int .i64 8]))/\
 (iy l false=false->
 (decide (l=(bL #[]))=true->
 k
 (PV.tup
 [PV.agg
 [PV.int .i64 1,PV.str [],PV.int .u32 0,
 PV.arr 8 (al.ints .u16 (List.replicate (8:Nat) 0))],
 PV.int .i64 0]))/\
 (decide (l=(bL #[]))=false->
 (List.length l).le 300000/\
 k
 (PV.tup
 [PV.agg
 [PV.int .i64 5,PV.str (wu l),
 PV.int .u32 0,
 PV.arr 8 (al.ints .u16 (List.replicate (8:Nat) 0))],
 PV.int .i64 0]))))/\
 ((!sp)=false->
 (List.length l).le 1000000/\
 (List.length (bI l)).le 1000000/\
 (List.length (br (bI l))).le 1000/\
 (pG (br (bI l))=true->
 k
 (PV.tup
 [PV.agg
 [PV.int .i64 0,PV.str [],PV.int .u32 0,
 PV.arr 8 (al.ints .u16 (List.replicate (8:Nat) 0))],
 PV.int .i64 9]))/\
 (pG (br (bI l))=false->
 (decide (br (bI l)=(bL #[]))=false->
 (List.length (br (bI l))).le 1000000)/\
 ((bif decide (br (bI l)=(bL #[]))then
 true
 else
 iy (br (bI l))
 true)=
 true->
 k
 (PV.tup
 [PV.agg
 [PV.int .i64 0,PV.str [],PV.int .u32 0,
 PV.arr 8 (al.ints .u16 (List.replicate (8:Nat) 0))],
 PV.int .i64 8]))/\
 ((bif
 decide
 (br (bI l)=(bL #[]))then
 true
 else
 iy (br (bI l))
 true)=
 false->
 (List.length (br (bI l))).le 1000000/\
 (sT (br (bI l))=
 true->
 (List.length (br (bI l))).le 1000000/\
 ((!jP
 (br (bI l)))=
 true->
 k
 (PV.tup
 [PV.agg
 [PV.int .i64 0,PV.str [],PV.int .u32 0,
 PV.arr 8 (al.ints .u16 (List.replicate (8:Nat) 0))],
 PV.int .i64 8]))/\
 ((!jP
 (br (bI l)))=
 false->
 k
 (PV.tup
 [PV.agg
 [PV.int .i64 3,PV.str [],
 PV.int .u32
 (cj
 (br (bI l))),
 PV.arr 8 (al.ints .u16 (List.replicate (8:Nat) 0))],
 PV.int .i64 0])))/\
 (sT
 (br (bI l))=
 false->
 k
 (PV.tup
 [PV.agg
 [PV.int .i64 2,
 PV.str (br (bI l)),
 PV.int .u32 0,
 PV.arr 8 (al.ints .u16 (List.replicate (8:Nat) 0))],
 PV.int .i64 0]))))))):=by kernel_rfl
attribute [local irreducible] Go.Vc.cD
theorem LU(l:Bs)(sp:Bool):ae Tryz.prog az 25 [.str l,.bool sp] ⟨l.length<=1000,.tup [.agg [.int .i64 (eh l sp).1,.str (eh l sp).2.1,.int .u32 (eh l sp).2.2.1,.arr 8 (.ints .u16 (eh l sp).2.2.2.1)],.int .i64 (eh l sp).2.2.2.2]⟩:=bR (by kernel_rfl) Er (H:=F6 l sp) (fuel:=1000) Tryz.func25 (by kernel_rfl) fun hpre=>(LR l sp _).mpr (by
 have hl:l.length<=1000:=hpre;have e0:(bif decide ((0:Int)<ai l)then decide (ag l 0=91)else false)=decide (0<l.length/\ar l 0=91):=by
  by_cases h:0<l.length
  ·rw [decide_eq_true (show(0:Int)<ai l by unfold ai;omega),cond_true,decide_eq_decide]
   exact ⟨fun g=>⟨h,g⟩,fun g=>g.2⟩
  ·rw [decide_eq_false (show ¬(0:Int)<ai l by unfold ai;omega),cond_false]
   symm;exact decide_eq_false fun g=>h g.1
 rw [e0];have notE:∀b:Bool,(!b)=true->b=false:=fun b h=>by cases b;rfl;cases h
 have notF:∀b:Bool,(!b)=false->b=true:=fun b h=>by cases b;cases h;rfl
 refine ⟨fun h=>?_,fun h=>?_,fun h=>?_⟩
 ·have:=of_decide_eq_true h;unfold within;omega
 ·have hb:=of_decide_eq_true h
  have hb1:=hb.1;have e1:ag l (ai l-1)=ar l (l.length-1):=by unfold ag ar ai;congr 2;congr 1;omega
  have e2:bZ l 1 (ai l-1)=(l.take (l.length-1)).drop 1:=by
   unfold bZ ai;rw [show((l.length:Int)-1).toNat=l.length-1 by omega];rfl
  have hR:eh l sp=oF l:=by unfold eh;rw [if_pos hb]
  rw [e1,e2,hR];refine ⟨by unfold av ai;omega,by unfold within ai;omega,fun h2=>?_,fun h2=>?_⟩
  ·have h3:¬ar l (l.length-1)=93:=of_decide_eq_false (notE _ h2)
   have:oF l=ob 8:=by unfold oF;rw [if_neg (fun g=>h3 g.1)]
   rw [this];rfl
  ·have h3:ar l (l.length-1)=93:=of_decide_eq_true (notF _ h2)
   have h4:2<=l.length:=by
    have hb2:=hb.2;by_cases g:l.length=1
    ·rw [g]at h3;rw [h3]at hb2;omega
    ·omega
   refine ⟨by unfold av ai;omega,⟨by omega,by unfold ai;omega,by unfold ai;omega⟩,?_,fun h5=>?_,fun h5=>?_⟩
   ·show((l.take (l.length-1)).drop 1).length<=1000
    rw [List.length_drop,List.length_take];omega
   ·have h6:=notE _ h5
    have:oF l=ob 8:=by unfold oF;rw [if_neg (fun g=>by rw [h6]at g;cases g.2)]
    rw [this];rfl
   ·have h6:=notF _ h5
    have:oF l=(4,[],0,(dj ((l.take (l.length-1)).drop 1)).1,0):=by unfold oF;rw [if_pos ⟨h3,h6⟩]
    rw [this]
 ·have hb:=of_decide_eq_false h
  refine ⟨fun h2=>?_,fun h2=>?_⟩
  ·have hs:=notE _ h2
   subst hs;have hR:eh l false=if iy l false=true then ob 8 else if l=[]then(1,[],0,z8,0)else(5,wu l,0,z8,0):=by unfold eh;rw [if_neg hb,if_pos rfl]
   rw [hR];refine ⟨Nat.le_trans hl (by decide),fun h3=>?_,fun h3=>⟨fun h4=>?_,fun h4=>⟨Nat.le_trans hl (by decide),?_⟩⟩⟩
   ·rw [if_pos h3];rfl
   ·have h4':l=[]:=of_decide_eq_true h4
    rw [if_neg (by rw [h3];decide),if_pos h4'];rfl
   ·have h4':¬l=[]:=of_decide_eq_false h4
    rw [if_neg (by rw [h3];decide),if_neg h4'];rfl
  ·have hs:=notF _ h2
   subst hs;have hd1:=od l;have hd2:=A1 (bI l);have hR:eh l true=jm (br (bI l)):=by unfold eh;rw [if_neg hb,if_neg (by decide)]
   rw [hR];have hd:(br (bI l)).length<=1000:=by omega
   obtain ⟨d,hdd⟩:∃d,br (bI l)=d:=⟨_,rfl⟩;rw [hdd]at hd⊢;have hd6:d.length<=1000000:=by omega
   refine ⟨Nat.le_trans hl (by decide),Nat.le_trans (Nat.le_trans hd1 hl) (by decide),hd,fun h3=>?_,fun h3=>⟨fun _=>hd6,fun h4=>?_,fun h4=>⟨hd6,fun h5=>⟨hd6,fun h6=>?_,fun h6=>?_⟩,fun h5=>?_⟩⟩⟩
   ·have:jm d=ob 9:=by unfold jm;rw [if_pos h3]
    rw [this];rfl
   ·have h5:d=[]\/iy d true=true:=by
     cases e:decide (d=(bL #[]))with
     |true=>exact .inl (of_decide_eq_true e)
     |false=>rw [e]at h4;exact .inr h4
    have:jm d=ob 8:=by unfold jm;rw [if_neg (by rw [h3];decide),if_pos h5]
    rw [this];rfl
   all_goals (have h7:¬(d=[]\/iy d true=true):=(by
    cases e:decide (d=(bL #[]))with
    |true=>rw [e]at h4;cases h4
    |false=>
     rw [e]at h4;have e2:¬d=[]:=of_decide_eq_false e;have h8:iy d true=false:=h4
     rintro (g|g)
     ·exact e2 g
     ·rw [h8]at g;cases g))
   ·have h8:=notE _ h6
    have:jm d=ob 8:=by unfold jm;rw [if_neg (by rw [h3];decide),if_neg h7,if_pos h5,if_neg (by rw [h8];decide)]
    rw [this];rfl
   ·have h8:=notF _ h6
    have:jm d=(3,[],cj d,z8,0):=by unfold jm;rw [if_neg (by rw [h3];decide),if_neg h7,if_pos h5,if_pos h8]
    rw [this];rfl
   ·have:jm d=(2,d,0,z8,0):=by unfold jm;rw [if_neg (by rw [h3];decide),if_neg h7,if_neg (by rw [h5];decide)]
    rw [this];rfl)
def pU:List PV->Option aD:=fun xs=>match xs with
 |[.str l,.bool sp]=>some ⟨l.length<=1000,.tup [.agg [.int .i64 (eh l sp).1,.str (eh l sp).2.1,.int .u32 (eh l sp).2.2.1,.arr 8 (.ints .u16 (eh l sp).2.2.2.1)],.int .i64 (eh l sp).2.2.2.2]⟩
 |_=>none
theorem yZ:∀xs c,pU xs=some c->ae Tryz.prog az 25 xs c:=fun xs c h=>by
 unfold pU at h;split at h
 ·injection h with h;subst h;exact LU _ _
 ·cases h
end
theorem tV(a b:Bs){i:Nat}(h:i<a.length):ar (a++b) i=ar a i:=by
 unfold ar;simp [List.getD,List.getElem?_append_left h]
theorem Es(a:Bs)(c:UInt8)(b:Bs):ar (a++c::b) a.length=c.toNat:=by
 unfold ar;simp [List.getD]
theorem LV(a:Bs)(c:UInt8)(b:Bs)(hc:c.toNat<128):∀(j i:Nat) (r lo hi:Int),i<=a.length->128<=lo->nl (a++c::b) j i r lo hi=nl a j i r lo hi
 |0,i,r,lo,hi,_,_=>rfl
 |j+1,i,r,lo,hi,h,hlo=>by
  by_cases hl:i<a.length
  ·have hb:=tV a (c::b) hl
   have hl2:i<(a++c::b).length:=by rw [List.length_append];omega
   by_cases g:lo<=ar a i/\ar a i<=hi
   ·rw [fC ⟨hl,g⟩,fC ⟨hl2,by rw [hb];exact g⟩,hb]
    exact LV a c b hc j (i+1) _ 128 191 (by omega) (by omega)
   ·rw [iQ (fun e=>g e.2),iQ (fun e=>g (by rw [<-hb];exact e.2))]
  ·have e:i=a.length:=by omega
   subst e;rw [iQ (l:=a++c::b) (fun e=>by have:=e.2.1;rw [Es]at this;omega),iQ (l:=a) (fun e=>by omega)]
theorem IH {a:Bs}(c:UInt8)(b:Bs)(hc:c.toNat<128)(h:0<a.length):aL (a++c::b)=aL a:=by
 have hb:=tV a (c::b) h;unfold aL;rw [hb,if_neg (by rw [List.length_append];omega),if_neg (show ¬a.length=0 by omega)];rcases iD (ar a 0)with e|⟨m,lo,hi,e,-,-,h3,-⟩
 ·rw [e];rfl
 ·rw [e]
  dsimp only;rw [LV a c b hc _ 1 _ _ _ (by omega) h3]
theorem LW(c:UInt8)(b:Bs)(hc:c.toNat<128):∀(n:Nat) (a:Bs),a.length<=n->dv (a++c::b)=dv a++(c.toNat:Int)::dv b:=by
 have h1:dv (c::b)=(c.toNat:Int)::dv b:=by
  rw [dW (by simp),rA (by simp) (by rw [dh];omega),dh];rfl
 intro n
 induction n with
 |zero=>
  intro a h;have:a=[]:=List.eq_nil_of_length_eq_zero (by omega);subst this;rw [List.nil_append,h1];rfl
 |succ n ih=>
  intro a h;by_cases h0:a.length=0
  ·have:a=[]:=List.eq_nil_of_length_eq_zero h0
   subst this;rw [List.nil_append,h1];rfl
  ·have hn:=eJ a (by omega)
   rw [dW (by rw [List.length_append];omega),dW (l:=a) (by omega),IH c b hc (by omega),List.drop_append_of_le_length hn.2.1,ih _ (by rw [List.length_drop];omega)];rfl
theorem pV(a:Bs)(c:UInt8)(b:Bs)(hc:c.toNat<128):aF (a++c::b)=aF a++c::aF b:=by
 unfold aF;rw [LW c b hc _ a (Nat.le_refl _),kS];congr 1;show encR (dN _)++_=_;have h:dN (c.toNat:Int)=c.toNat:=lG ⟨by omega,by omega,by omega⟩;rw [h];unfold encR;rw [if_pos (by omega),vD];rfl
theorem wY(l:Bs)(h:0<l.length):encR (dN (aL l).1)=l.take (aL l).2.1\/encR (dN (aL l).1)=[239,191,189]:=by
 cases hv:(aL l).2.2 with
 |true=>
  obtain ⟨h1,h2,-⟩:=j9 (l:=l) (r:=(aL l).1) (n:=(aL l).2.1) (by rw [<-hv]);rw [lG h1];exact .inl h2
 |false=>
  rw [((eJ l h).2.2.2 hv).1];exact .inr (by decide)
theorem mY(l:Bs)(h:0<l.length):aF l=encR (dN (aL l).1)++aF (l.drop (aL l).2.1):=by
 unfold aF;rw [dW h];rfl
theorem pW:∀(n:Nat) (l:Bs),l.length<=n->∀b∈aF l,b∈l\/128<=b.toNat:=by
 intro n
 induction n with
 |zero=>
  intro l h b hb;have:l=[]:=List.eq_nil_of_length_eq_zero (by omega);subst this;cases hb
 |succ n ih=>
  intro l h b hb;by_cases h0:l.length=0
  ·have:l=[]:=List.eq_nil_of_length_eq_zero h0
   subst this;cases hb
  ·have hn:=eJ l (by omega)
   rw [mY l (by omega)]at hb;rcases List.mem_append.1 hb with hb|hb
   ·rcases wY l (by omega)with e|e
    ·rw [e]at hb;exact .inl (List.mem_of_mem_take hb)
    ·rw [e]at hb
     right;have:∀x:UInt8,x∈([239,191,189]:Bs)->128<=x.toNat:=by decide
     exact this b hb
   ·rcases ih _ (by rw [List.length_drop];omega) b hb with h1|h1
    ·exact .inl (List.mem_of_mem_drop h1)
    ·exact .inr h1
theorem BM(l:Bs):aF (aF l)=aF l:=iu (vE _).2
theorem Et(k:Int)(l:Bs):bz k (aF l)=bz k l:=by unfold bz;rw [BM]
theorem Eu {l:Bs}{y:UInt8}(h:l.getLast?=some y)(hy:32<y.toNat):dt l=l:=by
 unfold dt;rw [<-List.head?_reverse]at h;cases hr:l.reverse with
 |nil=>rw [hr]at h;cases h
 |cons b t=>
  rw [hr]at h;injection h with h
  subst h;rw [List.dropWhile_cons_of_neg (by unfold pI;rw [decide_eq_true_iff];omega),<-hr,List.reverse_reverse]
theorem Ev {l:Bs}(h:∀b,l.head?=some b->32<b.toNat):dZ l=l:=by
 unfold dZ;cases l with
 |nil=>rfl
 |cons b t=>
  have:=h b rfl;rw [List.dropWhile_cons_of_neg (by unfold pI;rw [decide_eq_true_iff];omega)]
theorem LX {l:Bs}(h:∀b∈l,32<=b.toNat):l.filter (fun b=>!kn b)=l:=by
 rw [List.filter_eq_self];intro b hb;have:=h b hb;unfold kn;rw [Bool.not_eq_true',decide_eq_false_iff_not]
 rintro (rfl|rfl|rfl)<;>revert this<;>decide
end Go.Proofs.YtmfapopclbnlpaaGreatDoor
