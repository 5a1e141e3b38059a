import Derived.Lib.Hide
set_option linter.unusedVariables false
set_option linter.unusedSimpArgs false
namespace Go.Proofs.YtmfapopclbnlpaaGreatDoor
def cU(c:Int):Int:=if 48≤c∧c≤57 then c-48 else if 97≤c∧c≤102 then c-87 else if 65≤c∧c≤70 then c-55 else -1
theorem pg(c:Int):-1≤cU c∧cU c≤15:=by unfold cU;(repeat' split)<;>omega
def aN(l:List UInt8)(i:Nat):Int:=((l.getD i 0).toNat:Int)
theorem dD(l:List UInt8)(i:Nat):0≤aN l i:=by unfold aN;omega
theorem dE(l:List UInt8)(i:Nat):aN l i≤255:=by unfold aN;have:=(l.getD i 0).toNat_lt;omega
theorem EK(l:List UInt8)(k i:Nat):aN (l.drop k) i=aN l (k+i):=by
 unfold aN;simp [List.getD,List.getElem?_drop]
def eV(c:Int):Int×Int×Int:=
 if c<194∨244<c then(0,0,0)
 else if c≤223 then(1,128,191)
 else if c=224 then(2,160,191)
 else if c=237 then(2,128,159)
 else if c≤239 then(2,128,191)
 else if c=240 then(3,144,191)
 else if c=244 then(3,128,143)
 else(3,128,191)
theorem sS(c:Int):eV c=(0,0,0)∨∃m lo hi,eV c=(m,lo,hi)∧1≤m∧m≤3∧128≤lo∧lo≤191∧128≤hi∧hi≤191:=by
 unfold eV
 (repeat' split)<;>first|(left;rfl)|(right;exact ⟨_,_,_,rfl,by decide,by decide,by decide,by decide,by decide,by decide⟩)
def nl(l:List UInt8):Nat→Nat→Int→Int→Int→Int×Nat×Bool
 |0,i,r,_,_=>(r,i,true)
 |k+1,i,r,lo,hi=>if i<l.length∧lo≤aN l i∧aN l i≤hi then nl l k (i+1) (r*64+aN l i %64) 128 191 else(65533,i,false)
def bE(l:List UInt8):Int×Nat×Bool:=
 if l.length=0 then(0,0,false)
 else if aN l 0≤127 then(aN l 0,1,true)
 else if(eV (aN l 0)).1=0 then(65533,1,false)
 else nl l (eV (aN l 0)).1.toNat 1 (aN l 0 %2^(6-(eV (aN l 0)).1.toNat)) (eV (aN l 0)).2.1 (eV (aN l 0)).2.2
def J8(k:Nat):Int:=if k≤1 then 32 else if k=2 then 2048 else if k=3 then 131072 else 8388608
theorem J9 {k:Nat}(h:k≤3):J8 k≤131072:=by unfold J8;(repeat' split)<;>omega
theorem EL {k:Nat}{R x:Int}(h1:1≤k)(h:k≤3)(hr:R<J8 k):R*64+x %64<J8 (k+1):=by
 unfold J8 at *;(repeat' split)<;>(repeat' split at hr)<;>omega
theorem ph {l:List UInt8}{k:Nat}{R L H:Int}:nl l 0 k R L H=(R,k,true):=rfl
theorem wA {l:List UInt8}{j k:Nat}{R L H:Int}(h:¬(k<l.length∧L≤aN l k∧aN l k≤H)):nl l (j+1) k R L H=(65533,k,false):=by
 unfold nl;rw [if_neg h]
theorem zb {l:List UInt8}{j k:Nat}{R L H:Int}(h:k<l.length∧L≤aN l k∧aN l k≤H):nl l (j+1) k R L H=nl l j (k+1) (R*64+aN l k %64) 128 191:=by
 rw [nl,if_pos h]
theorem Lt(l:List UInt8):∀(j i:Nat) (r lo hi:Int),1≤i→i≤l.length→
 1≤(nl l j i r lo hi).2.1∧(nl l j i r lo hi).2.1≤l.length∧(nl l j i r lo hi).2.1≤i+j∧((nl l j i r lo hi).2.2=false→(nl l j i r lo hi).1=65533∧(nl l j i r lo hi).2.1<i+j):=by
 intro j
 induction j with
 |zero=>intro i r lo hi h1 h2;refine ⟨h1,h2,Nat.le_refl _,fun h=>by cases h⟩
 |succ j ih=>
  intro i r lo hi h1 h2
  by_cases h:i<l.length∧lo≤aN l i∧aN l i≤hi
  ·rw [zb h]
   obtain ⟨a,b,c,d⟩:=ih (i+1) (r*64+aN l i %64) 128 191 (by omega) (by omega)
   exact ⟨a,b,by omega,fun e=>⟨(d e).1,by have:=(d e).2;omega⟩⟩
  ·rw [wA h];exact ⟨h1,h2,by show i≤_;omega,fun _=>⟨rfl,by show i<_;omega⟩⟩
theorem gQ(l:List UInt8)(h:0<l.length):1≤(bE l).2.1∧(bE l).2.1≤l.length∧(bE l).2.1≤4∧((bE l).2.2=false→(bE l).1=65533∧(bE l).2.1≤3):=by
 unfold bE
 rw [if_neg (by omega)]
 split
 ·exact ⟨Nat.le_refl _,h,by show 1≤4;omega,fun e=>by cases e⟩
 ·split
  ·exact ⟨Nat.le_refl _,h,by show 1≤4;omega,fun e=>⟨rfl,by show 1≤3;omega⟩⟩
  ·obtain ⟨a,b,c,d⟩:=Lt l (eV (aN l 0)).1.toNat 1 (aN l 0 %2^(6-(eV (aN l 0)).1.toNat)) (eV (aN l 0)).2.1 (eV (aN l 0)).2.2 (Nat.le_refl _) h
   have hm:(eV (aN l 0)).1.toNat≤3:=by
    rcases sS (aN l 0)with h|⟨m,lo,hi,h,h1,h2,_⟩<;>rw [h]
    ·decide
    ·show m.toNat≤3;omega
   exact ⟨a,b,by omega,fun e=>⟨(d e).1,by have:=(d e).2;omega⟩⟩
def dec:Nat→List UInt8→List (Int×Nat×Bool)
 |0,_=>[]
 |f+1,l=>if l.length=0 then []else bE l::dec f (l.drop (bE l).2.1)
def zc(l:List UInt8):List (Int×Nat×Bool):=dec l.length l
theorem EM:∀(f g:Nat) (l:List UInt8),l.length≤f→l.length≤g→dec f l=dec g l:=by
 intro f
 induction f with
 |zero=>intro g l hf _;cases g with
  |zero=>rfl
  |succ g=>have:l.length=0:=by omega
           simp [dec,this]
 |succ f ih=>intro g l hf hg;cases g with
  |zero=>have:l.length=0:=by omega
         simp [dec,this]
  |succ g=>
   unfold dec
   by_cases h:l.length=0
   ·rw [if_pos h,if_pos h]
   ·have hn:=gQ l (by omega)
    rw [if_neg h,if_neg h,ih g (l.drop (bE l).2.1) (by simp;omega) (by simp;omega)]
theorem EN(f:Nat)(l:List UInt8):dec (f+1) l=if l.length=0 then []else bE l::dec f (l.drop (bE l).2.1):=rfl
theorem wB {l:List UInt8}(h:l.length=0):zc l=[]:=by unfold zc;rw [h];rfl
theorem sT {l:List UInt8}(h:0<l.length):zc l=bE l::zc (l.drop (bE l).2.1):=by
 have hn:=gQ l h
 unfold zc
 conv=>lhs;rw [show l.length=(l.length-1)+1 from by omega]
 rw [EN,if_neg (by omega),EM (l.length-1) (l.drop (bE l).2.1).length _ (by simp;omega) (Nat.le_refl _)]
def gD(l:List UInt8):List Int:=(zc l).map (·.1)
def fp(l:List UInt8):Bool:=(zc l).all (·.2.2)
theorem fJ {l:List UInt8}(h:l.length=0):gD l=[]:=by unfold gD;rw [wB h];rfl
theorem kk {l:List UInt8}(h:0<l.length):gD l=(bE l).1::gD (l.drop (bE l).2.1):=by unfold gD;rw [sT h];rfl
theorem ql {l:List UInt8}(h:l.length=0):fp l=true:=by unfold fp;rw [wB h];rfl
theorem jM {l:List UInt8}(h:0<l.length):fp l=((bE l).2.2&&fp (l.drop (bE l).2.1)):=by unfold fp;rw [sT h];rfl
theorem l8:∀(n:Nat) (l:List UInt8),l.length≤n→(gD l).length≤l.length:=by
 intro n
 induction n with
 |zero=>intro l h;rw [fJ (by omega)];simp
 |succ n ih=>
  intro l h
  by_cases h0:l.length=0
  ·rw [fJ h0];simp
  ·have hn:=gQ l (by omega)
   have:=ih (l.drop (bE l).2.1) (by simp;omega)
   rw [kk (by omega)]
   simp at this⊢
   omega
def pj(n:Int):UInt8:=UInt8.ofNat n.toNat
theorem Hc {n:Int}(h0:0≤n)(h1:n≤255):((pj n).toNat:Int)=n:=by
 unfold pj
 rw [UInt8.toNat_ofNat',Nat.mod_eq_of_lt (by omega)];omega
def rM(r:Int):Int:=if r<0∨1114111<r∨(55296≤r∧r≤57343)then 65533 else r
theorem Hd(r:Int):0≤rM r∧rM r≤1114111:=by unfold rM;split<;>omega
def encR(r:Int):List UInt8:=
 if r<128 then [pj r]
 else if r<2048 then [pj (192+r/64),pj (128+r %64)]
 else if r<65536 then [pj (224+r/4096),pj (128+r/64 %64),pj (128+r %64)]
 else [pj (240+r/262144),pj (128+r/4096 %64),pj (128+r/64 %64),pj (128+r %64)]
theorem EO(r:Int):1≤(encR r).length∧(encR r).length≤4:=by unfold encR;(repeat' split)<;>simp
def iX:List Int→List UInt8
 |[]=>[]
 |r::rs=>encR (rM r)++iX rs
theorem wC(a b:List Int):iX (a++b)=iX a++iX b:=by
 induction a with
 |nil=>rfl
 |cons x a ih=>simp [iX,ih]
theorem l9(a:List Int):a.length≤(iX a).length∧(iX a).length≤4*a.length:=by
 induction a with
 |nil=>simp [iX]
 |cons x a ih=>have:=EO (rM x);simp [iX];omega
theorem Cy(a:List Int)(k:Nat)(hk:k<a.length):iX (a.take (k+1))=iX (a.take k)++encR (rM (a.getD k 0)):=by
 rw [List.take_succ_eq_append_getElem hk,wC]
 simp [iX,List.getD,hk]
def splitB(c:Int):List UInt8→List (List UInt8)
 |[]=>[[]]
 |b::t=>if(b.toNat:Int)=c then []::splitB c t else match splitB c t with
  |p::ps=>(b::p)::ps
  |[]=>[[b]]
theorem Cz(c:Int)(l:List UInt8):splitB c l≠[]:=by
 cases l with
 |nil=>simp [splitB]
 |cons b t=>
  unfold splitB
  split
  ·simp
  ·split<;>simp
theorem zd(b:UInt8)(t:List UInt8):aN (b::t) 0=(b.toNat:Int):=rfl
theorem ze(b:UInt8)(t:List UInt8)(i:Nat):aN (b::t) (i+1)=aN t i:=by unfold aN;simp [List.getD]
theorem splitB_hit(c:Int):∀(n:Nat) (l:List UInt8),n<l.length→(∀q,q<n→aN l q≠c)→aN l n=c→splitB c l=l.take n::splitB c (l.drop (n+1)):=by
 intro n
 induction n with
 |zero=>
  intro l hl _ h
  match l,hl with
  |b::t,_=>
   rw [zd]at h
   conv=>lhs;unfold splitB
   rw [if_pos h];rfl
 |succ n ih=>
  intro l hl hn h
  match l,hl with
  |b::t,hl=>
   have h0:=hn 0 (by omega)
   rw [zd]at h0
   rw [ze]at h
   have:=ih t (by simpa using hl) (fun q hq=>by have:=hn (q+1) (by omega);rwa [ze]at this) h
   conv=>lhs;unfold splitB
   rw [if_neg h0,this];rfl
theorem zf(c:Int):∀(l:List UInt8),(∀q,q<l.length→aN l q≠c)→splitB c l=[l]:=by
 intro l
 induction l with
 |nil=>intro _;rfl
 |cons b t ih=>
  intro h
  have h0:=h 0 (by simp)
  rw [zd]at h0
  have:=ih fun q hq=>by have:=h (q+1) (by simp;omega);rwa [ze]at this
  conv=>lhs;unfold splitB
  rw [if_neg h0,this]
def dA(l:List UInt8):List UInt8:=if 0<l.length∧aN l (l.length-1)=46 then l.take (l.length-1)else l
def iD(l:List UInt8):Bool:=decide (2≤l.length∧aN l 0=48∧(aN l 1=120∨aN l 1=88))
def iY(l:List UInt8):List UInt8:=if iD l=true then l.drop 2 else []
def dG(n:Int):List UInt8→Bool
 |[]=>true
 |b::t=>decide (0≤cU (b.toNat:Int)∧cU (b.toNat:Int)<n)&&dG n t
def qm(n v:Int)(c:Int):Int:=min (v*n+cU c) 4294967296
def fb(n:Int)(v:Int)(l:List UInt8):Int:=l.foldl (fun v b=>qm n v (b.toNat:Int)) v
def gR(l:List UInt8):Int:=if iD l=true then 16 else if 1<l.length∧aN l 0=48 then 8 else 10
def ma(l:List UInt8):List UInt8:=if iD l=true then l.drop 2 else l
def eN(l:List UInt8):Bool:=(iD l||decide (0<l.length))&&dG (gR l) (ma l)
def dO(l:List UInt8):Int:=if eN l=true then fb (gR l) 0 (ma l)else 0
theorem zg(n:Int):∀(l:List UInt8) (i:Nat),i<l.length→dG n (l.drop i)=(decide (0≤cU (aN l i)∧cU (aN l i)<n)&&dG n (l.drop (i+1))):=by
 intro l i hi
 rw [List.drop_eq_getElem_cons hi]
 show(decide _ &&_)=_
 have e:aN l i=((l[i]).toNat:Int):=by unfold aN;simp [List.getD,hi]
 rw [e]
theorem iE(n:Int)(l:List UInt8)(i:Nat)(h:i<l.length):fb n 0 (l.take (i+1))=qm n (fb n 0 (l.take i)) (aN l i):=by
 unfold fb
 rw [List.take_succ_eq_append_getElem h,List.foldl_append]
 have e:aN l i=((l[i]).toNat:Int):=by unfold aN;simp [List.getD,h]
 rw [e];rfl
theorem jN(n:Int):∀(l:List UInt8),dG n l=true→∀i,i<l.length→0≤cU (aN l i)∧cU (aN l i)<n:=by
 intro l
 induction l with
 |nil=>intro _ i hi;simp at hi
 |cons b t ih=>
  intro h i hi
  have h2:decide (0≤cU (b.toNat:Int)∧cU (b.toNat:Int)<n)=true∧dG n t=true:=by
   have h':(decide (0≤cU (b.toNat:Int)∧cU (b.toNat:Int)<n)&&dG n t)=true:=h
   rwa [Bool.and_eq_true]at h'
  cases i with
  |zero=>rw [zd];exact of_decide_eq_true h2.1
  |succ i=>rw [ze];exact ih h2.2 i (by simpa using hi)
theorem mb(n:Int)(hn:0≤n)(l:List UInt8)(h:∀i,i<l.length→0≤cU (aN l i)):∀i,i≤l.length→0≤fb n 0 (l.take i)∧fb n 0 (l.take i)≤4294967296:=by
 intro i
 induction i with
 |zero=>intro _;simp [fb]
 |succ i ih=>
  intro hi
  obtain ⟨h1,h2⟩:=ih (by omega)
  rw [iE n l i (by omega)]
  have h3:=h i (by omega)
  have h4:0≤fb n 0 (l.take i)*n:=Int.mul_nonneg h1 hn
  unfold qm
  omega
theorem CA(b:UInt8):pj (b.toNat:Int)=b:=by unfold pj;simp
theorem EP(b:UInt8)(t:List UInt8):aN (b::t) 0=(b.toNat:Int):=rfl
theorem ER(b:UInt8)(t:List UInt8)(i:Nat):aN (b::t) (i+1)=aN t i:=by unfold aN;simp [List.getD]
theorem Lu {c:Int}(h0:194≤c)(h1:c≤223):eV c=(1,128,191):=by unfold eV;rw [if_neg (by omega),if_pos (by omega)]
theorem Lv {c:Int}(h0:224≤c)(h1:c≤239):eV c=(2,if c=224 then 160 else 128,if c=237 then 159 else 191):=by
 unfold eV;rw [if_neg (by omega),if_neg (by omega)];(repeat' split)<;>first|rfl|(exfalso;omega)
theorem Lw {c:Int}(h0:240≤c)(h1:c≤244):eV c=(3,if c=240 then 144 else 128,if c=244 then 143 else 191):=by
 unfold eV;rw [if_neg (by omega),if_neg (by omega),if_neg (by omega),if_neg (by omega),if_neg (by omega)];(repeat' split)<;>first|rfl|(exfalso;omega)
theorem Lx {c:Int}(h:c<194∨244<c):eV c=(0,0,0):=by unfold eV;rw [if_pos h]
theorem A9 {l:List UInt8}(hl:0<l.length)(h:aN l 0≤127):bE l=(aN l 0,1,true):=by unfold bE;rw [if_neg (by omega),if_pos h]
theorem He {l:List UInt8}(hl:0<l.length)(h:127<aN l 0)(h2:aN l 0<194∨244<aN l 0):bE l=(65533,1,false):=by
 unfold bE;rw [if_neg (by omega),if_neg (by omega),Lx h2,if_pos rfl]
theorem Hf {l:List UInt8}(hl:0<l.length)(h0:194≤aN l 0)(h1:aN l 0≤223):bE l=nl l 1 1 (aN l 0 %32) 128 191:=by
 unfold bE;rw [if_neg (by omega),if_neg (by omega),Lu h0 h1,if_neg (by decide)];rfl
theorem Hg {l:List UInt8}(hl:0<l.length)(h0:224≤aN l 0)(h1:aN l 0≤239):bE l=nl l 2 1 (aN l 0 %16) (if aN l 0=224 then 160 else 128) (if aN l 0=237 then 159 else 191):=by
 unfold bE;rw [if_neg (by omega),if_neg (by omega),Lv h0 h1,if_neg (by decide:¬(2:Int)=0)];rfl
theorem Hh {l:List UInt8}(hl:0<l.length)(h0:240≤aN l 0)(h1:aN l 0≤244):bE l=nl l 3 1 (aN l 0 %8) (if aN l 0=240 then 144 else 128) (if aN l 0=244 then 143 else 191):=by
 unfold bE;rw [if_neg (by omega),if_neg (by omega),Lw h0 h1,if_neg (by decide:¬(3:Int)=0)];rfl
def Jm(r:Int):Prop:=0≤r∧r≤1114111∧¬(55296≤r∧r≤57343)
theorem Hi {r:Int}(h:Jm r):rM r=r:=by unfold Jm at h;unfold rM;rw [if_neg (by omega)]
theorem nt {l:List UInt8}{j k n:Nat}{R L H r:Int}(h:nl l (j+1) k R L H=(r,n,true)):
 (k<l.length∧L≤aN l k∧aN l k≤H)∧nl l j (k+1) (R*64+aN l k %64) 128 191=(r,n,true):=by
 by_cases c:k<l.length∧L≤aN l k∧aN l k≤H
 ·exact ⟨c,by rw [←zb c];exact h⟩
 ·rw [wA c]at h;simp at h
theorem Hj(l:List UInt8)(i:Nat):pj (aN l i)=l.getD i 0:=by unfold aN;exact CA _
theorem mc:∀(n:Nat) (l:List UInt8),n≤l.length→l.take n=(List.range n).map fun i=>pj (aN l i):=by
 intro n l h
 apply List.ext_getElem
 ·simp;omega
 ·intro i h1 h2
  simp at h1
  simp [Hj,List.getD,show i<l.length by omega]
theorem qn {l:List UInt8}{r:Int}{n:Nat}(h:bE l=(r,n,true)):Jm r∧encR r=l.take n∧n≤l.length:=by
 by_cases hl:l.length=0
 ·unfold bE at h;rw [if_pos hl]at h;simp at h
 have hp:0<l.length:=by omega
 have d0:=dD l 0
 have d0':=dE l 0
 by_cases c1:aN l 0≤127
 ·rw [A9 hp c1]at h
  simp only [Prod.mk.injEq]at h
  obtain ⟨rfl,rfl,-⟩:=h
  refine ⟨by unfold Jm;omega,?_,by omega⟩
  rw [mc 1 l (by omega)]
  unfold encR
  rw [if_pos (by omega)];rfl
 by_cases c2:aN l 0<194∨244<aN l 0
 ·rw [He hp (by omega) c2]at h;simp at h
 by_cases c3:aN l 0≤223
 ·rw [Hf hp (by omega) c3]at h
  obtain ⟨⟨q1,q2,q3⟩,h⟩:=nt h
  rw [ph]at h
  simp only [Prod.mk.injEq]at h
  obtain ⟨hr,rfl,-⟩:=h
  refine ⟨by unfold Jm;omega,?_,by omega⟩
  rw [mc 2 l (by omega)]
  unfold encR
  rw [if_neg (by omega),if_pos (by omega),show 192+r/64=aN l 0 by omega,show 128+r %64=aN l 1 by omega];rfl
 by_cases c4:aN l 0≤239
 ·rw [Hg hp (by omega) c4]at h
  obtain ⟨⟨q1,q2,q3⟩,h⟩:=nt h
  obtain ⟨⟨q4,q5,q6⟩,h⟩:=nt h
  rw [ph]at h
  simp only [Prod.mk.injEq]at h
  obtain ⟨hr,rfl,-⟩:=h
  have q5':128≤aN l 2:=q5
  have q6':aN l 2≤191:=q6
  have hr':(aN l 0 %16*64+aN l 1 %64)*64+aN l 2 %64=r:=hr
  have q7:128≤aN l 1∧aN l 1≤191∧(aN l 0=224→160≤aN l 1)∧(aN l 0=237→aN l 1≤159):=by split at q2<;>split at q3<;>omega
  clear q2 q3 hr q5 q6
  refine ⟨by unfold Jm;omega,?_,by omega⟩
  rw [mc 3 l (by omega)]
  unfold encR
  rw [if_neg (by omega),if_neg (by omega),if_pos (by omega),show 224+r/4096=aN l 0 by omega,show 128+r/64 %64=aN l 1 by omega,show 128+r %64=aN l 2 by omega];rfl
 ·rw [Hh hp (by omega) (by omega)]at h
  obtain ⟨⟨q1,q2,q3⟩,h⟩:=nt h
  obtain ⟨⟨q4,q5,q6⟩,h⟩:=nt h
  obtain ⟨⟨q8,q9,q10⟩,h⟩:=nt h
  rw [ph]at h
  simp only [Prod.mk.injEq]at h
  obtain ⟨hr,rfl,-⟩:=h
  have q5':128≤aN l 2:=q5
  have q6':aN l 2≤191:=q6
  have q9':128≤aN l 3:=q9
  have q10':aN l 3≤191:=q10
  have hr':((aN l 0 %8*64+aN l 1 %64)*64+aN l 2 %64)*64+aN l 3 %64=r:=hr
  have q7:128≤aN l 1∧aN l 1≤191∧(aN l 0=240→144≤aN l 1)∧(aN l 0=244→aN l 1≤143):=by split at q2<;>split at q3<;>omega
  clear q2 q3 hr q5 q6 q9 q10
  refine ⟨by unfold Jm;omega,?_,by omega⟩
  rw [mc 4 l (by omega)]
  unfold encR
  rw [if_neg (by omega),if_neg (by omega),if_neg (by omega),show 240+r/262144=aN l 0 by omega,show 128+r/4096 %64=aN l 1 by omega,show 128+r/64 %64=aN l 2 by omega,show 128+r %64=aN l 3 by omega];rfl
theorem CD:∀(n:Nat) (l:List UInt8),l.length≤n→fp l=true→iX (gD l)=l:=by
 intro n
 induction n with
 |zero=>intro l h _;have:l=[]:=List.eq_nil_of_length_eq_zero (by omega);subst this;rw [fJ rfl];rfl
 |succ n ih=>
  intro l h hv
  by_cases h0:l.length=0
  ·have:l=[]:=List.eq_nil_of_length_eq_zero h0
   subst this;rw [fJ rfl];rfl
  ·rw [jM (by omega)]at hv
   have hn:=gQ l (by omega)
   rw [kk (by omega)]
   obtain ⟨⟨r,k,ok⟩,hnx⟩:∃t,bE l=t:=⟨_,rfl⟩
   simp only [hnx]at hv hn⊢
   simp only [Bool.and_eq_true]at hv
   obtain ⟨rfl,hv2⟩:=hv
   have hval:=qn hnx
   simp only [iX]
   rw [Hi hval.1,hval.2.1,ih (l.drop k) (by simp;omega) hv2,List.take_append_drop]
theorem Hk(l:List UInt8):0≤(bE l).1∧(bE l).1≤1114111:=by
 obtain ⟨⟨r,k,ok⟩,hnx⟩:∃t,bE l=t:=⟨_,rfl⟩
 rw [hnx]
 cases ok
 ·by_cases hl:l.length=0
  ·unfold bE at hnx;rw [if_pos hl]at hnx;simp at hnx;show 0≤r∧_;omega
  ·have:=(gQ l (by omega)).2.2.2
   rw [hnx]at this
   have:=(this rfl).1
   simp at this
   show 0≤r∧r≤1114111
   omega
 ·have:=(qn hnx).1
  unfold Jm at this
  exact ⟨this.1,this.2.1⟩
def K6:List UInt8:=[32,34,60,62,96]
def Ka:List UInt8:=[32,34,35,60,62]
def mSpec:List UInt8:=[32,34,35,60,62,39]
def ES:List UInt8:=[32,34,35,60,62,63,94,96,123,125]
def ET:List UInt8:=[47,58,59,61,64,91,92,93,124]
def Kb:List UInt8:=[36,37,38,43,44]
def sU(k:Int):List UInt8:=if k=1 then K6 else if k=2 then Ka else if k=3 then mSpec else if k=4 then ES else if k=5 then ES++ET else if k=6 then ES++ET++Kb else []
def qo(k:Int):Bool:=decide (0≤k∧k≤6)
def CE(has:List UInt8)(r:Int):Bool:=if r<0∨1114111<r then false else if r<32∨126<r then true else decide (pj r∈has)
theorem EU {k:Int}(h:0≤k∧k≤6):qo k=true:=decide_eq_true h
theorem EV {k:Int}(h:¬(0≤k∧k≤6)):qo k=false:=decide_eq_false h
theorem Hl {has:List UInt8}{r:Int}(h:r<0∨1114111<r):CE has r=false:=by unfold CE;rw [if_pos h]
theorem EW {has:List UInt8}{r:Int}(h0:0≤r)(h1:r≤1114111)(h:r<32∨126<r):CE has r=true:=by unfold CE;rw [if_neg (by omega),if_pos h]
theorem Hm {has:List UInt8}{r:Int}(h0:32≤r)(h1:r≤126):CE has r=decide (pj r∈has):=by unfold CE;rw [if_neg (by omega),if_neg (by omega)]
def EX(l:List UInt8)(k:Nat):Prop:=aN l k=37∧k+2<l.length∧0≤cU (aN l (k+1))∧0≤cU (aN l (k+2))
instance (l:List UInt8)(k:Nat):Decidable (EX l k):=by unfold EX;infer_instance
def LO:List UInt8:=[48,49,50,51,52,53,54,55,56,57,65,66,67,68,69,70]
def up(n:Int):UInt8:=LO.getD n.toNat 0
def pe(has:List UInt8)(c:UInt8):List UInt8:=if CE has c.toNat then [37,up ((c.toNat:Int)/16),up ((c.toNat:Int) %16)]else [c]
def gd(has:List UInt8)(l:List UInt8):List UInt8:=l.flatMap (pe has)
theorem ov(has a b:List UInt8):gd has (a++b)=gd has a++gd has b:=by unfold gd;simp
theorem sV(has l:List UInt8)(h:∀i,i<l.length→CE has (aN l i)=false):gd has l=l:=by
 induction l with
 |nil=>rfl
 |cons b t ih=>
  have h0:=h 0 (by simp)
  rw [EP]at h0
  have ht:=ih fun i hi=>by have:=h (i+1) (by simp;omega);rwa [ER]at this
  show pe has b++gd has t=b::t
  rw [ht];unfold pe;rw [h0];rfl
theorem wD(has l:List UInt8):(gd has l).length≤3*l.length:=by
 induction l with
 |nil=>simp [gd]
 |cons b t ih=>
  have:(pe has b).length≤3:=by unfold pe;split<;>simp
  show(pe has b++gd has t).length≤_
  simp;omega
theorem sW(has l:List UInt8)(k:Nat)(hk:k<l.length):gd has (l.take (k+1))=gd has (l.take k)++pe has (l.getD k 0):=by
 rw [List.take_succ_eq_append_getElem hk,ov]
 simp [gd,List.getD,hk]
end Go.Proofs.YtmfapopclbnlpaaGreatDoor
