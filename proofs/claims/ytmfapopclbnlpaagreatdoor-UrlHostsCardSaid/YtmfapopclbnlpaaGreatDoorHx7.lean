import Derived.Lib.Hide
set_option linter.unusedVariables false
set_option linter.unusedSimpArgs false
namespace Go.Proofs.YtmfapopclbnlpaaGreatDoor
def aR(c:Int):Int:=if 48<=c/\c<=57 then c-48 else if 97<=c/\c<=102 then c-87 else if 65<=c/\c<=70 then c-55 else -1
theorem gI(c:Int):-1<=aR c/\aR c<=15:=by unfold aR;(repeat' split)<;>omega
def ar(l:List UInt8)(i:Nat):Int:=((l.getD i 0).toNat:Int)
theorem cB(l:List UInt8)(i:Nat):0<=ar l i:=by unfold ar;omega
theorem cG(l:List UInt8)(i:Nat):ar l i<=255:=by unfold ar;have:=(l.getD i 0).toNat_lt;omega
theorem kQ(l:List UInt8)(k i:Nat):ar (l.drop k) i=ar l (k+i):=by
 unfold ar;simp [List.getD,List.getElem?_drop]
def j5(c:Int):Int×Int×Int:=
 if c<194\/244<c then(0,0,0)
 else if c<=223 then(1,128,191)
 else if c=224 then(2,160,191)
 else if c=237 then(2,128,159)
 else if c<=239 then(2,128,191)
 else if c=240 then(3,144,191)
 else if c=244 then(3,128,143)
 else(3,128,191)
def Md(c:Int):Int×Int×Int:=
 if c<=127 then(1,0,0)else((if(j5 c).1=0 then 0 else(j5 c).1+1),(j5 c).2.1,(j5 c).2.2)
theorem iD(c:Int):j5 c=(0,0,0)\/∃m lo hi,j5 c=(m,lo,hi)/\1<=m/\m<=3/\128<=lo/\lo<=191/\128<=hi/\hi<=191:=by
 unfold j5
 (repeat' split)<;>first|(left;rfl)|(right;exact ⟨_,_,_,rfl,by decide,by decide,by decide,by decide,by decide,by decide⟩)
def nl(l:List UInt8):Nat->Nat->Int->Int->Int->Int×Nat×Bool
 |0,i,r,_,_=>(r,i,true)
 |k+1,i,r,lo,hi=>if i<l.length/\lo<=ar l i/\ar l i<=hi then nl l k (i+1) (r*64+ar l i %64) 128 191 else(65533,i,false)
def aL(l:List UInt8):Int×Nat×Bool:=
 if l.length=0 then(0,0,false)
 else if ar l 0<=127 then(ar l 0,1,true)
 else if(j5 (ar l 0)).1=0 then(65533,1,false)
 else nl l (j5 (ar l 0)).1.toNat 1 (ar l 0 %2^(6-(j5 (ar l 0)).1.toNat)) (j5 (ar l 0)).2.1 (j5 (ar l 0)).2.2
def Mv(k:Nat):Int:=if k<=1 then 32 else if k=2 then 2048 else if k=3 then 131072 else 8388608
theorem JH {k:Nat}(h:k<=3):Mv k<=131072:=by unfold Mv;(repeat' split)<;>omega
theorem zJ {k:Nat}{R x:Int}(h1:1<=k)(h:k<=3)(hr:R<Mv k):R*64+x %64<Mv (k+1):=by
 unfold Mv at *;(repeat' split)<;>(repeat' split at hr)<;>omega
theorem jh {l:List UInt8}{k:Nat}{R L H:Int}:nl l 0 k R L H=(R,k,true):=rfl
theorem iQ {l:List UInt8}{j k:Nat}{R L H:Int}(h:¬(k<l.length/\L<=ar l k/\ar l k<=H)):nl l (j+1) k R L H=(65533,k,false):=by
 unfold nl;rw [if_neg h]
theorem fC {l:List UInt8}{j k:Nat}{R L H:Int}(h:k<l.length/\L<=ar l k/\ar l k<=H):nl l (j+1) k R L H=nl l j (k+1) (R*64+ar l k %64) 128 191:=by
 rw [nl,if_pos h]
theorem QA(l:List UInt8):∀(j i:Nat) (r lo hi:Int),1<=i->i<=l.length->
 1<=(nl l j i r lo hi).2.1/\(nl l j i r lo hi).2.1<=l.length/\(nl l j i r lo hi).2.1<=i+j/\((nl l j i r lo hi).2.2=false->(nl l j i r lo hi).1=65533/\(nl l j i r lo hi).2.1<i+j):=by
 intro j
 induction j with
 |zero=>intro i r lo hi h1 h2;refine ⟨h1,h2,Nat.le_refl _,fun h=>by cases h⟩
 |succ j ih=>
  intro i r lo hi h1 h2;by_cases h:i<l.length/\lo<=ar l i/\ar l i<=hi
  ·rw [fC h]
   obtain ⟨a,b,c,d⟩:=ih (i+1) (r*64+ar l i %64) 128 191 (by omega) (by omega);exact ⟨a,b,by omega,fun e=>⟨(d e).1,by have:=(d e).2;omega⟩⟩
  ·rw [iQ h];exact ⟨h1,h2,by show i<=_;omega,fun _=>⟨rfl,by show i<_;omega⟩⟩
theorem eJ(l:List UInt8)(h:0<l.length):1<=(aL l).2.1/\(aL l).2.1<=l.length/\(aL l).2.1<=4/\((aL l).2.2=false->(aL l).1=65533/\(aL l).2.1<=3):=by
 unfold aL;rw [if_neg (by omega)];split
 ·exact ⟨Nat.le_refl _,h,by show 1<=4;omega,fun e=>by cases e⟩
 ·split
  ·exact ⟨Nat.le_refl _,h,by show 1<=4;omega,fun e=>⟨rfl,by show 1<=3;omega⟩⟩
  ·obtain ⟨a,b,c,d⟩:=QA l (j5 (ar l 0)).1.toNat 1 (ar l 0 %2^(6-(j5 (ar l 0)).1.toNat)) (j5 (ar l 0)).2.1 (j5 (ar l 0)).2.2 (Nat.le_refl _) h
   have hm:(j5 (ar l 0)).1.toNat<=3:=by
    rcases iD (ar l 0)with h|⟨m,lo,hi,h,h1,h2,_⟩<;>rw [h]
    ·decide
    ·show m.toNat<=3;omega
   exact ⟨a,b,by omega,fun e=>⟨(d e).1,by have:=(d e).2;omega⟩⟩
def dec:Nat->List UInt8->List (Int×Nat×Bool)
 |0,_=>[]
 |f+1,l=>if l.length=0 then []else aL l::dec f (l.drop (aL l).2.1)
def CO(l:List UInt8):List (Int×Nat×Bool):=dec l.length l
theorem JI:∀(f g:Nat) (l:List UInt8),l.length<=f->l.length<=g->dec f l=dec g l:=by
 intro f
 induction f with
 |zero=>intro g l hf _;cases g with
  |zero=>rfl
  |succ g=>have:l.length=0:=by omega
           simp [dec,this]
 |succ f ih=>intro g l hf hg;cases g with
  |zero=>have:l.length=0:=by omega
         simp [dec,this]
  |succ g=>
   unfold dec;by_cases h:l.length=0
   ·rw [if_pos h,if_pos h]
   ·have hn:=eJ l (by omega)
    rw [if_neg h,if_neg h,ih g (l.drop (aL l).2.1) (by simp;omega) (by simp;omega)]
theorem JJ(f:Nat)(l:List UInt8):dec (f+1) l=if l.length=0 then []else aL l::dec f (l.drop (aL l).2.1):=rfl
theorem zK {l:List UInt8}(h:l.length=0):CO l=[]:=by unfold CO;rw [h];rfl
theorem vC {l:List UInt8}(h:0<l.length):CO l=aL l::CO (l.drop (aL l).2.1):=by
 have hn:=eJ l h;unfold CO
 conv=>lhs;rw [show l.length=(l.length-1)+1 from by omega]
 rw [JJ,if_neg (by omega),JI (l.length-1) (l.drop (aL l).2.1).length _ (by simp;omega) (Nat.le_refl _)]
def dv(l:List UInt8):List Int:=(CO l).map (·.1)
def dU(l:List UInt8):Bool:=(CO l).all (·.2.2)
theorem dV {l:List UInt8}(h:l.length=0):dv l=[]:=by unfold dv;rw [zK h];rfl
theorem dW {l:List UInt8}(h:0<l.length):dv l=(aL l).1::dv (l.drop (aL l).2.1):=by unfold dv;rw [vC h];rfl
theorem mz {l:List UInt8}(h:l.length=0):dU l=true:=by unfold dU;rw [zK h];rfl
theorem ji {l:List UInt8}(h:0<l.length):dU l=((aL l).2.2&&dU (l.drop (aL l).2.1)):=by unfold dU;rw [vC h];rfl
theorem kR:∀(n:Nat) (l:List UInt8),l.length<=n->(dv l).length<=l.length:=by
 intro n
 induction n with
 |zero=>intro l h;rw [dV (by omega)];simp
 |succ n ih=>
  intro l h;by_cases h0:l.length=0
  ·rw [dV h0];simp
  ·have hn:=eJ l (by omega)
   have:=ih (l.drop (aL l).2.1) (by simp;omega);rw [dW (by omega)];simp at this⊢;omega
def gz(n:Int):UInt8:=UInt8.ofNat n.toNat
theorem dR {n:Int}(h0:0<=n)(h1:n<=255):((gz n).toNat:Int)=n:=by
 unfold gz;rw [UInt8.toNat_ofNat',Nat.mod_eq_of_lt (by omega)];omega
def dN(r:Int):Int:=if r<0\/1114111<r\/(55296<=r/\r<=57343)then 65533 else r
theorem Mw(r:Int):0<=dN r/\dN r<=1114111:=by unfold dN;split<;>omega
def encR(r:Int):List UInt8:=
 if r<128 then [gz r]
 else if r<2048 then [gz (192+r/64),gz (128+r %64)]
 else if r<65536 then [gz (224+r/4096),gz (128+r/64 %64),gz (128+r %64)]
 else [gz (240+r/262144),gz (128+r/4096 %64),gz (128+r/64 %64),gz (128+r %64)]
theorem nI(r:Int):1<=(encR r).length/\(encR r).length<=4:=by unfold encR;(repeat' split)<;>simp
def gA:List Int->List UInt8
 |[]=>[]
 |r::rs=>encR (dN r)++gA rs
theorem kS(a b:List Int):gA (a++b)=gA a++gA b:=by
 induction a with
 |nil=>rfl
 |cons x a ih=>simp [gA,ih]
theorem nJ(a:List Int):a.length<=(gA a).length/\(gA a).length<=4*a.length:=by
 induction a with
 |nil=>simp [gA]
 |cons x a ih=>have:=nI (dN x);simp [gA];omega
theorem GK(a:List Int)(k:Nat)(hk:k<a.length):gA (a.take (k+1))=gA (a.take k)++encR (dN (a.getD k 0)):=by
 rw [List.take_succ_eq_append_getElem hk,kS];simp [gA,List.getD,hk]
def splitB(c:Int):List UInt8->List (List UInt8)
 |[]=>[[]]
 |b::t=>if(b.toNat:Int)=c then []::splitB c t else match splitB c t with
  |p::ps=>(b::p)::ps
  |[]=>[[b]]
theorem cf(c:Int)(l:List UInt8):splitB c l≠[]:=by
 cases l with
 |nil=>simp [splitB]
 |cons b t=>
  unfold splitB;split
  ·simp
  ·split<;>simp
theorem jt(b:UInt8)(t:List UInt8):ar (b::t) 0=(b.toNat:Int):=rfl
theorem o8(b:UInt8)(t:List UInt8)(i:Nat):ar (b::t) (i+1)=ar t i:=by unfold ar;simp [List.getD]
theorem splitB_hit(c:Int):∀(n:Nat) (l:List UInt8),n<l.length->(∀q,q<n->ar l q≠c)->ar l n=c->splitB c l=l.take n::splitB c (l.drop (n+1)):=by
 intro n
 induction n with
 |zero=>
  intro l hl _ h
  match l,hl with
  |b::t,_=>
   rw [jt]at h
   conv=>lhs;unfold splitB
   rw [if_pos h];rfl
 |succ n ih=>
  intro l hl hn h
  match l,hl with
  |b::t,hl=>
   have h0:=hn 0 (by omega);rw [jt]at h0;rw [o8]at h;have:=ih t (by simpa using hl) (fun q hq=>by have:=hn (q+1) (by omega);rwa [o8]at this) h
   conv=>lhs;unfold splitB
   rw [if_neg h0,this];rfl
theorem j6(c:Int):∀(l:List UInt8),(∀q,q<l.length->ar l q≠c)->splitB c l=[l]:=by
 intro l
 induction l with
 |nil=>intro _;rfl
 |cons b t ih=>
  intro h;have h0:=h 0 (by simp);rw [jt]at h0;have:=ih fun q hq=>by have:=h (q+1) (by simp;omega);rwa [o8]at this
  conv=>lhs;unfold splitB
  rw [if_neg h0,this]
theorem zL(c:Int)(b:UInt8)(hb:(b.toNat:Int)=c):∀(l:List UInt8),splitB c (l++[b])=splitB c l++[[]]:=by
 intro l
 induction l with
 |nil=>show splitB c [b]=_;unfold splitB;rw [if_pos hb];rfl
 |cons x t ih=>
  show splitB c (x::(t++[b]))=_;unfold splitB;rw [ih];split
  ·rfl
  ·have hne:=cf c t
   match splitB c t,hne with
   |p::ps,_=>rfl
theorem et(c:Int)(l:List UInt8):(splitB c l).length<=l.length+1/\1<=(splitB c l).length:=by
 induction l with
 |nil=>simp [splitB]
 |cons b t ih=>
  unfold splitB;split
  ·simp;omega
  ·have hne:=cf c t
   match h:splitB c t,hne with
   |p::ps,_=>rw [h]at ih;simp at ih⊢;omega
theorem CP(c:Int):∀(l p:List UInt8),p∈splitB c l->p.length<=l.length:=by
 intro l
 induction l with
 |nil=>intro p hp;simp [splitB]at hp;simp [hp]
 |cons b t ih=>
  intro p hp;unfold splitB at hp;split at hp
  ·rcases List.mem_cons.1 hp with rfl|hp
   ·simp
   ·have:=ih p hp;simp;omega
  ·have hne:=cf c t
   match h:splitB c t,hne with
   |q::qs,_=>
    rw [h]at hp ih;rcases List.mem_cons.1 hp with rfl|hp
    ·have:=ih q List.mem_cons_self;simp;omega
    ·have:=ih p (List.mem_cons_of_mem _ hp);simp;omega
theorem zM(c:Int):∀(l:List UInt8),(splitB c l).getLast (cf c l)=[]↔l=[]\/ar l (l.length-1)=c/\l≠[]:=by
 intro l
 induction l with
 |nil=>simp [splitB]
 |cons b t ih=>
  by_cases hb:(b.toNat:Int)=c
  ·have e:splitB c (b::t)=[]::splitB c t:=by conv=>lhs;unfold splitB;rw [if_pos hb]
   have:(splitB c (b::t)).getLast (cf c (b::t))=(splitB c t).getLast (cf c t):=by
    simp only [e];exact List.getLast_cons _
   rw [this,ih];cases t with
   |nil=>simp [ar,hb]
   |cons y u=>
    simp only [List.length_cons,Nat.add_sub_cancel];rw [o8];simp
  ·have hne:=cf c t
   match h:splitB c t,hne with
   |q::qs,_=>
    have e:splitB c (b::t)=(b::q)::qs:=by conv=>lhs;unfold splitB;rw [if_neg hb,h]
    cases qs with
    |nil=>
     have e1:(splitB c (b::t)).getLast (cf c (b::t))=b::q:=by simp only [e];rfl
     have e2:(splitB c t).getLast (cf c t)=q:=by simp only [h];rfl
     rw [e1];rw [e2]at ih;constructor
     ·intro h;cases h
     ·rintro (h2|⟨h2,_⟩)
      ·cases h2
      ·cases t with
       |nil=>simp [ar]at h2;exact absurd h2 hb
       |cons y u=>
        simp only [List.length_cons,Nat.add_sub_cancel]at h2 ih;rw [o8]at h2;have hq:q=[]:=ih.2 (.inr ⟨h2,by simp⟩);exfalso;subst hq;unfold splitB at h;split at h
        ·injection h with _ h3;exact cf c u h3
        ·split at h<;>simp at h
    |cons r rs=>
     have e1:(splitB c (b::t)).getLast (cf c (b::t))=(splitB c t).getLast (cf c t):=by
      simp only [e,h,List.getLast_cons_cons]
     rw [e1,ih];cases t with
     |nil=>simp [splitB]at h
     |cons y u=>
      simp only [List.length_cons,Nat.add_sub_cancel];rw [o8];simp
def bG(l:List UInt8):List UInt8:=if 0<l.length/\ar l (l.length-1)=46 then l.take (l.length-1)else l
def eu(l:List UInt8):Bool:=decide (2<=l.length/\ar l 0=48/\(ar l 1=120\/ar l 1=88))
def j7(l:List UInt8):List UInt8:=if eu l=true then l.drop 2 else []
def aW(n:Int):List UInt8->Bool
 |[]=>true
 |b::t=>decide (0<=aR (b.toNat:Int)/\aR (b.toNat:Int)<n)&&aW n t
def gS(n v:Int)(c:Int):Int:=min (v*n+aR c) 4294967296
def cX(n:Int)(v:Int)(l:List UInt8):Int:=l.foldl (fun v b=>gS n v (b.toNat:Int)) v
def eQ(l:List UInt8):Int:=if eu l=true then 16 else if 1<l.length/\ar l 0=48 then 8 else 10
def fN(l:List UInt8):List UInt8:=if eu l=true then l.drop 2 else l
def cy(l:List UInt8):Bool:=(eu l||decide (0<l.length))&&aW (eQ l) (fN l)
def cq(l:List UInt8):Int:=if cy l=true then cX (eQ l) 0 (fN l)else 0
theorem fD(n:Int):∀(l:List UInt8) (i:Nat),i<l.length->aW n (l.drop i)=(decide (0<=aR (ar l i)/\aR (ar l i)<n)&&aW n (l.drop (i+1))):=by
 intro l i hi;rw [List.drop_eq_getElem_cons hi];show(decide _ &&_)=_;have e:ar l i=((l[i]).toNat:Int):=by unfold ar;simp [List.getD,hi]
 rw [e]
theorem eB(n:Int)(l:List UInt8)(i:Nat)(h:i<l.length):cX n 0 (l.take (i+1))=gS n (cX n 0 (l.take i)) (ar l i):=by
 unfold cX;rw [List.take_succ_eq_append_getElem h,List.foldl_append];have e:ar l i=((l[i]).toNat:Int):=by unfold ar;simp [List.getD,h]
 rw [e];rfl
theorem iR(n:Int):∀(l:List UInt8),aW n l=true->∀i,i<l.length->0<=aR (ar l i)/\aR (ar l i)<n:=by
 intro l
 induction l with
 |nil=>intro _ i hi;simp at hi
 |cons b t ih=>
  intro h i hi;have h2:decide (0<=aR (b.toNat:Int)/\aR (b.toNat:Int)<n)=true/\aW n t=true:=by
   have h':(decide (0<=aR (b.toNat:Int)/\aR (b.toNat:Int)<n)&&aW n t)=true:=h
   rwa [Bool.and_eq_true]at h'
  cases i with
  |zero=>rw [jt];exact of_decide_eq_true h2.1
  |succ i=>rw [o8];exact ih h2.2 i (by simpa using hi)
theorem nK(n:Int)(hn:0<=n)(l:List UInt8)(h:∀i,i<l.length->0<=aR (ar l i)):∀i,i<=l.length->0<=cX n 0 (l.take i)/\cX n 0 (l.take i)<=4294967296:=by
 intro i
 induction i with
 |zero=>intro _;simp [cX]
 |succ i ih=>
  intro hi;obtain ⟨h1,h2⟩:=ih (by omega);rw [eB n l i (by omega)];have h3:=h i (by omega);have h4:0<=cX n 0 (l.take i)*n:=Int.mul_nonneg h1 hn;unfold gS;omega
theorem vD(b:UInt8):gz (b.toNat:Int)=b:=by unfold gz;simp
theorem dh(b:UInt8)(t:List UInt8):ar (b::t) 0=(b.toNat:Int):=rfl
theorem dy(b:UInt8)(t:List UInt8)(i:Nat):ar (b::t) (i+1)=ar t i:=by unfold ar;simp [List.getD]
theorem QB {c:Int}(h0:194<=c)(h1:c<=223):j5 c=(1,128,191):=by unfold j5;rw [if_neg (by omega),if_pos (by omega)]
theorem QC {c:Int}(h0:224<=c)(h1:c<=239):j5 c=(2,if c=224 then 160 else 128,if c=237 then 159 else 191):=by
 unfold j5;rw [if_neg (by omega),if_neg (by omega)];(repeat' split)<;>first|rfl|(exfalso;omega)
theorem QD {c:Int}(h0:240<=c)(h1:c<=244):j5 c=(3,if c=240 then 144 else 128,if c=244 then 143 else 191):=by
 unfold j5;rw [if_neg (by omega),if_neg (by omega),if_neg (by omega),if_neg (by omega),if_neg (by omega)];(repeat' split)<;>first|rfl|(exfalso;omega)
theorem QE {c:Int}(h:c<194\/244<c):j5 c=(0,0,0):=by unfold j5;rw [if_pos h]
theorem rA {l:List UInt8}(hl:0<l.length)(h:ar l 0<=127):aL l=(ar l 0,1,true):=by unfold aL;rw [if_neg (by omega),if_pos h]
theorem Mx {l:List UInt8}(hl:0<l.length)(h:127<ar l 0)(h2:ar l 0<194\/244<ar l 0):aL l=(65533,1,false):=by
 unfold aL;rw [if_neg (by omega),if_neg (by omega),QE h2,if_pos rfl]
theorem E3 {l:List UInt8}(hl:0<l.length)(h0:194<=ar l 0)(h1:ar l 0<=223):aL l=nl l 1 1 (ar l 0 %32) 128 191:=by
 unfold aL;rw [if_neg (by omega),if_neg (by omega),QB h0 h1,if_neg (by decide)];rfl
theorem E4 {l:List UInt8}(hl:0<l.length)(h0:224<=ar l 0)(h1:ar l 0<=239):aL l=nl l 2 1 (ar l 0 %16) (if ar l 0=224 then 160 else 128) (if ar l 0=237 then 159 else 191):=by
 unfold aL;rw [if_neg (by omega),if_neg (by omega),QC h0 h1,if_neg (by decide:¬(2:Int)=0)];rfl
theorem E5 {l:List UInt8}(hl:0<l.length)(h0:240<=ar l 0)(h1:ar l 0<=244):aL l=nl l 3 1 (ar l 0 %8) (if ar l 0=240 then 144 else 128) (if ar l 0=244 then 143 else 191):=by
 unfold aL;rw [if_neg (by omega),if_neg (by omega),QD h0 h1,if_neg (by decide:¬(3:Int)=0)];rfl
def sr(r:Int):Prop:=0<=r/\r<=1114111/\¬(55296<=r/\r<=57343)
theorem E6(r:Int):sr (dN r):=by unfold dN sr;split<;>omega
theorem lG {r:Int}(h:sr r):dN r=r:=by unfold sr at h;unfold dN;rw [if_neg (by omega)]
theorem JK(r:Int)(h:sr r)(t:List UInt8):aL (encR r++t)=(r,(encR r).length,true):=by
 unfold sr at h;obtain ⟨h0,h1,h2⟩:=h;unfold encR;by_cases c1:r<128
 ·rw [if_pos c1]
  have b0:ar ([gz r]++t) 0=r:=by rw [List.singleton_append,dh,dR h0 (by omega)]
  rw [rA (by simp) (by omega),b0];rfl
 rw [if_neg c1];by_cases c2:r<2048
 ·rw [if_pos c2]
  simp only [List.cons_append,List.nil_append];generalize hL:gz (192+r/64)::gz (128+r %64)::t=L;have hlen:2<=L.length:=by rw [<-hL];simp
  have b0:ar L 0=192+r/64:=by rw [<-hL,dh,dR (by omega) (by omega)]
  have b1:ar L 1=128+r %64:=by rw [<-hL,dy,dh,dR (by omega) (by omega)]
  rw [E3 (by omega) (by omega) (by omega),fC ⟨by omega,by omega,by omega⟩,jh,b0,b1];have:(192+r/64) %32*64+(128+r %64) %64=r:=by omega
  rw [this];rfl
 rw [if_neg c2];by_cases c3:r<65536
 ·rw [if_pos c3]
  simp only [List.cons_append,List.nil_append];generalize hL:gz (224+r/4096)::gz (128+r/64 %64)::gz (128+r %64)::t=L;have hlen:3<=L.length:=by rw [<-hL];simp
  have b0:ar L 0=224+r/4096:=by rw [<-hL,dh,dR (by omega) (by omega)]
  have b1:ar L 1=128+r/64 %64:=by rw [<-hL,dy,dh,dR (by omega) (by omega)]
  have b2:ar L (1+1)=128+r %64:=by rw [<-hL,dy,dy,dh,dR (by omega) (by omega)]
  rw [E4 (by omega) (by omega) (by omega),fC ⟨by omega,by split<;>omega,by split<;>omega⟩,fC ⟨by omega,by omega,by omega⟩,jh,b0,b1,b2]
  have:((224+r/4096) %16*64+(128+r/64 %64) %64)*64+(128+r %64) %64=r:=by omega
  rw [this];rfl
 ·rw [if_neg c3]
  simp only [List.cons_append,List.nil_append];generalize hL:gz (240+r/262144)::gz (128+r/4096 %64)::gz (128+r/64 %64)::gz (128+r %64)::t=L;have hlen:4<=L.length:=by rw [<-hL];simp
  have b0:ar L 0=240+r/262144:=by rw [<-hL,dh,dR (by omega) (by omega)]
  have b1:ar L 1=128+r/4096 %64:=by rw [<-hL,dy,dh,dR (by omega) (by omega)]
  have b2:ar L (1+1)=128+r/64 %64:=by rw [<-hL,dy,dy,dh,dR (by omega) (by omega)]
  have b3:ar L (1+1+1)=128+r %64:=by rw [<-hL,dy,dy,dy,dh,dR (by omega) (by omega)]
  rw [E5 (by omega) (by omega) (by omega),fC ⟨by omega,by split<;>omega,by split<;>omega⟩,fC ⟨by omega,by omega,by omega⟩,fC ⟨by omega,by omega,by omega⟩,jh,b0,b1,b2,b3]
  have:(((240+r/262144) %8*64+(128+r/4096 %64) %64)*64+(128+r/64 %64) %64)*64+(128+r %64) %64=r:=by omega
  rw [this];rfl
theorem o9 {l:List UInt8}{j k n:Nat}{R L H r:Int}(h:nl l (j+1) k R L H=(r,n,true)):
 (k<l.length/\L<=ar l k/\ar l k<=H)/\nl l j (k+1) (R*64+ar l k %64) 128 191=(r,n,true):=by
 by_cases c:k<l.length/\L<=ar l k/\ar l k<=H
 ·exact ⟨c,by rw [<-fC c];exact h⟩
 ·rw [iQ c]at h;simp at h
theorem E7(l:List UInt8)(i:Nat):gz (ar l i)=l.getD i 0:=by unfold ar;exact vD _
theorem nL:∀(n:Nat) (l:List UInt8),n<=l.length->l.take n=(List.range n).map fun i=>gz (ar l i):=by
 intro n l h;apply List.ext_getElem
 ·simp;omega
 ·intro i h1 h2
  simp at h1;simp [E7,List.getD,show i<l.length by omega]
theorem j9 {l:List UInt8}{r:Int}{n:Nat}(h:aL l=(r,n,true)):sr r/\encR r=l.take n/\n<=l.length:=by
 by_cases hl:l.length=0
 ·unfold aL at h;rw [if_pos hl]at h;simp at h
 have hp:0<l.length:=by omega
 have d0:=cB l 0;have d0':=cG l 0;by_cases c1:ar l 0<=127
 ·rw [rA hp c1]at h
  simp only [Prod.mk.injEq]at h;obtain ⟨rfl,rfl,-⟩:=h;refine ⟨by unfold sr;omega,?_,by omega⟩;rw [nL 1 l (by omega)];unfold encR;rw [if_pos (by omega)];rfl
 by_cases c2:ar l 0<194\/244<ar l 0
 ·rw [Mx hp (by omega) c2]at h;simp at h
 by_cases c3:ar l 0<=223
 ·rw [E3 hp (by omega) c3]at h
  obtain ⟨⟨q1,q2,q3⟩,h⟩:=o9 h;rw [jh]at h;simp only [Prod.mk.injEq]at h;obtain ⟨hr,rfl,-⟩:=h;refine ⟨by unfold sr;omega,?_,by omega⟩;rw [nL 2 l (by omega)];unfold encR;rw [if_neg (by omega),if_pos (by omega),show 192+r/64=ar l 0 by omega,show 128+r %64=ar l 1 by omega];rfl
 by_cases c4:ar l 0<=239
 ·rw [E4 hp (by omega) c4]at h
  obtain ⟨⟨q1,q2,q3⟩,h⟩:=o9 h;obtain ⟨⟨q4,q5,q6⟩,h⟩:=o9 h;rw [jh]at h;simp only [Prod.mk.injEq]at h;obtain ⟨hr,rfl,-⟩:=h;have q5':128<=ar l 2:=q5;have q6':ar l 2<=191:=q6;have hr':(ar l 0 %16*64+ar l 1 %64)*64+ar l 2 %64=r:=hr;have q7:128<=ar l 1/\ar l 1<=191/\(ar l 0=224->160<=ar l 1)/\(ar l 0=237->ar l 1<=159):=by split at q2<;>split at q3<;>omega
  clear q2 q3 hr q5 q6;refine ⟨by unfold sr;omega,?_,by omega⟩;rw [nL 3 l (by omega)];unfold encR;rw [if_neg (by omega),if_neg (by omega),if_pos (by omega),show 224+r/4096=ar l 0 by omega,show 128+r/64 %64=ar l 1 by omega,show 128+r %64=ar l 2 by omega];rfl
 ·rw [E5 hp (by omega) (by omega)]at h
  obtain ⟨⟨q1,q2,q3⟩,h⟩:=o9 h;obtain ⟨⟨q4,q5,q6⟩,h⟩:=o9 h;obtain ⟨⟨q8,q9,q10⟩,h⟩:=o9 h;rw [jh]at h;simp only [Prod.mk.injEq]at h;obtain ⟨hr,rfl,-⟩:=h;have q5':128<=ar l 2:=q5;have q6':ar l 2<=191:=q6;have q9':128<=ar l 3:=q9;have q10':ar l 3<=191:=q10;have hr':((ar l 0 %8*64+ar l 1 %64)*64+ar l 2 %64)*64+ar l 3 %64=r:=hr;have q7:128<=ar l 1/\ar l 1<=191/\(ar l 0=240->144<=ar l 1)/\(ar l 0=244->ar l 1<=143):=by split at q2<;>split at q3<;>omega
  clear q2 q3 hr q5 q6 q9 q10;refine ⟨by unfold sr;omega,?_,by omega⟩;rw [nL 4 l (by omega)];unfold encR;rw [if_neg (by omega),if_neg (by omega),if_neg (by omega),show 240+r/262144=ar l 0 by omega,show 128+r/4096 %64=ar l 1 by omega,show 128+r/64 %64=ar l 2 by omega,show 128+r %64=ar l 3 by omega];rfl
theorem su(r:Int):0<(encR r).length:=(nI r).1
theorem xD(r:Int)(h:sr r)(t:List UInt8):dv (encR r++t)=r::dv t/\dU (encR r++t)=dU t:=by
 have hp:0<(encR r++t).length:=by have:=su r;simp;omega
 rw [dW hp,ji hp,JK r h t];simp
theorem vE(rs:List Int):dv (gA rs)=rs.map dN/\dU (gA rs)=true:=by
 induction rs with
 |nil=>exact ⟨dV rfl,mz rfl⟩
 |cons r rs ih=>
  have:=xD (dN r) (E6 r) (gA rs);simp only [gA,List.map_cons];rw [this.1,this.2,ih.1,ih.2];exact ⟨rfl,rfl⟩
theorem vF:∀(n:Nat) (l:List UInt8),l.length<=n->dU l=true->gA (dv l)=l:=by
 intro n
 induction n with
 |zero=>intro l h _;have:l=[]:=List.eq_nil_of_length_eq_zero (by omega);subst this;rw [dV rfl];rfl
 |succ n ih=>
  intro l h hv;by_cases h0:l.length=0
  ·have:l=[]:=List.eq_nil_of_length_eq_zero h0
   subst this;rw [dV rfl];rfl
  ·rw [ji (by omega)]at hv
   have hn:=eJ l (by omega);rw [dW (by omega)];obtain ⟨⟨r,k,ok⟩,hnx⟩:∃t,aL l=t:=⟨_,rfl⟩;simp only [hnx]at hv hn⊢;simp only [Bool.and_eq_true]at hv;obtain ⟨rfl,hv2⟩:=hv;have hval:=j9 hnx;simp only [gA];rw [lG hval.1,hval.2.1,ih (l.drop k) (by simp;omega) hv2,List.take_append_drop]
theorem CQ:∀(n:Nat) (a b:List UInt8),a.length<=n->dU a=true->dv (a++b)=dv a++dv b/\dU (a++b)=dU b:=by
 intro n a b hn hv;have hr:∀rs:List Int,(∀r∈rs,sr r)->dv (gA rs++b)=rs++dv b/\dU (gA rs++b)=dU b:=by
  intro rs
  induction rs with
  |nil=>intro _;exact ⟨rfl,rfl⟩
  |cons r rs ih=>
   intro h;have h1:=ih fun x hx=>h x (List.mem_cons_of_mem _ hx);have h2:=h r (List.mem_cons_self ..);simp only [gA];rw [List.append_assoc,lG h2,(xD r h2 _).1,(xD r h2 _).2,h1.1,h1.2];exact ⟨rfl,rfl⟩
 have he:=vF _ a (Nat.le_refl _) hv;have hok:∀r∈(dv a).map dN,sr r:=by
  intro r hr;obtain ⟨x,_,rfl⟩:=List.mem_map.1 hr;exact E6 x
 have hd:=(vE (dv a)).1;rw [he]at hd;rw [<-hd]at hok;have:=hr (dv a) hok
 rwa [he]at this
theorem My(l:List UInt8):0<=(aL l).1/\(aL l).1<=1114111:=by
 obtain ⟨⟨r,k,ok⟩,hnx⟩:∃t,aL l=t:=⟨_,rfl⟩;rw [hnx];cases ok
 ·by_cases hl:l.length=0
  ·unfold aL at hnx;rw [if_pos hl]at hnx;simp at hnx;show 0<=r/\_;omega
  ·have:=(eJ l (by omega)).2.2.2
   rw [hnx]at this;have:=(this rfl).1;simp at this;show 0<=r/\r<=1114111;omega
 ·have:=(j9 hnx).1
  unfold sr at this;exact ⟨this.1,this.2.1⟩
def Oi:List UInt8:=[32,34,60,62,96]
def JL:List UInt8:=[32,34,35,60,62]
def mSpec:List UInt8:=[32,34,35,60,62,39]
def JM:List UInt8:=[32,34,35,60,62,63,94,96,123,125]
def JN:List UInt8:=[47,58,59,61,64,91,92,93,124]
def O5:List UInt8:=[36,37,38,43,44]
def fY(k:Int):List UInt8:=if k=1 then Oi else if k=2 then JL else if k=3 then mSpec else if k=4 then JM else if k=5 then JM++JN else if k=6 then JM++JN++O5 else []
def kT(k:Int):Bool:=decide (0<=k/\k<=6)
def zN(has:List UInt8)(r:Int):Bool:=if r<0\/1114111<r then false else if r<32\/126<r then true else decide (gz r∈has)
def pb(k r:Int):Bool:=kT k&&zN (fY k) r
theorem sw {k:Int}(h:0<=k/\k<=6):kT k=true:=decide_eq_true h
theorem zO {k:Int}(h:¬(0<=k/\k<=6)):kT k=false:=decide_eq_false h
theorem E8 {has:List UInt8}{r:Int}(h:r<0\/1114111<r):zN has r=false:=by unfold zN;rw [if_pos h]
theorem sx {has:List UInt8}{r:Int}(h0:0<=r)(h1:r<=1114111)(h:r<32\/126<r):zN has r=true:=by unfold zN;rw [if_neg (by omega),if_pos h]
theorem E9 {has:List UInt8}{r:Int}(h0:32<=r)(h1:r<=126):zN has r=decide (gz r∈has):=by unfold zN;rw [if_neg (by omega),if_neg (by omega)]
def JO(l:List UInt8)(k:Nat):Prop:=ar l k=37/\k+2<l.length/\0<=aR (ar l (k+1))/\0<=aR (ar l (k+2))
instance (l:List UInt8)(k:Nat):Decidable (JO l k):=by unfold JO;infer_instance
def QT:List UInt8:=[48,49,50,51,52,53,54,55,56,57,65,66,67,68,69,70]
def up(n:Int):UInt8:=QT.getD n.toNat 0
def pe(has:List UInt8)(c:UInt8):List UInt8:=if zN has c.toNat then [37,up ((c.toNat:Int)/16),up ((c.toNat:Int) %16)]else [c]
def gn(has:List UInt8)(l:List UInt8):List UInt8:=l.flatMap (pe has)
theorem kU(has a b:List UInt8):gn has (a++b)=gn has a++gn has b:=by unfold gn;simp
theorem vG(has l:List UInt8)(h:∀i,i<l.length->zN has (ar l i)=false):gn has l=l:=by
 induction l with
 |nil=>rfl
 |cons b t ih=>
  have h0:=h 0 (by simp);rw [dh]at h0;have ht:=ih fun i hi=>by have:=h (i+1) (by simp;omega);rwa [dy]at this
  show pe has b++gn has t=b::t;rw [ht];unfold pe;rw [h0];rfl
theorem zP(has l:List UInt8):(gn has l).length<=3*l.length:=by
 induction l with
 |nil=>simp [gn]
 |cons b t ih=>
  have:(pe has b).length<=3:=by unfold pe;split<;>simp
  show(pe has b++gn has t).length<=_;simp;omega
theorem vH(has l:List UInt8)(k:Nat)(hk:k<l.length):gn has (l.take (k+1))=gn has (l.take k)++pe has (l.getD k 0):=by
 rw [List.take_succ_eq_append_getElem hk,kU];simp [gn,List.getD,hk]
end Go.Proofs.YtmfapopclbnlpaaGreatDoor
