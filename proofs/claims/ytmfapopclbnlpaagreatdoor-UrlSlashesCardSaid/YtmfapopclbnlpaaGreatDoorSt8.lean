import Derived.Lib.Hide
set_option linter.unusedVariables false
set_option linter.unusedSimpArgs false
namespace Go.Proofs.YtmfapopclbnlpaaGreatDoor
def cT(c:Int):Int:=if 48≤c∧c≤57 then c-48 else if 97≤c∧c≤102 then c-87 else if 65≤c∧c≤70 then c-55 else -1
theorem pz(c:Int):-1≤cT c∧cT c≤15:=by unfold cT;(repeat' split)<;>omega
def aD(l:List UInt8)(i:Nat):Int:=((l.getD i 0).toNat:Int)
theorem dE(l:List UInt8)(i:Nat):0≤aD l i:=by unfold aD;omega
theorem dF(l:List UInt8)(i:Nat):aD l i≤255:=by unfold aD;have:=(l.getD i 0).toNat_lt;omega
theorem Fb(l:List UInt8)(k i:Nat):aD (l.drop k) i=aD l (k+i):=by
 unfold aD;simp [List.getD,List.getElem?_drop]
def eo(c:Int):Int×Int×Int:=
 if c<194∨244<c then(0,0,0)
 else if c≤223 then(1,128,191)
 else if c=224 then(2,160,191)
 else if c=237 then(2,128,159)
 else if c≤239 then(2,128,191)
 else if c=240 then(3,144,191)
 else if c=244 then(3,128,143)
 else(3,128,191)
theorem iH(c:Int):eo c=(0,0,0)∨∃m lo hi,eo c=(m,lo,hi)∧1≤m∧m≤3∧128≤lo∧lo≤191∧128≤hi∧hi≤191:=by
 unfold eo
 (repeat' split)<;>first|(left;rfl)|(right;exact ⟨_,_,_,rfl,by decide,by decide,by decide,by decide,by decide,by decide⟩)
def nl(l:List UInt8):Nat→Nat→Int→Int→Int→Int×Nat×Bool
 |0,i,r,_,_=>(r,i,true)
 |k+1,i,r,lo,hi=>if i<l.length∧lo≤aD l i∧aD l i≤hi then nl l k (i+1) (r*64+aD l i %64) 128 191 else(65533,i,false)
def bb(l:List UInt8):Int×Nat×Bool:=
 if l.length=0 then(0,0,false)
 else if aD l 0≤127 then(aD l 0,1,true)
 else if(eo (aD l 0)).1=0 then(65533,1,false)
 else nl l (eo (aD l 0)).1.toNat 1 (aD l 0 %2^(6-(eo (aD l 0)).1.toNat)) (eo (aD l 0)).2.1 (eo (aD l 0)).2.2
def Kq(k:Nat):Int:=if k≤1 then 32 else if k=2 then 2048 else if k=3 then 131072 else 8388608
theorem Kr {k:Nat}(h:k≤3):Kq k≤131072:=by unfold Kq;(repeat' split)<;>omega
theorem Fc {k:Nat}{R x:Int}(h1:1≤k)(h:k≤3)(hr:R<Kq k):R*64+x %64<Kq (k+1):=by
 unfold Kq at *;(repeat' split)<;>(repeat' split at hr)<;>omega
theorem jc {l:List UInt8}{k:Nat}{R L H:Int}:nl l 0 k R L H=(R,k,true):=rfl
theorem ju {l:List UInt8}{j k:Nat}{R L H:Int}(h:¬(k<l.length∧L≤aD l k∧aD l k≤H)):nl l (j+1) k R L H=(65533,k,false):=by
 unfold nl;rw [if_neg h]
theorem eX {l:List UInt8}{j k:Nat}{R L H:Int}(h:k<l.length∧L≤aD l k∧aD l k≤H):nl l (j+1) k R L H=nl l j (k+1) (R*64+aD l k %64) 128 191:=by
 rw [nl,if_pos h]
theorem LR(l:List UInt8):∀(j i:Nat) (r lo hi:Int),1≤i→i≤l.length→
 1≤(nl l j i r lo hi).2.1∧(nl l j i r lo hi).2.1≤l.length∧(nl l j i r lo hi).2.1≤i+j∧((nl l j i r lo hi).2.2=false→(nl l j i r lo hi).1=65533∧(nl l j i r lo hi).2.1<i+j):=by
 intro j
 induction j with
 |zero=>intro i r lo hi h1 h2;refine ⟨h1,h2,Nat.le_refl _,fun h=>by cases h⟩
 |succ j ih=>
  intro i r lo hi h1 h2
  by_cases h:i<l.length∧lo≤aD l i∧aD l i≤hi
  ·rw [eX h]
   obtain ⟨a,b,c,d⟩:=ih (i+1) (r*64+aD l i %64) 128 191 (by omega) (by omega)
   exact ⟨a,b,by omega,fun e=>⟨(d e).1,by have:=(d e).2;omega⟩⟩
  ·rw [ju h];exact ⟨h1,h2,by show i≤_;omega,fun _=>⟨rfl,by show i<_;omega⟩⟩
theorem eY(l:List UInt8)(h:0<l.length):1≤(bb l).2.1∧(bb l).2.1≤l.length∧(bb l).2.1≤4∧((bb l).2.2=false→(bb l).1=65533∧(bb l).2.1≤3):=by
 unfold bb
 rw [if_neg (by omega)]
 split
 ·exact ⟨Nat.le_refl _,h,by show 1≤4;omega,fun e=>by cases e⟩
 ·split
  ·exact ⟨Nat.le_refl _,h,by show 1≤4;omega,fun e=>⟨rfl,by show 1≤3;omega⟩⟩
  ·obtain ⟨a,b,c,d⟩:=LR l (eo (aD l 0)).1.toNat 1 (aD l 0 %2^(6-(eo (aD l 0)).1.toNat)) (eo (aD l 0)).2.1 (eo (aD l 0)).2.2 (Nat.le_refl _) h
   have hm:(eo (aD l 0)).1.toNat≤3:=by
    rcases iH (aD l 0)with h|⟨m,lo,hi,h,h1,h2,_⟩<;>rw [h]
    ·decide
    ·show m.toNat≤3;omega
   exact ⟨a,b,by omega,fun e=>⟨(d e).1,by have:=(d e).2;omega⟩⟩
def dec:Nat→List UInt8→List (Int×Nat×Bool)
 |0,_=>[]
 |f+1,l=>if l.length=0 then []else bb l::dec f (l.drop (bb l).2.1)
def zn(l:List UInt8):List (Int×Nat×Bool):=dec l.length l
theorem Fe:∀(f g:Nat) (l:List UInt8),l.length≤f→l.length≤g→dec f l=dec g l:=by
 intro f
 induction f with
 |zero=>intro g l hf _;cases g with
  |zero=>rfl
  |succ g=>have:l.length=0:=by omega
           simp [dec,this]
 |succ f ih=>intro g l hf hg;cases g with
  |zero=>have:l.length=0:=by omega
         simp [dec,this]
  |succ g=>
   unfold dec
   by_cases h:l.length=0
   ·rw [if_pos h,if_pos h]
   ·have hn:=eY l (by omega)
    rw [if_neg h,if_neg h,ih g (l.drop (bb l).2.1) (by simp;omega) (by simp;omega)]
theorem Ff(f:Nat)(l:List UInt8):dec (f+1) l=if l.length=0 then []else bb l::dec f (l.drop (bb l).2.1):=rfl
theorem wP {l:List UInt8}(h:l.length=0):zn l=[]:=by unfold zn;rw [h];rfl
theorem s8 {l:List UInt8}(h:0<l.length):zn l=bb l::zn (l.drop (bb l).2.1):=by
 have hn:=eY l h
 unfold zn
 conv=>lhs;rw [show l.length=(l.length-1)+1 from by omega]
 rw [Ff,if_neg (by omega),Fe (l.length-1) (l.drop (bb l).2.1).length _ (by simp;omega) (Nat.le_refl _)]
def dy(l:List UInt8):List Int:=(zn l).map (·.1)
def di(l:List UInt8):Bool:=(zn l).all (·.2.2)
theorem eZ {l:List UInt8}(h:l.length=0):dy l=[]:=by unfold dy;rw [wP h];rfl
theorem dW {l:List UInt8}(h:0<l.length):dy l=(bb l).1::dy (l.drop (bb l).2.1):=by unfold dy;rw [s8 h];rfl
theorem lf {l:List UInt8}(h:l.length=0):di l=true:=by unfold di;rw [wP h];rfl
theorem gT {l:List UInt8}(h:0<l.length):di l=((bb l).2.2&&di (l.drop (bb l).2.1)):=by unfold di;rw [s8 h];rfl
theorem mb:∀(n:Nat) (l:List UInt8),l.length≤n→(dy l).length≤l.length:=by
 intro n
 induction n with
 |zero=>intro l h;rw [eZ (by omega)];simp
 |succ n ih=>
  intro l h
  by_cases h0:l.length=0
  ·rw [eZ h0];simp
  ·have hn:=eY l (by omega)
   have:=ih (l.drop (bb l).2.1) (by simp;omega)
   rw [dW (by omega)]
   simp at this⊢
   omega
def ko(n:Int):UInt8:=UInt8.ofNat n.toNat
theorem fa {n:Int}(h0:0≤n)(h1:n≤255):((ko n).toNat:Int)=n:=by
 unfold ko
 rw [UInt8.toNat_ofNat',Nat.mod_eq_of_lt (by omega)];omega
def hZ(r:Int):Int:=if r<0∨1114111<r∨(55296≤r∧r≤57343)then 65533 else r
theorem HY(r:Int):0≤hZ r∧hZ r≤1114111:=by unfold hZ;split<;>omega
def encR(r:Int):List UInt8:=
 if r<128 then [ko r]
 else if r<2048 then [ko (192+r/64),ko (128+r %64)]
 else if r<65536 then [ko (224+r/4096),ko (128+r/64 %64),ko (128+r %64)]
 else [ko (240+r/262144),ko (128+r/4096 %64),ko (128+r/64 %64),ko (128+r %64)]
theorem wQ(r:Int):1≤(encR r).length∧(encR r).length≤4:=by unfold encR;(repeat' split)<;>simp
def fP:List Int→List UInt8
 |[]=>[]
 |r::rs=>encR (hZ r)++fP rs
theorem jP(a b:List Int):fP (a++b)=fP a++fP b:=by
 induction a with
 |nil=>rfl
 |cons x a ih=>simp [fP,ih]
theorem mc(a:List Int):a.length≤(fP a).length∧(fP a).length≤4*a.length:=by
 induction a with
 |nil=>simp [fP]
 |cons x a ih=>have:=wQ (hZ x);simp [fP];omega
theorem CU(a:List Int)(k:Nat)(hk:k<a.length):fP (a.take (k+1))=fP (a.take k)++encR (hZ (a.getD k 0)):=by
 rw [List.take_succ_eq_append_getElem hk,jP]
 simp [fP,List.getD,hk]
def splitB(c:Int):List UInt8→List (List UInt8)
 |[]=>[[]]
 |b::t=>if(b.toNat:Int)=c then []::splitB c t else match splitB c t with
  |p::ps=>(b::p)::ps
  |[]=>[[b]]
theorem CV(c:Int)(l:List UInt8):splitB c l≠[]:=by
 cases l with
 |nil=>simp [splitB]
 |cons b t=>
  unfold splitB
  split
  ·simp
  ·split<;>simp
theorem zo(b:UInt8)(t:List UInt8):aD (b::t) 0=(b.toNat:Int):=rfl
theorem zp(b:UInt8)(t:List UInt8)(i:Nat):aD (b::t) (i+1)=aD t i:=by unfold aD;simp [List.getD]
theorem splitB_hit(c:Int):∀(n:Nat) (l:List UInt8),n<l.length→(∀q,q<n→aD l q≠c)→aD l n=c→splitB c l=l.take n::splitB c (l.drop (n+1)):=by
 intro n
 induction n with
 |zero=>
  intro l hl _ h
  match l,hl with
  |b::t,_=>
   rw [zo]at h
   conv=>lhs;unfold splitB
   rw [if_pos h];rfl
 |succ n ih=>
  intro l hl hn h
  match l,hl with
  |b::t,hl=>
   have h0:=hn 0 (by omega)
   rw [zo]at h0
   rw [zp]at h
   have:=ih t (by simpa using hl) (fun q hq=>by have:=hn (q+1) (by omega);rwa [zp]at this) h
   conv=>lhs;unfold splitB
   rw [if_neg h0,this];rfl
theorem zq(c:Int):∀(l:List UInt8),(∀q,q<l.length→aD l q≠c)→splitB c l=[l]:=by
 intro l
 induction l with
 |nil=>intro _;rfl
 |cons b t ih=>
  intro h
  have h0:=h 0 (by simp)
  rw [zo]at h0
  have:=ih fun q hq=>by have:=h (q+1) (by simp;omega);rwa [zp]at this
  conv=>lhs;unfold splitB
  rw [if_neg h0,this]
def dB(l:List UInt8):List UInt8:=if 0<l.length∧aD l (l.length-1)=46 then l.take (l.length-1)else l
def iI(l:List UInt8):Bool:=decide (2≤l.length∧aD l 0=48∧(aD l 1=120∨aD l 1=88))
def jd(l:List UInt8):List UInt8:=if iI l=true then l.drop 2 else []
def dH(n:Int):List UInt8→Bool
 |[]=>true
 |b::t=>decide (0≤cT (b.toNat:Int)∧cT (b.toNat:Int)<n)&&dH n t
def qB(n v:Int)(c:Int):Int:=min (v*n+cT c) 4294967296
def fi(n:Int)(v:Int)(l:List UInt8):Int:=l.foldl (fun v b=>qB n v (b.toNat:Int)) v
def gU(l:List UInt8):Int:=if iI l=true then 16 else if 1<l.length∧aD l 0=48 then 8 else 10
def me(l:List UInt8):List UInt8:=if iI l=true then l.drop 2 else l
def eQ(l:List UInt8):Bool:=(iI l||decide (0<l.length))&&dH (gU l) (me l)
def dP(l:List UInt8):Int:=if eQ l=true then fi (gU l) 0 (me l)else 0
theorem zr(n:Int):∀(l:List UInt8) (i:Nat),i<l.length→dH n (l.drop i)=(decide (0≤cT (aD l i)∧cT (aD l i)<n)&&dH n (l.drop (i+1))):=by
 intro l i hi
 rw [List.drop_eq_getElem_cons hi]
 show(decide _ &&_)=_
 have e:aD l i=((l[i]).toNat:Int):=by unfold aD;simp [List.getD,hi]
 rw [e]
theorem iJ(n:Int)(l:List UInt8)(i:Nat)(h:i<l.length):fi n 0 (l.take (i+1))=qB n (fi n 0 (l.take i)) (aD l i):=by
 unfold fi
 rw [List.take_succ_eq_append_getElem h,List.foldl_append]
 have e:aD l i=((l[i]).toNat:Int):=by unfold aD;simp [List.getD,h]
 rw [e];rfl
theorem jQ(n:Int):∀(l:List UInt8),dH n l=true→∀i,i<l.length→0≤cT (aD l i)∧cT (aD l i)<n:=by
 intro l
 induction l with
 |nil=>intro _ i hi;simp at hi
 |cons b t ih=>
  intro h i hi
  have h2:decide (0≤cT (b.toNat:Int)∧cT (b.toNat:Int)<n)=true∧dH n t=true:=by
   have h':(decide (0≤cT (b.toNat:Int)∧cT (b.toNat:Int)<n)&&dH n t)=true:=h
   rwa [Bool.and_eq_true]at h'
  cases i with
  |zero=>rw [zo];exact of_decide_eq_true h2.1
  |succ i=>rw [zp];exact ih h2.2 i (by simpa using hi)
theorem mg(n:Int)(hn:0≤n)(l:List UInt8)(h:∀i,i<l.length→0≤cT (aD l i)):∀i,i≤l.length→0≤fi n 0 (l.take i)∧fi n 0 (l.take i)≤4294967296:=by
 intro i
 induction i with
 |zero=>intro _;simp [fi]
 |succ i ih=>
  intro hi
  obtain ⟨h1,h2⟩:=ih (by omega)
  rw [iJ n l i (by omega)]
  have h3:=h i (by omega)
  have h4:0≤fi n 0 (l.take i)*n:=Int.mul_nonneg h1 hn
  unfold qB
  omega
theorem s9(b:UInt8):ko (b.toNat:Int)=b:=by unfold ko;simp
theorem cB(b:UInt8)(t:List UInt8):aD (b::t) 0=(b.toNat:Int):=rfl
theorem cG(b:UInt8)(t:List UInt8)(i:Nat):aD (b::t) (i+1)=aD t i:=by unfold aD;simp [List.getD]
theorem LS {c:Int}(h0:194≤c)(h1:c≤223):eo c=(1,128,191):=by unfold eo;rw [if_neg (by omega),if_pos (by omega)]
theorem LU {c:Int}(h0:224≤c)(h1:c≤239):eo c=(2,if c=224 then 160 else 128,if c=237 then 159 else 191):=by
 unfold eo;rw [if_neg (by omega),if_neg (by omega)];(repeat' split)<;>first|rfl|(exfalso;omega)
theorem LV {c:Int}(h0:240≤c)(h1:c≤244):eo c=(3,if c=240 then 144 else 128,if c=244 then 143 else 191):=by
 unfold eo;rw [if_neg (by omega),if_neg (by omega),if_neg (by omega),if_neg (by omega),if_neg (by omega)];(repeat' split)<;>first|rfl|(exfalso;omega)
theorem LW {c:Int}(h:c<194∨244<c):eo c=(0,0,0):=by unfold eo;rw [if_pos h]
theorem pA {l:List UInt8}(hl:0<l.length)(h:aD l 0≤127):bb l=(aD l 0,1,true):=by unfold bb;rw [if_neg (by omega),if_pos h]
theorem HZ {l:List UInt8}(hl:0<l.length)(h:127<aD l 0)(h2:aD l 0<194∨244<aD l 0):bb l=(65533,1,false):=by
 unfold bb;rw [if_neg (by omega),if_neg (by omega),LW h2,if_pos rfl]
theorem Bo {l:List UInt8}(hl:0<l.length)(h0:194≤aD l 0)(h1:aD l 0≤223):bb l=nl l 1 1 (aD l 0 %32) 128 191:=by
 unfold bb;rw [if_neg (by omega),if_neg (by omega),LS h0 h1,if_neg (by decide)];rfl
theorem Bp {l:List UInt8}(hl:0<l.length)(h0:224≤aD l 0)(h1:aD l 0≤239):bb l=nl l 2 1 (aD l 0 %16) (if aD l 0=224 then 160 else 128) (if aD l 0=237 then 159 else 191):=by
 unfold bb;rw [if_neg (by omega),if_neg (by omega),LU h0 h1,if_neg (by decide:¬(2:Int)=0)];rfl
theorem Bq {l:List UInt8}(hl:0<l.length)(h0:240≤aD l 0)(h1:aD l 0≤244):bb l=nl l 3 1 (aD l 0 %8) (if aD l 0=240 then 144 else 128) (if aD l 0=244 then 143 else 191):=by
 unfold bb;rw [if_neg (by omega),if_neg (by omega),LV h0 h1,if_neg (by decide:¬(3:Int)=0)];rfl
def zt(r:Int):Prop:=0≤r∧r≤1114111∧¬(55296≤r∧r≤57343)
theorem Br(r:Int):zt (hZ r):=by unfold hZ zt;split<;>omega
theorem pB {r:Int}(h:zt r):hZ r=r:=by unfold zt at h;unfold hZ;rw [if_neg (by omega)]
theorem Fg(r:Int)(h:zt r)(t:List UInt8):bb (encR r++t)=(r,(encR r).length,true):=by
 unfold zt at h
 obtain ⟨h0,h1,h2⟩:=h
 unfold encR
 by_cases c1:r<128
 ·rw [if_pos c1]
  have b0:aD ([ko r]++t) 0=r:=by rw [List.singleton_append,cB,fa h0 (by omega)]
  rw [pA (by simp) (by omega),b0];rfl
 rw [if_neg c1]
 by_cases c2:r<2048
 ·rw [if_pos c2]
  simp only [List.cons_append,List.nil_append]
  generalize hL:ko (192+r/64)::ko (128+r %64)::t=L
  have hlen:2≤L.length:=by rw [←hL];simp
  have b0:aD L 0=192+r/64:=by rw [←hL,cB,fa (by omega) (by omega)]
  have b1:aD L 1=128+r %64:=by rw [←hL,cG,cB,fa (by omega) (by omega)]
  rw [Bo (by omega) (by omega) (by omega),eX ⟨by omega,by omega,by omega⟩,jc,b0,b1]
  have:(192+r/64) %32*64+(128+r %64) %64=r:=by omega
  rw [this];rfl
 rw [if_neg c2]
 by_cases c3:r<65536
 ·rw [if_pos c3]
  simp only [List.cons_append,List.nil_append]
  generalize hL:ko (224+r/4096)::ko (128+r/64 %64)::ko (128+r %64)::t=L
  have hlen:3≤L.length:=by rw [←hL];simp
  have b0:aD L 0=224+r/4096:=by rw [←hL,cB,fa (by omega) (by omega)]
  have b1:aD L 1=128+r/64 %64:=by rw [←hL,cG,cB,fa (by omega) (by omega)]
  have b2:aD L (1+1)=128+r %64:=by rw [←hL,cG,cG,cB,fa (by omega) (by omega)]
  rw [Bp (by omega) (by omega) (by omega),eX ⟨by omega,by split<;>omega,by split<;>omega⟩,eX ⟨by omega,by omega,by omega⟩,jc,b0,b1,b2]
  have:((224+r/4096) %16*64+(128+r/64 %64) %64)*64+(128+r %64) %64=r:=by omega
  rw [this];rfl
 ·rw [if_neg c3]
  simp only [List.cons_append,List.nil_append]
  generalize hL:ko (240+r/262144)::ko (128+r/4096 %64)::ko (128+r/64 %64)::ko (128+r %64)::t=L
  have hlen:4≤L.length:=by rw [←hL];simp
  have b0:aD L 0=240+r/262144:=by rw [←hL,cB,fa (by omega) (by omega)]
  have b1:aD L 1=128+r/4096 %64:=by rw [←hL,cG,cB,fa (by omega) (by omega)]
  have b2:aD L (1+1)=128+r/64 %64:=by rw [←hL,cG,cG,cB,fa (by omega) (by omega)]
  have b3:aD L (1+1+1)=128+r %64:=by rw [←hL,cG,cG,cG,cB,fa (by omega) (by omega)]
  rw [Bq (by omega) (by omega) (by omega),eX ⟨by omega,by split<;>omega,by split<;>omega⟩,eX ⟨by omega,by omega,by omega⟩,eX ⟨by omega,by omega,by omega⟩,jc,b0,b1,b2,b3]
  have:(((240+r/262144) %8*64+(128+r/4096 %64) %64)*64+(128+r/64 %64) %64)*64+(128+r %64) %64=r:=by omega
  rw [this];rfl
theorem nC {l:List UInt8}{j k n:Nat}{R L H r:Int}(h:nl l (j+1) k R L H=(r,n,true)):
 (k<l.length∧L≤aD l k∧aD l k≤H)∧nl l j (k+1) (R*64+aD l k %64) 128 191=(r,n,true):=by
 by_cases c:k<l.length∧L≤aD l k∧aD l k≤H
 ·exact ⟨c,by rw [←eX c];exact h⟩
 ·rw [ju c]at h;simp at h
theorem H0(l:List UInt8)(i:Nat):ko (aD l i)=l.getD i 0:=by unfold aD;exact s9 _
theorem mh:∀(n:Nat) (l:List UInt8),n≤l.length→l.take n=(List.range n).map fun i=>ko (aD l i):=by
 intro n l h
 apply List.ext_getElem
 ·simp;omega
 ·intro i h1 h2
  simp at h1
  simp [H0,List.getD,show i<l.length by omega]
theorem lg {l:List UInt8}{r:Int}{n:Nat}(h:bb l=(r,n,true)):zt r∧encR r=l.take n∧n≤l.length:=by
 by_cases hl:l.length=0
 ·unfold bb at h;rw [if_pos hl]at h;simp at h
 have hp:0<l.length:=by omega
 have d0:=dE l 0
 have d0':=dF l 0
 by_cases c1:aD l 0≤127
 ·rw [pA hp c1]at h
  simp only [Prod.mk.injEq]at h
  obtain ⟨rfl,rfl,-⟩:=h
  refine ⟨by unfold zt;omega,?_,by omega⟩
  rw [mh 1 l (by omega)]
  unfold encR
  rw [if_pos (by omega)];rfl
 by_cases c2:aD l 0<194∨244<aD l 0
 ·rw [HZ hp (by omega) c2]at h;simp at h
 by_cases c3:aD l 0≤223
 ·rw [Bo hp (by omega) c3]at h
  obtain ⟨⟨q1,q2,q3⟩,h⟩:=nC h
  rw [jc]at h
  simp only [Prod.mk.injEq]at h
  obtain ⟨hr,rfl,-⟩:=h
  refine ⟨by unfold zt;omega,?_,by omega⟩
  rw [mh 2 l (by omega)]
  unfold encR
  rw [if_neg (by omega),if_pos (by omega),show 192+r/64=aD l 0 by omega,show 128+r %64=aD l 1 by omega];rfl
 by_cases c4:aD l 0≤239
 ·rw [Bp hp (by omega) c4]at h
  obtain ⟨⟨q1,q2,q3⟩,h⟩:=nC h
  obtain ⟨⟨q4,q5,q6⟩,h⟩:=nC h
  rw [jc]at h
  simp only [Prod.mk.injEq]at h
  obtain ⟨hr,rfl,-⟩:=h
  have q5':128≤aD l 2:=q5
  have q6':aD l 2≤191:=q6
  have hr':(aD l 0 %16*64+aD l 1 %64)*64+aD l 2 %64=r:=hr
  have q7:128≤aD l 1∧aD l 1≤191∧(aD l 0=224→160≤aD l 1)∧(aD l 0=237→aD l 1≤159):=by split at q2<;>split at q3<;>omega
  clear q2 q3 hr q5 q6
  refine ⟨by unfold zt;omega,?_,by omega⟩
  rw [mh 3 l (by omega)]
  unfold encR
  rw [if_neg (by omega),if_neg (by omega),if_pos (by omega),show 224+r/4096=aD l 0 by omega,show 128+r/64 %64=aD l 1 by omega,show 128+r %64=aD l 2 by omega];rfl
 ·rw [Bq hp (by omega) (by omega)]at h
  obtain ⟨⟨q1,q2,q3⟩,h⟩:=nC h
  obtain ⟨⟨q4,q5,q6⟩,h⟩:=nC h
  obtain ⟨⟨q8,q9,q10⟩,h⟩:=nC h
  rw [jc]at h
  simp only [Prod.mk.injEq]at h
  obtain ⟨hr,rfl,-⟩:=h
  have q5':128≤aD l 2:=q5
  have q6':aD l 2≤191:=q6
  have q9':128≤aD l 3:=q9
  have q10':aD l 3≤191:=q10
  have hr':((aD l 0 %8*64+aD l 1 %64)*64+aD l 2 %64)*64+aD l 3 %64=r:=hr
  have q7:128≤aD l 1∧aD l 1≤191∧(aD l 0=240→144≤aD l 1)∧(aD l 0=244→aD l 1≤143):=by split at q2<;>split at q3<;>omega
  clear q2 q3 hr q5 q6 q9 q10
  refine ⟨by unfold zt;omega,?_,by omega⟩
  rw [mh 4 l (by omega)]
  unfold encR
  rw [if_neg (by omega),if_neg (by omega),if_neg (by omega),show 240+r/262144=aD l 0 by omega,show 128+r/4096 %64=aD l 1 by omega,show 128+r/64 %64=aD l 2 by omega,show 128+r %64=aD l 3 by omega];rfl
theorem Fh(r:Int):0<(encR r).length:=(wQ r).1
theorem uP(r:Int)(h:zt r)(t:List UInt8):dy (encR r++t)=r::dy t∧di (encR r++t)=di t:=by
 have hp:0<(encR r++t).length:=by have:=Fh r;simp;omega
 rw [dW hp,gT hp,Fg r h t]
 simp
theorem CW(rs:List Int):dy (fP rs)=rs.map hZ∧di (fP rs)=true:=by
 induction rs with
 |nil=>exact ⟨eZ rfl,lf rfl⟩
 |cons r rs ih=>
  have:=uP (hZ r) (Br r) (fP rs)
  simp only [fP,List.map_cons]
  rw [this.1,this.2,ih.1,ih.2]
  exact ⟨rfl,rfl⟩
theorem ta:∀(n:Nat) (l:List UInt8),l.length≤n→di l=true→fP (dy l)=l:=by
 intro n
 induction n with
 |zero=>intro l h _;have:l=[]:=List.eq_nil_of_length_eq_zero (by omega);subst this;rw [eZ rfl];rfl
 |succ n ih=>
  intro l h hv
  by_cases h0:l.length=0
  ·have:l=[]:=List.eq_nil_of_length_eq_zero h0
   subst this;rw [eZ rfl];rfl
  ·rw [gT (by omega)]at hv
   have hn:=eY l (by omega)
   rw [dW (by omega)]
   obtain ⟨⟨r,k,ok⟩,hnx⟩:∃t,bb l=t:=⟨_,rfl⟩
   simp only [hnx]at hv hn⊢
   simp only [Bool.and_eq_true]at hv
   obtain ⟨rfl,hv2⟩:=hv
   have hval:=lg hnx
   simp only [fP]
   rw [pB hval.1,hval.2.1,ih (l.drop k) (by simp;omega) hv2,List.take_append_drop]
theorem zu:∀(n:Nat) (a b:List UInt8),a.length≤n→di a=true→dy (a++b)=dy a++dy b∧di (a++b)=di b:=by
 intro n a b hn hv
 have hr:∀rs:List Int,(∀r∈rs,zt r)→dy (fP rs++b)=rs++dy b∧di (fP rs++b)=di b:=by
  intro rs
  induction rs with
  |nil=>intro _;exact ⟨rfl,rfl⟩
  |cons r rs ih=>
   intro h
   have h1:=ih fun x hx=>h x (List.mem_cons_of_mem _ hx)
   have h2:=h r (List.mem_cons_self ..)
   simp only [fP]
   rw [List.append_assoc,pB h2,(uP r h2 _).1,(uP r h2 _).2,h1.1,h1.2]
   exact ⟨rfl,rfl⟩
 have he:=ta _ a (Nat.le_refl _) hv
 have hok:∀r∈(dy a).map hZ,zt r:=by
  intro r hr
  obtain ⟨x,_,rfl⟩:=List.mem_map.1 hr
  exact Br x
 have hd:=(CW (dy a)).1
 rw [he]at hd
 rw [←hd]at hok
 have:=hr (dy a) hok
 rwa [he]at this
theorem H6(l:List UInt8):0≤(bb l).1∧(bb l).1≤1114111:=by
 obtain ⟨⟨r,k,ok⟩,hnx⟩:∃t,bb l=t:=⟨_,rfl⟩
 rw [hnx]
 cases ok
 ·by_cases hl:l.length=0
  ·unfold bb at hnx;rw [if_pos hl]at hnx;simp at hnx;show 0≤r∧_;omega
  ·have:=(eY l (by omega)).2.2.2
   rw [hnx]at this
   have:=(this rfl).1
   simp at this
   show 0≤r∧r≤1114111
   omega
 ·have:=(lg hnx).1
  unfold zt at this
  exact ⟨this.1,this.2.1⟩
def Ls:List UInt8:=[32,34,60,62,96]
def Ks:List UInt8:=[32,34,35,60,62]
def mSpec:List UInt8:=[32,34,35,60,62,39]
def Fi:List UInt8:=[32,34,35,60,62,63,94,96,123,125]
def Fj:List UInt8:=[47,58,59,61,64,91,92,93,124]
def Kt:List UInt8:=[36,37,38,43,44]
def tb(k:Int):List UInt8:=if k=1 then Ls else if k=2 then Ks else if k=3 then mSpec else if k=4 then Fi else if k=5 then Fi++Fj else if k=6 then Fi++Fj++Kt else []
def qC(k:Int):Bool:=decide (0≤k∧k≤6)
def CX(has:List UInt8)(r:Int):Bool:=if r<0∨1114111<r then false else if r<32∨126<r then true else decide (ko r∈has)
theorem Fk {k:Int}(h:0≤k∧k≤6):qC k=true:=decide_eq_true h
theorem Fl {k:Int}(h:¬(0≤k∧k≤6)):qC k=false:=decide_eq_false h
theorem H7 {has:List UInt8}{r:Int}(h:r<0∨1114111<r):CX has r=false:=by unfold CX;rw [if_pos h]
theorem Fm {has:List UInt8}{r:Int}(h0:0≤r)(h1:r≤1114111)(h:r<32∨126<r):CX has r=true:=by unfold CX;rw [if_neg (by omega),if_pos h]
theorem H9 {has:List UInt8}{r:Int}(h0:32≤r)(h1:r≤126):CX has r=decide (ko r∈has):=by unfold CX;rw [if_neg (by omega),if_neg (by omega)]
def Fo(l:List UInt8)(k:Nat):Prop:=aD l k=37∧k+2<l.length∧0≤cT (aD l (k+1))∧0≤cT (aD l (k+2))
instance (l:List UInt8)(k:Nat):Decidable (Fo l k):=by unfold Fo;infer_instance
def Me:List UInt8:=[48,49,50,51,52,53,54,55,56,57,65,66,67,68,69,70]
def up(n:Int):UInt8:=Me.getD n.toNat 0
def pe(has:List UInt8)(c:UInt8):List UInt8:=if CX has c.toNat then [37,up ((c.toNat:Int)/16),up ((c.toNat:Int) %16)]else [c]
def gj(has:List UInt8)(l:List UInt8):List UInt8:=l.flatMap (pe has)
theorem oE(has a b:List UInt8):gj has (a++b)=gj has a++gj has b:=by unfold gj;simp
theorem td(has l:List UInt8)(h:∀i,i<l.length→CX has (aD l i)=false):gj has l=l:=by
 induction l with
 |nil=>rfl
 |cons b t ih=>
  have h0:=h 0 (by simp)
  rw [cB]at h0
  have ht:=ih fun i hi=>by have:=h (i+1) (by simp;omega);rwa [cG]at this
  show pe has b++gj has t=b::t
  rw [ht];unfold pe;rw [h0];rfl
theorem wR(has l:List UInt8):(gj has l).length≤3*l.length:=by
 induction l with
 |nil=>simp [gj]
 |cons b t ih=>
  have:(pe has b).length≤3:=by unfold pe;split<;>simp
  show(pe has b++gj has t).length≤_
  simp;omega
theorem te(has l:List UInt8)(k:Nat)(hk:k<l.length):gj has (l.take (k+1))=gj has (l.take k)++pe has (l.getD k 0):=by
 rw [List.take_succ_eq_append_getElem hk,oE]
 simp [gj,List.getD,hk]
end Go.Proofs.YtmfapopclbnlpaaGreatDoor
