import Derived.Lib.Hide
set_option linter.unusedVariables false
set_option linter.unusedSimpArgs false
namespace Go.Proofs.YtmfapopclbnlpaaGreatDoor
def cQ(c:Int):Int:=if 48≤c∧c≤57 then c-48 else if 97≤c∧c≤102 then c-87 else if 65≤c∧c≤70 then c-55 else -1
theorem o5(c:Int):-1≤cQ c∧cQ c≤15:=by unfold cQ;(repeat' split)<;>omega
def aK(l:List UInt8)(i:Nat):Int:=((l.getD i 0).toNat:Int)
theorem dy(l:List UInt8)(i:Nat):0≤aK l i:=by unfold aK;omega
theorem dA(l:List UInt8)(i:Nat):aK l i≤255:=by unfold aK;have:=(l.getD i 0).toNat_lt;omega
theorem ED(l:List UInt8)(k i:Nat):aK (l.drop k) i=aK l (k+i):=by
 unfold aK;simp [List.getD,List.getElem?_drop]
def oN(c:Int):Int×Int×Int:=
 if c<194∨244<c then(0,0,0)
 else if c≤223 then(1,128,191)
 else if c=224 then(2,160,191)
 else if c=237 then(2,128,159)
 else if c≤239 then(2,128,191)
 else if c=240 then(3,144,191)
 else if c=244 then(3,128,143)
 else(3,128,191)
theorem sF(c:Int):oN c=(0,0,0)∨∃m lo hi,oN c=(m,lo,hi)∧1≤m∧m≤3∧128≤lo∧lo≤191∧128≤hi∧hi≤191:=by
 unfold oN
 (repeat' split)<;>first|(left;rfl)|(right;exact ⟨_,_,_,rfl,by decide,by decide,by decide,by decide,by decide,by decide⟩)
def nl(l:List UInt8):Nat→Nat→Int→Int→Int→Int×Nat×Bool
 |0,i,r,_,_=>(r,i,true)
 |k+1,i,r,lo,hi=>if i<l.length∧lo≤aK l i∧aK l i≤hi then nl l k (i+1) (r*64+aK l i %64) 128 191 else(65533,i,false)
def bC(l:List UInt8):Int×Nat×Bool:=
 if l.length=0 then(0,0,false)
 else if aK l 0≤127 then(aK l 0,1,true)
 else if(oN (aK l 0)).1=0 then(65533,1,false)
 else nl l (oN (aK l 0)).1.toNat 1 (aK l 0 %2^(6-(oN (aK l 0)).1.toNat)) (oN (aK l 0)).2.1 (oN (aK l 0)).2.2
def JG(k:Nat):Int:=if k≤1 then 32 else if k=2 then 2048 else if k=3 then 131072 else 8388608
theorem JH {k:Nat}(h:k≤3):JG k≤131072:=by unfold JG;(repeat' split)<;>omega
theorem EE {k:Nat}{R x:Int}(h1:1≤k)(h:k≤3)(hr:R<JG k):R*64+x %64<JG (k+1):=by
 unfold JG at *;(repeat' split)<;>(repeat' split at hr)<;>omega
theorem iW {l:List UInt8}{k:Nat}{R L H:Int}:nl l 0 k R L H=(R,k,true):=rfl
theorem wc {l:List UInt8}{j k:Nat}{R L H:Int}(h:¬(k<l.length∧L≤aK l k∧aK l k≤H)):nl l (j+1) k R L H=(65533,k,false):=by
 unfold nl;rw [if_neg h]
theorem iX {l:List UInt8}{j k:Nat}{R L H:Int}(h:k<l.length∧L≤aK l k∧aK l k≤H):nl l (j+1) k R L H=nl l j (k+1) (R*64+aK l k %64) 128 191:=by
 rw [nl,if_pos h]
theorem K2(l:List UInt8):∀(j i:Nat) (r lo hi:Int),1≤i→i≤l.length→
 1≤(nl l j i r lo hi).2.1∧(nl l j i r lo hi).2.1≤l.length∧(nl l j i r lo hi).2.1≤i+j∧((nl l j i r lo hi).2.2=false→(nl l j i r lo hi).1=65533∧(nl l j i r lo hi).2.1<i+j):=by
 intro j
 induction j with
 |zero=>intro i r lo hi h1 h2;refine ⟨h1,h2,Nat.le_refl _,fun h=>by cases h⟩
 |succ j ih=>
  intro i r lo hi h1 h2
  by_cases h:i<l.length∧lo≤aK l i∧aK l i≤hi
  ·rw [iX h]
   obtain ⟨a,b,c,d⟩:=ih (i+1) (r*64+aK l i %64) 128 191 (by omega) (by omega)
   exact ⟨a,b,by omega,fun e=>⟨(d e).1,by have:=(d e).2;omega⟩⟩
  ·rw [wc h];exact ⟨h1,h2,by show i≤_;omega,fun _=>⟨rfl,by show i<_;omega⟩⟩
theorem gO(l:List UInt8)(h:0<l.length):1≤(bC l).2.1∧(bC l).2.1≤l.length∧(bC l).2.1≤4∧((bC l).2.2=false→(bC l).1=65533∧(bC l).2.1≤3):=by
 unfold bC
 rw [if_neg (by omega)]
 split
 ·exact ⟨Nat.le_refl _,h,by show 1≤4;omega,fun e=>by cases e⟩
 ·split
  ·exact ⟨Nat.le_refl _,h,by show 1≤4;omega,fun e=>⟨rfl,by show 1≤3;omega⟩⟩
  ·obtain ⟨a,b,c,d⟩:=K2 l (oN (aK l 0)).1.toNat 1 (aK l 0 %2^(6-(oN (aK l 0)).1.toNat)) (oN (aK l 0)).2.1 (oN (aK l 0)).2.2 (Nat.le_refl _) h
   have hm:(oN (aK l 0)).1.toNat≤3:=by
    rcases sF (aK l 0)with h|⟨m,lo,hi,h,h1,h2,_⟩<;>rw [h]
    ·decide
    ·show m.toNat≤3;omega
   exact ⟨a,b,by omega,fun e=>⟨(d e).1,by have:=(d e).2;omega⟩⟩
def dec:Nat→List UInt8→List (Int×Nat×Bool)
 |0,_=>[]
 |f+1,l=>if l.length=0 then []else bC l::dec f (l.drop (bC l).2.1)
def yW(l:List UInt8):List (Int×Nat×Bool):=dec l.length l
theorem EF:∀(f g:Nat) (l:List UInt8),l.length≤f→l.length≤g→dec f l=dec g l:=by
 intro f
 induction f with
 |zero=>intro g l hf _;cases g with
  |zero=>rfl
  |succ g=>have:l.length=0:=by omega
           simp [dec,this]
 |succ f ih=>intro g l hf hg;cases g with
  |zero=>have:l.length=0:=by omega
         simp [dec,this]
  |succ g=>
   unfold dec
   by_cases h:l.length=0
   ·rw [if_pos h,if_pos h]
   ·have hn:=gO l (by omega)
    rw [if_neg h,if_neg h,ih g (l.drop (bC l).2.1) (by simp;omega) (by simp;omega)]
theorem EG(f:Nat)(l:List UInt8):dec (f+1) l=if l.length=0 then []else bC l::dec f (l.drop (bC l).2.1):=rfl
theorem we {l:List UInt8}(h:l.length=0):yW l=[]:=by unfold yW;rw [h];rfl
theorem sG {l:List UInt8}(h:0<l.length):yW l=bC l::yW (l.drop (bC l).2.1):=by
 have hn:=gO l h
 unfold yW
 conv=>lhs;rw [show l.length=(l.length-1)+1 from by omega]
 rw [EG,if_neg (by omega),EF (l.length-1) (l.drop (bC l).2.1).length _ (by simp;omega) (Nat.le_refl _)]
def dS(l:List UInt8):List Int:=(yW l).map (·.1)
def bO(l:List UInt8):Bool:=(yW l).all (·.2.2)
theorem eU {l:List UInt8}(h:l.length=0):dS l=[]:=by unfold dS;rw [we h];rfl
theorem iA {l:List UInt8}(h:0<l.length):dS l=(bC l).1::dS (l.drop (bC l).2.1):=by unfold dS;rw [sG h];rfl
theorem kU {l:List UInt8}(h:l.length=0):bO l=true:=by unfold bO;rw [we h];rfl
theorem jI {l:List UInt8}(h:0<l.length):bO l=((bC l).2.2&&bO (l.drop (bC l).2.1)):=by unfold bO;rw [sG h];rfl
theorem lW:∀(n:Nat) (l:List UInt8),l.length≤n→(dS l).length≤l.length:=by
 intro n
 induction n with
 |zero=>intro l h;rw [eU (by omega)];simp
 |succ n ih=>
  intro l h
  by_cases h0:l.length=0
  ·rw [eU h0];simp
  ·have hn:=gO l (by omega)
   have:=ih (l.drop (bC l).2.1) (by simp;omega)
   rw [iA (by omega)]
   simp at this⊢
   omega
def kh(n:Int):UInt8:=UInt8.ofNat n.toNat
theorem eV {n:Int}(h0:0≤n)(h1:n≤255):((kh n).toNat:Int)=n:=by
 unfold kh
 rw [UInt8.toNat_ofNat',Nat.mod_eq_of_lt (by omega)];omega
def kV(r:Int):Int:=if r<0∨1114111<r∨(55296≤r∧r≤57343)then 65533 else r
theorem GX(r:Int):0≤kV r∧kV r≤1114111:=by unfold kV;split<;>omega
def encR(r:Int):List UInt8:=
 if r<128 then [kh r]
 else if r<2048 then [kh (192+r/64),kh (128+r %64)]
 else if r<65536 then [kh (224+r/4096),kh (128+r/64 %64),kh (128+r %64)]
 else [kh (240+r/262144),kh (128+r/4096 %64),kh (128+r/64 %64),kh (128+r %64)]
theorem wg(r:Int):1≤(encR r).length∧(encR r).length≤4:=by unfold encR;(repeat' split)<;>simp
def fJ:List Int→List UInt8
 |[]=>[]
 |r::rs=>encR (kV r)++fJ rs
theorem ob(a b:List Int):fJ (a++b)=fJ a++fJ b:=by
 induction a with
 |nil=>rfl
 |cons x a ih=>simp [fJ,ih]
theorem lX(a:List Int):a.length≤(fJ a).length∧(fJ a).length≤4*a.length:=by
 induction a with
 |nil=>simp [fJ]
 |cons x a ih=>have:=wg (kV x);simp [fJ];omega
theorem Cn(a:List Int)(k:Nat)(hk:k<a.length):fJ (a.take (k+1))=fJ (a.take k)++encR (kV (a.getD k 0)):=by
 rw [List.take_succ_eq_append_getElem hk,ob]
 simp [fJ,List.getD,hk]
def splitB(c:Int):List UInt8→List (List UInt8)
 |[]=>[[]]
 |b::t=>if(b.toNat:Int)=c then []::splitB c t else match splitB c t with
  |p::ps=>(b::p)::ps
  |[]=>[[b]]
theorem Co(c:Int)(l:List UInt8):splitB c l≠[]:=by
 cases l with
 |nil=>simp [splitB]
 |cons b t=>
  unfold splitB
  split
  ·simp
  ·split<;>simp
theorem yX(b:UInt8)(t:List UInt8):aK (b::t) 0=(b.toNat:Int):=rfl
theorem yY(b:UInt8)(t:List UInt8)(i:Nat):aK (b::t) (i+1)=aK t i:=by unfold aK;simp [List.getD]
theorem splitB_hit(c:Int):∀(n:Nat) (l:List UInt8),n<l.length→(∀q,q<n→aK l q≠c)→aK l n=c→splitB c l=l.take n::splitB c (l.drop (n+1)):=by
 intro n
 induction n with
 |zero=>
  intro l hl _ h
  match l,hl with
  |b::t,_=>
   rw [yX]at h
   conv=>lhs;unfold splitB
   rw [if_pos h];rfl
 |succ n ih=>
  intro l hl hn h
  match l,hl with
  |b::t,hl=>
   have h0:=hn 0 (by omega)
   rw [yX]at h0
   rw [yY]at h
   have:=ih t (by simpa using hl) (fun q hq=>by have:=hn (q+1) (by omega);rwa [yY]at this) h
   conv=>lhs;unfold splitB
   rw [if_neg h0,this];rfl
theorem yZ(c:Int):∀(l:List UInt8),(∀q,q<l.length→aK l q≠c)→splitB c l=[l]:=by
 intro l
 induction l with
 |nil=>intro _;rfl
 |cons b t ih=>
  intro h
  have h0:=h 0 (by simp)
  rw [yX]at h0
  have:=ih fun q hq=>by have:=h (q+1) (by simp;omega);rwa [yY]at this
  conv=>lhs;unfold splitB
  rw [if_neg h0,this]
def dv(l:List UInt8):List UInt8:=if 0<l.length∧aK l (l.length-1)=46 then l.take (l.length-1)else l
def iB(l:List UInt8):Bool:=decide (2≤l.length∧aK l 0=48∧(aK l 1=120∨aK l 1=88))
def iY(l:List UInt8):List UInt8:=if iB l=true then l.drop 2 else []
def dC(n:Int):List UInt8→Bool
 |[]=>true
 |b::t=>decide (0≤cQ (b.toNat:Int)∧cQ (b.toNat:Int)<n)&&dC n t
def qc(n v:Int)(c:Int):Int:=min (v*n+cQ c) 4294967296
def fb(n:Int)(v:Int)(l:List UInt8):Int:=l.foldl (fun v b=>qc n v (b.toNat:Int)) v
def gP(l:List UInt8):Int:=if iB l=true then 16 else if 1<l.length∧aK l 0=48 then 8 else 10
def lY(l:List UInt8):List UInt8:=if iB l=true then l.drop 2 else l
def eM(l:List UInt8):Bool:=(iB l||decide (0<l.length))&&dC (gP l) (lY l)
def dK(l:List UInt8):Int:=if eM l=true then fb (gP l) 0 (lY l)else 0
theorem y1(n:Int):∀(l:List UInt8) (i:Nat),i<l.length→dC n (l.drop i)=(decide (0≤cQ (aK l i)∧cQ (aK l i)<n)&&dC n (l.drop (i+1))):=by
 intro l i hi
 rw [List.drop_eq_getElem_cons hi]
 show(decide _ &&_)=_
 have e:aK l i=((l[i]).toNat:Int):=by unfold aK;simp [List.getD,hi]
 rw [e]
theorem iC(n:Int)(l:List UInt8)(i:Nat)(h:i<l.length):fb n 0 (l.take (i+1))=qc n (fb n 0 (l.take i)) (aK l i):=by
 unfold fb
 rw [List.take_succ_eq_append_getElem h,List.foldl_append]
 have e:aK l i=((l[i]).toNat:Int):=by unfold aK;simp [List.getD,h]
 rw [e];rfl
theorem jJ(n:Int):∀(l:List UInt8),dC n l=true→∀i,i<l.length→0≤cQ (aK l i)∧cQ (aK l i)<n:=by
 intro l
 induction l with
 |nil=>intro _ i hi;simp at hi
 |cons b t ih=>
  intro h i hi
  have h2:decide (0≤cQ (b.toNat:Int)∧cQ (b.toNat:Int)<n)=true∧dC n t=true:=by
   have h':(decide (0≤cQ (b.toNat:Int)∧cQ (b.toNat:Int)<n)&&dC n t)=true:=h
   rwa [Bool.and_eq_true]at h'
  cases i with
  |zero=>rw [yX];exact of_decide_eq_true h2.1
  |succ i=>rw [yY];exact ih h2.2 i (by simpa using hi)
theorem lZ(n:Int)(hn:0≤n)(l:List UInt8)(h:∀i,i<l.length→0≤cQ (aK l i)):∀i,i≤l.length→0≤fb n 0 (l.take i)∧fb n 0 (l.take i)≤4294967296:=by
 intro i
 induction i with
 |zero=>intro _;simp [fb]
 |succ i ih=>
  intro hi
  obtain ⟨h1,h2⟩:=ih (by omega)
  rw [iC n l i (by omega)]
  have h3:=h i (by omega)
  have h4:0≤fb n 0 (l.take i)*n:=Int.mul_nonneg h1 hn
  unfold qc
  omega
theorem Cp(b:UInt8):kh (b.toNat:Int)=b:=by unfold kh;simp
theorem dL(b:UInt8)(t:List UInt8):aK (b::t) 0=(b.toNat:Int):=rfl
theorem dM(b:UInt8)(t:List UInt8)(i:Nat):aK (b::t) (i+1)=aK t i:=by unfold aK;simp [List.getD]
theorem K3 {c:Int}(h0:194≤c)(h1:c≤223):oN c=(1,128,191):=by unfold oN;rw [if_neg (by omega),if_pos (by omega)]
theorem K4 {c:Int}(h0:224≤c)(h1:c≤239):oN c=(2,if c=224 then 160 else 128,if c=237 then 159 else 191):=by
 unfold oN;rw [if_neg (by omega),if_neg (by omega)];(repeat' split)<;>first|rfl|(exfalso;omega)
theorem K5 {c:Int}(h0:240≤c)(h1:c≤244):oN c=(3,if c=240 then 144 else 128,if c=244 then 143 else 191):=by
 unfold oN;rw [if_neg (by omega),if_neg (by omega),if_neg (by omega),if_neg (by omega),if_neg (by omega)];(repeat' split)<;>first|rfl|(exfalso;omega)
theorem K6 {c:Int}(h:c<194∨244<c):oN c=(0,0,0):=by unfold oN;rw [if_pos h]
theorem AX {l:List UInt8}(hl:0<l.length)(h:aK l 0≤127):bC l=(aK l 0,1,true):=by unfold bC;rw [if_neg (by omega),if_pos h]
theorem GY {l:List UInt8}(hl:0<l.length)(h:127<aK l 0)(h2:aK l 0<194∨244<aK l 0):bC l=(65533,1,false):=by
 unfold bC;rw [if_neg (by omega),if_neg (by omega),K6 h2,if_pos rfl]
theorem AY {l:List UInt8}(hl:0<l.length)(h0:194≤aK l 0)(h1:aK l 0≤223):bC l=nl l 1 1 (aK l 0 %32) 128 191:=by
 unfold bC;rw [if_neg (by omega),if_neg (by omega),K3 h0 h1,if_neg (by decide)];rfl
theorem AZ {l:List UInt8}(hl:0<l.length)(h0:224≤aK l 0)(h1:aK l 0≤239):bC l=nl l 2 1 (aK l 0 %16) (if aK l 0=224 then 160 else 128) (if aK l 0=237 then 159 else 191):=by
 unfold bC;rw [if_neg (by omega),if_neg (by omega),K4 h0 h1,if_neg (by decide:¬(2:Int)=0)];rfl
theorem A0 {l:List UInt8}(hl:0<l.length)(h0:240≤aK l 0)(h1:aK l 0≤244):bC l=nl l 3 1 (aK l 0 %8) (if aK l 0=240 then 144 else 128) (if aK l 0=244 then 143 else 191):=by
 unfold bC;rw [if_neg (by omega),if_neg (by omega),K5 h0 h1,if_neg (by decide:¬(3:Int)=0)];rfl
def y2(r:Int):Prop:=0≤r∧r≤1114111∧¬(55296≤r∧r≤57343)
theorem A1(r:Int):y2 (kV r):=by unfold kV y2;split<;>omega
theorem A2 {r:Int}(h:y2 r):kV r=r:=by unfold y2 at h;unfold kV;rw [if_neg (by omega)]
theorem EH(r:Int)(h:y2 r)(t:List UInt8):bC (encR r++t)=(r,(encR r).length,true):=by
 unfold y2 at h
 obtain ⟨h0,h1,h2⟩:=h
 unfold encR
 by_cases c1:r<128
 ·rw [if_pos c1]
  have b0:aK ([kh r]++t) 0=r:=by rw [List.singleton_append,dL,eV h0 (by omega)]
  rw [AX (by simp) (by omega),b0];rfl
 rw [if_neg c1]
 by_cases c2:r<2048
 ·rw [if_pos c2]
  simp only [List.cons_append,List.nil_append]
  generalize hL:kh (192+r/64)::kh (128+r %64)::t=L
  have hlen:2≤L.length:=by rw [←hL];simp
  have b0:aK L 0=192+r/64:=by rw [←hL,dL,eV (by omega) (by omega)]
  have b1:aK L 1=128+r %64:=by rw [←hL,dM,dL,eV (by omega) (by omega)]
  rw [AY (by omega) (by omega) (by omega),iX ⟨by omega,by omega,by omega⟩,iW,b0,b1]
  have:(192+r/64) %32*64+(128+r %64) %64=r:=by omega
  rw [this];rfl
 rw [if_neg c2]
 by_cases c3:r<65536
 ·rw [if_pos c3]
  simp only [List.cons_append,List.nil_append]
  generalize hL:kh (224+r/4096)::kh (128+r/64 %64)::kh (128+r %64)::t=L
  have hlen:3≤L.length:=by rw [←hL];simp
  have b0:aK L 0=224+r/4096:=by rw [←hL,dL,eV (by omega) (by omega)]
  have b1:aK L 1=128+r/64 %64:=by rw [←hL,dM,dL,eV (by omega) (by omega)]
  have b2:aK L (1+1)=128+r %64:=by rw [←hL,dM,dM,dL,eV (by omega) (by omega)]
  rw [AZ (by omega) (by omega) (by omega),iX ⟨by omega,by split<;>omega,by split<;>omega⟩,iX ⟨by omega,by omega,by omega⟩,iW,b0,b1,b2]
  have:((224+r/4096) %16*64+(128+r/64 %64) %64)*64+(128+r %64) %64=r:=by omega
  rw [this];rfl
 ·rw [if_neg c3]
  simp only [List.cons_append,List.nil_append]
  generalize hL:kh (240+r/262144)::kh (128+r/4096 %64)::kh (128+r/64 %64)::kh (128+r %64)::t=L
  have hlen:4≤L.length:=by rw [←hL];simp
  have b0:aK L 0=240+r/262144:=by rw [←hL,dL,eV (by omega) (by omega)]
  have b1:aK L 1=128+r/4096 %64:=by rw [←hL,dM,dL,eV (by omega) (by omega)]
  have b2:aK L (1+1)=128+r/64 %64:=by rw [←hL,dM,dM,dL,eV (by omega) (by omega)]
  have b3:aK L (1+1+1)=128+r %64:=by rw [←hL,dM,dM,dM,dL,eV (by omega) (by omega)]
  rw [A0 (by omega) (by omega) (by omega),iX ⟨by omega,by split<;>omega,by split<;>omega⟩,iX ⟨by omega,by omega,by omega⟩,iX ⟨by omega,by omega,by omega⟩,iW,b0,b1,b2,b3]
  have:(((240+r/262144) %8*64+(128+r/4096 %64) %64)*64+(128+r/64 %64) %64)*64+(128+r %64) %64=r:=by omega
  rw [this];rfl
theorem ng {l:List UInt8}{j k n:Nat}{R L H r:Int}(h:nl l (j+1) k R L H=(r,n,true)):
 (k<l.length∧L≤aK l k∧aK l k≤H)∧nl l j (k+1) (R*64+aK l k %64) 128 191=(r,n,true):=by
 by_cases c:k<l.length∧L≤aK l k∧aK l k≤H
 ·exact ⟨c,by rw [←iX c];exact h⟩
 ·rw [wc c]at h;simp at h
theorem GZ(l:List UInt8)(i:Nat):kh (aK l i)=l.getD i 0:=by unfold aK;exact Cp _
theorem l6:∀(n:Nat) (l:List UInt8),n≤l.length→l.take n=(List.range n).map fun i=>kh (aK l i):=by
 intro n l h
 apply List.ext_getElem
 ·simp;omega
 ·intro i h1 h2
  simp at h1
  simp [GZ,List.getD,show i<l.length by omega]
theorem qd {l:List UInt8}{r:Int}{n:Nat}(h:bC l=(r,n,true)):y2 r∧encR r=l.take n∧n≤l.length:=by
 by_cases hl:l.length=0
 ·unfold bC at h;rw [if_pos hl]at h;simp at h
 have hp:0<l.length:=by omega
 have d0:=dy l 0
 have d0':=dA l 0
 by_cases c1:aK l 0≤127
 ·rw [AX hp c1]at h
  simp only [Prod.mk.injEq]at h
  obtain ⟨rfl,rfl,-⟩:=h
  refine ⟨by unfold y2;omega,?_,by omega⟩
  rw [l6 1 l (by omega)]
  unfold encR
  rw [if_pos (by omega)];rfl
 by_cases c2:aK l 0<194∨244<aK l 0
 ·rw [GY hp (by omega) c2]at h;simp at h
 by_cases c3:aK l 0≤223
 ·rw [AY hp (by omega) c3]at h
  obtain ⟨⟨q1,q2,q3⟩,h⟩:=ng h
  rw [iW]at h
  simp only [Prod.mk.injEq]at h
  obtain ⟨hr,rfl,-⟩:=h
  refine ⟨by unfold y2;omega,?_,by omega⟩
  rw [l6 2 l (by omega)]
  unfold encR
  rw [if_neg (by omega),if_pos (by omega),show 192+r/64=aK l 0 by omega,show 128+r %64=aK l 1 by omega];rfl
 by_cases c4:aK l 0≤239
 ·rw [AZ hp (by omega) c4]at h
  obtain ⟨⟨q1,q2,q3⟩,h⟩:=ng h
  obtain ⟨⟨q4,q5,q6⟩,h⟩:=ng h
  rw [iW]at h
  simp only [Prod.mk.injEq]at h
  obtain ⟨hr,rfl,-⟩:=h
  have q5':128≤aK l 2:=q5
  have q6':aK l 2≤191:=q6
  have hr':(aK l 0 %16*64+aK l 1 %64)*64+aK l 2 %64=r:=hr
  have q7:128≤aK l 1∧aK l 1≤191∧(aK l 0=224→160≤aK l 1)∧(aK l 0=237→aK l 1≤159):=by split at q2<;>split at q3<;>omega
  clear q2 q3 hr q5 q6
  refine ⟨by unfold y2;omega,?_,by omega⟩
  rw [l6 3 l (by omega)]
  unfold encR
  rw [if_neg (by omega),if_neg (by omega),if_pos (by omega),show 224+r/4096=aK l 0 by omega,show 128+r/64 %64=aK l 1 by omega,show 128+r %64=aK l 2 by omega];rfl
 ·rw [A0 hp (by omega) (by omega)]at h
  obtain ⟨⟨q1,q2,q3⟩,h⟩:=ng h
  obtain ⟨⟨q4,q5,q6⟩,h⟩:=ng h
  obtain ⟨⟨q8,q9,q10⟩,h⟩:=ng h
  rw [iW]at h
  simp only [Prod.mk.injEq]at h
  obtain ⟨hr,rfl,-⟩:=h
  have q5':128≤aK l 2:=q5
  have q6':aK l 2≤191:=q6
  have q9':128≤aK l 3:=q9
  have q10':aK l 3≤191:=q10
  have hr':((aK l 0 %8*64+aK l 1 %64)*64+aK l 2 %64)*64+aK l 3 %64=r:=hr
  have q7:128≤aK l 1∧aK l 1≤191∧(aK l 0=240→144≤aK l 1)∧(aK l 0=244→aK l 1≤143):=by split at q2<;>split at q3<;>omega
  clear q2 q3 hr q5 q6 q9 q10
  refine ⟨by unfold y2;omega,?_,by omega⟩
  rw [l6 4 l (by omega)]
  unfold encR
  rw [if_neg (by omega),if_neg (by omega),if_neg (by omega),show 240+r/262144=aK l 0 by omega,show 128+r/4096 %64=aK l 1 by omega,show 128+r/64 %64=aK l 2 by omega,show 128+r %64=aK l 3 by omega];rfl
theorem EI(r:Int):0<(encR r).length:=(wg r).1
theorem uk(r:Int)(h:y2 r)(t:List UInt8):dS (encR r++t)=r::dS t∧bO (encR r++t)=bO t:=by
 have hp:0<(encR r++t).length:=by have:=EI r;simp;omega
 rw [iA hp,jI hp,EH r h t]
 simp
theorem Cq(rs:List Int):dS (fJ rs)=rs.map kV∧bO (fJ rs)=true:=by
 induction rs with
 |nil=>exact ⟨eU rfl,kU rfl⟩
 |cons r rs ih=>
  have:=uk (kV r) (A1 r) (fJ rs)
  simp only [fJ,List.map_cons]
  rw [this.1,this.2,ih.1,ih.2]
  exact ⟨rfl,rfl⟩
theorem sH:∀(n:Nat) (l:List UInt8),l.length≤n→bO l=true→fJ (dS l)=l:=by
 intro n
 induction n with
 |zero=>intro l h _;have:l=[]:=List.eq_nil_of_length_eq_zero (by omega);subst this;rw [eU rfl];rfl
 |succ n ih=>
  intro l h hv
  by_cases h0:l.length=0
  ·have:l=[]:=List.eq_nil_of_length_eq_zero h0
   subst this;rw [eU rfl];rfl
  ·rw [jI (by omega)]at hv
   have hn:=gO l (by omega)
   rw [iA (by omega)]
   obtain ⟨⟨r,k,ok⟩,hnx⟩:∃t,bC l=t:=⟨_,rfl⟩
   simp only [hnx]at hv hn⊢
   simp only [Bool.and_eq_true]at hv
   obtain ⟨rfl,hv2⟩:=hv
   have hval:=qd hnx
   simp only [fJ]
   rw [A2 hval.1,hval.2.1,ih (l.drop k) (by simp;omega) hv2,List.take_append_drop]
theorem qe:∀(n:Nat) (a b:List UInt8),a.length≤n→bO a=true→dS (a++b)=dS a++dS b∧bO (a++b)=bO b:=by
 intro n a b hn hv
 have hr:∀rs:List Int,(∀r∈rs,y2 r)→dS (fJ rs++b)=rs++dS b∧bO (fJ rs++b)=bO b:=by
  intro rs
  induction rs with
  |nil=>intro _;exact ⟨rfl,rfl⟩
  |cons r rs ih=>
   intro h
   have h1:=ih fun x hx=>h x (List.mem_cons_of_mem _ hx)
   have h2:=h r (List.mem_cons_self ..)
   simp only [fJ]
   rw [List.append_assoc,A2 h2,(uk r h2 _).1,(uk r h2 _).2,h1.1,h1.2]
   exact ⟨rfl,rfl⟩
 have he:=sH _ a (Nat.le_refl _) hv
 have hok:∀r∈(dS a).map kV,y2 r:=by
  intro r hr
  obtain ⟨x,_,rfl⟩:=List.mem_map.1 hr
  exact A1 x
 have hd:=(Cq (dS a)).1
 rw [he]at hd
 rw [←hd]at hok
 have:=hr (dS a) hok
 rwa [he]at this
theorem G3(l:List UInt8):0≤(bC l).1∧(bC l).1≤1114111:=by
 obtain ⟨⟨r,k,ok⟩,hnx⟩:∃t,bC l=t:=⟨_,rfl⟩
 rw [hnx]
 cases ok
 ·by_cases hl:l.length=0
  ·unfold bC at hnx;rw [if_pos hl]at hnx;simp at hnx;show 0≤r∧_;omega
  ·have:=(gO l (by omega)).2.2.2
   rw [hnx]at this
   have:=(this rfl).1
   simp at this
   show 0≤r∧r≤1114111
   omega
 ·have:=(qd hnx).1
  unfold y2 at this
  exact ⟨this.1,this.2.1⟩
def KG:List UInt8:=[32,34,60,62,96]
def JI:List UInt8:=[32,34,35,60,62]
def mSpec:List UInt8:=[32,34,35,60,62,39]
def EJ:List UInt8:=[32,34,35,60,62,63,94,96,123,125]
def EK:List UInt8:=[47,58,59,61,64,91,92,93,124]
def JJ:List UInt8:=[36,37,38,43,44]
def sI(k:Int):List UInt8:=if k=1 then KG else if k=2 then JI else if k=3 then mSpec else if k=4 then EJ else if k=5 then EJ++EK else if k=6 then EJ++EK++JJ else []
def qf(k:Int):Bool:=decide (0≤k∧k≤6)
def Cr(has:List UInt8)(r:Int):Bool:=if r<0∨1114111<r then false else if r<32∨126<r then true else decide (kh r∈has)
theorem EL {k:Int}(h:0≤k∧k≤6):qf k=true:=decide_eq_true h
theorem EM {k:Int}(h:¬(0≤k∧k≤6)):qf k=false:=decide_eq_false h
theorem G4 {has:List UInt8}{r:Int}(h:r<0∨1114111<r):Cr has r=false:=by unfold Cr;rw [if_pos h]
theorem EN {has:List UInt8}{r:Int}(h0:0≤r)(h1:r≤1114111)(h:r<32∨126<r):Cr has r=true:=by unfold Cr;rw [if_neg (by omega),if_pos h]
theorem G5 {has:List UInt8}{r:Int}(h0:32≤r)(h1:r≤126):Cr has r=decide (kh r∈has):=by unfold Cr;rw [if_neg (by omega),if_neg (by omega)]
def EO(l:List UInt8)(k:Nat):Prop:=aK l k=37∧k+2<l.length∧0≤cQ (aK l (k+1))∧0≤cQ (aK l (k+2))
instance (l:List UInt8)(k:Nat):Decidable (EO l k):=by unfold EO;infer_instance
def Lm:List UInt8:=[48,49,50,51,52,53,54,55,56,57,65,66,67,68,69,70]
def up(n:Int):UInt8:=Lm.getD n.toNat 0
def pe(has:List UInt8)(c:UInt8):List UInt8:=if Cr has c.toNat then [37,up ((c.toNat:Int)/16),up ((c.toNat:Int) %16)]else [c]
def gf(has:List UInt8)(l:List UInt8):List UInt8:=l.flatMap (pe has)
theorem jK(has a b:List UInt8):gf has (a++b)=gf has a++gf has b:=by unfold gf;simp
theorem sJ(has l:List UInt8)(h:∀i,i<l.length→Cr has (aK l i)=false):gf has l=l:=by
 induction l with
 |nil=>rfl
 |cons b t ih=>
  have h0:=h 0 (by simp)
  rw [dL]at h0
  have ht:=ih fun i hi=>by have:=h (i+1) (by simp;omega);rwa [dM]at this
  show pe has b++gf has t=b::t
  rw [ht];unfold pe;rw [h0];rfl
theorem wi(has l:List UInt8):(gf has l).length≤3*l.length:=by
 induction l with
 |nil=>simp [gf]
 |cons b t ih=>
  have:(pe has b).length≤3:=by unfold pe;split<;>simp
  show(pe has b++gf has t).length≤_
  simp;omega
theorem sK(has l:List UInt8)(k:Nat)(hk:k<l.length):gf has (l.take (k+1))=gf has (l.take k)++pe has (l.getD k 0):=by
 rw [List.take_succ_eq_append_getElem hk,jK]
 simp [gf,List.getD,hk]
end Go.Proofs.YtmfapopclbnlpaaGreatDoor
