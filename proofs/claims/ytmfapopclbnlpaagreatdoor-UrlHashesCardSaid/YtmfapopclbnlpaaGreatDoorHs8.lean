import Derived.Lib.Hide
set_option linter.unusedVariables false
set_option linter.unusedSimpArgs false
namespace Go.Proofs.YtmfapopclbnlpaaGreatDoor
def cS(c:Int):Int:=if 48≤c∧c≤57 then c-48 else if 97≤c∧c≤102 then c-87 else if 65≤c∧c≤70 then c-55 else -1
theorem pI(c:Int):-1≤cS c∧cS c≤15:=by unfold cS;(repeat' split)<;>omega
def aM(l:List UInt8)(i:Nat):Int:=((l.getD i 0).toNat:Int)
theorem dD(l:List UInt8)(i:Nat):0≤aM l i:=by unfold aM;omega
theorem dE(l:List UInt8)(i:Nat):aM l i≤255:=by unfold aM;have:=(l.getD i 0).toNat_lt;omega
theorem Fo(l:List UInt8)(k i:Nat):aM (l.drop k) i=aM l (k+i):=by
 unfold aM;simp [List.getD,List.getElem?_drop]
def pj(c:Int):Int×Int×Int:=
 if c<194∨244<c then(0,0,0)
 else if c≤223 then(1,128,191)
 else if c=224 then(2,160,191)
 else if c=237 then(2,128,159)
 else if c≤239 then(2,128,191)
 else if c=240 then(3,144,191)
 else if c=244 then(3,128,143)
 else(3,128,191)
theorem nJ(c:Int):pj c=(0,0,0)∨∃m lo hi,pj c=(m,lo,hi)∧1≤m∧m≤3∧128≤lo∧lo≤191∧128≤hi∧hi≤191:=by
 unfold pj
 (repeat' split)<;>first|(left;rfl)|(right;exact ⟨_,_,_,rfl,by decide,by decide,by decide,by decide,by decide,by decide⟩)
def nl(l:List UInt8):Nat→Nat→Int→Int→Int→Int×Nat×Bool
 |0,i,r,_,_=>(r,i,true)
 |k+1,i,r,lo,hi=>if i<l.length∧lo≤aM l i∧aM l i≤hi then nl l k (i+1) (r*64+aM l i %64) 128 191 else(65533,i,false)
def bc(l:List UInt8):Int×Nat×Bool:=
 if l.length=0 then(0,0,false)
 else if aM l 0≤127 then(aM l 0,1,true)
 else if(pj (aM l 0)).1=0 then(65533,1,false)
 else nl l (pj (aM l 0)).1.toNat 1 (aM l 0 %2^(6-(pj (aM l 0)).1.toNat)) (pj (aM l 0)).2.1 (pj (aM l 0)).2.2
def Kz(k:Nat):Int:=if k≤1 then 32 else if k=2 then 2048 else if k=3 then 131072 else 8388608
theorem KA {k:Nat}(h:k≤3):Kz k≤131072:=by unfold Kz;(repeat' split)<;>omega
theorem Fp {k:Nat}{R x:Int}(h1:1≤k)(h:k≤3)(hr:R<Kz k):R*64+x %64<Kz (k+1):=by
 unfold Kz at *;(repeat' split)<;>(repeat' split at hr)<;>omega
theorem jh {l:List UInt8}{k:Nat}{R L H:Int}:nl l 0 k R L H=(R,k,true):=rfl
theorem mi {l:List UInt8}{j k:Nat}{R L H:Int}(h:¬(k<l.length∧L≤aM l k∧aM l k≤H)):nl l (j+1) k R L H=(65533,k,false):=by
 unfold nl;rw [if_neg h]
theorem gH {l:List UInt8}{j k:Nat}{R L H:Int}(h:k<l.length∧L≤aM l k∧aM l k≤H):nl l (j+1) k R L H=nl l j (k+1) (R*64+aM l k %64) 128 191:=by
 rw [nl,if_pos h]
theorem LW(l:List UInt8):∀(j i:Nat) (r lo hi:Int),1≤i→i≤l.length→
 1≤(nl l j i r lo hi).2.1∧(nl l j i r lo hi).2.1≤l.length∧(nl l j i r lo hi).2.1≤i+j∧((nl l j i r lo hi).2.2=false→(nl l j i r lo hi).1=65533∧(nl l j i r lo hi).2.1<i+j):=by
 intro j
 induction j with
 |zero=>intro i r lo hi h1 h2;refine ⟨h1,h2,Nat.le_refl _,fun h=>by cases h⟩
 |succ j ih=>
  intro i r lo hi h1 h2
  by_cases h:i<l.length∧lo≤aM l i∧aM l i≤hi
  ·rw [gH h]
   obtain ⟨a,b,c,d⟩:=ih (i+1) (r*64+aM l i %64) 128 191 (by omega) (by omega)
   exact ⟨a,b,by omega,fun e=>⟨(d e).1,by have:=(d e).2;omega⟩⟩
  ·rw [mi h];exact ⟨h1,h2,by show i≤_;omega,fun _=>⟨rfl,by show i<_;omega⟩⟩
theorem eE(l:List UInt8)(h:0<l.length):1≤(bc l).2.1∧(bc l).2.1≤l.length∧(bc l).2.1≤4∧((bc l).2.2=false→(bc l).1=65533∧(bc l).2.1≤3):=by
 unfold bc
 rw [if_neg (by omega)]
 split
 ·exact ⟨Nat.le_refl _,h,by show 1≤4;omega,fun e=>by cases e⟩
 ·split
  ·exact ⟨Nat.le_refl _,h,by show 1≤4;omega,fun e=>⟨rfl,by show 1≤3;omega⟩⟩
  ·obtain ⟨a,b,c,d⟩:=LW l (pj (aM l 0)).1.toNat 1 (aM l 0 %2^(6-(pj (aM l 0)).1.toNat)) (pj (aM l 0)).2.1 (pj (aM l 0)).2.2 (Nat.le_refl _) h
   have hm:(pj (aM l 0)).1.toNat≤3:=by
    rcases nJ (aM l 0)with h|⟨m,lo,hi,h,h1,h2,_⟩<;>rw [h]
    ·decide
    ·show m.toNat≤3;omega
   exact ⟨a,b,by omega,fun e=>⟨(d e).1,by have:=(d e).2;omega⟩⟩
def dec:Nat→List UInt8→List (Int×Nat×Bool)
 |0,_=>[]
 |f+1,l=>if l.length=0 then []else bc l::dec f (l.drop (bc l).2.1)
def zz(l:List UInt8):List (Int×Nat×Bool):=dec l.length l
theorem Fq:∀(f g:Nat) (l:List UInt8),l.length≤f→l.length≤g→dec f l=dec g l:=by
 intro f
 induction f with
 |zero=>intro g l hf _;cases g with
  |zero=>rfl
  |succ g=>have:l.length=0:=by omega
           simp [dec,this]
 |succ f ih=>intro g l hf hg;cases g with
  |zero=>have:l.length=0:=by omega
         simp [dec,this]
  |succ g=>
   unfold dec
   by_cases h:l.length=0
   ·rw [if_pos h,if_pos h]
   ·have hn:=eE l (by omega)
    rw [if_neg h,if_neg h,ih g (l.drop (bc l).2.1) (by simp;omega) (by simp;omega)]
theorem Fs(f:Nat)(l:List UInt8):dec (f+1) l=if l.length=0 then []else bc l::dec f (l.drop (bc l).2.1):=rfl
theorem wV {l:List UInt8}(h:l.length=0):zz l=[]:=by unfold zz;rw [h];rfl
theorem td {l:List UInt8}(h:0<l.length):zz l=bc l::zz (l.drop (bc l).2.1):=by
 have hn:=eE l h
 unfold zz
 conv=>lhs;rw [show l.length=(l.length-1)+1 from by omega]
 rw [Fs,if_neg (by omega),Fq (l.length-1) (l.drop (bc l).2.1).length _ (by simp;omega) (Nat.le_refl _)]
def eL(l:List UInt8):List Int:=(zz l).map (·.1)
def ff(l:List UInt8):Bool:=(zz l).all (·.2.2)
theorem fh {l:List UInt8}(h:l.length=0):eL l=[]:=by unfold eL;rw [wV h];rfl
theorem dV {l:List UInt8}(h:0<l.length):eL l=(bc l).1::eL (l.drop (bc l).2.1):=by unfold eL;rw [td h];rfl
theorem lk {l:List UInt8}(h:l.length=0):ff l=true:=by unfold ff;rw [wV h];rfl
theorem jT {l:List UInt8}(h:0<l.length):ff l=((bc l).2.2&&ff (l.drop (bc l).2.1)):=by unfold ff;rw [td h];rfl
theorem mj:∀(n:Nat) (l:List UInt8),l.length≤n→(eL l).length≤l.length:=by
 intro n
 induction n with
 |zero=>intro l h;rw [fh (by omega)];simp
 |succ n ih=>
  intro l h
  by_cases h0:l.length=0
  ·rw [fh h0];simp
  ·have hn:=eE l (by omega)
   have:=ih (l.drop (bc l).2.1) (by simp;omega)
   rw [dV (by omega)]
   simp at this⊢
   omega
def kr(n:Int):UInt8:=UInt8.ofNat n.toNat
theorem fi {n:Int}(h0:0≤n)(h1:n≤255):((kr n).toNat:Int)=n:=by
 unfold kr
 rw [UInt8.toNat_ofNat',Nat.mod_eq_of_lt (by omega)];omega
def iK(r:Int):Int:=if r<0∨1114111<r∨(55296≤r∧r≤57343)then 65533 else r
theorem Il(r:Int):0≤iK r∧iK r≤1114111:=by unfold iK;split<;>omega
def encR(r:Int):List UInt8:=
 if r<128 then [kr r]
 else if r<2048 then [kr (192+r/64),kr (128+r %64)]
 else if r<65536 then [kr (224+r/4096),kr (128+r/64 %64),kr (128+r %64)]
 else [kr (240+r/262144),kr (128+r/4096 %64),kr (128+r/64 %64),kr (128+r %64)]
theorem wW(r:Int):1≤(encR r).length∧(encR r).length≤4:=by unfold encR;(repeat' split)<;>simp
def gI:List Int→List UInt8
 |[]=>[]
 |r::rs=>encR (iK r)++gI rs
theorem oL(a b:List Int):gI (a++b)=gI a++gI b:=by
 induction a with
 |nil=>rfl
 |cons x a ih=>simp [gI,ih]
theorem ml(a:List Int):a.length≤(gI a).length∧(gI a).length≤4*a.length:=by
 induction a with
 |nil=>simp [gI]
 |cons x a ih=>have:=wW (iK x);simp [gI];omega
theorem C0(a:List Int)(k:Nat)(hk:k<a.length):gI (a.take (k+1))=gI (a.take k)++encR (iK (a.getD k 0)):=by
 rw [List.take_succ_eq_append_getElem hk,oL]
 simp [gI,List.getD,hk]
def splitB(c:Int):List UInt8→List (List UInt8)
 |[]=>[[]]
 |b::t=>if(b.toNat:Int)=c then []::splitB c t else match splitB c t with
  |p::ps=>(b::p)::ps
  |[]=>[[b]]
theorem C3(c:Int)(l:List UInt8):splitB c l≠[]:=by
 cases l with
 |nil=>simp [splitB]
 |cons b t=>
  unfold splitB
  split
  ·simp
  ·split<;>simp
theorem zA(b:UInt8)(t:List UInt8):aM (b::t) 0=(b.toNat:Int):=rfl
theorem zB(b:UInt8)(t:List UInt8)(i:Nat):aM (b::t) (i+1)=aM t i:=by unfold aM;simp [List.getD]
theorem splitB_hit(c:Int):∀(n:Nat) (l:List UInt8),n<l.length→(∀q,q<n→aM l q≠c)→aM l n=c→splitB c l=l.take n::splitB c (l.drop (n+1)):=by
 intro n
 induction n with
 |zero=>
  intro l hl _ h
  match l,hl with
  |b::t,_=>
   rw [zA]at h
   conv=>lhs;unfold splitB
   rw [if_pos h];rfl
 |succ n ih=>
  intro l hl hn h
  match l,hl with
  |b::t,hl=>
   have h0:=hn 0 (by omega)
   rw [zA]at h0
   rw [zB]at h
   have:=ih t (by simpa using hl) (fun q hq=>by have:=hn (q+1) (by omega);rwa [zB]at this) h
   conv=>lhs;unfold splitB
   rw [if_neg h0,this];rfl
theorem zC(c:Int):∀(l:List UInt8),(∀q,q<l.length→aM l q≠c)→splitB c l=[l]:=by
 intro l
 induction l with
 |nil=>intro _;rfl
 |cons b t ih=>
  intro h
  have h0:=h 0 (by simp)
  rw [zA]at h0
  have:=ih fun q hq=>by have:=h (q+1) (by simp;omega);rwa [zB]at this
  conv=>lhs;unfold splitB
  rw [if_neg h0,this]
def dA(l:List UInt8):List UInt8:=if 0<l.length∧aM l (l.length-1)=46 then l.take (l.length-1)else l
def iL(l:List UInt8):Bool:=decide (2≤l.length∧aM l 0=48∧(aM l 1=120∨aM l 1=88))
def ji(l:List UInt8):List UInt8:=if iL l=true then l.drop 2 else []
def dG(n:Int):List UInt8→Bool
 |[]=>true
 |b::t=>decide (0≤cS (b.toNat:Int)∧cS (b.toNat:Int)<n)&&dG n t
def qF(n v:Int)(c:Int):Int:=min (v*n+cS c) 4294967296
def fo(n:Int)(v:Int)(l:List UInt8):Int:=l.foldl (fun v b=>qF n v (b.toNat:Int)) v
def gX(l:List UInt8):Int:=if iL l=true then 16 else if 1<l.length∧aM l 0=48 then 8 else 10
def mm(l:List UInt8):List UInt8:=if iL l=true then l.drop 2 else l
def eW(l:List UInt8):Bool:=(iL l||decide (0<l.length))&&dG (gX l) (mm l)
def dO(l:List UInt8):Int:=if eW l=true then fo (gX l) 0 (mm l)else 0
theorem zD(n:Int):∀(l:List UInt8) (i:Nat),i<l.length→dG n (l.drop i)=(decide (0≤cS (aM l i)∧cS (aM l i)<n)&&dG n (l.drop (i+1))):=by
 intro l i hi
 rw [List.drop_eq_getElem_cons hi]
 show(decide _ &&_)=_
 have e:aM l i=((l[i]).toNat:Int):=by unfold aM;simp [List.getD,hi]
 rw [e]
theorem iM(n:Int)(l:List UInt8)(i:Nat)(h:i<l.length):fo n 0 (l.take (i+1))=qF n (fo n 0 (l.take i)) (aM l i):=by
 unfold fo
 rw [List.take_succ_eq_append_getElem h,List.foldl_append]
 have e:aM l i=((l[i]).toNat:Int):=by unfold aM;simp [List.getD,h]
 rw [e];rfl
theorem jU(n:Int):∀(l:List UInt8),dG n l=true→∀i,i<l.length→0≤cS (aM l i)∧cS (aM l i)<n:=by
 intro l
 induction l with
 |nil=>intro _ i hi;simp at hi
 |cons b t ih=>
  intro h i hi
  have h2:decide (0≤cS (b.toNat:Int)∧cS (b.toNat:Int)<n)=true∧dG n t=true:=by
   have h':(decide (0≤cS (b.toNat:Int)∧cS (b.toNat:Int)<n)&&dG n t)=true:=h
   rwa [Bool.and_eq_true]at h'
  cases i with
  |zero=>rw [zA];exact of_decide_eq_true h2.1
  |succ i=>rw [zB];exact ih h2.2 i (by simpa using hi)
theorem mn(n:Int)(hn:0≤n)(l:List UInt8)(h:∀i,i<l.length→0≤cS (aM l i)):∀i,i≤l.length→0≤fo n 0 (l.take i)∧fo n 0 (l.take i)≤4294967296:=by
 intro i
 induction i with
 |zero=>intro _;simp [fo]
 |succ i ih=>
  intro hi
  obtain ⟨h1,h2⟩:=ih (by omega)
  rw [iM n l i (by omega)]
  have h3:=h i (by omega)
  have h4:0≤fo n 0 (l.take i)*n:=Int.mul_nonneg h1 hn
  unfold qF
  omega
theorem te(b:UInt8):kr (b.toNat:Int)=b:=by unfold kr;simp
theorem dh(b:UInt8)(t:List UInt8):aM (b::t) 0=(b.toNat:Int):=rfl
theorem dP(b:UInt8)(t:List UInt8)(i:Nat):aM (b::t) (i+1)=aM t i:=by unfold aM;simp [List.getD]
theorem LX {c:Int}(h0:194≤c)(h1:c≤223):pj c=(1,128,191):=by unfold pj;rw [if_neg (by omega),if_pos (by omega)]
theorem LY {c:Int}(h0:224≤c)(h1:c≤239):pj c=(2,if c=224 then 160 else 128,if c=237 then 159 else 191):=by
 unfold pj;rw [if_neg (by omega),if_neg (by omega)];(repeat' split)<;>first|rfl|(exfalso;omega)
theorem LZ {c:Int}(h0:240≤c)(h1:c≤244):pj c=(3,if c=240 then 144 else 128,if c=244 then 143 else 191):=by
 unfold pj;rw [if_neg (by omega),if_neg (by omega),if_neg (by omega),if_neg (by omega),if_neg (by omega)];(repeat' split)<;>first|rfl|(exfalso;omega)
theorem L0 {c:Int}(h:c<194∨244<c):pj c=(0,0,0):=by unfold pj;rw [if_pos h]
theorem uR {l:List UInt8}(hl:0<l.length)(h:aM l 0≤127):bc l=(aM l 0,1,true):=by unfold bc;rw [if_neg (by omega),if_pos h]
theorem Im {l:List UInt8}(hl:0<l.length)(h:127<aM l 0)(h2:aM l 0<194∨244<aM l 0):bc l=(65533,1,false):=by
 unfold bc;rw [if_neg (by omega),if_neg (by omega),L0 h2,if_pos rfl]
theorem BA {l:List UInt8}(hl:0<l.length)(h0:194≤aM l 0)(h1:aM l 0≤223):bc l=nl l 1 1 (aM l 0 %32) 128 191:=by
 unfold bc;rw [if_neg (by omega),if_neg (by omega),LX h0 h1,if_neg (by decide)];rfl
theorem BC {l:List UInt8}(hl:0<l.length)(h0:224≤aM l 0)(h1:aM l 0≤239):bc l=nl l 2 1 (aM l 0 %16) (if aM l 0=224 then 160 else 128) (if aM l 0=237 then 159 else 191):=by
 unfold bc;rw [if_neg (by omega),if_neg (by omega),LY h0 h1,if_neg (by decide:¬(2:Int)=0)];rfl
theorem BD {l:List UInt8}(hl:0<l.length)(h0:240≤aM l 0)(h1:aM l 0≤244):bc l=nl l 3 1 (aM l 0 %8) (if aM l 0=240 then 144 else 128) (if aM l 0=244 then 143 else 191):=by
 unfold bc;rw [if_neg (by omega),if_neg (by omega),LZ h0 h1,if_neg (by decide:¬(3:Int)=0)];rfl
def C4(r:Int):Prop:=0≤r∧r≤1114111∧¬(55296≤r∧r≤57343)
theorem Io(r:Int):C4 (iK r):=by unfold iK C4;split<;>omega
theorem uS {r:Int}(h:C4 r):iK r=r:=by unfold C4 at h;unfold iK;rw [if_neg (by omega)]
theorem Ft(r:Int)(h:C4 r)(t:List UInt8):bc (encR r++t)=(r,(encR r).length,true):=by
 unfold C4 at h
 obtain ⟨h0,h1,h2⟩:=h
 unfold encR
 by_cases c1:r<128
 ·rw [if_pos c1]
  have b0:aM ([kr r]++t) 0=r:=by rw [List.singleton_append,dh,fi h0 (by omega)]
  rw [uR (by simp) (by omega),b0];rfl
 rw [if_neg c1]
 by_cases c2:r<2048
 ·rw [if_pos c2]
  simp only [List.cons_append,List.nil_append]
  generalize hL:kr (192+r/64)::kr (128+r %64)::t=L
  have hlen:2≤L.length:=by rw [←hL];simp
  have b0:aM L 0=192+r/64:=by rw [←hL,dh,fi (by omega) (by omega)]
  have b1:aM L 1=128+r %64:=by rw [←hL,dP,dh,fi (by omega) (by omega)]
  rw [BA (by omega) (by omega) (by omega),gH ⟨by omega,by omega,by omega⟩,jh,b0,b1]
  have:(192+r/64) %32*64+(128+r %64) %64=r:=by omega
  rw [this];rfl
 rw [if_neg c2]
 by_cases c3:r<65536
 ·rw [if_pos c3]
  simp only [List.cons_append,List.nil_append]
  generalize hL:kr (224+r/4096)::kr (128+r/64 %64)::kr (128+r %64)::t=L
  have hlen:3≤L.length:=by rw [←hL];simp
  have b0:aM L 0=224+r/4096:=by rw [←hL,dh,fi (by omega) (by omega)]
  have b1:aM L 1=128+r/64 %64:=by rw [←hL,dP,dh,fi (by omega) (by omega)]
  have b2:aM L (1+1)=128+r %64:=by rw [←hL,dP,dP,dh,fi (by omega) (by omega)]
  rw [BC (by omega) (by omega) (by omega),gH ⟨by omega,by split<;>omega,by split<;>omega⟩,gH ⟨by omega,by omega,by omega⟩,jh,b0,b1,b2]
  have:((224+r/4096) %16*64+(128+r/64 %64) %64)*64+(128+r %64) %64=r:=by omega
  rw [this];rfl
 ·rw [if_neg c3]
  simp only [List.cons_append,List.nil_append]
  generalize hL:kr (240+r/262144)::kr (128+r/4096 %64)::kr (128+r/64 %64)::kr (128+r %64)::t=L
  have hlen:4≤L.length:=by rw [←hL];simp
  have b0:aM L 0=240+r/262144:=by rw [←hL,dh,fi (by omega) (by omega)]
  have b1:aM L 1=128+r/4096 %64:=by rw [←hL,dP,dh,fi (by omega) (by omega)]
  have b2:aM L (1+1)=128+r/64 %64:=by rw [←hL,dP,dP,dh,fi (by omega) (by omega)]
  have b3:aM L (1+1+1)=128+r %64:=by rw [←hL,dP,dP,dP,dh,fi (by omega) (by omega)]
  rw [BD (by omega) (by omega) (by omega),gH ⟨by omega,by split<;>omega,by split<;>omega⟩,gH ⟨by omega,by omega,by omega⟩,gH ⟨by omega,by omega,by omega⟩,jh,b0,b1,b2,b3]
  have:(((240+r/262144) %8*64+(128+r/4096 %64) %64)*64+(128+r/64 %64) %64)*64+(128+r %64) %64=r:=by omega
  rw [this];rfl
theorem nK {l:List UInt8}{j k n:Nat}{R L H r:Int}(h:nl l (j+1) k R L H=(r,n,true)):
 (k<l.length∧L≤aM l k∧aM l k≤H)∧nl l j (k+1) (R*64+aM l k %64) 128 191=(r,n,true):=by
 by_cases c:k<l.length∧L≤aM l k∧aM l k≤H
 ·exact ⟨c,by rw [←gH c];exact h⟩
 ·rw [mi c]at h;simp at h
theorem Ip(l:List UInt8)(i:Nat):kr (aM l i)=l.getD i 0:=by unfold aM;exact te _
theorem mo:∀(n:Nat) (l:List UInt8),n≤l.length→l.take n=(List.range n).map fun i=>kr (aM l i):=by
 intro n l h
 apply List.ext_getElem
 ·simp;omega
 ·intro i h1 h2
  simp at h1
  simp [Ip,List.getD,show i<l.length by omega]
theorem ll {l:List UInt8}{r:Int}{n:Nat}(h:bc l=(r,n,true)):C4 r∧encR r=l.take n∧n≤l.length:=by
 by_cases hl:l.length=0
 ·unfold bc at h;rw [if_pos hl]at h;simp at h
 have hp:0<l.length:=by omega
 have d0:=dD l 0
 have d0':=dE l 0
 by_cases c1:aM l 0≤127
 ·rw [uR hp c1]at h
  simp only [Prod.mk.injEq]at h
  obtain ⟨rfl,rfl,-⟩:=h
  refine ⟨by unfold C4;omega,?_,by omega⟩
  rw [mo 1 l (by omega)]
  unfold encR
  rw [if_pos (by omega)];rfl
 by_cases c2:aM l 0<194∨244<aM l 0
 ·rw [Im hp (by omega) c2]at h;simp at h
 by_cases c3:aM l 0≤223
 ·rw [BA hp (by omega) c3]at h
  obtain ⟨⟨q1,q2,q3⟩,h⟩:=nK h
  rw [jh]at h
  simp only [Prod.mk.injEq]at h
  obtain ⟨hr,rfl,-⟩:=h
  refine ⟨by unfold C4;omega,?_,by omega⟩
  rw [mo 2 l (by omega)]
  unfold encR
  rw [if_neg (by omega),if_pos (by omega),show 192+r/64=aM l 0 by omega,show 128+r %64=aM l 1 by omega];rfl
 by_cases c4:aM l 0≤239
 ·rw [BC hp (by omega) c4]at h
  obtain ⟨⟨q1,q2,q3⟩,h⟩:=nK h
  obtain ⟨⟨q4,q5,q6⟩,h⟩:=nK h
  rw [jh]at h
  simp only [Prod.mk.injEq]at h
  obtain ⟨hr,rfl,-⟩:=h
  have q5':128≤aM l 2:=q5
  have q6':aM l 2≤191:=q6
  have hr':(aM l 0 %16*64+aM l 1 %64)*64+aM l 2 %64=r:=hr
  have q7:128≤aM l 1∧aM l 1≤191∧(aM l 0=224→160≤aM l 1)∧(aM l 0=237→aM l 1≤159):=by split at q2<;>split at q3<;>omega
  clear q2 q3 hr q5 q6
  refine ⟨by unfold C4;omega,?_,by omega⟩
  rw [mo 3 l (by omega)]
  unfold encR
  rw [if_neg (by omega),if_neg (by omega),if_pos (by omega),show 224+r/4096=aM l 0 by omega,show 128+r/64 %64=aM l 1 by omega,show 128+r %64=aM l 2 by omega];rfl
 ·rw [BD hp (by omega) (by omega)]at h
  obtain ⟨⟨q1,q2,q3⟩,h⟩:=nK h
  obtain ⟨⟨q4,q5,q6⟩,h⟩:=nK h
  obtain ⟨⟨q8,q9,q10⟩,h⟩:=nK h
  rw [jh]at h
  simp only [Prod.mk.injEq]at h
  obtain ⟨hr,rfl,-⟩:=h
  have q5':128≤aM l 2:=q5
  have q6':aM l 2≤191:=q6
  have q9':128≤aM l 3:=q9
  have q10':aM l 3≤191:=q10
  have hr':((aM l 0 %8*64+aM l 1 %64)*64+aM l 2 %64)*64+aM l 3 %64=r:=hr
  have q7:128≤aM l 1∧aM l 1≤191∧(aM l 0=240→144≤aM l 1)∧(aM l 0=244→aM l 1≤143):=by split at q2<;>split at q3<;>omega
  clear q2 q3 hr q5 q6 q9 q10
  refine ⟨by unfold C4;omega,?_,by omega⟩
  rw [mo 4 l (by omega)]
  unfold encR
  rw [if_neg (by omega),if_neg (by omega),if_neg (by omega),show 240+r/262144=aM l 0 by omega,show 128+r/4096 %64=aM l 1 by omega,show 128+r/64 %64=aM l 2 by omega,show 128+r %64=aM l 3 by omega];rfl
theorem wX(r:Int):0<(encR r).length:=(wW r).1
theorem Iq(r:Int)(h:C4 r)(t:List UInt8):eL (encR r++t)=r::eL t∧ff (encR r++t)=ff t:=by
 have hp:0<(encR r++t).length:=by have:=wX r;simp;omega
 rw [dV hp,jT hp,Ft r h t]
 simp
theorem C5(rs:List Int):eL (gI rs)=rs.map iK∧ff (gI rs)=true:=by
 induction rs with
 |nil=>exact ⟨fh rfl,lk rfl⟩
 |cons r rs ih=>
  have:=Iq (iK r) (Io r) (gI rs)
  simp only [gI,List.map_cons]
  rw [this.1,this.2,ih.1,ih.2]
  exact ⟨rfl,rfl⟩
theorem C6:∀(n:Nat) (l:List UInt8),l.length≤n→ff l=true→gI (eL l)=l:=by
 intro n
 induction n with
 |zero=>intro l h _;have:l=[]:=List.eq_nil_of_length_eq_zero (by omega);subst this;rw [fh rfl];rfl
 |succ n ih=>
  intro l h hv
  by_cases h0:l.length=0
  ·have:l=[]:=List.eq_nil_of_length_eq_zero h0
   subst this;rw [fh rfl];rfl
  ·rw [jT (by omega)]at hv
   have hn:=eE l (by omega)
   rw [dV (by omega)]
   obtain ⟨⟨r,k,ok⟩,hnx⟩:∃t,bc l=t:=⟨_,rfl⟩
   simp only [hnx]at hv hn⊢
   simp only [Bool.and_eq_true]at hv
   obtain ⟨rfl,hv2⟩:=hv
   have hval:=ll hnx
   simp only [gI]
   rw [uS hval.1,hval.2.1,ih (l.drop k) (by simp;omega) hv2,List.take_append_drop]
theorem Ir(l:List UInt8):0≤(bc l).1∧(bc l).1≤1114111:=by
 obtain ⟨⟨r,k,ok⟩,hnx⟩:∃t,bc l=t:=⟨_,rfl⟩
 rw [hnx]
 cases ok
 ·by_cases hl:l.length=0
  ·unfold bc at hnx;rw [if_pos hl]at hnx;simp at hnx;show 0≤r∧_;omega
  ·have:=(eE l (by omega)).2.2.2
   rw [hnx]at this
   have:=(this rfl).1
   simp at this
   show 0≤r∧r≤1114111
   omega
 ·have:=(ll hnx).1
  unfold C4 at this
  exact ⟨this.1,this.2.1⟩
def Ly:List UInt8:=[32,34,60,62,96]
def KB:List UInt8:=[32,34,35,60,62]
def mSpec:List UInt8:=[32,34,35,60,62,39]
def Fu:List UInt8:=[32,34,35,60,62,63,94,96,123,125]
def Fv:List UInt8:=[47,58,59,61,64,91,92,93,124]
def KC:List UInt8:=[36,37,38,43,44]
def tf(k:Int):List UInt8:=if k=1 then Ly else if k=2 then KB else if k=3 then mSpec else if k=4 then Fu else if k=5 then Fu++Fv else if k=6 then Fu++Fv++KC else []
def qG(k:Int):Bool:=decide (0≤k∧k≤6)
def C7(has:List UInt8)(r:Int):Bool:=if r<0∨1114111<r then false else if r<32∨126<r then true else decide (kr r∈has)
theorem Fw {k:Int}(h:0≤k∧k≤6):qG k=true:=decide_eq_true h
theorem Fx {k:Int}(h:¬(0≤k∧k≤6)):qG k=false:=decide_eq_false h
theorem It {has:List UInt8}{r:Int}(h:r<0∨1114111<r):C7 has r=false:=by unfold C7;rw [if_pos h]
theorem Fy {has:List UInt8}{r:Int}(h0:0≤r)(h1:r≤1114111)(h:r<32∨126<r):C7 has r=true:=by unfold C7;rw [if_neg (by omega),if_pos h]
theorem Iu {has:List UInt8}{r:Int}(h0:32≤r)(h1:r≤126):C7 has r=decide (kr r∈has):=by unfold C7;rw [if_neg (by omega),if_neg (by omega)]
def Fz(l:List UInt8)(k:Nat):Prop:=aM l k=37∧k+2<l.length∧0≤cS (aM l (k+1))∧0≤cS (aM l (k+2))
instance (l:List UInt8)(k:Nat):Decidable (Fz l k):=by unfold Fz;infer_instance
def Mg:List UInt8:=[48,49,50,51,52,53,54,55,56,57,65,66,67,68,69,70]
def up(n:Int):UInt8:=Mg.getD n.toNat 0
def pe(has:List UInt8)(c:UInt8):List UInt8:=if C7 has c.toNat then [37,up ((c.toNat:Int)/16),up ((c.toNat:Int) %16)]else [c]
def gq(has:List UInt8)(l:List UInt8):List UInt8:=l.flatMap (pe has)
theorem oM(has a b:List UInt8):gq has (a++b)=gq has a++gq has b:=by unfold gq;simp
theorem tg(has l:List UInt8)(h:∀i,i<l.length→C7 has (aM l i)=false):gq has l=l:=by
 induction l with
 |nil=>rfl
 |cons b t ih=>
  have h0:=h 0 (by simp)
  rw [dh]at h0
  have ht:=ih fun i hi=>by have:=h (i+1) (by simp;omega);rwa [dP]at this
  show pe has b++gq has t=b::t
  rw [ht];unfold pe;rw [h0];rfl
theorem wY(has l:List UInt8):(gq has l).length≤3*l.length:=by
 induction l with
 |nil=>simp [gq]
 |cons b t ih=>
  have:(pe has b).length≤3:=by unfold pe;split<;>simp
  show(pe has b++gq has t).length≤_
  simp;omega
theorem tj(has l:List UInt8)(k:Nat)(hk:k<l.length):gq has (l.take (k+1))=gq has (l.take k)++pe has (l.getD k 0):=by
 rw [List.take_succ_eq_append_getElem hk,oM]
 simp [gq,List.getD,hk]
end Go.Proofs.YtmfapopclbnlpaaGreatDoor
