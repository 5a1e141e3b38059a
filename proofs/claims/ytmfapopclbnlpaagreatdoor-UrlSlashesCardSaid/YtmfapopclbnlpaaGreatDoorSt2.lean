import Derived.Orders
import Derived.Test.YtmfapopclbnlpaaGreatDoorSt1
set_option linter.unusedVariables false
set_option linter.unusedSectionVars false
namespace Go.Vc
structure aI where
 pre:Prop
 r:PV
abbrev cq:=FuncId→List PV→Option aI
inductive Ex where
 |normal|exit (id:Nat)|goto (l:Nat)|ret
abbrev JZ:=Ex→VS→Prop
structure Lp where
 α:Type
 at_:VS→α→VS
 get:VS→α
 inv:VS→α→Prop
 mu:VS→α→Nat
 dead:List Nat
abbrev ba:=Nat→Option Lp
def de:Int:=16777216
def nameOf(d:Option Tmp):Option Nat:=d.map (· +32)
def eT(n:Nat):Nat:=64*n
def A5(n:Nat)(x:PV)(lh:List (Nat×PV)):List (Nat×PV):=match bP n lh with
 |some _=>jx n x lh
 |none=>(n,x)::lh
section
variable (P:Program)
def Hn(n:Nat)(x:PV)(f:PV→PV)(lh:List (Nat×PV)):sE:=.ok (.ptr n 0) (some f) (A5 n x (cz f lh))
def EF(n lo hi:Nat):PV→PV
 |.row nl r u=>.row nl r (bif Nat.ble lo u&&Nat.blt u hi then 0 else u)
 |.vec nl sz l u=>.vec nl sz l (bif Nat.ble lo u&&Nat.blt u hi then 0 else u)
 |.ep r u i=>.ep r (bif Nat.ble lo u&&Nat.blt u hi then 0 else u) i
 |.epv sz l u i off=>.epv sz l (bif Nat.ble lo u&&Nat.blt u hi then 0 else u) i off
 |x=>x.im n
def mZ(e:TypeId)(d:Option Tmp)(lh:List (Nat×PV)):sE:=match nameOf d with
 |some n=>match mX P e (zeroV P 5 e (eT n))with
  |true=>Hn n (zeroV P 5 e (eT n)) (EF n (eT n) (eT (n+1))) lh
  |false=>.bad 39
 |none=>.bad 40
def Cq(e:TypeId)(x:PV)(d:Option Tmp)(lh:List (Nat×PV)):sE:=match nameOf d with
 |some n=>match eS P e&&x.fit,Nat.beq (typed P e 0 x).wid (aY P e)with
  |true,true=>Hn n (typed P e 0 (x.ck (PV.im n))) (PV.im n) lh
  |_,_=>.bad 39
 |none=>.bad 41
def L4(x:PV):Prop:=match x with
 |.int .u8 z=>pI z
 |_=>True
def na(t:TypeId)(a x:PV)(lh:List (Nat×PV)):sE:=match a with
 |.ptr n off=>match bP n lh with
  |some c=>match Nat.beq (typed P t 0 x).wid (aY P t)&&x.fit&&eS P t&&c.fit,PV.setAt (typed P t 0 x) c off with
   |true,some c'=>.ok (.tup []) none (jx n c' lh)
   |_,_=>.bad 42
  |none=>.bad 45
 |.pix n off z=>match bP n lh with
  |some c=>match c.bZ off with
   |some (m,r)=>match jA P t,r.set z x with
    |true,some r'=>match c.mW r' off with
     |some c'=>.cd (within z m∧r.JW x) (.tup []) none (jx n c' lh)
     |none=>.bad 43
    |_,_=>.bad 38
   |none=>.bad 39
  |none=>.bad 45
 |.ep r u z=>match u,jA P t,r.set z x with
  |u+1,true,some _=>.cd (L4 x) (.tup []) (some (ou (u+1) z x)) (cz (ou (u+1) z x) lh)
  |_,_,_=>.bad 47
 |_=>.bad 37
def y1(x:PV):Option ar:=match x with
 |.str l=>some (.bytes l)
 |.row _ r _=>some r
 |_=>none
def A6(tx:TypeId):Bool:=match P.underlying tx with
 |some (.slice _)=>true
 |some .string=>true
 |_=>false
def EG(e:TypeId):Nat:=match P.info? e with |some i=>i.bytes|none=>0
def nf(e:TypeId)(sz:Nat):Bool:=eS P e&&Nat.beq (aY P e) sz&&mX P e (zeroV P 5 e 0)&&Nat.ble (EG P e) 65536
def EH(nl:Bool)(t:Nat)(d:Option Tmp):Option (Nat×Bool):=match t with
 |t+1=>some (t+1,false)
 |0=>match nl with
  |true=>(nameOf d).map fun n=>(n,true)
  |false=>none
def Jv(new:Bool)(t:Nat):PV→PV:=PV.aU (match new with |true=>cm t|false=>lK t)
def uq(t tx:TypeId)(x y:PV)(d:Option Tmp)(lh:List (Nat×PV)):sE:=
 match P.underlying t,A6 P tx,x,y with
 |some (.slice e),true,.vec nl sz l tk,.vec _ sz2 q _=>match nf P e sz&&Nat.beq sz sz2,EH nl tk d with
  |true,some (t',new)=>.cd (al (l++q)≤de) (.vec (bif q.isEmpty then nl else false) sz (l++q) t') (some (Jv new t')) (cz (Jv new t') lh)
  |_,_=>.bad 45
 |some (.slice e),true,.row nl r tk,y=>match y1 y with
  |some q=>match nf P e 1,r.app q,EH nl tk d with
   |true,some r',some (t',new)=>.cd (r'.len≤de) (.row (bif q.none? then nl else false) r' t') (some (Jv new t')) (cz (Jv new t') lh)
   |_,_,_=>.bad 44
  |none=>.bad 43
 |_,_,_,_=>.bad 46
def kT(t:TypeId)(n c:PV)(d:Option Tmp)(lh:List (Nat×PV)):sE:=
 match P.underlying t,n,c,nameOf d with
 |some (.slice e),.int _ a,.int _ b,some tk=>match nf P e (aY P e)with
  |true=>
   let fin (v:PV):sE:=.cd (0≤a∧a≤b∧b≤de) v (some (PV.aU (cm tk))) (cz (PV.aU (cm tk)) lh)
   match kx P e with
   |some (.bytes _)=>fin (.row false (.bytes (List.replicate a.toNat 0)) tk)
   |some (.strs _)=>fin (.row false (.strs (List.replicate a.toNat [])) tk)
   |some (.ints k _)=>fin (.row false (.ints k (List.replicate a.toNat 0)) tk)
   |none=>fin (.vec false (aY P e) (List.replicate a.toNat (zeroV P 5 e 0)) tk)
  |false=>.bad 47
 |_,_,_,_=>.bad 48
def iS(n:Nat)(l:List Nat):Bool:=l.any (Nat.beq n)
def bc(ns:List Nat):List Nat→List Nat
 |[]=>ns
 |m::ms=>bc (bif ns.any (Nat.beq m)then ns else ns++[m]) ms
def bO(us:List Nat)(u:Nat):Option Nat:=some (bif iS u us then 0 else u)
def wj(n:Nat):List Nat→Nat
 |[]=>0
 |m::l=>bif Nat.beq m n then 0 else Nat.succ (wj n l)
def yU(ms:List Nat)(t:Nat):Option Nat:=bif Nat.beq t 0 then some 0 else bif iS t ms then some (Nat.succ (wj t ms))else none
def Cr(ns:List Nat)(n:Nat):Option Nat:=bif iS n ns then some (wj n ns)else none
def y2(n0 t:Nat):Option Nat:=bif Nat.beq t 0 then some 0 else bif Nat.blt t 64 then some (64*n0+t)else none
def J0(ns:List Nat)(i:Nat):Option Nat:=ns[i]?
def fJ(ms:List Nat)(n0 t:Nat):Option Nat:=bif Nat.beq t 0 then some 0 else bif iS t ms||(Nat.ble (64*n0) t&&Nat.blt t (64*n0+64))then none else some t
def PV.et(fn ft:Nat→Option Nat):PV→PV
 |.row nl r t=>match ft t with |some u=>.row nl r u|none=>.undef
 |.vec nl sz l t=>match ft t with |some u=>.vec nl sz l u|none=>.undef
 |.ep r t i=>match ft t with |some u=>.ep r u i|none=>.undef
 |.epv sz l t i off=>match ft t with |some u=>.epv sz l u i off|none=>.undef
 |.ptr n off=>match fn n with |some m=>.ptr m off|none=>.undef
 |.pix n off i=>match fn n with |some m=>.pix m off i|none=>.undef
 |.asl n off i k=>match fn n with |some m=>.asl m off i k|none=>.undef
 |x=>x
def lN(lh:List (Nat×PV)):List Nat→Option (List PV)
 |[]=>some []
 |n::ns=>match bP n lh,lN lh ns with
  |some c,some cs=>some (c::cs)
  |_,_=>none
def jC:List Nat→List PV→List (Nat×PV)→List (Nat×PV)
 |n::ns,c::cs,lh=>jx n c (jC ns cs lh)
 |_,_,lh=>lh
def reach(lh:List (Nat×PV)):Nat→List Nat→List Nat
 |0,ns=>ns
 |k+1,ns=>reach lh k (bc ns (ns.flatMap fun n=>match bP n lh with |some c=>PV.dm PV.bD c|none=>[]))
def nodupB:List Nat→Bool
 |[]=>true
 |n::ns=>!iS n ns&&nodupB ns
def sF(X:cq)(f:FuncId)(us ns:List Nat)(xs:List PV)(lh:List (Nat×PV)):sE:=
 match lN lh ns,ns with
 |some cs,n0::_=>match X f (PV.bg (PV.et (Cr ns) (yU (bc [] (PV.aB PV.bu cs)))) xs++PV.bg (PV.et (Cr ns) (yU (bc [] (PV.aB PV.bu cs)))) cs)with
  |none=>.bad 50
  |some c=>match c.r with
   |.tup (r::outs)=>match Nat.beq outs.length ns.length&&nodupB ns&&Nat.blt (bc [] (PV.aB PV.bu cs)).length 60,PV.dm PV.bu r,PV.dm PV.bD r,PV.aB PV.bD (PV.bg (PV.et (Cr ns) (yU (bc [] (PV.aB PV.bu cs)))) xs++PV.bg (PV.et (Cr ns) (yU (bc [] (PV.aB PV.bu cs)))) cs)with
    |true,[],[],_::_=>.cd c.pre r (some fun y=>(y.aU (bO us)).aU (fJ (bc [] (PV.aB PV.bu cs)) n0)) (jC ns (PV.bg (PV.et (J0 ns) (y2 n0)) outs) (cz (PV.aU (fJ (bc [] (PV.aB PV.bu cs)) n0)) lh))
    |_,_,_,_=>.bad 53
   |_=>.bad 54
 |_,_=>.bad 51
def Jw(X:cq)(f:FuncId)(xs:List PV)(lh:List (Nat×PV)):sE:=
 sF X f (bc [] (PV.aB PV.bu xs)) (reach (cz (PV.aU (bO (bc [] (PV.aB PV.bu xs)))) lh) 3 (bc [] (PV.aB PV.bD xs))) (PV.bg (PV.aU (bO (bc [] (PV.aB PV.bu xs)))) xs) (cz (PV.aU (bO (bc [] (PV.aB PV.bu xs)))) lh)
def iq:Nat:=64000193
def Cs(t:Nat):Option Nat:=bif Nat.beq t 0 then some 0 else bif Nat.beq t 1 then some iq else none
def LQ(_:Nat):Option Nat:=none
def EI(X:cq)(f:FuncId)(xs:List PV)(lh:List (Nat×PV)):sE:=match PV.aB PV.bD xs with
 |[]=>match X f (PV.bg (PV.aU cV) xs)with
  |none=>.bad 50
  |some c=>match bc [] (PV.aB PV.bu xs),PV.dm PV.bu c.r,PV.dm PV.bD c.r with
   |[],[],[]=>.vneed c.pre c.r
   |us,[],[]=>.cd c.pre c.r (some (PV.aU (bO us))) (cz (PV.aU (bO us)) lh)
   |us,[1],[]=>.cd c.pre (c.r.ck (PV.et LQ Cs)) (some fun y=>(y.aU (bO us)).aU (cm iq)) (cz (PV.aU (cm iq)) (cz (PV.aU (bO us)) lh))
   |_,_,_=>.bad 52
 |_=>Jw X f xs lh
def jD(x:Operand):Bool:=match x with
 |.const (.slice none 0 0)=>true
 |_=>false
def nh:List TypeId→List PV→List PV
 |t::ts,x::xs=>typed P t 0 x::nh ts xs
 |[],xs=>xs
 |_,[]=>[]
def A7(s d:TypeId)(x:PV)(t:Option Tmp)(lh:List (Nat×PV)):sE:=match kC P s d x,nameOf t with
 |.cd p (.row false (.bytes l) 0),some n=>.cd p (.row false (.bytes l) n) (some (PV.aU (cm n))) (cz (PV.aU (cm n)) lh)
 |r,_=>r.at
def dr(X:cq)(T:b7)(o:Oper)(xs:List PV)(lh:List (Nat×PV)):sE:=
 match o.op with
 |.move x=>.val (typed P o.type 0 (xs.getD 0 .undef))
 |.assign x=>match jD x,P.underlying o.type,nameOf o.dst with
  |true,some (.slice e),some n=>.ok (fG P true e n) (some (PV.aU (cm n))) (cz (PV.aU (cm n)) lh)
  |_,_,_=>.val (xs.getD 0 .undef)
 |.pick ..=>match xs with
  |[.bool b,x,y]=>.val (pL b x y)
  |_=>.bad 60
 |.alloc e=>mZ P e o.dst lh
 |.box e _=>Cq P e (xs.getD 0 .undef) o.dst lh
 |.build t ps=>(yY P t (ps.toList.map (·.1)) xs).at
 |.buildSlice t n ps=>match PV.aB PV.bu xs,PV.aB PV.bD xs with
  |[],[]=>(jB P t n (ps.toList.map (·.1)) xs).at
  |_,_=>.bad 69
 |.load t _=>(pM P T lh t (xs.getD 0 .undef)).at
 |.store t _ _=>na P t (xs.getD 0 .undef) (xs.getD 1 .undef) lh
 |.nilCheck _=>match xs with
  |[.ptr n off]=>.val (.ptr n off)
  |[.fn (.func f) a b]=>.val (.fn (.func f) a b)
  |_=>.bad 61
 |.binOp op t _ _ _=>(JX P op t (xs.getD 0 .undef) (xs.getD 1 .undef)).at
 |.unOp op _ _=>(LO op (xs.getD 0 .undef)).at
 |.convert a b _=>match o.guard with
  |none=>A7 P a b (xs.getD 0 .undef) o.dst lh
  |some _=>(kC P a b (xs.getD 0 .undef)).at
 |.makeSlice t _ _=>kT P t (xs.getD 0 .undef) (xs.getD 1 .undef) o.dst lh
 |.slice t _ none none none=>(mY P t (xs.getD 0 .undef) none none).at
 |.slice t _ (some _) none none=>(mY P t (xs.getD 0 .undef) (some (xs.getD 1 .undef)) none).at
 |.slice t _ none (some _) none=>(mY P t (xs.getD 0 .undef) none (some (xs.getD 1 .undef))).at
 |.slice t _ (some _) (some _) none=>(mY P t (xs.getD 0 .undef) (some (xs.getD 1 .undef)) (some (xs.getD 2 .undef))).at
 |.fieldAddr t _ f=>(kS P t (xs.getD 0 .undef) f).at
 |.field t _ f=>(yZ P t (xs.getD 0 .undef) f).at
 |.indexAddr t _ _=>(kR P t (xs.getD 0 .undef) (xs.getD 1 .undef)).at
 |.index t _ _=>(yW P t (xs.getD 0 .undef) (xs.getD 1 .undef)).at
 |.extract _ i=>match xs with
  |[.tup l]=>(okV (l.getD i .undef)).at
  |_=>.bad 62
 |.call {callee:=.builtin b,argTypes,..}=>match b,argTypes[0]?with
  |.len,some t=>match xs with
   |[x]=>(JY P t (typed P t 0 x)).at
   |_=>.bad 63
  |.append,some t=>match argTypes[1]?with
   |some tx=>match xs with
    |[x,y]=>uq P t tx (typed P t 0 x) (typed P tx 0 y) o.dst lh
    |_=>.bad 64
   |none=>.bad 68
  |.min,some _=>match xs with
   |[.int .i64 a,.int .i64 b]=>.val (.int .i64 (min a b))
   |_=>.bad 61
  |.max,some _=>match xs with
   |[.int .i64 a,.int .i64 b]=>.val (.int .i64 (max a b))
   |_=>.bad 62
  |_,_=>.bad 65
 |.call {callee:=.value _,args,argTypes}=>match xs with
  |.fn (.func f) a b::ys=>EI X f (a++nh P argTypes.toList ys++b) lh
  |_=>.bad 66
 |_=>.bad 67
def gZ(a:Nat)(t:Nat):Nat:=Nat.lor a (Nat.pow 2 t)
def b8(a:Nat)(t:Nat):Bool:=Nat.beq (Nat.land (Nat.shiftRight a t) 1) 1
def aT(ops:List Oper):List Nat:=
 (ops.foldl (fun(acc:List Nat) o=>acc++[o.after.toList.foldl (fun s e=>if Region.binds .any e then Nat.lor (gZ s e.on) (acc.getD e.on 0)else s) 0]) [])
def fB(ops:List Oper)(o:Oper):List Nat:=
 (o.op.operands.toList.filterMap fun |.tmp t=>some t|_=>none)++
 (match o.guard with
  |some (g,_)=>((ops[g]?).bind (·.dst)).toList
  |none=>[])
def ni(ops:List Oper)(x y:Oper):Bool:=
 (match x.dst with
  |some d=>!(fB ops y).contains d&&y.dst !=some d
  |none=>true)&&
 (match y.dst with
  |some d=>!(fB ops x).contains d
  |none=>true)
def pN(ops:List Oper)(bf:List Nat):Bool:=
 (ops.zipIdx.all fun(o,i)=>o.after.toList.all fun e=>!Region.binds .any e||Nat.blt e.on i)&&(ops.zip bf).zipIdx.all fun((y,by_),j)=>(ops.take j).zipIdx.all fun(x,i)=>b8 by_ i||ni ops x y
def calm(g:Option (Nat×Bool))(s:sE):sE:=match s with
 |.bad n=>match g with
  |some _=>.vneed False .undef
  |none=>.bad n
 |s=>s
def eO(X:cq)(T:b7)(o:Oper)(xs:List PV)(lh:List (Nat×PV)):sE:=calm o.guard (dr P X T o xs lh)
def gA(X:cq)(T:b7)(o:Oper)(xs:List PV)(lh:List (Nat×PV)):sE:=
 match o.op with
 |.convert a b _=>(kC P a b (xs.getD 0 .undef)).at
 |_=>eO P X T o xs lh
def ct(t:Nat):List (Nat×Option (Nat×Bool)×PV)→Option (Option (Nat×Bool)×PV)
 |[]=>none
 |e::l=>bif Nat.beq e.1 t then some e.2 else ct t l
def cR(ops:List Oper):Nat→Option (Nat×Bool)→Option (Nat×Bool)→Bool
 |0,_,_=>false
 |k+1,g,h=>match h with
  |none=>true
  |some (j,b)=>match g with
   |none=>false
   |some (i,a)=>(Nat.beq i j&&(a==b))||cR ops k ((ops[i]?).bind (·.guard)) (some (j,b))
def bm(ops:List Oper)(g:Option (Nat×Bool))(s:VS)(x:Operand):PV:=match x with
 |.tmp t=>match ct t s.loc with
  |some (h,v)=>match cR ops 9 g h with
   |true=>v
   |false=>.undef
  |none=>(bP t s.env).getD .undef
 |.const v=>ofValue v
 |.global g=>.gp g 0
 |.func f=>.fn (.func f) [] []
def dw(ops:List Oper)(s:VS):Nat→Option (Nat×Bool)→Prop →Prop
 |0,_,_=>False
 |k+1,g,p=>match g with
  |none=>p
  |some (j,w)=>match ops[j]?with
   |none=>False
   |some o=>match o.dst.bind fun t=>ct t s.loc with
    |some (_,.bool b)=>dw ops s k o.guard (match w with |true=>b=true→p|false=>b=false→p)
    |_=>False
def ir(ops:List Oper)(s:VS)(c:Operand):Option Nat:=match c with
 |.tmp t=>match ct t s.loc with
  |some _=>ops.findIdx? fun o=>match o.dst with |some d=>Nat.beq d t|none=>false
  |none=>none
 |_=>none
def aN(ops:List Oper)(o:Oper)(s:VS):List PV:=match o.op with
 |.pick c a b=>match ir ops s c with
  |some j=>[bm ops o.guard s c,bm ops (some (j,true)) s a,bm ops (some (j,false)) s b]
  |none=>o.op.operands.toList.map (bm ops o.guard s)
 |op=>op.operands.toList.map (bm ops o.guard s)
def bK(o:Oper)(v:PV)(s:VS):VS:=match o.dst with
 |some d=>{s with loc:=(d,o.guard,v)::s.loc}
 |none=>s
def kU(f:PV→(PV→Prop)→Prop):List PV→(List PV→Prop)→Prop
 |[],k=>k []
 |x::l,k=>f x fun y=>kU f l fun l=>k (y::l)
def pO(r:ar)(k:ar→Prop):Prop:=match r with
 |.bytes l=>k (.bytes l)
 |.strs l=>k (.strs l)
 |.ints i l=>k (.ints i l)
def bJ:Nat→PV→(PV→Prop)→Prop
 |0,x,k=>k x
 |n+1,x,k=>match x with
  |.undef=>k .undef
  |.int i z=>k (.int i z)
  |.bool b=>k (.bool b)
  |.str l=>k (.str l)
  |.raw v=>k (.raw v)
  |.arr m r=>pO r fun r=>k (.arr m r)
  |.agg l=>kU (bJ n) l fun l=>k (.agg l)
  |.tup l=>kU (bJ n) l fun l=>k (.tup l)
  |.row nl r t=>pO r fun r=>k (.row nl r t)
  |.vec nl sz l t=>k (.vec nl sz l t)
  |.ep r t i=>k (.ep r t i)
  |.epv sz l t i off=>k (.epv sz l t i off)
  |.ptr m off=>k (.ptr m off)
  |.pix m off i=>k (.pix m off i)
  |.asl m off a b=>k (.asl m off a b)
  |.gp g off=>k (.gp g off)
  |.gix g off i=>k (.gix g off i)
  |.fn f a b=>k (.fn f a b)
def cX:List (Nat×PV)→(List (Nat×PV)→Prop)→Prop
 |[],k=>k []
 |e::l,k=>bJ 4 e.2 fun x=>cX l fun l=>k ((e.1,x)::l)
def y3(t:Nat)(want:Bool)(s:VS)(A B:VS→Prop):Prop:=match ct t s.loc with
 |some (q,.bool b)=>(b=want→A {s with loc:=(t,q,.bool want)::s.loc})∧(b=!want→B {s with loc:=(t,q,.bool (!want))::s.loc})
 |_=>False
def pP(ops:List Oper):Nat→VS→Nat×Bool→(VS→Prop)→(VS→Prop)→Prop
 |0,_,_,_,_=>False
 |n+1,s,g,A,B=>match ops[g.1]?with
  |some o=>match o.dst with
   |some t=>match o.guard with
    |none=>y3 t g.2 s A B
    |some g'=>pP ops n s g' (fun s=>y3 t g.2 s A B) fun s=>B {s with loc:=(t,some g',.bool (!g.2))::s.loc}
   |none=>False
  |none=>False
def fK(X:cq)(T:b7)(ops:List Oper):List Oper→VS→(VS→Prop)→Prop
 |[],s,k=>k s
 |o::os,s,k=>match eO P X T o (aN ops o s) s.lh,o.guard with
  |.val v,_=>bJ 4 v fun v=>fK X T ops os (bK o v s) k
  |.vneed p v,none=>p∧bJ 4 v fun v=>fK X T ops os (bK o v s) k
  |.vneed p v,some g=>dw ops s 9 (some g) p∧bJ 4 v fun v=>fK X T ops os (bK o v s) k
  |.ok v f lh,none=>bJ 4 v fun v=>fK X T ops os (bK o v (s.turn f lh)) k
  |.cd p v f lh,none=>p∧bJ 4 v fun v=>fK X T ops os (bK o v (s.turn f lh)) k
  |.ok v f lh,some g=>pP ops 4 s g (fun s=>bJ 4 v fun v=>fK X T ops os (bK o v (s.turn f lh)) k) (fun s=>fK X T ops os (bK o .undef s) k)
  |.cd p v f lh,some g=>pP ops 4 s g (fun s=>p∧bJ 4 v fun v=>fK X T ops os (bK o v (s.turn f lh)) k) (fun s=>fK X T ops os (bK o .undef s) k)
  |_,_=>False
def dp(ops:List Oper)(bf:List Nat)(i:Nat):Bool:=(List.range ops.length).all fun j=>Nat.beq j i||(bif Nat.blt j i then b8 (bf.getD i 0) j else b8 (bf.getD j 0) i)
def Ct(X:cq)(T:b7)(ops:List Oper)(bf:List Nat):List Oper→Nat→VS→(VS→Prop)→Prop
 |[],_,s,k=>k s
 |o::os,i,s,k=>match dp ops bf i with
  |true=>match eO P X T o (aN ops o s) s.lh,o.guard with
   |.val v,_=>bJ 4 v fun v=>Ct X T ops bf os (i+1) (bK o v s) k
   |.vneed p v,none=>p∧bJ 4 v fun v=>Ct X T ops bf os (i+1) (bK o v s) k
   |.vneed p v,some g=>dw ops s 9 (some g) p∧bJ 4 v fun v=>Ct X T ops bf os (i+1) (bK o v s) k
   |.ok v f lh,none=>bJ 4 v fun v=>Ct X T ops bf os (i+1) (bK o v (s.turn f lh)) k
   |.cd p v f lh,none=>p∧bJ 4 v fun v=>Ct X T ops bf os (i+1) (bK o v (s.turn f lh)) k
   |_,_=>False
  |false=>match gA P X T o (aN ops o s) s.lh,o.guard with
   |.val v,_=>bJ 4 v fun v=>Ct X T ops bf os (i+1) (bK o v s) k
   |.vneed p v,none=>p∧bJ 4 v fun v=>Ct X T ops bf os (i+1) (bK o v s) k
   |.vneed p v,some g=>dw ops s 9 (some g) p∧bJ 4 v fun v=>Ct X T ops bf os (i+1) (bK o v s) k
   |_,_=>False
def dY:Op→Bool
 |.move _ |.nilCheck _ |.binOp ..|.unOp ..|.slice ..|.fieldAddr ..|.field ..|.indexAddr ..|.index ..|.extract ..|.build ..=>true
 |.assign x=>!jD x
 |.call {callee:=.builtin .len,..}=>true
 |_=>false
inductive Pl where
 |box (n off len:Nat)
 |mark (t:Nat)
 |still
def Ho(p q:Pl):Bool:=match p,q with
 |.box n o l,.box n' o' l'=>!Nat.beq n n'||(Nat.ble (o+l) o'||Nat.ble (o'+l') o)
 |.mark t,.mark t'=>!Nat.beq t t'
 |.still,.still=>false
 |_,_=>true
def Lf(t:TypeId)(x:PV):Option Pl:=match x with
 |.ptr n off=>some (.box n off (match gL P t with |true=>aY P t|false=>1))
 |.ep _ 0 _=>some .still
 |_=>none
def Lg(t:TypeId)(x:PV)(lh:List (Nat×PV)):Option Pl:=match x with
 |.ptr n off=>some (.box n off (aY P t))
 |.pix n off _=>match bP n lh with
  |some c=>match c.bZ off with
   |some (m,_)=>some (.box n off m)
   |none=>none
  |none=>none
 |.ep _ (u+1) _=>some (.mark (u+1))
 |_=>none
abbrev Hp:=List (Nat×Bool×Pl)
def EJ(m:Nat)(st:Bool)(p:Pl)(ms:Hp):Bool:=ms.all fun e=>b8 m e.1||((!st&&!e.2.1)||Ho p e.2.2)
def wc(X:cq)(T:b7)(ops:List Oper)(bf:List Nat):List Oper→Nat→Hp→VS→(VS→Prop)→Prop
 |[],_,_,s,k=>k s
 |o::os,i,ms,s,k=>match dp ops bf i with
  |true=>match eO P X T o (aN ops o s) s.lh,o.guard with
   |.val v,_=>bJ 4 v fun v=>wc X T ops bf os (i+1) [] (bK o v s) k
   |.vneed p v,none=>p∧bJ 4 v fun v=>wc X T ops bf os (i+1) [] (bK o v s) k
   |.vneed p v,some g=>dw ops s 9 (some g) p∧bJ 4 v fun v=>wc X T ops bf os (i+1) [] (bK o v s) k
   |.ok v f lh,none=>bJ 4 v fun v=>wc X T ops bf os (i+1) [] (bK o v (s.turn f lh)) k
   |.cd p v f lh,none=>p∧bJ 4 v fun v=>wc X T ops bf os (i+1) [] (bK o v (s.turn f lh)) k
   |_,_=>False
  |false=>match dY o.op with
   |true=>match eO P X T o (aN ops o s) s.lh,o.guard with
    |.val v,_=>bJ 4 v fun v=>wc X T ops bf os (i+1) ms (bK o v s) k
    |.vneed p v,none=>p∧bJ 4 v fun v=>wc X T ops bf os (i+1) ms (bK o v s) k
    |.vneed p v,some g=>dw ops s 9 (some g) p∧bJ 4 v fun v=>wc X T ops bf os (i+1) ms (bK o v s) k
    |_,_=>False
   |false=>match o.op with
    |.load t _=>match Lf P t ((aN ops o s).getD 0 .undef)with
     |some p=>match EJ (bf.getD i 0) false p ms with
      |true=>match eO P X T o (aN ops o s) s.lh,o.guard with
       |.val v,_=>bJ 4 v fun v=>wc X T ops bf os (i+1) ((i,false,p)::ms) (bK o v s) k
       |.vneed q v,none=>q∧bJ 4 v fun v=>wc X T ops bf os (i+1) ((i,false,p)::ms) (bK o v s) k
       |.vneed q v,some g=>dw ops s 9 (some g) q∧bJ 4 v fun v=>wc X T ops bf os (i+1) ((i,false,p)::ms) (bK o v s) k
       |_,_=>False
      |false=>False
     |none=>False
    |.store t _ _=>match Lg P t ((aN ops o s).getD 0 .undef) s.lh with
     |some p=>match EJ (bf.getD i 0) true p ms with
      |true=>match eO P X T o (aN ops o s) s.lh,o.guard with
       |.ok v f lh,none=>bJ 4 v fun v=>wc X T ops bf os (i+1) ((i,true,p)::ms) (bK o v (s.turn f lh)) k
       |.cd q v f lh,none=>q∧bJ 4 v fun v=>wc X T ops bf os (i+1) ((i,true,p)::ms) (bK o v (s.turn f lh)) k
       |_,_=>False
      |false=>False
     |none=>False
    |_=>False
def J3(ops:List Oper)(bf:List Nat):Bool:=ops.zipIdx.any fun(o,i)=>(match o.op with |.store ..=>true|_=>false)&&!dp ops bf i
def J4(ops:List Oper)(S:List Bool):List Nat:=(List.range ops.length).filter fun i=>!(S.getD i true)&&(match ops[i]?with |some o=>o.after.toList.all (fun e=>!Region.binds .any e||S.getD e.on false)|none=>false)
def iu(ops:List Oper):Bool:=ops.all fun o=>(match o.guard with |none=>true|some _=>false)&&(match o.op with |.pick ..=>false|.select ..=>false|_=>true)
def y4(ops:List Oper)(S:List Bool)(i:Nat):Bool:=match ops[i]?with
 |some o=>dY o.op&&(List.range ops.length).all fun j=>Nat.beq j i||(S.getD j true||(match ops[j]?with |some q=>q.after.toList.any (fun e=>Region.binds .any e&&Nat.beq e.on i)||Oper.apart ops.toArray o q|none=>true))
 |none=>false
def A8(X:cq)(T:b7)(ops:List Oper)(i:Nat)(s:VS)(K:VS→Prop):Prop:=match ops[i]?with
 |none=>False
 |some o=>match eO P X T o (aN ops o s) s.lh with
  |.val v=>bJ 4 v fun v=>K (bK o v s)
  |.vneed p v=>p∧bJ 4 v fun v=>K (bK o v s)
  |.ok v f lh=>bJ 4 v fun v=>K (bK o v (s.turn f lh))
  |.cd p v f lh=>p∧bJ 4 v fun v=>K (bK o v (s.turn f lh))
  |_=>False
def J5:List Nat→(Nat→Prop)→Prop
 |[],_=>True
 |i::is,F=>match is with
  |[]=>F i
  |_=>F i∧J5 is F
def K2(X:cq)(T:b7)(ops:List Oper):Nat→List Bool→VS→(VS→Prop)→Prop
 |0,_,_,_=>False
 |n+1,S,s,k=>match J4 ops S with
  |[]=>k s
  |r=>match r.find? (y4 ops S)with
   |some i=>A8 P X T ops i s fun s=>K2 X T ops n (S.set i true) s k
   |none=>J5 r fun i=>A8 P X T ops i s fun s=>K2 X T ops n (S.set i true) s k
def J6(ops:List Oper):List Nat:=ops.flatMap fun o=>match o.op with
 |.call {callee:=.value _,args,..}=>args.toList.filterMap fun |.tmp t=>some t|_=>none
 |_=>[]
def A9(ops:List Oper):List Nat:=let ts:=J6 ops
 ts++ops.filterMap fun o=>match o.op,o.dst with
  |.move (.tmp s),some d=>bif ts.any (Nat.beq d)then some s else none
  |_,_=>none
def J7(o:Op):Bool:=match o with
 |.call {callee:=.builtin .append,..}=>true
 |.alloc ..=>true
 |.makeSlice ..=>true
 |_=>false
def Jx(ops:List Oper)(bf:List Nat)(s:VS):Bool:=iu ops&&
 ((ops.zipIdx.any fun(o,i)=>J7 o.op&&!dp ops bf i)||
  ((ops.zipIdx.any fun(o,i)=>(match o.op with |.call {callee:=.value _,..}=>true|_=>false)&&!dp ops bf i)&&(A9 ops).any fun t=>match bP t s.env with |some x=>!(PV.dm PV.bD x).isEmpty|none=>false))
def K3(X:cq)(T:b7)(ops:List Oper)(bf:List Nat)(s:VS)(k:VS→Prop):Prop:=match Jx ops bf s with
 |true=>K2 P X T ops (Nat.succ ops.length) (ops.map fun _=>false) s k
 |false=>match J3 ops bf with
  |true=>wc P X T ops bf ops 0 [] s k
  |false=>Ct P X T ops bf ops 0 s k
def iw(ops:List Oper)(s:VS):List Nat:=bc [] ((A9 ops).flatMap fun t=>match bP t s.env with |some x=>PV.dm PV.bu x|none=>[])
def pQ(us:List Nat)(s:VS):VS:=match us with
 |[]=>s
 |us=>s.turn (some (PV.aU (bO us))) (cz (PV.aU (bO us)) s.lh)
def ix(s:VS):VS:=
 ⟨[],s.env.map fun e=>(e.1,match ct e.1 s.loc with |some (none,v)=>v|some (some _,_)=>.undef|none=>e.2),s.lh⟩
def y5(x:PV)(a b:Prop):Prop:=match x with
 |.bool t=>(t=true→a)∧(t=false→b)
 |_=>False
def iT:Code→Nat
 |.region id _ _=>id
 |.seq a b=>iT a
 |.cond _ a _=>iT a
 |.block _ a=>iT a
 |.loop a=>iT a
 |.scope a=>iT a
 |_=>999999
def VS.put(s:VS)(n:Nat)(x:PV):VS:=⟨s.loc,jx n x s.env,s.lh⟩
def VS.drop(s:VS):List Nat→VS
 |[]=>s
 |n::ns=>(s.put n .undef).drop ns
def Lp.into(h:Lp)(s:VS)(body:h.α→VS→Prop):Prop:=s.drop h.dead=h.at_ s (h.get s)∧h.inv s (h.get s)∧∀x,h.inv s x→body x (h.at_ s x)
def rR(s:VS):Prop:=s=s
def Lp.cut(h:Lp)(s s':VS):Prop:=s'.drop h.dead=h.at_ s (h.get s')∧h.inv s (h.get s')
def Lp.back(h:Lp)(s:VS)(x:h.α)(s':VS):Prop:=s'.drop h.dead=h.at_ s (h.get s')∧h.inv s (h.get s')∧h.mu s (h.get s')<h.mu s x
def VS.slot(s:VS)(n:Nat):PV:=(bP n s.env).getD .undef
def VS.int(s:VS)(n:Nat):Int:=(s.slot n).asInt
def VS.bool(s:VS)(n:Nat):Bool:=(s.slot n).asBool
def VS.str(s:VS)(n:Nat):Bs:=(s.slot n).dd
def VS.bytes(s:VS)(n:Nat):Bs:=(s.slot n).uj
def VS.strs(s:VS)(n:Nat):List Bs:=(s.slot n).kQ
def VS.ints(s:VS)(n:Nat):List Int:=(s.slot n).mV
def VS.nil(s:VS)(n:Nat):Bool:=(s.slot n).lL
def VS.row(s:VS)(e:VS)(n:Nat)(nl:Bool)(r:ar):VS:=s.put n (match e.slot n with |.row _ _ t=>.row nl r t|_=>.undef)
def ur:List Oper→Bool
 |[]=>true
 |o::os=>(match o.dst with |some d=>os.all (fun q=>match q.dst with |some e=>!Nat.beq d e|none=>true)|none=>true)&&ur os
def iy(ops:List Oper):Nat→List Oper→Bool
 |_,[]=>true
 |i,o::os=>(match o.guard with |none=>true|some (j,_)=>Nat.blt j i&&(match(ops[j]?).bind (·.dst)with |some _=>true|none=>false))&&iy ops (i+1) os
def sG(N:Nat)(ops:List Oper):Bool:=ur ops&&iy ops 0 ops&&ops.all fun o=>match o.dst with |some d=>Nat.blt d N|none=>true
def mU(X:cq)(T:b7)(H:ba)(N:Nat):Nat→Option (Code×(Nat→Option (VS→Prop)))→Code→VS→JZ→Prop
 |0,_,_,_,_=>False
 |fuel+1,some (a,C),c,s,k=>mU X T H N fuel none c s fun e s=>match e with
   |.goto l=>match C l with
    |some J=>J s
    |none=>match findLabel a l with
     |none=>k (.goto l) s
     |some r=>match H (1000000+l)with
      |some h=>h.into s fun n s'=>mU X T H N fuel (some (a,fun l'=>bif Nat.beq l' l then some (h.back s n)else C l')) r s' k
      |none=>mU X T H N fuel (some (a,C)) r s k
   |e=>k e s
 |fuel+1,none,c,s,k=>match c with
  |.skip=>k .normal s
  |.region id ops draw=>match draw,sG N ops.toList with
   |false,true=>fK P X T ops.toList ops.toList s fun s=>cX (ix s).env fun env=>cX s.lh fun lh=>k .normal ⟨[],env,lh⟩
   |true,true=>match pN ops.toList (aT ops.toList)with
    |true=>match H (2000000+id)with
     |some h=>(K3 P X T ops.toList (aT ops.toList) (pQ (iw ops.toList s) s) fun s'=>cX (ix s').env fun env=>cX s'.lh fun lh=>h.cut s ⟨[],env,lh⟩)∧∀x,h.inv s x→k .normal (h.at_ s x)
     |none=>K3 P X T ops.toList (aT ops.toList) (pQ (iw ops.toList s) s) fun s=>cX (ix s).env fun env=>cX s.lh fun lh=>k .normal ⟨[],env,lh⟩
    |false=>False
   |_,_=>False
  |.seq a b=>mU X T H N fuel none a s fun e s=>match e with
   |.normal=>mU X T H N fuel none b s k
   |e=>k e s
  |.cond c a b=>y5 (bm [] none s c) (mU X T H N fuel none a s k) (mU X T H N fuel none b s k)
  |.block id a=>mU X T H N fuel none a s fun e s=>match e with
   |.exit i=>bif Nat.beq i id then k .normal s else k (.exit i) s
   |e=>k e s
  |.loop a=>match H (iT a)with
   |some h=>h.into s fun n s'=>mU X T H N fuel none a s' fun e s''=>match e with
    |.normal=>h.back s n s''
    |e=>k e s''
   |none=>False
  |.exit id=>k (.exit id) s
  |.scope a=>mU X T H N fuel (some (a,fun _=>none)) a s k
  |.label _=>k .normal s
  |.goto l=>k (.goto l) s
  |.ret=>k .ret s
  |_=>False
end
def Lh(ops:List Oper)(acc:Nat):Nat:=
 (ops.foldl (fun(s:Nat×Nat) o=>((o.op.operands.toList.foldl (fun a x=>match x with |.tmp t=>if b8 s.2 t then a else gZ a t|_=>a) s.1),match o.dst with |some d=>gZ s.2 d|none=>s.2)) (acc,0)).1
def ov:Code→Nat→Nat
 |.region _ ops _,a=>Lh ops.toList a
 |.seq x y,a=>ov y (ov x a)
 |.cond c x y,a=>ov y (ov x (match c with |.tmp t=>gZ a t|_=>a))
 |.block _ x,a=>ov x a
 |.loop x,a=>ov x a
 |.scope x,a=>ov x a
 |_,a=>a
def ow(fn:Func):Nat:=
 match fn.body with
 |some c=>(List.range (fn.params.size+fn.nfree)).foldl gZ (fn.results.toList.foldl (fun a r=>match r with |.tmp t=>gZ a t|.cell t _=>gZ a t) (ov c 0))
 |none=>0
def slotsOf(m:Nat):Nat→List Nat
 |0=>[]
 |n+1=>bif b8 m n then slotsOf m n++[n]else slotsOf m n
section
variable (P:Program)
def J8(T:b7)(s:VS)(r:ResultVar):Option PV:=match r with
 |.tmp t=>some ((bP t s.env).getD .undef)
 |.cell t ty=>match bP t s.env with
  |some (.ptr n off)=>match pM P T s.lh ty (.ptr n off)with
   |.ok v=>some v
   |_=>none
  |_=>none
def wk(T:b7)(s:VS):List ResultVar→Option (List PV)
 |[]=>some []
 |r::rs=>match J8 P T s r,wk T s rs with
  |some x,some xs=>some (x::xs)
  |_,_=>none
def cN(T:b7)(s:VS)(rs:List ResultVar):Option PV:=match wk P T s rs with
 |some [x]=>some x
 |some xs=>some (.tup xs)
 |none=>none
def Cu(r:Option PV)(k:PV→Prop):Prop:=match r with
 |some r=>bJ 4 r fun r=>match PV.dm PV.bD r with
  |[]=>k (r.ck (PV.aU cV))
  |_=>False
 |none=>False
def gB(xs:List PV):List Nat→List (Nat×PV)
 |[]=>[]
 |t::ts=>(t,xs.getD t .undef)::gB xs ts
def cD(X:cq)(T:b7)(H:ba)(fuel:Nat)(fn:Func)(xs:List PV)(k:PV→Prop):Prop:=
 match fn.body with
 |none=>False
 |some c=>mU P X T H fn.ntmps fuel none c ⟨[],gB xs (slotsOf (ow fn) fn.ntmps),[]⟩ fun e s=>match e with
  |.normal=>Cu (cN P T s fn.results.toList) k
  |.ret=>Cu (cN P T s fn.results.toList) k
  |_=>False
end
end Go.Vc
