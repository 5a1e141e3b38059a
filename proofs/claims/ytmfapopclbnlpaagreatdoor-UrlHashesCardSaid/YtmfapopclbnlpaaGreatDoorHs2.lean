import Derived.Orders
import Derived.Test.YtmfapopclbnlpaaGreatDoorHs1
set_option linter.unusedVariables false
set_option linter.unusedSectionVars false
namespace Go.Vc
structure aG where
 pre:Prop
 r:PV
abbrev cp:=FuncId→List PV→Option aG
inductive Ex where
 |normal|exit (id:Nat)|goto (l:Nat)|ret
abbrev Ka:=Ex→VS→Prop
structure Lp where
 α:Type
 at_:VS→α→VS
 get:VS→α
 inv:VS→α→Prop
 mu:VS→α→Nat
 dead:List Nat
abbrev ba:=Nat→Option Lp
def dd:Int:=16777216
def nameOf(d:Option Tmp):Option Nat:=d.map (· +32)
def fa(n:Nat):Nat:=64*n
def Bg(n:Nat)(x:PV)(lh:List (Nat×PV)):List (Nat×PV):=match bO n lh with
 |some _=>jz n x lh
 |none=>(n,x)::lh
section
variable (P:Program)
def HZ(n:Nat)(x:PV)(f:PV→PV)(lh:List (Nat×PV)):sH:=.ok (.ptr n 0) (some f) (Bg n x (cA f lh))
def ER(n lo hi:Nat):PV→PV
 |.row nl r u=>.row nl r (bif Nat.ble lo u&&Nat.blt u hi then 0 else u)
 |.vec nl sz l u=>.vec nl sz l (bif Nat.ble lo u&&Nat.blt u hi then 0 else u)
 |.ep r u i=>.ep r (bif Nat.ble lo u&&Nat.blt u hi then 0 else u) i
 |.epv sz l u i off=>.epv sz l (bif Nat.ble lo u&&Nat.blt u hi then 0 else u) i off
 |x=>x.ir n
def nk(e:TypeId)(d:Option Tmp)(lh:List (Nat×PV)):sH:=match nameOf d with
 |some n=>match ni P e (zeroV P 5 e (fa n))with
  |true=>HZ n (zeroV P 5 e (fa n)) (ER n (fa n) (fa (n+1))) lh
  |false=>.bad 39
 |none=>.bad 40
def Cw(e:TypeId)(x:PV)(d:Option Tmp)(lh:List (Nat×PV)):sH:=match nameOf d with
 |some n=>match eZ P e&&x.fit,Nat.beq (typed P e 0 x).wid (aX P e)with
  |true,true=>HZ n (typed P e 0 (x.cj (PV.ir n))) (PV.ir n) lh
  |_,_=>.bad 39
 |none=>.bad 41
def L8(x:PV):Prop:=match x with
 |.int .u8 z=>pP z
 |_=>True
def np(t:TypeId)(a x:PV)(lh:List (Nat×PV)):sH:=match a with
 |.ptr n off=>match bO n lh with
  |some c=>match Nat.beq (typed P t 0 x).wid (aX P t)&&x.fit&&eZ P t&&c.fit,PV.setAt (typed P t 0 x) c off with
   |true,some c'=>.ok (.tup []) none (jz n c' lh)
   |_,_=>.bad 42
  |none=>.bad 45
 |.pix n off z=>match bO n lh with
  |some c=>match c.b4 off with
   |some (m,r)=>match jE P t,r.set z x with
    |true,some r'=>match c.nh r' off with
     |some c'=>.cc (within z m∧r.J7 x) (.tup []) none (jz n c' lh)
     |none=>.bad 43
    |_,_=>.bad 38
   |none=>.bad 39
  |none=>.bad 45
 |.ep r u z=>match u,jE P t,r.set z x with
  |u+1,true,some _=>.cc (L8 x) (.tup []) (some (oB (u+1) z x)) (cA (oB (u+1) z x) lh)
  |_,_,_=>.bad 47
 |_=>.bad 37
def zb(x:PV):Option ar:=match x with
 |.str l=>some (.bytes l)
 |.row _ r _=>some r
 |_=>none
def Bh(tx:TypeId):Bool:=match P.underlying tx with
 |some (.slice _)=>true
 |some .string=>true
 |_=>false
def ES(e:TypeId):Nat:=match P.info? e with |some i=>i.bytes|none=>0
def nt(e:TypeId)(sz:Nat):Bool:=eZ P e&&Nat.beq (aX P e) sz&&ni P e (zeroV P 5 e 0)&&Nat.ble (ES P e) 65536
def ET(nl:Bool)(t:Nat)(d:Option Tmp):Option (Nat×Bool):=match t with
 |t+1=>some (t+1,false)
 |0=>match nl with
  |true=>(nameOf d).map fun n=>(n,true)
  |false=>none
def JJ(new:Bool)(t:Nat):PV→PV:=PV.aW (match new with |true=>cn t|false=>lO t)
def uu(t tx:TypeId)(x y:PV)(d:Option Tmp)(lh:List (Nat×PV)):sH:=
 match P.underlying t,Bh P tx,x,y with
 |some (.slice e),true,.vec nl sz l tk,.vec _ sz2 q _=>match nt P e sz&&Nat.beq sz sz2,ET nl tk d with
  |true,some (t',new)=>.cc (ak (l++q)≤dd) (.vec (bif q.isEmpty then nl else false) sz (l++q) t') (some (JJ new t')) (cA (JJ new t') lh)
  |_,_=>.bad 45
 |some (.slice e),true,.row nl r tk,y=>match zb y with
  |some q=>match nt P e 1,r.app q,ET nl tk d with
   |true,some r',some (t',new)=>.cc (r'.len≤dd) (.row (bif q.none? then nl else false) r' t') (some (JJ new t')) (cA (JJ new t') lh)
   |_,_,_=>.bad 44
  |none=>.bad 43
 |_,_,_,_=>.bad 46
def kW(t:TypeId)(n c:PV)(d:Option Tmp)(lh:List (Nat×PV)):sH:=
 match P.underlying t,n,c,nameOf d with
 |some (.slice e),.int _ a,.int _ b,some tk=>match nt P e (aX P e)with
  |true=>
   let fin (v:PV):sH:=.cc (0≤a∧a≤b∧b≤dd) v (some (PV.aW (cn tk))) (cA (PV.aW (cn tk)) lh)
   match kA P e with
   |some (.bytes _)=>fin (.row false (.bytes (List.replicate a.toNat 0)) tk)
   |some (.strs _)=>fin (.row false (.strs (List.replicate a.toNat [])) tk)
   |some (.ints k _)=>fin (.row false (.ints k (List.replicate a.toNat 0)) tk)
   |none=>fin (.vec false (aX P e) (List.replicate a.toNat (zeroV P 5 e 0)) tk)
  |false=>.bad 47
 |_,_,_,_=>.bad 48
def iX(n:Nat)(l:List Nat):Bool:=l.any (Nat.beq n)
def bb(ns:List Nat):List Nat→List Nat
 |[]=>ns
 |m::ms=>bb (bif ns.any (Nat.beq m)then ns else ns++[m]) ms
def bN(us:List Nat)(u:Nat):Option Nat:=some (bif iX u us then 0 else u)
def wy(n:Nat):List Nat→Nat
 |[]=>0
 |m::l=>bif Nat.beq m n then 0 else Nat.succ (wy n l)
def y5(ms:List Nat)(t:Nat):Option Nat:=bif Nat.beq t 0 then some 0 else bif iX t ms then some (Nat.succ (wy t ms))else none
def Cy(ns:List Nat)(n:Nat):Option Nat:=bif iX n ns then some (wy n ns)else none
def zc(n0 t:Nat):Option Nat:=bif Nat.beq t 0 then some 0 else bif Nat.blt t 64 then some (64*n0+t)else none
def Kb(ns:List Nat)(i:Nat):Option Nat:=ns[i]?
def fO(ms:List Nat)(n0 t:Nat):Option Nat:=bif Nat.beq t 0 then some 0 else bif iX t ms||(Nat.ble (64*n0) t&&Nat.blt t (64*n0+64))then none else some t
def PV.eo(fn ft:Nat→Option Nat):PV→PV
 |.row nl r t=>match ft t with |some u=>.row nl r u|none=>.undef
 |.vec nl sz l t=>match ft t with |some u=>.vec nl sz l u|none=>.undef
 |.ep r t i=>match ft t with |some u=>.ep r u i|none=>.undef
 |.epv sz l t i off=>match ft t with |some u=>.epv sz l u i off|none=>.undef
 |.ptr n off=>match fn n with |some m=>.ptr m off|none=>.undef
 |.pix n off i=>match fn n with |some m=>.pix m off i|none=>.undef
 |.asl n off i k=>match fn n with |some m=>.asl m off i k|none=>.undef
 |x=>x
def lS(lh:List (Nat×PV)):List Nat→Option (List PV)
 |[]=>some []
 |n::ns=>match bO n lh,lS lh ns with
  |some c,some cs=>some (c::cs)
  |_,_=>none
def jG:List Nat→List PV→List (Nat×PV)→List (Nat×PV)
 |n::ns,c::cs,lh=>jz n c (jG ns cs lh)
 |_,_,lh=>lh
def reach(lh:List (Nat×PV)):Nat→List Nat→List Nat
 |0,ns=>ns
 |k+1,ns=>reach lh k (bb ns (ns.flatMap fun n=>match bO n lh with |some c=>PV.dj PV.bD c|none=>[]))
def nodupB:List Nat→Bool
 |[]=>true
 |n::ns=>!iX n ns&&nodupB ns
def sI(X:cp)(f:FuncId)(us ns:List Nat)(xs:List PV)(lh:List (Nat×PV)):sH:=
 match lS lh ns,ns with
 |some cs,n0::_=>match X f (PV.bh (PV.eo (Cy ns) (y5 (bb [] (PV.aB PV.bu cs)))) xs++PV.bh (PV.eo (Cy ns) (y5 (bb [] (PV.aB PV.bu cs)))) cs)with
  |none=>.bad 50
  |some c=>match c.r with
   |.tup (r::outs)=>match Nat.beq outs.length ns.length&&nodupB ns&&Nat.blt (bb [] (PV.aB PV.bu cs)).length 60,PV.dj PV.bu r,PV.dj PV.bD r,PV.aB PV.bD (PV.bh (PV.eo (Cy ns) (y5 (bb [] (PV.aB PV.bu cs)))) xs++PV.bh (PV.eo (Cy ns) (y5 (bb [] (PV.aB PV.bu cs)))) cs)with
    |true,[],[],_::_=>.cc c.pre r (some fun y=>(y.aW (bN us)).aW (fO (bb [] (PV.aB PV.bu cs)) n0)) (jG ns (PV.bh (PV.eo (Kb ns) (zc n0)) outs) (cA (PV.aW (fO (bb [] (PV.aB PV.bu cs)) n0)) lh))
    |_,_,_,_=>.bad 53
   |_=>.bad 54
 |_,_=>.bad 51
def JK(X:cp)(f:FuncId)(xs:List PV)(lh:List (Nat×PV)):sH:=
 sI X f (bb [] (PV.aB PV.bu xs)) (reach (cA (PV.aW (bN (bb [] (PV.aB PV.bu xs)))) lh) 3 (bb [] (PV.aB PV.bD xs))) (PV.bh (PV.aW (bN (bb [] (PV.aB PV.bu xs)))) xs) (cA (PV.aW (bN (bb [] (PV.aB PV.bu xs)))) lh)
def iu:Nat:=64000193
def Cz(t:Nat):Option Nat:=bif Nat.beq t 0 then some 0 else bif Nat.beq t 1 then some iu else none
def LV(_:Nat):Option Nat:=none
def EU(X:cp)(f:FuncId)(xs:List PV)(lh:List (Nat×PV)):sH:=match PV.aB PV.bD xs with
 |[]=>match X f (PV.bh (PV.aW cT) xs)with
  |none=>.bad 50
  |some c=>match bb [] (PV.aB PV.bu xs),PV.dj PV.bu c.r,PV.dj PV.bD c.r with
   |[],[],[]=>.vneed c.pre c.r
   |us,[],[]=>.cc c.pre c.r (some (PV.aW (bN us))) (cA (PV.aW (bN us)) lh)
   |us,[1],[]=>.cc c.pre (c.r.cj (PV.eo LV Cz)) (some fun y=>(y.aW (bN us)).aW (cn iu)) (cA (PV.aW (cn iu)) (cA (PV.aW (bN us)) lh))
   |_,_,_=>.bad 52
 |_=>JK X f xs lh
def jH(x:Operand):Bool:=match x with
 |.const (.slice none 0 0)=>true
 |_=>false
def nu:List TypeId→List PV→List PV
 |t::ts,x::xs=>typed P t 0 x::nu ts xs
 |[],xs=>xs
 |_,[]=>[]
def Bi(s d:TypeId)(x:PV)(t:Option Tmp)(lh:List (Nat×PV)):sH:=match kF P s d x,nameOf t with
 |.cc p (.row false (.bytes l) 0),some n=>.cc p (.row false (.bytes l) n) (some (PV.aW (cn n))) (cA (PV.aW (cn n)) lh)
 |r,_=>r.at
def dp(X:cp)(T:b7)(o:Oper)(xs:List PV)(lh:List (Nat×PV)):sH:=
 match o.op with
 |.move x=>.val (typed P o.type 0 (xs.getD 0 .undef))
 |.assign x=>match jH x,P.underlying o.type,nameOf o.dst with
  |true,some (.slice e),some n=>.ok (fM P true e n) (some (PV.aW (cn n))) (cA (PV.aW (cn n)) lh)
  |_,_,_=>.val (xs.getD 0 .undef)
 |.pick ..=>match xs with
  |[.bool b,x,y]=>.val (pS b x y)
  |_=>.bad 60
 |.alloc e=>nk P e o.dst lh
 |.box e _=>Cw P e (xs.getD 0 .undef) o.dst lh
 |.build t ps=>(y9 P t (ps.toList.map (·.1)) xs).at
 |.buildSlice t n ps=>match PV.aB PV.bu xs,PV.aB PV.bD xs with
  |[],[]=>(jF P t n (ps.toList.map (·.1)) xs).at
  |_,_=>.bad 69
 |.load t _=>(pT P T lh t (xs.getD 0 .undef)).at
 |.store t _ _=>np P t (xs.getD 0 .undef) (xs.getD 1 .undef) lh
 |.nilCheck _=>match xs with
  |[.ptr n off]=>.val (.ptr n off)
  |[.fn (.func f) a b]=>.val (.fn (.func f) a b)
  |_=>.bad 61
 |.binOp op t _ _ _=>(J8 P op t (xs.getD 0 .undef) (xs.getD 1 .undef)).at
 |.unOp op _ _=>(LS op (xs.getD 0 .undef)).at
 |.convert a b _=>match o.guard with
  |none=>Bi P a b (xs.getD 0 .undef) o.dst lh
  |some _=>(kF P a b (xs.getD 0 .undef)).at
 |.makeSlice t _ _=>kW P t (xs.getD 0 .undef) (xs.getD 1 .undef) o.dst lh
 |.slice t _ none none none=>(nj P t (xs.getD 0 .undef) none none).at
 |.slice t _ (some _) none none=>(nj P t (xs.getD 0 .undef) (some (xs.getD 1 .undef)) none).at
 |.slice t _ none (some _) none=>(nj P t (xs.getD 0 .undef) none (some (xs.getD 1 .undef))).at
 |.slice t _ (some _) (some _) none=>(nj P t (xs.getD 0 .undef) (some (xs.getD 1 .undef)) (some (xs.getD 2 .undef))).at
 |.fieldAddr t _ f=>(kV P t (xs.getD 0 .undef) f).at
 |.field t _ f=>(za P t (xs.getD 0 .undef) f).at
 |.indexAddr t _ _=>(kU P t (xs.getD 0 .undef) (xs.getD 1 .undef)).at
 |.index t _ _=>(y7 P t (xs.getD 0 .undef) (xs.getD 1 .undef)).at
 |.extract _ i=>match xs with
  |[.tup l]=>(okV (l.getD i .undef)).at
  |_=>.bad 62
 |.call {callee:=.builtin b,argTypes,..}=>match b,argTypes[0]?with
  |.len,some t=>match xs with
   |[x]=>(J9 P t (typed P t 0 x)).at
   |_=>.bad 63
  |.append,some t=>match argTypes[1]?with
   |some tx=>match xs with
    |[x,y]=>uu P t tx (typed P t 0 x) (typed P tx 0 y) o.dst lh
    |_=>.bad 64
   |none=>.bad 68
  |.min,some _=>match xs with
   |[.int .i64 a,.int .i64 b]=>.val (.int .i64 (min a b))
   |_=>.bad 61
  |.max,some _=>match xs with
   |[.int .i64 a,.int .i64 b]=>.val (.int .i64 (max a b))
   |_=>.bad 62
  |_,_=>.bad 65
 |.call {callee:=.value _,args,argTypes}=>match xs with
  |.fn (.func f) a b::ys=>EU X f (a++nu P argTypes.toList ys++b) lh
  |_=>.bad 66
 |_=>.bad 67
def hM(a:Nat)(t:Nat):Nat:=Nat.lor a (Nat.pow 2 t)
def b8(a:Nat)(t:Nat):Bool:=Nat.beq (Nat.land (Nat.shiftRight a t) 1) 1
def aT(ops:List Oper):List Nat:=
 (ops.foldl (fun(acc:List Nat) o=>acc++[o.after.toList.foldl (fun s e=>if Region.binds .any e then Nat.lor (hM s e.on) (acc.getD e.on 0)else s) 0]) [])
def fE(ops:List Oper)(o:Oper):List Nat:=
 (o.op.operands.toList.filterMap fun |.tmp t=>some t|_=>none)++
 (match o.guard with
  |some (g,_)=>((ops[g]?).bind (·.dst)).toList
  |none=>[])
def nv(ops:List Oper)(x y:Oper):Bool:=
 (match x.dst with
  |some d=>!(fE ops y).contains d&&y.dst !=some d
  |none=>true)&&
 (match y.dst with
  |some d=>!(fE ops x).contains d
  |none=>true)
def pU(ops:List Oper)(bf:List Nat):Bool:=
 (ops.zipIdx.all fun(o,i)=>o.after.toList.all fun e=>!Region.binds .any e||Nat.blt e.on i)&&(ops.zip bf).zipIdx.all fun((y,by_),j)=>(ops.take j).zipIdx.all fun(x,i)=>b8 by_ i||nv ops x y
def calm(g:Option (Nat×Bool))(s:sH):sH:=match s with
 |.bad n=>match g with
  |some _=>.vneed False .undef
  |none=>.bad n
 |s=>s
def eT(X:cp)(T:b7)(o:Oper)(xs:List PV)(lh:List (Nat×PV)):sH:=calm o.guard (dp P X T o xs lh)
def gC(X:cp)(T:b7)(o:Oper)(xs:List PV)(lh:List (Nat×PV)):sH:=
 match o.op with
 |.convert a b _=>(kF P a b (xs.getD 0 .undef)).at
 |_=>eT P X T o xs lh
def ct(t:Nat):List (Nat×Option (Nat×Bool)×PV)→Option (Option (Nat×Bool)×PV)
 |[]=>none
 |e::l=>bif Nat.beq e.1 t then some e.2 else ct t l
def cQ(ops:List Oper):Nat→Option (Nat×Bool)→Option (Nat×Bool)→Bool
 |0,_,_=>false
 |k+1,g,h=>match h with
  |none=>true
  |some (j,b)=>match g with
   |none=>false
   |some (i,a)=>(Nat.beq i j&&(a==b))||cQ ops k ((ops[i]?).bind (·.guard)) (some (j,b))
def br(ops:List Oper)(g:Option (Nat×Bool))(s:VS)(x:Operand):PV:=match x with
 |.tmp t=>match ct t s.loc with
  |some (h,v)=>match cQ ops 9 g h with
   |true=>v
   |false=>.undef
  |none=>(bO t s.env).getD .undef
 |.const v=>ofValue v
 |.global g=>.gp g 0
 |.func f=>.fn (.func f) [] []
def dv(ops:List Oper)(s:VS):Nat→Option (Nat×Bool)→Prop →Prop
 |0,_,_=>False
 |k+1,g,p=>match g with
  |none=>p
  |some (j,w)=>match ops[j]?with
   |none=>False
   |some o=>match o.dst.bind fun t=>ct t s.loc with
    |some (_,.bool b)=>dv ops s k o.guard (match w with |true=>b=true→p|false=>b=false→p)
    |_=>False
def iw(ops:List Oper)(s:VS)(c:Operand):Option Nat:=match c with
 |.tmp t=>match ct t s.loc with
  |some _=>ops.findIdx? fun o=>match o.dst with |some d=>Nat.beq d t|none=>false
  |none=>none
 |_=>none
def aO(ops:List Oper)(o:Oper)(s:VS):List PV:=match o.op with
 |.pick c a b=>match iw ops s c with
  |some j=>[br ops o.guard s c,br ops (some (j,true)) s a,br ops (some (j,false)) s b]
  |none=>o.op.operands.toList.map (br ops o.guard s)
 |op=>op.operands.toList.map (br ops o.guard s)
def bJ(o:Oper)(v:PV)(s:VS):VS:=match o.dst with
 |some d=>{s with loc:=(d,o.guard,v)::s.loc}
 |none=>s
def kX(f:PV→(PV→Prop)→Prop):List PV→(List PV→Prop)→Prop
 |[],k=>k []
 |x::l,k=>f x fun y=>kX f l fun l=>k (y::l)
def pV(r:ar)(k:ar→Prop):Prop:=match r with
 |.bytes l=>k (.bytes l)
 |.strs l=>k (.strs l)
 |.ints i l=>k (.ints i l)
def bI:Nat→PV→(PV→Prop)→Prop
 |0,x,k=>k x
 |n+1,x,k=>match x with
  |.undef=>k .undef
  |.int i z=>k (.int i z)
  |.bool b=>k (.bool b)
  |.str l=>k (.str l)
  |.raw v=>k (.raw v)
  |.arr m r=>pV r fun r=>k (.arr m r)
  |.agg l=>kX (bI n) l fun l=>k (.agg l)
  |.tup l=>kX (bI n) l fun l=>k (.tup l)
  |.row nl r t=>pV r fun r=>k (.row nl r t)
  |.vec nl sz l t=>k (.vec nl sz l t)
  |.ep r t i=>k (.ep r t i)
  |.epv sz l t i off=>k (.epv sz l t i off)
  |.ptr m off=>k (.ptr m off)
  |.pix m off i=>k (.pix m off i)
  |.asl m off a b=>k (.asl m off a b)
  |.gp g off=>k (.gp g off)
  |.gix g off i=>k (.gix g off i)
  |.fn f a b=>k (.fn f a b)
def cV:List (Nat×PV)→(List (Nat×PV)→Prop)→Prop
 |[],k=>k []
 |e::l,k=>bI 4 e.2 fun x=>cV l fun l=>k ((e.1,x)::l)
def zd(t:Nat)(want:Bool)(s:VS)(A B:VS→Prop):Prop:=match ct t s.loc with
 |some (q,.bool b)=>(b=want→A {s with loc:=(t,q,.bool want)::s.loc})∧(b=!want→B {s with loc:=(t,q,.bool (!want))::s.loc})
 |_=>False
def pW(ops:List Oper):Nat→VS→Nat×Bool→(VS→Prop)→(VS→Prop)→Prop
 |0,_,_,_,_=>False
 |n+1,s,g,A,B=>match ops[g.1]?with
  |some o=>match o.dst with
   |some t=>match o.guard with
    |none=>zd t g.2 s A B
    |some g'=>pW ops n s g' (fun s=>zd t g.2 s A B) fun s=>B {s with loc:=(t,some g',.bool (!g.2))::s.loc}
   |none=>False
  |none=>False
def fP(X:cp)(T:b7)(ops:List Oper):List Oper→VS→(VS→Prop)→Prop
 |[],s,k=>k s
 |o::os,s,k=>match eT P X T o (aO ops o s) s.lh,o.guard with
  |.val v,_=>bI 4 v fun v=>fP X T ops os (bJ o v s) k
  |.vneed p v,none=>p∧bI 4 v fun v=>fP X T ops os (bJ o v s) k
  |.vneed p v,some g=>dv ops s 9 (some g) p∧bI 4 v fun v=>fP X T ops os (bJ o v s) k
  |.ok v f lh,none=>bI 4 v fun v=>fP X T ops os (bJ o v (s.turn f lh)) k
  |.cc p v f lh,none=>p∧bI 4 v fun v=>fP X T ops os (bJ o v (s.turn f lh)) k
  |.ok v f lh,some g=>pW ops 4 s g (fun s=>bI 4 v fun v=>fP X T ops os (bJ o v (s.turn f lh)) k) (fun s=>fP X T ops os (bJ o .undef s) k)
  |.cc p v f lh,some g=>pW ops 4 s g (fun s=>p∧bI 4 v fun v=>fP X T ops os (bJ o v (s.turn f lh)) k) (fun s=>fP X T ops os (bJ o .undef s) k)
  |_,_=>False
def dk(ops:List Oper)(bf:List Nat)(i:Nat):Bool:=(List.range ops.length).all fun j=>Nat.beq j i||(bif Nat.blt j i then b8 (bf.getD i 0) j else b8 (bf.getD j 0) i)
def CA(X:cp)(T:b7)(ops:List Oper)(bf:List Nat):List Oper→Nat→VS→(VS→Prop)→Prop
 |[],_,s,k=>k s
 |o::os,i,s,k=>match dk ops bf i with
  |true=>match eT P X T o (aO ops o s) s.lh,o.guard with
   |.val v,_=>bI 4 v fun v=>CA X T ops bf os (i+1) (bJ o v s) k
   |.vneed p v,none=>p∧bI 4 v fun v=>CA X T ops bf os (i+1) (bJ o v s) k
   |.vneed p v,some g=>dv ops s 9 (some g) p∧bI 4 v fun v=>CA X T ops bf os (i+1) (bJ o v s) k
   |.ok v f lh,none=>bI 4 v fun v=>CA X T ops bf os (i+1) (bJ o v (s.turn f lh)) k
   |.cc p v f lh,none=>p∧bI 4 v fun v=>CA X T ops bf os (i+1) (bJ o v (s.turn f lh)) k
   |_,_=>False
  |false=>match gC P X T o (aO ops o s) s.lh,o.guard with
   |.val v,_=>bI 4 v fun v=>CA X T ops bf os (i+1) (bJ o v s) k
   |.vneed p v,none=>p∧bI 4 v fun v=>CA X T ops bf os (i+1) (bJ o v s) k
   |.vneed p v,some g=>dv ops s 9 (some g) p∧bI 4 v fun v=>CA X T ops bf os (i+1) (bJ o v s) k
   |_,_=>False
def dY:Op→Bool
 |.move _ |.nilCheck _ |.binOp ..|.unOp ..|.slice ..|.fieldAddr ..|.field ..|.indexAddr ..|.index ..|.extract ..|.build ..=>true
 |.assign x=>!jH x
 |.call {callee:=.builtin .len,..}=>true
 |_=>false
inductive Pl where
 |box (n off len:Nat)
 |mark (t:Nat)
 |still
def H0(p q:Pl):Bool:=match p,q with
 |.box n o l,.box n' o' l'=>!Nat.beq n n'||(Nat.ble (o+l) o'||Nat.ble (o'+l') o)
 |.mark t,.mark t'=>!Nat.beq t t'
 |.still,.still=>false
 |_,_=>true
def Ll(t:TypeId)(x:PV):Option Pl:=match x with
 |.ptr n off=>some (.box n off (match gR P t with |true=>aX P t|false=>1))
 |.ep _ 0 _=>some .still
 |_=>none
def Lm(t:TypeId)(x:PV)(lh:List (Nat×PV)):Option Pl:=match x with
 |.ptr n off=>some (.box n off (aX P t))
 |.pix n off _=>match bO n lh with
  |some c=>match c.b4 off with
   |some (m,_)=>some (.box n off m)
   |none=>none
  |none=>none
 |.ep _ (u+1) _=>some (.mark (u+1))
 |_=>none
abbrev H6:=List (Nat×Bool×Pl)
def EV(m:Nat)(st:Bool)(p:Pl)(ms:H6):Bool:=ms.all fun e=>b8 m e.1||((!st&&!e.2.1)||H0 p e.2.2)
def wq(X:cp)(T:b7)(ops:List Oper)(bf:List Nat):List Oper→Nat→H6→VS→(VS→Prop)→Prop
 |[],_,_,s,k=>k s
 |o::os,i,ms,s,k=>match dk ops bf i with
  |true=>match eT P X T o (aO ops o s) s.lh,o.guard with
   |.val v,_=>bI 4 v fun v=>wq X T ops bf os (i+1) [] (bJ o v s) k
   |.vneed p v,none=>p∧bI 4 v fun v=>wq X T ops bf os (i+1) [] (bJ o v s) k
   |.vneed p v,some g=>dv ops s 9 (some g) p∧bI 4 v fun v=>wq X T ops bf os (i+1) [] (bJ o v s) k
   |.ok v f lh,none=>bI 4 v fun v=>wq X T ops bf os (i+1) [] (bJ o v (s.turn f lh)) k
   |.cc p v f lh,none=>p∧bI 4 v fun v=>wq X T ops bf os (i+1) [] (bJ o v (s.turn f lh)) k
   |_,_=>False
  |false=>match dY o.op with
   |true=>match eT P X T o (aO ops o s) s.lh,o.guard with
    |.val v,_=>bI 4 v fun v=>wq X T ops bf os (i+1) ms (bJ o v s) k
    |.vneed p v,none=>p∧bI 4 v fun v=>wq X T ops bf os (i+1) ms (bJ o v s) k
    |.vneed p v,some g=>dv ops s 9 (some g) p∧bI 4 v fun v=>wq X T ops bf os (i+1) ms (bJ o v s) k
    |_,_=>False
   |false=>match o.op with
    |.load t _=>match Ll P t ((aO ops o s).getD 0 .undef)with
     |some p=>match EV (bf.getD i 0) false p ms with
      |true=>match eT P X T o (aO ops o s) s.lh,o.guard with
       |.val v,_=>bI 4 v fun v=>wq X T ops bf os (i+1) ((i,false,p)::ms) (bJ o v s) k
       |.vneed q v,none=>q∧bI 4 v fun v=>wq X T ops bf os (i+1) ((i,false,p)::ms) (bJ o v s) k
       |.vneed q v,some g=>dv ops s 9 (some g) q∧bI 4 v fun v=>wq X T ops bf os (i+1) ((i,false,p)::ms) (bJ o v s) k
       |_,_=>False
      |false=>False
     |none=>False
    |.store t _ _=>match Lm P t ((aO ops o s).getD 0 .undef) s.lh with
     |some p=>match EV (bf.getD i 0) true p ms with
      |true=>match eT P X T o (aO ops o s) s.lh,o.guard with
       |.ok v f lh,none=>bI 4 v fun v=>wq X T ops bf os (i+1) ((i,true,p)::ms) (bJ o v (s.turn f lh)) k
       |.cc q v f lh,none=>q∧bI 4 v fun v=>wq X T ops bf os (i+1) ((i,true,p)::ms) (bJ o v (s.turn f lh)) k
       |_,_=>False
      |false=>False
     |none=>False
    |_=>False
def Kc(ops:List Oper)(bf:List Nat):Bool:=ops.zipIdx.any fun(o,i)=>(match o.op with |.store ..=>true|_=>false)&&!dk ops bf i
def Kd(ops:List Oper)(S:List Bool):List Nat:=(List.range ops.length).filter fun i=>!(S.getD i true)&&(match ops[i]?with |some o=>o.after.toList.all (fun e=>!Region.binds .any e||S.getD e.on false)|none=>false)
def ix(ops:List Oper):Bool:=ops.all fun o=>(match o.guard with |none=>true|some _=>false)&&(match o.op with |.pick ..=>false|.select ..=>false|_=>true)
def ze(ops:List Oper)(S:List Bool)(i:Nat):Bool:=match ops[i]?with
 |some o=>dY o.op&&(List.range ops.length).all fun j=>Nat.beq j i||(S.getD j true||(match ops[j]?with |some q=>q.after.toList.any (fun e=>Region.binds .any e&&Nat.beq e.on i)||Oper.apart ops.toArray o q|none=>true))
 |none=>false
def Bj(X:cp)(T:b7)(ops:List Oper)(i:Nat)(s:VS)(K:VS→Prop):Prop:=match ops[i]?with
 |none=>False
 |some o=>match eT P X T o (aO ops o s) s.lh with
  |.val v=>bI 4 v fun v=>K (bJ o v s)
  |.vneed p v=>p∧bI 4 v fun v=>K (bJ o v s)
  |.ok v f lh=>bI 4 v fun v=>K (bJ o v (s.turn f lh))
  |.cc p v f lh=>p∧bI 4 v fun v=>K (bJ o v (s.turn f lh))
  |_=>False
def Ke:List Nat→(Nat→Prop)→Prop
 |[],_=>True
 |i::is,F=>match is with
  |[]=>F i
  |_=>F i∧Ke is F
def K7(X:cp)(T:b7)(ops:List Oper):Nat→List Bool→VS→(VS→Prop)→Prop
 |0,_,_,_=>False
 |n+1,S,s,k=>match Kd ops S with
  |[]=>k s
  |r=>match r.find? (ze ops S)with
   |some i=>Bj P X T ops i s fun s=>K7 X T ops n (S.set i true) s k
   |none=>Ke r fun i=>Bj P X T ops i s fun s=>K7 X T ops n (S.set i true) s k
def Kf(ops:List Oper):List Nat:=ops.flatMap fun o=>match o.op with
 |.call {callee:=.value _,args,..}=>args.toList.filterMap fun |.tmp t=>some t|_=>none
 |_=>[]
def Bk(ops:List Oper):List Nat:=let ts:=Kf ops
 ts++ops.filterMap fun o=>match o.op,o.dst with
  |.move (.tmp s),some d=>bif ts.any (Nat.beq d)then some s else none
  |_,_=>none
def Kg(o:Op):Bool:=match o with
 |.call {callee:=.builtin .append,..}=>true
 |.alloc ..=>true
 |.makeSlice ..=>true
 |_=>false
def JL(ops:List Oper)(bf:List Nat)(s:VS):Bool:=ix ops&&
 ((ops.zipIdx.any fun(o,i)=>Kg o.op&&!dk ops bf i)||
  ((ops.zipIdx.any fun(o,i)=>(match o.op with |.call {callee:=.value _,..}=>true|_=>false)&&!dk ops bf i)&&(Bk ops).any fun t=>match bO t s.env with |some x=>!(PV.dj PV.bD x).isEmpty|none=>false))
def K8(X:cp)(T:b7)(ops:List Oper)(bf:List Nat)(s:VS)(k:VS→Prop):Prop:=match JL ops bf s with
 |true=>K7 P X T ops (Nat.succ ops.length) (ops.map fun _=>false) s k
 |false=>match Kc ops bf with
  |true=>wq P X T ops bf ops 0 [] s k
  |false=>CA P X T ops bf ops 0 s k
def iy(ops:List Oper)(s:VS):List Nat:=bb [] ((Bk ops).flatMap fun t=>match bO t s.env with |some x=>PV.dj PV.bu x|none=>[])
def pX(us:List Nat)(s:VS):VS:=match us with
 |[]=>s
 |us=>s.turn (some (PV.aW (bN us))) (cA (PV.aW (bN us)) s.lh)
def iz(s:VS):VS:=
 ⟨[],s.env.map fun e=>(e.1,match ct e.1 s.loc with |some (none,v)=>v|some (some _,_)=>.undef|none=>e.2),s.lh⟩
def zf(x:PV)(a b:Prop):Prop:=match x with
 |.bool t=>(t=true→a)∧(t=false→b)
 |_=>False
def iY:Code→Nat
 |.region id _ _=>id
 |.seq a b=>iY a
 |.cond _ a _=>iY a
 |.block _ a=>iY a
 |.loop a=>iY a
 |.scope a=>iY a
 |_=>999999
def VS.put(s:VS)(n:Nat)(x:PV):VS:=⟨s.loc,jz n x s.env,s.lh⟩
def VS.drop(s:VS):List Nat→VS
 |[]=>s
 |n::ns=>(s.put n .undef).drop ns
def Lp.into(h:Lp)(s:VS)(body:h.α→VS→Prop):Prop:=s.drop h.dead=h.at_ s (h.get s)∧h.inv s (h.get s)∧∀x,h.inv s x→body x (h.at_ s x)
def rV(s:VS):Prop:=s=s
def Lp.cut(h:Lp)(s s':VS):Prop:=s'.drop h.dead=h.at_ s (h.get s')∧h.inv s (h.get s')
def Lp.back(h:Lp)(s:VS)(x:h.α)(s':VS):Prop:=s'.drop h.dead=h.at_ s (h.get s')∧h.inv s (h.get s')∧h.mu s (h.get s')<h.mu s x
def VS.slot(s:VS)(n:Nat):PV:=(bO n s.env).getD .undef
def VS.int(s:VS)(n:Nat):Int:=(s.slot n).asInt
def VS.bool(s:VS)(n:Nat):Bool:=(s.slot n).asBool
def VS.str(s:VS)(n:Nat):Bs:=(s.slot n).dc
def VS.bytes(s:VS)(n:Nat):Bs:=(s.slot n).uo
def VS.strs(s:VS)(n:Nat):List Bs:=(s.slot n).kT
def VS.ints(s:VS)(n:Nat):List Int:=(s.slot n).ng
def VS.nil(s:VS)(n:Nat):Bool:=(s.slot n).lP
def VS.row(s:VS)(e:VS)(n:Nat)(nl:Bool)(r:ar):VS:=s.put n (match e.slot n with |.row _ _ t=>.row nl r t|_=>.undef)
def uv:List Oper→Bool
 |[]=>true
 |o::os=>(match o.dst with |some d=>os.all (fun q=>match q.dst with |some e=>!Nat.beq d e|none=>true)|none=>true)&&uv os
def iA(ops:List Oper):Nat→List Oper→Bool
 |_,[]=>true
 |i,o::os=>(match o.guard with |none=>true|some (j,_)=>Nat.blt j i&&(match(ops[j]?).bind (·.dst)with |some _=>true|none=>false))&&iA ops (i+1) os
def sJ(N:Nat)(ops:List Oper):Bool:=uv ops&&iA ops 0 ops&&ops.all fun o=>match o.dst with |some d=>Nat.blt d N|none=>true
def nf(X:cp)(T:b7)(H:ba)(N:Nat):Nat→Option (Code×(Nat→Option (VS→Prop)))→Code→VS→Ka→Prop
 |0,_,_,_,_=>False
 |fuel+1,some (a,C),c,s,k=>nf X T H N fuel none c s fun e s=>match e with
   |.goto l=>match C l with
    |some J=>J s
    |none=>match findLabel a l with
     |none=>k (.goto l) s
     |some r=>match H (1000000+l)with
      |some h=>h.into s fun n s'=>nf X T H N fuel (some (a,fun l'=>bif Nat.beq l' l then some (h.back s n)else C l')) r s' k
      |none=>nf X T H N fuel (some (a,C)) r s k
   |e=>k e s
 |fuel+1,none,c,s,k=>match c with
  |.skip=>k .normal s
  |.region id ops draw=>match draw,sJ N ops.toList with
   |false,true=>fP P X T ops.toList ops.toList s fun s=>cV (iz s).env fun env=>cV s.lh fun lh=>k .normal ⟨[],env,lh⟩
   |true,true=>match pU ops.toList (aT ops.toList)with
    |true=>match H (2000000+id)with
     |some h=>(K8 P X T ops.toList (aT ops.toList) (pX (iy ops.toList s) s) fun s'=>cV (iz s').env fun env=>cV s'.lh fun lh=>h.cut s ⟨[],env,lh⟩)∧∀x,h.inv s x→k .normal (h.at_ s x)
     |none=>K8 P X T ops.toList (aT ops.toList) (pX (iy ops.toList s) s) fun s=>cV (iz s).env fun env=>cV s.lh fun lh=>k .normal ⟨[],env,lh⟩
    |false=>False
   |_,_=>False
  |.seq a b=>nf X T H N fuel none a s fun e s=>match e with
   |.normal=>nf X T H N fuel none b s k
   |e=>k e s
  |.cond c a b=>zf (br [] none s c) (nf X T H N fuel none a s k) (nf X T H N fuel none b s k)
  |.block id a=>nf X T H N fuel none a s fun e s=>match e with
   |.exit i=>bif Nat.beq i id then k .normal s else k (.exit i) s
   |e=>k e s
  |.loop a=>match H (iY a)with
   |some h=>h.into s fun n s'=>nf X T H N fuel none a s' fun e s''=>match e with
    |.normal=>h.back s n s''
    |e=>k e s''
   |none=>False
  |.exit id=>k (.exit id) s
  |.scope a=>nf X T H N fuel (some (a,fun _=>none)) a s k
  |.label _=>k .normal s
  |.goto l=>k (.goto l) s
  |.ret=>k .ret s
  |_=>False
end
def Ln(ops:List Oper)(acc:Nat):Nat:=
 (ops.foldl (fun(s:Nat×Nat) o=>((o.op.operands.toList.foldl (fun a x=>match x with |.tmp t=>if b8 s.2 t then a else hM a t|_=>a) s.1),match o.dst with |some d=>hM s.2 d|none=>s.2)) (acc,0)).1
def oC:Code→Nat→Nat
 |.region _ ops _,a=>Ln ops.toList a
 |.seq x y,a=>oC y (oC x a)
 |.cond c x y,a=>oC y (oC x (match c with |.tmp t=>hM a t|_=>a))
 |.block _ x,a=>oC x a
 |.loop x,a=>oC x a
 |.scope x,a=>oC x a
 |_,a=>a
def oD(fn:Func):Nat:=
 match fn.body with
 |some c=>(List.range (fn.params.size+fn.nfree)).foldl hM (fn.results.toList.foldl (fun a r=>match r with |.tmp t=>hM a t|.cell t _=>hM a t) (oC c 0))
 |none=>0
def slotsOf(m:Nat):Nat→List Nat
 |0=>[]
 |n+1=>bif b8 m n then slotsOf m n++[n]else slotsOf m n
section
variable (P:Program)
def Kh(T:b7)(s:VS)(r:ResultVar):Option PV:=match r with
 |.tmp t=>some ((bO t s.env).getD .undef)
 |.cell t ty=>match bO t s.env with
  |some (.ptr n off)=>match pT P T s.lh ty (.ptr n off)with
   |.ok v=>some v
   |_=>none
  |_=>none
def wz(T:b7)(s:VS):List ResultVar→Option (List PV)
 |[]=>some []
 |r::rs=>match Kh P T s r,wz T s rs with
  |some x,some xs=>some (x::xs)
  |_,_=>none
def cL(T:b7)(s:VS)(rs:List ResultVar):Option PV:=match wz P T s rs with
 |some [x]=>some x
 |some xs=>some (.tup xs)
 |none=>none
def CD(r:Option PV)(k:PV→Prop):Prop:=match r with
 |some r=>bI 4 r fun r=>match PV.dj PV.bD r with
  |[]=>k (r.cj (PV.aW cT))
  |_=>False
 |none=>False
def gD(xs:List PV):List Nat→List (Nat×PV)
 |[]=>[]
 |t::ts=>(t,xs.getD t .undef)::gD xs ts
def cB(X:cp)(T:b7)(H:ba)(fuel:Nat)(fn:Func)(xs:List PV)(k:PV→Prop):Prop:=
 match fn.body with
 |none=>False
 |some c=>nf P X T H fn.ntmps fuel none c ⟨[],gD xs (slotsOf (oD fn) fn.ntmps),[]⟩ fun e s=>match e with
  |.normal=>CD (cL P T s fn.results.toList) k
  |.ret=>CD (cL P T s fn.results.toList) k
  |_=>False
end
end Go.Vc
