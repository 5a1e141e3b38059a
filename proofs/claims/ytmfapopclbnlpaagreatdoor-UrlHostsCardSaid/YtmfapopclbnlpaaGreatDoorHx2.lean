import Derived.Orders
import Derived.Test.YtmfapopclbnlpaaGreatDoorHx1
set_option linter.unusedVariables false
set_option linter.unusedSectionVars false
namespace Go.Vc
structure aD where
 pre:Prop
 r:PV
abbrev cM:=FuncId->List PV->Option aD
inductive Ex where
 |normal|exit (id:Nat)|goto (l:Nat)|ret
abbrev OG:=Ex->VS->Prop
structure Lp where
 α:Type
 at_:VS->α->VS
 get:VS->α
 inv:VS->α->Prop
 mu:VS->α->Nat
 dead:List Nat
abbrev aP:=Nat->Option Lp
def cN:Int:=16777216
def nameOf(d:Option Tmp):Option Nat:=d.map (· +32)
def fR(n:Nat):Nat:=64*n
def EI(n:Nat)(x:PV)(lh:List (Nat×PV)):List (Nat×PV):=match b6 n lh with
 |some _=>iI n x lh
 |none=>(n,x)::lh
section
variable (P:Program)
def Mj(n:Nat)(x:PV)(f:PV->PV)(lh:List (Nat×PV)):u6:=.ok (.ptr n 0) (some f) (EI n x (cT f lh))
def Jg(n lo hi:Nat):PV->PV
 |.row nl r u=>.row nl r (bif Nat.ble lo u&&Nat.blt u hi then 0 else u)
 |.vec nl sz l u=>.vec nl sz l (bif Nat.ble lo u&&Nat.blt u hi then 0 else u)
 |.ep r u i=>.ep r (bif Nat.ble lo u&&Nat.blt u hi then 0 else u) i
 |.epv sz l u i off=>.epv sz l (bif Nat.ble lo u&&Nat.blt u hi then 0 else u) i off
 |x=>x.jy n
def oM(e:TypeId)(d:Option Tmp)(lh:List (Nat×PV)):u6:=match nameOf d with
 |some n=>match oK P e (zeroV P 5 e (fR n))with
  |true=>Mj n (zeroV P 5 e (fR n)) (Jg n (fR n) (fR (n+1))) lh
  |false=>.bad 39
 |none=>.bad 40
def Gl(e:TypeId)(x:PV)(d:Option Tmp)(lh:List (Nat×PV)):u6:=match nameOf d with
 |some n=>match fQ P e&&x.fit,Nat.beq (typed P e 0 x).wid (aY P e)with
  |true,true=>Mj n (typed P e 0 (x.cC (PV.jy n))) (PV.jy n) lh
  |_,_=>.bad 39
 |none=>.bad 41
def QL(x:PV):Prop:=match x with
 |.int .u8 z=>rK z
 |_=>True
def Ct(t:TypeId)(a x:PV)(lh:List (Nat×PV)):u6:=match a with
 |.ptr n off=>match b6 n lh with
  |some c=>match Nat.beq (typed P t 0 x).wid (aY P t)&&x.fit&&fQ P t&&c.fit,PV.setAt (typed P t 0 x) c off with
   |true,some c'=>.ok (.tup []) none (iI n c' lh)
   |_,_=>.bad 42
  |none=>.bad 45
 |.pix n off z=>match b6 n lh with
  |some c=>match c.cv off with
   |some (m,r)=>match kE P t,r.set z x with
    |true,some r'=>match c.oJ r' off with
     |some c'=>.cE (within z m/\r.OD x) (.tup []) none (iI n c' lh)
     |none=>.bad 43
    |_,_=>.bad 38
   |none=>.bad 39
  |none=>.bad 45
 |.ep r u z=>match u,kE P t,r.set z x with
  |u+1,true,some _=>.cE (QL x) (.tup []) (some (qd (u+1) z x)) (cT (qd (u+1) z x) lh)
  |_,_,_=>.bad 47
 |_=>.bad 37
def Cu(x:PV):Option al:=match x with
 |.str l=>some (.bytes l)
 |.row _ r _=>some r
 |_=>none
def EJ(tx:TypeId):Bool:=match P.underlying tx with
 |some (.slice _)=>true
 |some .string=>true
 |_=>false
def Jh(e:TypeId):Nat:=match P.info? e with |some i=>i.bytes|none=>0
def oN(e:TypeId)(sz:Nat):Bool:=fQ P e&&Nat.beq (aY P e) sz&&oK P e (zeroV P 5 e 0)&&Nat.ble (Jh P e) 65536
def Ji(nl:Bool)(t:Nat)(d:Option Tmp):Option (Nat×Bool):=match t with
 |t+1=>some (t+1,false)
 |0=>match nl with
  |true=>(nameOf d).map fun n=>(n,true)
  |false=>none
def N8(new:Bool)(t:Nat):PV->PV:=PV.aO (match new with |true=>cH t|false=>ng t)
def xd(t tx:TypeId)(x y:PV)(d:Option Tmp)(lh:List (Nat×PV)):u6:=
 match P.underlying t,EJ P tx,x,y with
 |some (.slice e),true,.vec nl sz l tk,.vec _ sz2 q _=>match oN P e sz&&Nat.beq sz sz2,Ji nl tk d with
  |true,some (t',new)=>.cE (ai (l++q)<=cN) (.vec (bif q.isEmpty then nl else false) sz (l++q) t') (some (N8 new t')) (cT (N8 new t') lh)
  |_,_=>.bad 45
 |some (.slice e),true,.row nl r tk,y=>match Cu y with
  |some q=>match oN P e 1,r.app q,Ji nl tk d with
   |true,some r',some (t',new)=>.cE (r'.len<=cN) (.row (bif q.none? then nl else false) r' t') (some (N8 new t')) (cT (N8 new t') lh)
   |_,_,_=>.bad 44
  |none=>.bad 43
 |_,_,_,_=>.bad 46
def ml(t:TypeId)(n c:PV)(d:Option Tmp)(lh:List (Nat×PV)):u6:=
 match P.underlying t,n,c,nameOf d with
 |some (.slice e),.int _ a,.int _ b,some tk=>match oN P e (aY P e)with
  |true=>
   let fin (v:PV):u6:=.cE (0<=a/\a<=b/\b<=cN) v (some (PV.aO (cH tk))) (cT (PV.aO (cH tk)) lh)
   match lS P e with
   |some (.bytes _)=>fin (.row false (.bytes (List.replicate a.toNat 0)) tk)
   |some (.strs _)=>fin (.row false (.strs (List.replicate a.toNat [])) tk)
   |some (.ints k _)=>fin (.row false (.ints k (List.replicate a.toNat 0)) tk)
   |none=>fin (.vec false (aY P e) (List.replicate a.toNat (zeroV P 5 e 0)) tk)
  |false=>.bad 47
 |_,_,_,_=>.bad 48
def jY(n:Nat)(l:List Nat):Bool:=l.any (Nat.beq n)
def aX(ns:List Nat):List Nat->List Nat
 |[]=>ns
 |m::ms=>aX (bif ns.any (Nat.beq m)then ns else ns++[m]) ms
def b8(us:List Nat)(u:Nat):Option Nat:=some (bif jY u us then 0 else u)
def ze(n:Nat):List Nat->Nat
 |[]=>0
 |m::l=>bif Nat.beq m n then 0 else Nat.succ (ze n l)
def Cn(ms:List Nat)(t:Nat):Option Nat:=bif Nat.beq t 0 then some 0 else bif jY t ms then some (Nat.succ (ze t ms))else none
def Gm(ns:List Nat)(n:Nat):Option Nat:=bif jY n ns then some (ze n ns)else none
def Cv(n0 t:Nat):Option Nat:=bif Nat.beq t 0 then some 0 else bif Nat.blt t 64 then some (64*n0+t)else none
def OH(ns:List Nat)(i:Nat):Option Nat:=ns[i]?
def gN(ms:List Nat)(n0 t:Nat):Option Nat:=bif Nat.beq t 0 then some 0 else bif jY t ms||(Nat.ble (64*n0) t&&Nat.blt t (64*n0+64))then none else some t
def PV.fj(fn ft:Nat->Option Nat):PV->PV
 |.row nl r t=>match ft t with |some u=>.row nl r u|none=>.undef
 |.vec nl sz l t=>match ft t with |some u=>.vec nl sz l u|none=>.undef
 |.ep r t i=>match ft t with |some u=>.ep r u i|none=>.undef
 |.epv sz l t i off=>match ft t with |some u=>.epv sz l u i off|none=>.undef
 |.ptr n off=>match fn n with |some m=>.ptr m off|none=>.undef
 |.pix n off i=>match fn n with |some m=>.pix m off i|none=>.undef
 |.asl n off i k=>match fn n with |some m=>.asl m off i k|none=>.undef
 |x=>x
def nk(lh:List (Nat×PV)):List Nat->Option (List PV)
 |[]=>some []
 |n::ns=>match b6 n lh,nk lh ns with
  |some c,some cs=>some (c::cs)
  |_,_=>none
def kG:List Nat->List PV->List (Nat×PV)->List (Nat×PV)
 |n::ns,c::cs,lh=>iI n c (kG ns cs lh)
 |_,_,lh=>lh
def reach(lh:List (Nat×PV)):Nat->List Nat->List Nat
 |0,ns=>ns
 |k+1,ns=>reach lh k (aX ns (ns.flatMap fun n=>match b6 n lh with |some c=>PV.ee PV.bU c|none=>[]))
def nodupB:List Nat->Bool
 |[]=>true
 |n::ns=>!jY n ns&&nodupB ns
def u7(X:cM)(f:FuncId)(us ns:List Nat)(xs:List PV)(lh:List (Nat×PV)):u6:=
 match nk lh ns,ns with
 |some cs,n0::_=>match X f (PV.bh (PV.fj (Gm ns) (Cn (aX [] (PV.aC PV.bM cs)))) xs++PV.bh (PV.fj (Gm ns) (Cn (aX [] (PV.aC PV.bM cs)))) cs)with
  |none=>.bad 50
  |some c=>match c.r with
   |.tup (r::outs)=>match Nat.beq outs.length ns.length&&nodupB ns&&Nat.blt (aX [] (PV.aC PV.bM cs)).length 60,PV.ee PV.bM r,PV.ee PV.bU r,PV.aC PV.bU (PV.bh (PV.fj (Gm ns) (Cn (aX [] (PV.aC PV.bM cs)))) xs++PV.bh (PV.fj (Gm ns) (Cn (aX [] (PV.aC PV.bM cs)))) cs)with
    |true,[],[],_::_=>.cE c.pre r (some fun y=>(y.aO (b8 us)).aO (gN (aX [] (PV.aC PV.bM cs)) n0)) (kG ns (PV.bh (PV.fj (OH ns) (Cv n0)) outs) (cT (PV.aO (gN (aX [] (PV.aC PV.bM cs)) n0)) lh))
    |_,_,_,_=>.bad 53
   |_=>.bad 54
 |_,_=>.bad 51
def N9(X:cM)(f:FuncId)(xs:List PV)(lh:List (Nat×PV)):u6:=
 u7 X f (aX [] (PV.aC PV.bM xs)) (reach (cT (PV.aO (b8 (aX [] (PV.aC PV.bM xs)))) lh) 3 (aX [] (PV.aC PV.bU xs))) (PV.bh (PV.aO (b8 (aX [] (PV.aC PV.bM xs)))) xs) (cT (PV.aO (b8 (aX [] (PV.aC PV.bM xs)))) lh)
def jA:Nat:=64000193
def Gn(t:Nat):Option Nat:=bif Nat.beq t 0 then some 0 else bif Nat.beq t 1 then some jA else none
def Qy(_:Nat):Option Nat:=none
def Jj(X:cM)(f:FuncId)(xs:List PV)(lh:List (Nat×PV)):u6:=match PV.aC PV.bU xs with
 |[]=>match X f (PV.bh (PV.aO dC) xs)with
  |none=>.bad 50
  |some c=>match aX [] (PV.aC PV.bM xs),PV.ee PV.bM c.r,PV.ee PV.bU c.r with
   |[],[],[]=>.vneed c.pre c.r
   |us,[],[]=>.cE c.pre c.r (some (PV.aO (b8 us))) (cT (PV.aO (b8 us)) lh)
   |us,[1],[]=>.cE c.pre (c.r.cC (PV.fj Qy Gn)) (some fun y=>(y.aO (b8 us)).aO (cH jA)) (cT (PV.aO (cH jA)) (cT (PV.aO (b8 us)) lh))
   |_,_,_=>.bad 52
 |_=>N9 X f xs lh
def nm(x:Operand):Bool:=match x with
 |.const (.slice none 0 0)=>true
 |_=>false
def oO:List TypeId->List PV->List PV
 |t::ts,x::xs=>typed P t 0 x::oO ts xs
 |[],xs=>xs
 |_,[]=>[]
def EK(s d:TypeId)(x:PV)(t:Option Tmp)(lh:List (Nat×PV)):u6:=match lX P s d x,nameOf t with
 |.cE p (.row false (.bytes l) 0),some n=>.cE p (.row false (.bytes l) n) (some (PV.aO (cH n))) (cT (PV.aO (cH n)) lh)
 |r,_=>r.at
def gO(X:cM)(T:cO)(o:Oper)(xs:List PV)(lh:List (Nat×PV)):u6:=
 match o.op with
 |.move x=>.val (typed P o.type 0 (xs.getD 0 .undef))
 |.assign x=>match nm x,P.underlying o.type,nameOf o.dst with
  |true,some (.slice e),some n=>.ok (gL P true e n) (some (PV.aO (cH n))) (cT (PV.aO (cH n)) lh)
  |_,_,_=>.val (xs.getD 0 .undef)
 |.pick ..=>match xs with
  |[.bool b,x,y]=>.val (rN b x y)
  |_=>.bad 60
 |.alloc e=>oM P e o.dst lh
 |.box e _=>Gl P e (xs.getD 0 .undef) o.dst lh
 |.build t ps=>(Cr P t (ps.toList.map (·.1)) xs).at
 |.buildSlice t n ps=>match PV.aC PV.bM xs,PV.aC PV.bU xs with
  |[],[]=>(kF P t n (ps.toList.map (·.1)) xs).at
  |_,_=>.bad 69
 |.load t _=>(EH P T lh t (xs.getD 0 .undef)).at
 |.store t _ _=>Ct P t (xs.getD 0 .undef) (xs.getD 1 .undef) lh
 |.nilCheck _=>match xs with
  |[.ptr n off]=>.val (.ptr n off)
  |[.fn (.func f) a b]=>.val (.fn (.func f) a b)
  |_=>.bad 61
 |.binOp op t _ _ _=>(OE P op t (xs.getD 0 .undef) (xs.getD 1 .undef)).at
 |.unOp op _ _=>(Qw op (xs.getD 0 .undef)).at
 |.convert a b _=>match o.guard with
  |none=>EK P a b (xs.getD 0 .undef) o.dst lh
  |some _=>(lX P a b (xs.getD 0 .undef)).at
 |.makeSlice t _ _=>ml P t (xs.getD 0 .undef) (xs.getD 1 .undef) o.dst lh
 |.slice t _ none none none=>(oL P t (xs.getD 0 .undef) none none).at
 |.slice t _ (some _) none none=>(oL P t (xs.getD 0 .undef) (some (xs.getD 1 .undef)) none).at
 |.slice t _ none (some _) none=>(oL P t (xs.getD 0 .undef) none (some (xs.getD 1 .undef))).at
 |.slice t _ (some _) (some _) none=>(oL P t (xs.getD 0 .undef) (some (xs.getD 1 .undef)) (some (xs.getD 2 .undef))).at
 |.fieldAddr t _ f=>(mj P t (xs.getD 0 .undef) f).at
 |.field t _ f=>(Cs P t (xs.getD 0 .undef) f).at
 |.indexAddr t _ _=>(mi P t (xs.getD 0 .undef) (xs.getD 1 .undef)).at
 |.index t _ _=>(Cp P t (xs.getD 0 .undef) (xs.getD 1 .undef)).at
 |.extract _ i=>match xs with
  |[.tup l]=>(okV (l.getD i .undef)).at
  |_=>.bad 62
 |.call {callee:=.builtin b,argTypes,..}=>match b,argTypes[0]?with
  |.len,some t=>match xs with
   |[x]=>(OF P t (typed P t 0 x)).at
   |_=>.bad 63
  |.append,some t=>match argTypes[1]?with
   |some tx=>match xs with
    |[x,y]=>xd P t tx (typed P t 0 x) (typed P tx 0 y) o.dst lh
    |_=>.bad 64
   |none=>.bad 68
  |.min,some _=>match xs with
   |[.int .i64 a,.int .i64 b]=>.val (.int .i64 (min a b))
   |_=>.bad 61
  |.max,some _=>match xs with
   |[.int .i64 a,.int .i64 b]=>.val (.int .i64 (max a b))
   |_=>.bad 62
  |_,_=>.bad 65
 |.call {callee:=.value _,args,argTypes}=>match xs with
  |.fn (.func f) a b::ys=>Jj X f (a++oO P argTypes.toList ys++b) lh
  |_=>.bad 66
 |_=>.bad 67
def jq(a:Nat)(t:Nat):Nat:=Nat.lor a (Nat.pow 2 t)
def cZ(a:Nat)(t:Nat):Bool:=Nat.beq (Nat.land (Nat.shiftRight a t) 1) 1
def bH(ops:List Oper):List Nat:=
 (ops.foldl (fun(acc:List Nat) o=>acc++[o.after.toList.foldl (fun s e=>if Region.binds .any e then Nat.lor (jq s e.on) (acc.getD e.on 0)else s) 0]) [])
def jd(ops:List Oper)(o:Oper):List Nat:=
 (o.op.operands.toList.filterMap fun |.tmp t=>some t|_=>none)++
 (match o.guard with
  |some (g,_)=>((ops[g]?).bind (·.dst)).toList
  |none=>[])
def oP(ops:List Oper)(x y:Oper):Bool:=
 (match x.dst with
  |some d=>!(jd ops y).contains d&&y.dst !=some d
  |none=>true)&&
 (match y.dst with
  |some d=>!(jd ops x).contains d
  |none=>true)
def rO(ops:List Oper)(bf:List Nat):Bool:=
 (ops.zipIdx.all fun(o,i)=>o.after.toList.all fun e=>!Region.binds .any e||Nat.blt e.on i)&&(ops.zip bf).zipIdx.all fun((y,by_),j)=>(ops.take j).zipIdx.all fun(x,i)=>cZ by_ i||oP ops x y
def calm(g:Option (Nat×Bool))(s:u6):u6:=match s with
 |.bad n=>match g with
  |some _=>.vneed False .undef
  |none=>.bad n
 |s=>s
def ja(X:cM)(T:cO)(o:Oper)(xs:List PV)(lh:List (Nat×PV)):u6:=calm o.guard (gO P X T o xs lh)
def iJ(X:cM)(T:cO)(o:Oper)(xs:List PV)(lh:List (Nat×PV)):u6:=
 match o.op with
 |.convert a b _=>(lX P a b (xs.getD 0 .undef)).at
 |_=>ja P X T o xs lh
def cP(t:Nat):List (Nat×Option (Nat×Bool)×PV)->Option (Option (Nat×Bool)×PV)
 |[]=>none
 |e::l=>bif Nat.beq e.1 t then some e.2 else cP t l
def dB(ops:List Oper):Nat->Option (Nat×Bool)->Option (Nat×Bool)->Bool
 |0,_,_=>false
 |k+1,g,h=>match h with
  |none=>true
  |some (j,b)=>match g with
   |none=>false
   |some (i,a)=>(Nat.beq i j&&(a==b))||dB ops k ((ops[i]?).bind (·.guard)) (some (j,b))
def bD(ops:List Oper)(g:Option (Nat×Bool))(s:VS)(x:Operand):PV:=match x with
 |.tmp t=>match cP t s.loc with
  |some (h,v)=>match dB ops 9 g h with
   |true=>v
   |false=>.undef
  |none=>(b6 t s.env).getD .undef
 |.const v=>ofValue v
 |.global g=>.gp g 0
 |.func f=>.fn (.func f) [] []
def fu(ops:List Oper)(s:VS):Nat->Option (Nat×Bool)->Prop ->Prop
 |0,_,_=>False
 |k+1,g,p=>match g with
  |none=>p
  |some (j,w)=>match ops[j]?with
   |none=>False
   |some o=>match o.dst.bind fun t=>cP t s.loc with
    |some (_,.bool b)=>fu ops s k o.guard (match w with |true=>b=true->p|false=>b=false->p)
    |_=>False
def jB(ops:List Oper)(s:VS)(c:Operand):Option Nat:=match c with
 |.tmp t=>match cP t s.loc with
  |some _=>ops.findIdx? fun o=>match o.dst with |some d=>Nat.beq d t|none=>false
  |none=>none
 |_=>none
def bu(ops:List Oper)(o:Oper)(s:VS):List PV:=match o.op with
 |.pick c a b=>match jB ops s c with
  |some j=>[bD ops o.guard s c,bD ops (some (j,true)) s a,bD ops (some (j,false)) s b]
  |none=>o.op.operands.toList.map (bD ops o.guard s)
 |op=>op.operands.toList.map (bD ops o.guard s)
def cQ(o:Oper)(v:PV)(s:VS):VS:=match o.dst with
 |some d=>{s with loc:=(d,o.guard,v)::s.loc}
 |none=>s
def mm(f:PV->(PV->Prop)->Prop):List PV->(List PV->Prop)->Prop
 |[],k=>k []
 |x::l,k=>f x fun y=>mm f l fun l=>k (y::l)
def rP(r:al)(k:al->Prop):Prop:=match r with
 |.bytes l=>k (.bytes l)
 |.strs l=>k (.strs l)
 |.ints i l=>k (.ints i l)
def cI:Nat->PV->(PV->Prop)->Prop
 |0,x,k=>k x
 |n+1,x,k=>match x with
  |.undef=>k .undef
  |.int i z=>k (.int i z)
  |.bool b=>k (.bool b)
  |.str l=>k (.str l)
  |.raw v=>k (.raw v)
  |.arr m r=>rP r fun r=>k (.arr m r)
  |.agg l=>mm (cI n) l fun l=>k (.agg l)
  |.tup l=>mm (cI n) l fun l=>k (.tup l)
  |.row nl r t=>rP r fun r=>k (.row nl r t)
  |.vec nl sz l t=>k (.vec nl sz l t)
  |.ep r t i=>k (.ep r t i)
  |.epv sz l t i off=>k (.epv sz l t i off)
  |.ptr m off=>k (.ptr m off)
  |.pix m off i=>k (.pix m off i)
  |.asl m off a b=>k (.asl m off a b)
  |.gp g off=>k (.gp g off)
  |.gix g off i=>k (.gix g off i)
  |.fn f a b=>k (.fn f a b)
def dL:List (Nat×PV)->(List (Nat×PV)->Prop)->Prop
 |[],k=>k []
 |e::l,k=>cI 4 e.2 fun x=>dL l fun l=>k ((e.1,x)::l)
def Cw(t:Nat)(want:Bool)(s:VS)(A B:VS->Prop):Prop:=match cP t s.loc with
 |some (q,.bool b)=>(b=want->A {s with loc:=(t,q,.bool want)::s.loc})/\(b=!want->B {s with loc:=(t,q,.bool (!want))::s.loc})
 |_=>False
def rQ(ops:List Oper):Nat->VS->Nat×Bool->(VS->Prop)->(VS->Prop)->Prop
 |0,_,_,_,_=>False
 |n+1,s,g,A,B=>match ops[g.1]?with
  |some o=>match o.dst with
   |some t=>match o.guard with
    |none=>Cw t g.2 s A B
    |some g'=>rQ ops n s g' (fun s=>Cw t g.2 s A B) fun s=>B {s with loc:=(t,some g',.bool (!g.2))::s.loc}
   |none=>False
  |none=>False
def gP(X:cM)(T:cO)(ops:List Oper):List Oper->VS->(VS->Prop)->Prop
 |[],s,k=>k s
 |o::os,s,k=>match ja P X T o (bu ops o s) s.lh,o.guard with
  |.val v,_=>cI 4 v fun v=>gP X T ops os (cQ o v s) k
  |.vneed p v,none=>p/\cI 4 v fun v=>gP X T ops os (cQ o v s) k
  |.vneed p v,some g=>fu ops s 9 (some g) p/\cI 4 v fun v=>gP X T ops os (cQ o v s) k
  |.ok v f lh,none=>cI 4 v fun v=>gP X T ops os (cQ o v (s.turn f lh)) k
  |.cE p v f lh,none=>p/\cI 4 v fun v=>gP X T ops os (cQ o v (s.turn f lh)) k
  |.ok v f lh,some g=>rQ ops 4 s g (fun s=>cI 4 v fun v=>gP X T ops os (cQ o v (s.turn f lh)) k) (fun s=>gP X T ops os (cQ o .undef s) k)
  |.cE p v f lh,some g=>rQ ops 4 s g (fun s=>p/\cI 4 v fun v=>gP X T ops os (cQ o v (s.turn f lh)) k) (fun s=>gP X T ops os (cQ o .undef s) k)
  |_,_=>False
def kH(ops:List Oper)(bf:List Nat)(i:Nat):Bool:=(List.range ops.length).all fun j=>Nat.beq j i||(bif Nat.blt j i then cZ (bf.getD i 0) j else cZ (bf.getD j 0) i)
def Gp(X:cM)(T:cO)(ops:List Oper)(bf:List Nat):List Oper->Nat->VS->(VS->Prop)->Prop
 |[],_,s,k=>k s
 |o::os,i,s,k=>match kH ops bf i with
  |true=>match ja P X T o (bu ops o s) s.lh,o.guard with
   |.val v,_=>cI 4 v fun v=>Gp X T ops bf os (i+1) (cQ o v s) k
   |.vneed p v,none=>p/\cI 4 v fun v=>Gp X T ops bf os (i+1) (cQ o v s) k
   |.vneed p v,some g=>fu ops s 9 (some g) p/\cI 4 v fun v=>Gp X T ops bf os (i+1) (cQ o v s) k
   |.ok v f lh,none=>cI 4 v fun v=>Gp X T ops bf os (i+1) (cQ o v (s.turn f lh)) k
   |.cE p v f lh,none=>p/\cI 4 v fun v=>Gp X T ops bf os (i+1) (cQ o v (s.turn f lh)) k
   |_,_=>False
  |false=>match iJ P X T o (bu ops o s) s.lh,o.guard with
   |.val v,_=>cI 4 v fun v=>Gp X T ops bf os (i+1) (cQ o v s) k
   |.vneed p v,none=>p/\cI 4 v fun v=>Gp X T ops bf os (i+1) (cQ o v s) k
   |.vneed p v,some g=>fu ops s 9 (some g) p/\cI 4 v fun v=>Gp X T ops bf os (i+1) (cQ o v s) k
   |_,_=>False
def xe:Op->Bool
 |.move _ |.nilCheck _ |.binOp ..|.unOp ..|.slice ..|.fieldAddr ..|.field ..|.indexAddr ..|.index ..|.extract ..|.build ..=>true
 |.assign x=>!nm x
 |.call {callee:=.builtin .len,..}=>true
 |_=>false
inductive Pl where
 |box (n off len:Nat)
 |mark (t:Nat)
 |still
def OI(ops:List Oper)(bf:List Nat):Bool:=ops.zipIdx.any fun(o,i)=>(match o.op with |.store ..=>true|_=>false)&&!kH ops bf i
def OJ(ops:List Oper)(S:List Bool):List Nat:=(List.range ops.length).filter fun i=>!(S.getD i true)&&(match ops[i]?with |some o=>o.after.toList.all (fun e=>!Region.binds .any e||S.getD e.on false)|none=>false)
def jC(ops:List Oper):Bool:=ops.all fun o=>(match o.guard with |none=>true|some _=>false)&&(match o.op with |.pick ..=>false|.select ..=>false|_=>true)
def Cy(ops:List Oper)(S:List Bool)(i:Nat):Bool:=match ops[i]?with
 |some o=>xe o.op&&(List.range ops.length).all fun j=>Nat.beq j i||(S.getD j true||(match ops[j]?with |some q=>q.after.toList.any (fun e=>Region.binds .any e&&Nat.beq e.on i)||Oper.apart ops.toArray o q|none=>true))
 |none=>false
def EL(X:cM)(T:cO)(ops:List Oper)(i:Nat)(s:VS)(K:VS->Prop):Prop:=match ops[i]?with
 |none=>False
 |some o=>match ja P X T o (bu ops o s) s.lh with
  |.val v=>cI 4 v fun v=>K (cQ o v s)
  |.vneed p v=>p/\cI 4 v fun v=>K (cQ o v s)
  |.ok v f lh=>cI 4 v fun v=>K (cQ o v (s.turn f lh))
  |.cE p v f lh=>p/\cI 4 v fun v=>K (cQ o v (s.turn f lh))
  |_=>False
def OK:List Nat->(Nat->Prop)->Prop
 |[],_=>True
 |i::is,F=>match is with
  |[]=>F i
  |_=>F i/\OK is F
def PQ(X:cM)(T:cO)(ops:List Oper):Nat->List Bool->VS->(VS->Prop)->Prop
 |0,_,_,_=>False
 |n+1,S,s,k=>match OJ ops S with
  |[]=>k s
  |r=>match r.find? (Cy ops S)with
   |some i=>EL P X T ops i s fun s=>PQ X T ops n (S.set i true) s k
   |none=>OK r fun i=>EL P X T ops i s fun s=>PQ X T ops n (S.set i true) s k
def OL(ops:List Oper):List Nat:=ops.flatMap fun o=>match o.op with
 |.call {callee:=.value _,args,..}=>args.toList.filterMap fun |.tmp t=>some t|_=>none
 |_=>[]
def EM(ops:List Oper):List Nat:=let ts:=OL ops
 ts++ops.filterMap fun o=>match o.op,o.dst with
  |.move (.tmp s),some d=>bif ts.any (Nat.beq d)then some s else none
  |_,_=>none
def OM(o:Op):Bool:=match o with
 |.call {callee:=.builtin .append,..}=>true
 |.alloc ..=>true
 |.makeSlice ..=>true
 |_=>false
def Oa(ops:List Oper)(bf:List Nat)(s:VS):Bool:=jC ops&&
 ((ops.zipIdx.any fun(o,i)=>OM o.op&&!kH ops bf i)||
  ((ops.zipIdx.any fun(o,i)=>(match o.op with |.call {callee:=.value _,..}=>true|_=>false)&&!kH ops bf i)&&(EM ops).any fun t=>match b6 t s.env with |some x=>!(PV.ee PV.bU x).isEmpty|none=>false)||
  OI ops bf)
def PR(X:cM)(T:cO)(ops:List Oper)(bf:List Nat)(s:VS)(k:VS->Prop):Prop:=match Oa ops bf s with
 |true=>PQ P X T ops (Nat.succ ops.length) (ops.map fun _=>false) s k
 |false=>Gp P X T ops bf ops 0 s k
def jD(ops:List Oper)(s:VS):List Nat:=aX [] ((EM ops).flatMap fun t=>match b6 t s.env with |some x=>PV.ee PV.bM x|none=>[])
def rR(us:List Nat)(s:VS):VS:=match us with
 |[]=>s
 |us=>s.turn (some (PV.aO (b8 us))) (cT (PV.aO (b8 us)) s.lh)
def jE(s:VS):VS:=
 ⟨[],s.env.map fun e=>(e.1,match cP e.1 s.loc with |some (none,v)=>v|some (some _,_)=>.undef|none=>e.2),s.lh⟩
def Cz(x:PV)(a b:Prop):Prop:=match x with
 |.bool t=>(t=true->a)/\(t=false->b)
 |_=>False
def jZ:Code->Nat
 |.region id _ _=>id
 |.seq a b=>jZ a
 |.cond _ a _=>jZ a
 |.block _ a=>jZ a
 |.loop a=>jZ a
 |.scope a=>jZ a
 |_=>999999
def VS.put(s:VS)(n:Nat)(x:PV):VS:=⟨s.loc,iI n x s.env,s.lh⟩
def ON(m:Nat)(x:PV):PV:=match x with
 |.row true r _=>match r.none? with
  |true=>.row true r m
  |false=>.undef
 |_=>.undef
def VS.drop(s:VS):List Nat->VS
 |[]=>s
 |n::ns=>match Nat.ble 1000000 n with
  |true=>(s.put (n %1000000) (ON (n/1000000) ((b6 (n %1000000) s.env).getD .undef))).drop ns
  |false=>(s.put n .undef).drop ns
def Lp.into(h:Lp)(s:VS)(body:h.α->VS->Prop):Prop:=s.drop h.dead=h.at_ s (h.get s)/\h.inv s (h.get s)/\∀x,h.inv s x->body x (h.at_ s x)
abbrev uZ(n:Nat):Nat×PV:=(n,.undef)
abbrev eK(s:VS):Prop:=s=s
def Lp.cut(h:Lp)(s s':VS):Prop:=s'.drop h.dead=h.at_ s (h.get s')/\h.inv s (h.get s')
def Lp.back(h:Lp)(s:VS)(x:h.α)(s':VS):Prop:=s'.drop h.dead=h.at_ s (h.get s')/\h.inv s (h.get s')/\h.mu s (h.get s')<h.mu s x
def VS.slot(s:VS)(n:Nat):PV:=(b6 n s.env).getD .undef
def VS.int(s:VS)(n:Nat):Int:=(s.slot n).asInt
def VS.bool(s:VS)(n:Nat):Bool:=(s.slot n).asBool
def VS.str(s:VS)(n:Nat):Bs:=(s.slot n).dS
def VS.bytes(s:VS)(n:Nat):Bs:=(s.slot n).xa
def VS.strs(s:VS)(n:Nat):List Bs:=(s.slot n).mh
def VS.ints(s:VS)(n:Nat):List Int:=(s.slot n).oI
def VS.nil(s:VS)(n:Nat):Bool:=(s.slot n).nh
def VS.row(s:VS)(e:VS)(n:Nat)(nl:Bool)(r:al):VS:=s.put n (match e.slot n with |.row _ _ t=>.row nl r t|_=>.undef)
def xf:List Oper->Bool
 |[]=>true
 |o::os=>(match o.dst with |some d=>os.all (fun q=>match q.dst with |some e=>!Nat.beq d e|none=>true)|none=>true)&&xf os
def jF(ops:List Oper):Nat->List Oper->Bool
 |_,[]=>true
 |i,o::os=>(match o.guard with |none=>true|some (j,_)=>Nat.blt j i&&(match(ops[j]?).bind (·.dst)with |some _=>true|none=>false))&&jF ops (i+1) os
def u9(N:Nat)(ops:List Oper):Bool:=xf ops&&jF ops 0 ops&&ops.all fun o=>match o.dst with |some d=>Nat.blt d N|none=>true
def oG(X:cM)(T:cO)(H:aP)(N:Nat):Nat->Option (Code×(Nat->Option (VS->Prop)))->Code->VS->OG->Prop
 |0,_,_,_,_=>False
 |fuel+1,some (a,C),c,s,k=>oG X T H N fuel none c s fun e s=>match e with
   |.goto l=>match C l with
    |some J=>J s
    |none=>match findLabel a l with
     |none=>k (.goto l) s
     |some r=>match H (1000000+l)with
      |some h=>h.into s fun n s'=>oG X T H N fuel (some (a,fun l'=>bif Nat.beq l' l then some (h.back s n)else C l')) r s' k
      |none=>oG X T H N fuel (some (a,C)) r s k
   |e=>k e s
 |fuel+1,none,c,s,k=>match c with
  |.skip=>k .normal s
  |.region id ops draw=>match draw,u9 N ops.toList with
   |false,true=>gP P X T ops.toList ops.toList s fun s=>dL (jE s).env fun env=>dL s.lh fun lh=>k .normal ⟨[],env,lh⟩
   |true,true=>match rO ops.toList (bH ops.toList)with
    |true=>match H (2000000+id)with
     |some h=>(PR P X T ops.toList (bH ops.toList) (rR (jD ops.toList s) s) fun s'=>dL (jE s').env fun env=>dL s'.lh fun lh=>h.cut s ⟨[],env,lh⟩)/\∀x,h.inv s x->k .normal (h.at_ s x)
     |none=>PR P X T ops.toList (bH ops.toList) (rR (jD ops.toList s) s) fun s=>dL (jE s).env fun env=>dL s.lh fun lh=>k .normal ⟨[],env,lh⟩
    |false=>False
   |_,_=>False
  |.seq a b=>oG X T H N fuel none a s fun e s=>match e with
   |.normal=>oG X T H N fuel none b s k
   |e=>k e s
  |.cond c a b=>Cz (bD [] none s c) (oG X T H N fuel none a s k) (oG X T H N fuel none b s k)
  |.block id a=>oG X T H N fuel none a s fun e s=>match e with
   |.exit i=>bif Nat.beq i id then k .normal s else k (.exit i) s
   |e=>k e s
  |.loop a=>match H (jZ a)with
   |some h=>h.into s fun n s'=>oG X T H N fuel none a s' fun e s''=>match e with
    |.normal=>h.back s n s''
    |e=>k e s''
   |none=>False
  |.exit id=>k (.exit id) s
  |.scope a=>oG X T H N fuel (some (a,fun _=>none)) a s k
  |.label _=>k .normal s
  |.goto l=>k (.goto l) s
  |.ret=>k .ret s
  |_=>False
end
def P3(ops:List Oper)(acc:Nat):Nat:=
 (ops.foldl (fun(s:Nat×Nat) o=>((o.op.operands.toList.foldl (fun a x=>match x with |.tmp t=>if cZ s.2 t then a else jq a t|_=>a) s.1),match o.dst with |some d=>jq s.2 d|none=>s.2)) (acc,0)).1
def qe:Code->Nat->Nat
 |.region _ ops _,a=>P3 ops.toList a
 |.seq x y,a=>qe y (qe x a)
 |.cond c x y,a=>qe y (qe x (match c with |.tmp t=>jq a t|_=>a))
 |.block _ x,a=>qe x a
 |.loop x,a=>qe x a
 |.scope x,a=>qe x a
 |_,a=>a
def qf(fn:Func):Nat:=
 match fn.body with
 |some c=>(List.range (fn.params.size+fn.nfree)).foldl jq (fn.results.toList.foldl (fun a r=>match r with |.tmp t=>jq a t|.cell t _=>jq a t) (qe c 0))
 |none=>0
def slotsOf(m:Nat):Nat->List Nat
 |0=>[]
 |n+1=>bif cZ m n then slotsOf m n++[n]else slotsOf m n
section
variable (P:Program)
def OO(T:cO)(s:VS)(r:ResultVar):Option PV:=match r with
 |.tmp t=>some ((b6 t s.env).getD .undef)
 |.cell t ty=>match b6 t s.env with
  |some (.ptr n off)=>match EH P T s.lh ty (.ptr n off)with
   |.ok v=>some v
   |_=>none
  |_=>none
def zf(T:cO)(s:VS):List ResultVar->Option (List PV)
 |[]=>some []
 |r::rs=>match OO P T s r,zf T s rs with
  |some x,some xs=>some (x::xs)
  |_,_=>none
def dw(T:cO)(s:VS)(rs:List ResultVar):Option PV:=match zf P T s rs with
 |some [x]=>some x
 |some xs=>some (.tup xs)
 |none=>none
def Gq(r:Option PV)(k:PV->Prop):Prop:=match r with
 |some r=>cI 4 r fun r=>match PV.ee PV.bU r with
  |[]=>k (r.cC (PV.aO dC))
  |_=>False
 |none=>False
def iK(xs:List PV):List Nat->List (Nat×PV)
 |[]=>[]
 |t::ts=>(t,xs.getD t .undef)::iK xs ts
def cD(X:cM)(T:cO)(H:aP)(fuel:Nat)(fn:Func)(xs:List PV)(k:PV->Prop):Prop:=
 match fn.body with
 |none=>False
 |some c=>oG P X T H fn.ntmps fuel none c ⟨[],iK xs (slotsOf (qf fn) fn.ntmps),[]⟩ fun e s=>match e with
  |.normal=>Gq (dw P T s fn.results.toList) k
  |.ret=>Gq (dw P T s fn.results.toList) k
  |_=>False
end
end Go.Vc
