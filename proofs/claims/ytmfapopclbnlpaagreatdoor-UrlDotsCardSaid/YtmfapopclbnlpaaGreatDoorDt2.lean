import Derived.Orders
import Derived.Test.YtmfapopclbnlpaaGreatDoorDt1
set_option linter.unusedVariables false
set_option linter.unusedSectionVars false
namespace Go.Vc
structure aF where
 pre:Prop
 r:PV
abbrev cw:=FuncId→List PV→Option aF
inductive Ex where
 |normal|exit (id:Nat)|goto (l:Nat)|ret
abbrev JH:=Ex→VS→Prop
structure Lp where
 α:Type
 at_:VS→α→VS
 get:VS→α
 inv:VS→α→Prop
 mu:VS→α→Nat
 dead:List Nat
abbrev aX:=Nat→Option Lp
def cq:Int:=16777216
def nameOf(d:Option Tmp):Option Nat:=d.map (· +32)
def eR(n:Nat):Nat:=64*n
def AQ(n:Nat)(x:PV)(lh:List (Nat×PV)):List (Nat×PV):=match bK n lh with
 |some _=>js n x lh
 |none=>(n,x)::lh
section
variable (P:Program)
def GV(n:Nat)(x:PV)(f:PV→PV)(lh:List (Nat×PV)):sn:=.ok (.ptr n 0) (some f) (AQ n x (cD f lh))
def Ee(n lo hi:Nat):PV→PV
 |.row nl r u=>.row nl r (bif Nat.ble lo u&&Nat.blt u hi then 0 else u)
 |.vec nl sz l u=>.vec nl sz l (bif Nat.ble lo u&&Nat.blt u hi then 0 else u)
 |.ep r u i=>.ep r (bif Nat.ble lo u&&Nat.blt u hi then 0 else u) i
 |.epv sz l u i off=>.epv sz l (bif Nat.ble lo u&&Nat.blt u hi then 0 else u) i off
 |x=>x.ig n
def mT(e:TypeId)(d:Option Tmp)(lh:List (Nat×PV)):sn:=match nameOf d with
 |some n=>match mR P e (zeroV P 5 e (eR n))with
  |true=>GV n (zeroV P 5 e (eR n)) (Ee n (eR n) (eR (n+1))) lh
  |false=>.bad 39
 |none=>.bad 40
def B8(e:TypeId)(x:PV)(d:Option Tmp)(lh:List (Nat×PV)):sn:=match nameOf d with
 |some n=>match eQ P e&&x.fit,Nat.beq (typed P e 0 x).wid (aT P e)with
  |true,true=>GV n (typed P e 0 (x.cn (PV.ig n))) (PV.ig n) lh
  |_,_=>.bad 39
 |none=>.bad 41
def LF(x:PV):Prop:=match x with
 |.int .u8 z=>py z
 |_=>True
def mU(t:TypeId)(a x:PV)(lh:List (Nat×PV)):sn:=match a with
 |.ptr n off=>match bK n lh with
  |some c=>match Nat.beq (typed P t 0 x).wid (aT P t)&&x.fit&&eQ P t&&c.fit,PV.setAt (typed P t 0 x) c off with
   |true,some c'=>.ok (.tup []) none (js n c' lh)
   |_,_=>.bad 42
  |none=>.bad 45
 |.pix n off z=>match bK n lh with
  |some c=>match c.bZ off with
   |some (m,r)=>match jx P t,r.set z x with
    |true,some r'=>match c.mQ r' off with
     |some c'=>.cj (within z m∧r.JE x) (.tup []) none (js n c' lh)
     |none=>.bad 43
    |_,_=>.bad 38
   |none=>.bad 39
  |none=>.bad 45
 |.ep r u z=>match u,jx P t,r.set z x with
  |u+1,true,some _=>.cj (LF x) (.tup []) (some (ob (u+1) z x)) (cD (ob (u+1) z x) lh)
  |_,_,_=>.bad 47
 |_=>.bad 37
def yP(x:PV):Option an:=match x with
 |.str l=>some (.bytes l)
 |.row _ r _=>some r
 |_=>none
def AR(tx:TypeId):Bool:=match P.underlying tx with
 |some (.slice _)=>true
 |some .string=>true
 |_=>false
def Ef(e:TypeId):Nat:=match P.info? e with |some i=>i.bytes|none=>0
def mV(e:TypeId)(sz:Nat):Bool:=eQ P e&&Nat.beq (aT P e) sz&&mR P e (zeroV P 5 e 0)&&Nat.ble (Ef P e) 65536
def Eg(nl:Bool)(t:Nat)(d:Option Tmp):Option (Nat×Bool):=match t with
 |t+1=>some (t+1,false)
 |0=>match nl with
  |true=>(nameOf d).map fun n=>(n,true)
  |false=>none
def Je(new:Bool)(t:Nat):PV→PV:=PV.aS (match new with |true=>ct t|false=>lG t)
def tZ(t tx:TypeId)(x y:PV)(d:Option Tmp)(lh:List (Nat×PV)):sn:=
 match P.underlying t,AR P tx,x,y with
 |some (.slice e),true,.vec nl sz l tk,.vec _ sz2 q _=>match mV P e sz&&Nat.beq sz sz2,Eg nl tk d with
  |true,some (t',new)=>.cj (ak (l++q)≤cq) (.vec (bif q.isEmpty then nl else false) sz (l++q) t') (some (Je new t')) (cD (Je new t') lh)
  |_,_=>.bad 45
 |some (.slice e),true,.row nl r tk,y=>match yP y with
  |some q=>match mV P e 1,r.app q,Eg nl tk d with
   |true,some r',some (t',new)=>.cj (r'.len≤cq) (.row (bif q.none? then nl else false) r' t') (some (Je new t')) (cD (Je new t') lh)
   |_,_,_=>.bad 44
  |none=>.bad 43
 |_,_,_,_=>.bad 46
def kR(t:TypeId)(n c:PV)(d:Option Tmp)(lh:List (Nat×PV)):sn:=
 match P.underlying t,n,c,nameOf d with
 |some (.slice e),.int _ a,.int _ b,some tk=>match mV P e (aT P e)with
  |true=>
   let fin (v:PV):sn:=.cj (0≤a∧a≤b∧b≤cq) v (some (PV.aS (ct tk))) (cD (PV.aS (ct tk)) lh)
   match kr P e with
   |some (.bytes _)=>fin (.row false (.bytes (List.replicate a.toNat 0)) tk)
   |some (.strs _)=>fin (.row false (.strs (List.replicate a.toNat [])) tk)
   |some (.ints k _)=>fin (.row false (.ints k (List.replicate a.toNat 0)) tk)
   |none=>fin (.vec false (aT P e) (List.replicate a.toNat (zeroV P 5 e 0)) tk)
  |false=>.bad 47
 |_,_,_,_=>.bad 48
def iN(n:Nat)(l:List Nat):Bool:=l.any (Nat.beq n)
def aW(ns:List Nat):List Nat→List Nat
 |[]=>ns
 |m::ms=>aW (bif ns.any (Nat.beq m)then ns else ns++[m]) ms
def bJ(us:List Nat)(u:Nat):Option Nat:=some (bif iN u us then 0 else u)
def vU(n:Nat):List Nat→Nat
 |[]=>0
 |m::l=>bif Nat.beq m n then 0 else Nat.succ (vU n l)
def yJ(ms:List Nat)(t:Nat):Option Nat:=bif Nat.beq t 0 then some 0 else bif iN t ms then some (Nat.succ (vU t ms))else none
def B9(ns:List Nat)(n:Nat):Option Nat:=bif iN n ns then some (vU n ns)else none
def yQ(n0 t:Nat):Option Nat:=bif Nat.beq t 0 then some 0 else bif Nat.blt t 64 then some (64*n0+t)else none
def JI(ns:List Nat)(i:Nat):Option Nat:=ns[i]?
def fC(ms:List Nat)(n0 t:Nat):Option Nat:=bif Nat.beq t 0 then some 0 else bif iN t ms||(Nat.ble (64*n0) t&&Nat.blt t (64*n0+64))then none else some t
def PV.ei(fn ft:Nat→Option Nat):PV→PV
 |.row nl r t=>match ft t with |some u=>.row nl r u|none=>.undef
 |.vec nl sz l t=>match ft t with |some u=>.vec nl sz l u|none=>.undef
 |.ep r t i=>match ft t with |some u=>.ep r u i|none=>.undef
 |.epv sz l t i off=>match ft t with |some u=>.epv sz l u i off|none=>.undef
 |.ptr n off=>match fn n with |some m=>.ptr m off|none=>.undef
 |.pix n off i=>match fn n with |some m=>.pix m off i|none=>.undef
 |.asl n off i k=>match fn n with |some m=>.asl m off i k|none=>.undef
 |x=>x
def lK(lh:List (Nat×PV)):List Nat→Option (List PV)
 |[]=>some []
 |n::ns=>match bK n lh,lK lh ns with
  |some c,some cs=>some (c::cs)
  |_,_=>none
def jz:List Nat→List PV→List (Nat×PV)→List (Nat×PV)
 |n::ns,c::cs,lh=>js n c (jz ns cs lh)
 |_,_,lh=>lh
def reach(lh:List (Nat×PV)):Nat→List Nat→List Nat
 |0,ns=>ns
 |k+1,ns=>reach lh k (aW ns (ns.flatMap fun n=>match bK n lh with |some c=>PV.dm PV.bt c|none=>[]))
def nodupB:List Nat→Bool
 |[]=>true
 |n::ns=>!iN n ns&&nodupB ns
def so(X:cw)(f:FuncId)(us ns:List Nat)(xs:List PV)(lh:List (Nat×PV)):sn:=
 match lK lh ns,ns with
 |some cs,n0::_=>match X f (PV.ba (PV.ei (B9 ns) (yJ (aW [] (PV.aC PV.bj cs)))) xs++PV.ba (PV.ei (B9 ns) (yJ (aW [] (PV.aC PV.bj cs)))) cs)with
  |none=>.bad 50
  |some c=>match c.r with
   |.tup (r::outs)=>match Nat.beq outs.length ns.length&&nodupB ns&&Nat.blt (aW [] (PV.aC PV.bj cs)).length 60,PV.dm PV.bj r,PV.dm PV.bt r,PV.aC PV.bt (PV.ba (PV.ei (B9 ns) (yJ (aW [] (PV.aC PV.bj cs)))) xs++PV.ba (PV.ei (B9 ns) (yJ (aW [] (PV.aC PV.bj cs)))) cs)with
    |true,[],[],_::_=>.cj c.pre r (some fun y=>(y.aS (bJ us)).aS (fC (aW [] (PV.aC PV.bj cs)) n0)) (jz ns (PV.ba (PV.ei (JI ns) (yQ n0)) outs) (cD (PV.aS (fC (aW [] (PV.aC PV.bj cs)) n0)) lh))
    |_,_,_,_=>.bad 53
   |_=>.bad 54
 |_,_=>.bad 51
def Jf(X:cw)(f:FuncId)(xs:List PV)(lh:List (Nat×PV)):sn:=
 so X f (aW [] (PV.aC PV.bj xs)) (reach (cD (PV.aS (bJ (aW [] (PV.aC PV.bj xs)))) lh) 3 (aW [] (PV.aC PV.bt xs))) (PV.ba (PV.aS (bJ (aW [] (PV.aC PV.bj xs)))) xs) (cD (PV.aS (bJ (aW [] (PV.aC PV.bj xs)))) lh)
def ij:Nat:=64000193
def Ca(t:Nat):Option Nat:=bif Nat.beq t 0 then some 0 else bif Nat.beq t 1 then some ij else none
def Ls(_:Nat):Option Nat:=none
def Eh(X:cw)(f:FuncId)(xs:List PV)(lh:List (Nat×PV)):sn:=match PV.aC PV.bt xs with
 |[]=>match X f (PV.ba (PV.aS cV) xs)with
  |none=>.bad 50
  |some c=>match aW [] (PV.aC PV.bj xs),PV.dm PV.bj c.r,PV.dm PV.bt c.r with
   |[],[],[]=>.vneed c.pre c.r
   |us,[],[]=>.cj c.pre c.r (some (PV.aS (bJ us))) (cD (PV.aS (bJ us)) lh)
   |us,[1],[]=>.cj c.pre (c.r.cn (PV.ei Ls Ca)) (some fun y=>(y.aS (bJ us)).aS (ct ij)) (cD (PV.aS (ct ij)) (cD (PV.aS (bJ us)) lh))
   |_,_,_=>.bad 52
 |_=>Jf X f xs lh
def jA(x:Operand):Bool:=match x with
 |.const (.slice none 0 0)=>true
 |_=>false
def mW:List TypeId→List PV→List PV
 |t::ts,x::xs=>typed P t 0 x::mW ts xs
 |[],xs=>xs
 |_,[]=>[]
def AS(s d:TypeId)(x:PV)(t:Option Tmp)(lh:List (Nat×PV)):sn:=match ky P s d x,nameOf t with
 |.cj p (.row false (.bytes l) 0),some n=>.cj p (.row false (.bytes l) n) (some (PV.aS (ct n))) (cD (PV.aS (ct n)) lh)
 |r,_=>r.at
def dr(X:cw)(T:b5)(o:Oper)(xs:List PV)(lh:List (Nat×PV)):sn:=
 match o.op with
 |.move x=>.val (typed P o.type 0 (xs.getD 0 .undef))
 |.assign x=>match jA x,P.underlying o.type,nameOf o.dst with
  |true,some (.slice e),some n=>.ok (fA P true e n) (some (PV.aS (ct n))) (cD (PV.aS (ct n)) lh)
  |_,_,_=>.val (xs.getD 0 .undef)
 |.pick ..=>match xs with
  |[.bool b,x,y]=>.val (pB b x y)
  |_=>.bad 60
 |.alloc e=>mT P e o.dst lh
 |.box e _=>B8 P e (xs.getD 0 .undef) o.dst lh
 |.build t ps=>(yN P t (ps.toList.map (·.1)) xs).at
 |.buildSlice t n ps=>match PV.aC PV.bj xs,PV.aC PV.bt xs with
  |[],[]=>(jy P t n (ps.toList.map (·.1)) xs).at
  |_,_=>.bad 69
 |.load t _=>(pC P T lh t (xs.getD 0 .undef)).at
 |.store t _ _=>mU P t (xs.getD 0 .undef) (xs.getD 1 .undef) lh
 |.nilCheck _=>match xs with
  |[.ptr n off]=>.val (.ptr n off)
  |[.fn (.func f) a b]=>.val (.fn (.func f) a b)
  |_=>.bad 61
 |.binOp op t _ _ _=>(JF P op t (xs.getD 0 .undef) (xs.getD 1 .undef)).at
 |.unOp op _ _=>(Lq op (xs.getD 0 .undef)).at
 |.convert a b _=>match o.guard with
  |none=>AS P a b (xs.getD 0 .undef) o.dst lh
  |some _=>(ky P a b (xs.getD 0 .undef)).at
 |.makeSlice t _ _=>kR P t (xs.getD 0 .undef) (xs.getD 1 .undef) o.dst lh
 |.slice t _ none none none=>(mS P t (xs.getD 0 .undef) none none).at
 |.slice t _ (some _) none none=>(mS P t (xs.getD 0 .undef) (some (xs.getD 1 .undef)) none).at
 |.slice t _ none (some _) none=>(mS P t (xs.getD 0 .undef) none (some (xs.getD 1 .undef))).at
 |.slice t _ (some _) (some _) none=>(mS P t (xs.getD 0 .undef) (some (xs.getD 1 .undef)) (some (xs.getD 2 .undef))).at
 |.fieldAddr t _ f=>(kQ P t (xs.getD 0 .undef) f).at
 |.field t _ f=>(yO P t (xs.getD 0 .undef) f).at
 |.indexAddr t _ _=>(kP P t (xs.getD 0 .undef) (xs.getD 1 .undef)).at
 |.index t _ _=>(yL P t (xs.getD 0 .undef) (xs.getD 1 .undef)).at
 |.extract _ i=>match xs with
  |[.tup l]=>(okV (l.getD i .undef)).at
  |_=>.bad 62
 |.call {callee:=.builtin b,argTypes,..}=>match b,argTypes[0]?with
  |.len,some t=>match xs with
   |[x]=>(JG P t (typed P t 0 x)).at
   |_=>.bad 63
  |.append,some t=>match argTypes[1]?with
   |some tx=>match xs with
    |[x,y]=>tZ P t tx (typed P t 0 x) (typed P tx 0 y) o.dst lh
    |_=>.bad 64
   |none=>.bad 68
  |.min,some _=>match xs with
   |[.int .i64 a,.int .i64 b]=>.val (.int .i64 (min a b))
   |_=>.bad 61
  |.max,some _=>match xs with
   |[.int .i64 a,.int .i64 b]=>.val (.int .i64 (max a b))
   |_=>.bad 62
  |_,_=>.bad 65
 |.call {callee:=.value _,args,argTypes}=>match xs with
  |.fn (.func f) a b::ys=>Eh X f (a++mW P argTypes.toList ys++b) lh
  |_=>.bad 66
 |_=>.bad 67
def gX(a:Nat)(t:Nat):Nat:=Nat.lor a (Nat.pow 2 t)
def b6(a:Nat)(t:Nat):Bool:=Nat.beq (Nat.land (Nat.shiftRight a t) 1) 1
def aR(ops:List Oper):List Nat:=
 (ops.foldl (fun(acc:List Nat) o=>acc++[o.after.toList.foldl (fun s e=>if Region.binds .any e then Nat.lor (gX s e.on) (acc.getD e.on 0)else s) 0]) [])
def fr(ops:List Oper)(o:Oper):List Nat:=
 (o.op.operands.toList.filterMap fun |.tmp t=>some t|_=>none)++
 (match o.guard with
  |some (g,_)=>((ops[g]?).bind (·.dst)).toList
  |none=>[])
def mX(ops:List Oper)(x y:Oper):Bool:=
 (match x.dst with
  |some d=>!(fr ops y).contains d&&y.dst !=some d
  |none=>true)&&
 (match y.dst with
  |some d=>!(fr ops x).contains d
  |none=>true)
def pD(ops:List Oper)(bf:List Nat):Bool:=
 (ops.zipIdx.all fun(o,i)=>o.after.toList.all fun e=>!Region.binds .any e||Nat.blt e.on i)&&(ops.zip bf).zipIdx.all fun((y,by_),j)=>(ops.take j).zipIdx.all fun(x,i)=>b6 by_ i||mX ops x y
def calm(g:Option (Nat×Bool))(s:sn):sn:=match s with
 |.bad n=>match g with
  |some _=>.vneed False .undef
  |none=>.bad n
 |s=>s
def eL(X:cw)(T:b5)(o:Oper)(xs:List PV)(lh:List (Nat×PV)):sn:=calm o.guard (dr P X T o xs lh)
def gx(X:cw)(T:b5)(o:Oper)(xs:List PV)(lh:List (Nat×PV)):sn:=
 match o.op with
 |.convert a b _=>(ky P a b (xs.getD 0 .undef)).at
 |_=>eL P X T o xs lh
def cy(t:Nat):List (Nat×Option (Nat×Bool)×PV)→Option (Option (Nat×Bool)×PV)
 |[]=>none
 |e::l=>bif Nat.beq e.1 t then some e.2 else cy t l
def cT(ops:List Oper):Nat→Option (Nat×Bool)→Option (Nat×Bool)→Bool
 |0,_,_=>false
 |k+1,g,h=>match h with
  |none=>true
  |some (j,b)=>match g with
   |none=>false
   |some (i,a)=>(Nat.beq i j&&(a==b))||cT ops k ((ops[i]?).bind (·.guard)) (some (j,b))
def bg(ops:List Oper)(g:Option (Nat×Bool))(s:VS)(x:Operand):PV:=match x with
 |.tmp t=>match cy t s.loc with
  |some (h,v)=>match cT ops 9 g h with
   |true=>v
   |false=>.undef
  |none=>(bK t s.env).getD .undef
 |.const v=>ofValue v
 |.global g=>.gp g 0
 |.func f=>.fn (.func f) [] []
def dw(ops:List Oper)(s:VS):Nat→Option (Nat×Bool)→Prop →Prop
 |0,_,_=>False
 |k+1,g,p=>match g with
  |none=>p
  |some (j,w)=>match ops[j]?with
   |none=>False
   |some o=>match o.dst.bind fun t=>cy t s.loc with
    |some (_,.bool b)=>dw ops s k o.guard (match w with |true=>b=true→p|false=>b=false→p)
    |_=>False
def ik(ops:List Oper)(s:VS)(c:Operand):Option Nat:=match c with
 |.tmp t=>match cy t s.loc with
  |some _=>ops.findIdx? fun o=>match o.dst with |some d=>Nat.beq d t|none=>false
  |none=>none
 |_=>none
def aK(ops:List Oper)(o:Oper)(s:VS):List PV:=match o.op with
 |.pick c a b=>match ik ops s c with
  |some j=>[bg ops o.guard s c,bg ops (some (j,true)) s a,bg ops (some (j,false)) s b]
  |none=>o.op.operands.toList.map (bg ops o.guard s)
 |op=>op.operands.toList.map (bg ops o.guard s)
def bD(o:Oper)(v:PV)(s:VS):VS:=match o.dst with
 |some d=>{s with loc:=(d,o.guard,v)::s.loc}
 |none=>s
def kS(f:PV→(PV→Prop)→Prop):List PV→(List PV→Prop)→Prop
 |[],k=>k []
 |x::l,k=>f x fun y=>kS f l fun l=>k (y::l)
def pE(r:an)(k:an→Prop):Prop:=match r with
 |.bytes l=>k (.bytes l)
 |.strs l=>k (.strs l)
 |.ints i l=>k (.ints i l)
def bz:Nat→PV→(PV→Prop)→Prop
 |0,x,k=>k x
 |n+1,x,k=>match x with
  |.undef=>k .undef
  |.int i z=>k (.int i z)
  |.bool b=>k (.bool b)
  |.str l=>k (.str l)
  |.raw v=>k (.raw v)
  |.arr m r=>pE r fun r=>k (.arr m r)
  |.agg l=>kS (bz n) l fun l=>k (.agg l)
  |.tup l=>kS (bz n) l fun l=>k (.tup l)
  |.row nl r t=>pE r fun r=>k (.row nl r t)
  |.vec nl sz l t=>k (.vec nl sz l t)
  |.ep r t i=>k (.ep r t i)
  |.epv sz l t i off=>k (.epv sz l t i off)
  |.ptr m off=>k (.ptr m off)
  |.pix m off i=>k (.pix m off i)
  |.asl m off a b=>k (.asl m off a b)
  |.gp g off=>k (.gp g off)
  |.gix g off i=>k (.gix g off i)
  |.fn f a b=>k (.fn f a b)
def cY:List (Nat×PV)→(List (Nat×PV)→Prop)→Prop
 |[],k=>k []
 |e::l,k=>bz 4 e.2 fun x=>cY l fun l=>k ((e.1,x)::l)
def yR(t:Nat)(want:Bool)(s:VS)(A B:VS→Prop):Prop:=match cy t s.loc with
 |some (q,.bool b)=>(b=want→A {s with loc:=(t,q,.bool want)::s.loc})∧(b=!want→B {s with loc:=(t,q,.bool (!want))::s.loc})
 |_=>False
def pF(ops:List Oper):Nat→VS→Nat×Bool→(VS→Prop)→(VS→Prop)→Prop
 |0,_,_,_,_=>False
 |n+1,s,g,A,B=>match ops[g.1]?with
  |some o=>match o.dst with
   |some t=>match o.guard with
    |none=>yR t g.2 s A B
    |some g'=>pF ops n s g' (fun s=>yR t g.2 s A B) fun s=>B {s with loc:=(t,some g',.bool (!g.2))::s.loc}
   |none=>False
  |none=>False
def fD(X:cw)(T:b5)(ops:List Oper):List Oper→VS→(VS→Prop)→Prop
 |[],s,k=>k s
 |o::os,s,k=>match eL P X T o (aK ops o s) s.lh,o.guard with
  |.val v,_=>bz 4 v fun v=>fD X T ops os (bD o v s) k
  |.vneed p v,none=>p∧bz 4 v fun v=>fD X T ops os (bD o v s) k
  |.vneed p v,some g=>dw ops s 9 (some g) p∧bz 4 v fun v=>fD X T ops os (bD o v s) k
  |.ok v f lh,none=>bz 4 v fun v=>fD X T ops os (bD o v (s.turn f lh)) k
  |.cj p v f lh,none=>p∧bz 4 v fun v=>fD X T ops os (bD o v (s.turn f lh)) k
  |.ok v f lh,some g=>pF ops 4 s g (fun s=>bz 4 v fun v=>fD X T ops os (bD o v (s.turn f lh)) k) (fun s=>fD X T ops os (bD o .undef s) k)
  |.cj p v f lh,some g=>pF ops 4 s g (fun s=>p∧bz 4 v fun v=>fD X T ops os (bD o v (s.turn f lh)) k) (fun s=>fD X T ops os (bD o .undef s) k)
  |_,_=>False
def dp(ops:List Oper)(bf:List Nat)(i:Nat):Bool:=(List.range ops.length).all fun j=>Nat.beq j i||(bif Nat.blt j i then b6 (bf.getD i 0) j else b6 (bf.getD j 0) i)
def Cb(X:cw)(T:b5)(ops:List Oper)(bf:List Nat):List Oper→Nat→VS→(VS→Prop)→Prop
 |[],_,s,k=>k s
 |o::os,i,s,k=>match dp ops bf i with
  |true=>match eL P X T o (aK ops o s) s.lh,o.guard with
   |.val v,_=>bz 4 v fun v=>Cb X T ops bf os (i+1) (bD o v s) k
   |.vneed p v,none=>p∧bz 4 v fun v=>Cb X T ops bf os (i+1) (bD o v s) k
   |.vneed p v,some g=>dw ops s 9 (some g) p∧bz 4 v fun v=>Cb X T ops bf os (i+1) (bD o v s) k
   |.ok v f lh,none=>bz 4 v fun v=>Cb X T ops bf os (i+1) (bD o v (s.turn f lh)) k
   |.cj p v f lh,none=>p∧bz 4 v fun v=>Cb X T ops bf os (i+1) (bD o v (s.turn f lh)) k
   |_,_=>False
  |false=>match gx P X T o (aK ops o s) s.lh,o.guard with
   |.val v,_=>bz 4 v fun v=>Cb X T ops bf os (i+1) (bD o v s) k
   |.vneed p v,none=>p∧bz 4 v fun v=>Cb X T ops bf os (i+1) (bD o v s) k
   |.vneed p v,some g=>dw ops s 9 (some g) p∧bz 4 v fun v=>Cb X T ops bf os (i+1) (bD o v s) k
   |_,_=>False
def dV:Op→Bool
 |.move _ |.nilCheck _ |.binOp ..|.unOp ..|.slice ..|.fieldAddr ..|.field ..|.indexAddr ..|.index ..|.extract ..|.build ..=>true
 |.assign x=>!jA x
 |.call {callee:=.builtin .len,..}=>true
 |_=>false
inductive Pl where
 |box (n off len:Nat)
 |mark (t:Nat)
 |still
def GW(p q:Pl):Bool:=match p,q with
 |.box n o l,.box n' o' l'=>!Nat.beq n n'||(Nat.ble (o+l) o'||Nat.ble (o'+l') o)
 |.mark t,.mark t'=>!Nat.beq t t'
 |.still,.still=>false
 |_,_=>true
def KU(t:TypeId)(x:PV):Option Pl:=match x with
 |.ptr n off=>some (.box n off (match gK P t with |true=>aT P t|false=>1))
 |.ep _ 0 _=>some .still
 |_=>none
def KV(t:TypeId)(x:PV)(lh:List (Nat×PV)):Option Pl:=match x with
 |.ptr n off=>some (.box n off (aT P t))
 |.pix n off _=>match bK n lh with
  |some c=>match c.bZ off with
   |some (m,_)=>some (.box n off m)
   |none=>none
  |none=>none
 |.ep _ (u+1) _=>some (.mark (u+1))
 |_=>none
abbrev GX:=List (Nat×Bool×Pl)
def Ei(m:Nat)(st:Bool)(p:Pl)(ms:GX):Bool:=ms.all fun e=>b6 m e.1||((!st&&!e.2.1)||GW p e.2.2)
def vS(X:cw)(T:b5)(ops:List Oper)(bf:List Nat):List Oper→Nat→GX→VS→(VS→Prop)→Prop
 |[],_,_,s,k=>k s
 |o::os,i,ms,s,k=>match dp ops bf i with
  |true=>match eL P X T o (aK ops o s) s.lh,o.guard with
   |.val v,_=>bz 4 v fun v=>vS X T ops bf os (i+1) [] (bD o v s) k
   |.vneed p v,none=>p∧bz 4 v fun v=>vS X T ops bf os (i+1) [] (bD o v s) k
   |.vneed p v,some g=>dw ops s 9 (some g) p∧bz 4 v fun v=>vS X T ops bf os (i+1) [] (bD o v s) k
   |.ok v f lh,none=>bz 4 v fun v=>vS X T ops bf os (i+1) [] (bD o v (s.turn f lh)) k
   |.cj p v f lh,none=>p∧bz 4 v fun v=>vS X T ops bf os (i+1) [] (bD o v (s.turn f lh)) k
   |_,_=>False
  |false=>match dV o.op with
   |true=>match eL P X T o (aK ops o s) s.lh,o.guard with
    |.val v,_=>bz 4 v fun v=>vS X T ops bf os (i+1) ms (bD o v s) k
    |.vneed p v,none=>p∧bz 4 v fun v=>vS X T ops bf os (i+1) ms (bD o v s) k
    |.vneed p v,some g=>dw ops s 9 (some g) p∧bz 4 v fun v=>vS X T ops bf os (i+1) ms (bD o v s) k
    |_,_=>False
   |false=>match o.op with
    |.load t _=>match KU P t ((aK ops o s).getD 0 .undef)with
     |some p=>match Ei (bf.getD i 0) false p ms with
      |true=>match eL P X T o (aK ops o s) s.lh,o.guard with
       |.val v,_=>bz 4 v fun v=>vS X T ops bf os (i+1) ((i,false,p)::ms) (bD o v s) k
       |.vneed q v,none=>q∧bz 4 v fun v=>vS X T ops bf os (i+1) ((i,false,p)::ms) (bD o v s) k
       |.vneed q v,some g=>dw ops s 9 (some g) q∧bz 4 v fun v=>vS X T ops bf os (i+1) ((i,false,p)::ms) (bD o v s) k
       |_,_=>False
      |false=>False
     |none=>False
    |.store t _ _=>match KV P t ((aK ops o s).getD 0 .undef) s.lh with
     |some p=>match Ei (bf.getD i 0) true p ms with
      |true=>match eL P X T o (aK ops o s) s.lh,o.guard with
       |.ok v f lh,none=>bz 4 v fun v=>vS X T ops bf os (i+1) ((i,true,p)::ms) (bD o v (s.turn f lh)) k
       |.cj q v f lh,none=>q∧bz 4 v fun v=>vS X T ops bf os (i+1) ((i,true,p)::ms) (bD o v (s.turn f lh)) k
       |_,_=>False
      |false=>False
     |none=>False
    |_=>False
def JJ(ops:List Oper)(bf:List Nat):Bool:=ops.zipIdx.any fun(o,i)=>(match o.op with |.store ..=>true|_=>false)&&!dp ops bf i
def JK(ops:List Oper)(S:List Bool):List Nat:=(List.range ops.length).filter fun i=>!(S.getD i true)&&(match ops[i]?with |some o=>o.after.toList.all (fun e=>!Region.binds .any e||S.getD e.on false)|none=>false)
def il(ops:List Oper):Bool:=ops.all fun o=>(match o.guard with |none=>true|some _=>false)&&(match o.op with |.pick ..=>false|.select ..=>false|_=>true)
def yS(ops:List Oper)(S:List Bool)(i:Nat):Bool:=match ops[i]?with
 |some o=>dV o.op&&(List.range ops.length).all fun j=>Nat.beq j i||(S.getD j true||(match ops[j]?with |some q=>q.after.toList.any (fun e=>Region.binds .any e&&Nat.beq e.on i)||Oper.apart ops.toArray o q|none=>true))
 |none=>false
def AT(X:cw)(T:b5)(ops:List Oper)(i:Nat)(s:VS)(K:VS→Prop):Prop:=match ops[i]?with
 |none=>False
 |some o=>match eL P X T o (aK ops o s) s.lh with
  |.val v=>bz 4 v fun v=>K (bD o v s)
  |.vneed p v=>p∧bz 4 v fun v=>K (bD o v s)
  |.ok v f lh=>bz 4 v fun v=>K (bD o v (s.turn f lh))
  |.cj p v f lh=>p∧bz 4 v fun v=>K (bD o v (s.turn f lh))
  |_=>False
def JL:List Nat→(Nat→Prop)→Prop
 |[],_=>True
 |i::is,F=>match is with
  |[]=>F i
  |_=>F i∧JL is F
def KG(X:cw)(T:b5)(ops:List Oper):Nat→List Bool→VS→(VS→Prop)→Prop
 |0,_,_,_=>False
 |n+1,S,s,k=>match JK ops S with
  |[]=>k s
  |r=>match r.find? (yS ops S)with
   |some i=>AT P X T ops i s fun s=>KG X T ops n (S.set i true) s k
   |none=>JL r fun i=>AT P X T ops i s fun s=>KG X T ops n (S.set i true) s k
def JM(ops:List Oper):List Nat:=ops.flatMap fun o=>match o.op with
 |.call {callee:=.value _,args,..}=>args.toList.filterMap fun |.tmp t=>some t|_=>none
 |_=>[]
def AU(ops:List Oper):List Nat:=let ts:=JM ops
 ts++ops.filterMap fun o=>match o.op,o.dst with
  |.move (.tmp s),some d=>bif ts.any (Nat.beq d)then some s else none
  |_,_=>none
def JN(o:Op):Bool:=match o with
 |.call {callee:=.builtin .append,..}=>true
 |.alloc ..=>true
 |.makeSlice ..=>true
 |_=>false
def Jg(ops:List Oper)(bf:List Nat)(s:VS):Bool:=il ops&&
 ((ops.zipIdx.any fun(o,i)=>JN o.op&&!dp ops bf i)||
  ((ops.zipIdx.any fun(o,i)=>(match o.op with |.call {callee:=.value _,..}=>true|_=>false)&&!dp ops bf i)&&(AU ops).any fun t=>match bK t s.env with |some x=>!(PV.dm PV.bt x).isEmpty|none=>false))
def KH(X:cw)(T:b5)(ops:List Oper)(bf:List Nat)(s:VS)(k:VS→Prop):Prop:=match Jg ops bf s with
 |true=>KG P X T ops (Nat.succ ops.length) (ops.map fun _=>false) s k
 |false=>match JJ ops bf with
  |true=>vS P X T ops bf ops 0 [] s k
  |false=>Cb P X T ops bf ops 0 s k
def im(ops:List Oper)(s:VS):List Nat:=aW [] ((AU ops).flatMap fun t=>match bK t s.env with |some x=>PV.dm PV.bj x|none=>[])
def pG(us:List Nat)(s:VS):VS:=match us with
 |[]=>s
 |us=>s.turn (some (PV.aS (bJ us))) (cD (PV.aS (bJ us)) s.lh)
def iq(s:VS):VS:=
 ⟨[],s.env.map fun e=>(e.1,match cy e.1 s.loc with |some (none,v)=>v|some (some _,_)=>.undef|none=>e.2),s.lh⟩
def yT(x:PV)(a b:Prop):Prop:=match x with
 |.bool t=>(t=true→a)∧(t=false→b)
 |_=>False
def iO:Code→Nat
 |.region id _ _=>id
 |.seq a b=>iO a
 |.cond _ a _=>iO a
 |.block _ a=>iO a
 |.loop a=>iO a
 |.scope a=>iO a
 |_=>999999
def VS.put(s:VS)(n:Nat)(x:PV):VS:=⟨s.loc,js n x s.env,s.lh⟩
def VS.drop(s:VS):List Nat→VS
 |[]=>s
 |n::ns=>(s.put n .undef).drop ns
def Lp.into(h:Lp)(s:VS)(body:h.α→VS→Prop):Prop:=s.drop h.dead=h.at_ s (h.get s)∧h.inv s (h.get s)∧∀x,h.inv s x→body x (h.at_ s x)
def kz(s:VS):Prop:=s=s
def Lp.cut(h:Lp)(s s':VS):Prop:=s'.drop h.dead=h.at_ s (h.get s')∧h.inv s (h.get s')
def Lp.back(h:Lp)(s:VS)(x:h.α)(s':VS):Prop:=s'.drop h.dead=h.at_ s (h.get s')∧h.inv s (h.get s')∧h.mu s (h.get s')<h.mu s x
def VS.slot(s:VS)(n:Nat):PV:=(bK n s.env).getD .undef
def VS.int(s:VS)(n:Nat):Int:=(s.slot n).asInt
def VS.bool(s:VS)(n:Nat):Bool:=(s.slot n).asBool
def VS.str(s:VS)(n:Nat):Bs:=(s.slot n).dh
def VS.bytes(s:VS)(n:Nat):Bs:=(s.slot n).tW
def VS.strs(s:VS)(n:Nat):List Bs:=(s.slot n).kO
def VS.ints(s:VS)(n:Nat):List Int:=(s.slot n).mP
def VS.nil(s:VS)(n:Nat):Bool:=(s.slot n).lH
def VS.row(s:VS)(e:VS)(n:Nat)(nl:Bool)(r:an):VS:=s.put n (match e.slot n with |.row _ _ t=>.row nl r t|_=>.undef)
def ua:List Oper→Bool
 |[]=>true
 |o::os=>(match o.dst with |some d=>os.all (fun q=>match q.dst with |some e=>!Nat.beq d e|none=>true)|none=>true)&&ua os
def ir(ops:List Oper):Nat→List Oper→Bool
 |_,[]=>true
 |i,o::os=>(match o.guard with |none=>true|some (j,_)=>Nat.blt j i&&(match(ops[j]?).bind (·.dst)with |some _=>true|none=>false))&&ir ops (i+1) os
def sq(N:Nat)(ops:List Oper):Bool:=ua ops&&ir ops 0 ops&&ops.all fun o=>match o.dst with |some d=>Nat.blt d N|none=>true
def mO(X:cw)(T:b5)(H:aX)(N:Nat):Nat→Option (Code×(Nat→Option (VS→Prop)))→Code→VS→JH→Prop
 |0,_,_,_,_=>False
 |fuel+1,some (a,C),c,s,k=>mO X T H N fuel none c s fun e s=>match e with
   |.goto l=>match C l with
    |some J=>J s
    |none=>match findLabel a l with
     |none=>k (.goto l) s
     |some r=>match H (1000000+l)with
      |some h=>h.into s fun n s'=>mO X T H N fuel (some (a,fun l'=>bif Nat.beq l' l then some (h.back s n)else C l')) r s' k
      |none=>mO X T H N fuel (some (a,C)) r s k
   |e=>k e s
 |fuel+1,none,c,s,k=>match c with
  |.skip=>k .normal s
  |.region id ops draw=>match draw,sq N ops.toList with
   |false,true=>fD P X T ops.toList ops.toList s fun s=>cY (iq s).env fun env=>cY s.lh fun lh=>k .normal ⟨[],env,lh⟩
   |true,true=>match pD ops.toList (aR ops.toList)with
    |true=>match H (2000000+id)with
     |some h=>(KH P X T ops.toList (aR ops.toList) (pG (im ops.toList s) s) fun s'=>cY (iq s').env fun env=>cY s'.lh fun lh=>h.cut s ⟨[],env,lh⟩)∧∀x,h.inv s x→k .normal (h.at_ s x)
     |none=>KH P X T ops.toList (aR ops.toList) (pG (im ops.toList s) s) fun s=>cY (iq s).env fun env=>cY s.lh fun lh=>k .normal ⟨[],env,lh⟩
    |false=>False
   |_,_=>False
  |.seq a b=>mO X T H N fuel none a s fun e s=>match e with
   |.normal=>mO X T H N fuel none b s k
   |e=>k e s
  |.cond c a b=>yT (bg [] none s c) (mO X T H N fuel none a s k) (mO X T H N fuel none b s k)
  |.block id a=>mO X T H N fuel none a s fun e s=>match e with
   |.exit i=>bif Nat.beq i id then k .normal s else k (.exit i) s
   |e=>k e s
  |.loop a=>match H (iO a)with
   |some h=>h.into s fun n s'=>mO X T H N fuel none a s' fun e s''=>match e with
    |.normal=>h.back s n s''
    |e=>k e s''
   |none=>False
  |.exit id=>k (.exit id) s
  |.scope a=>mO X T H N fuel (some (a,fun _=>none)) a s k
  |.label _=>k .normal s
  |.goto l=>k (.goto l) s
  |.ret=>k .ret s
  |_=>False
end
def KW(ops:List Oper)(acc:Nat):Nat:=
 (ops.foldl (fun(s:Nat×Nat) o=>((o.op.operands.toList.foldl (fun a x=>match x with |.tmp t=>if b6 s.2 t then a else gX a t|_=>a) s.1),match o.dst with |some d=>gX s.2 d|none=>s.2)) (acc,0)).1
def od:Code→Nat→Nat
 |.region _ ops _,a=>KW ops.toList a
 |.seq x y,a=>od y (od x a)
 |.cond c x y,a=>od y (od x (match c with |.tmp t=>gX a t|_=>a))
 |.block _ x,a=>od x a
 |.loop x,a=>od x a
 |.scope x,a=>od x a
 |_,a=>a
def oe(fn:Func):Nat:=
 match fn.body with
 |some c=>(List.range (fn.params.size+fn.nfree)).foldl gX (fn.results.toList.foldl (fun a r=>match r with |.tmp t=>gX a t|.cell t _=>gX a t) (od c 0))
 |none=>0
def slotsOf(m:Nat):Nat→List Nat
 |0=>[]
 |n+1=>bif b6 m n then slotsOf m n++[n]else slotsOf m n
section
variable (P:Program)
def JO(T:b5)(s:VS)(r:ResultVar):Option PV:=match r with
 |.tmp t=>some ((bK t s.env).getD .undef)
 |.cell t ty=>match bK t s.env with
  |some (.ptr n off)=>match pC P T s.lh ty (.ptr n off)with
   |.ok v=>some v
   |_=>none
  |_=>none
def vV(T:b5)(s:VS):List ResultVar→Option (List PV)
 |[]=>some []
 |r::rs=>match JO P T s r,vV T s rs with
  |some x,some xs=>some (x::xs)
  |_,_=>none
def cO(T:b5)(s:VS)(rs:List ResultVar):Option PV:=match vV P T s rs with
 |some [x]=>some x
 |some xs=>some (.tup xs)
 |none=>none
def Cc(r:Option PV)(k:PV→Prop):Prop:=match r with
 |some r=>bz 4 r fun r=>match PV.dm PV.bt r with
  |[]=>k (r.cn (PV.aS cV))
  |_=>False
 |none=>False
def gy(xs:List PV):List Nat→List (Nat×PV)
 |[]=>[]
 |t::ts=>(t,xs.getD t .undef)::gy xs ts
def cG(X:cw)(T:b5)(H:aX)(fuel:Nat)(fn:Func)(xs:List PV)(k:PV→Prop):Prop:=
 match fn.body with
 |none=>False
 |some c=>mO P X T H fn.ntmps fuel none c ⟨[],gy xs (slotsOf (oe fn) fn.ntmps),[]⟩ fun e s=>match e with
  |.normal=>Cc (cO P T s fn.results.toList) k
  |.ret=>Cc (cO P T s fn.results.toList) k
  |_=>False
end
end Go.Vc
