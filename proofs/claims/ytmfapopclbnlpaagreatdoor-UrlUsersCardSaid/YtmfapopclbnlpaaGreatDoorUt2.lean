import Derived.Orders
import Derived.Test.YtmfapopclbnlpaaGreatDoorUt1
set_option linter.unusedVariables false
set_option linter.unusedSectionVars false
namespace Go.Vc
structure aI where
 pre:Prop
 r:PV
abbrev cq:=FuncId→List PV→Option aI
inductive Ex where
 |normal|exit (id:Nat)|goto (l:Nat)|ret
abbrev Jh:=Ex→VS→Prop
structure Lp where
 α:Type
 at_:VS→α→VS
 get:VS→α
 inv:VS→α→Prop
 mu:VS→α→Nat
 dead:List Nat
abbrev aY:=Nat→Option Lp
def dd:Int:=16777216
def nameOf(d:Option Tmp):Option Nat:=d.map (· +32)
def eQ(n:Nat):Nat:=64*n
def AE(n:Nat)(x:PV)(lh:List (Nat×PV)):List (Nat×PV):=match bJ n lh with
 |some _=>jo n x lh
 |none=>(n,x)::lh
section
variable (P:Program)
def GI(n:Nat)(x:PV)(f:PV→PV)(lh:List (Nat×PV)):rZ:=.ok (.ptr n 0) (some f) (AE n x (cy f lh))
def D7(n lo hi:Nat):PV→PV
 |.row nl r u=>.row nl r (bif Nat.ble lo u&&Nat.blt u hi then 0 else u)
 |.vec nl sz l u=>.vec nl sz l (bif Nat.ble lo u&&Nat.blt u hi then 0 else u)
 |.ep r u i=>.ep r (bif Nat.ble lo u&&Nat.blt u hi then 0 else u) i
 |.epv sz l u i off=>.epv sz l (bif Nat.ble lo u&&Nat.blt u hi then 0 else u) i off
 |x=>x.ib n
def mN(e:TypeId)(d:Option Tmp)(lh:List (Nat×PV)):rZ:=match nameOf d with
 |some n=>match mL P e (zeroV P 5 e (eQ n))with
  |true=>GI n (zeroV P 5 e (eQ n)) (D7 n (eQ n) (eQ (n+1))) lh
  |false=>.bad 39
 |none=>.bad 40
def BV(e:TypeId)(x:PV)(d:Option Tmp)(lh:List (Nat×PV)):rZ:=match nameOf d with
 |some n=>match eP P e&&x.fit,Nat.beq (typed P e 0 x).wid (aT P e)with
  |true,true=>GI n (typed P e 0 (x.ck (PV.ib n))) (PV.ib n) lh
  |_,_=>.bad 39
 |none=>.bad 41
def tM(x:PV):Prop:=match x with
 |.int .u8 z=>pd z
 |_=>True
def mO(t:TypeId)(a x:PV)(lh:List (Nat×PV)):rZ:=match a with
 |.ptr n off=>match bJ n lh with
  |some c=>match Nat.beq (typed P t 0 x).wid (aT P t)&&x.fit&&eP P t&&c.fit,PV.setAt (typed P t 0 x) c off with
   |true,some c'=>.ok (.tup []) none (jo n c' lh)
   |_,_=>.bad 42
  |none=>.bad 45
 |.pix n off z=>match bJ n lh with
  |some c=>match c.bX off with
   |some (m,r)=>match jt P t,r.set z x with
    |true,some r'=>match c.mK r' off with
     |some c'=>.b9 (within z m∧r.Je x) (.tup []) none (jo n c' lh)
     |none=>.bad 43
    |_,_=>.bad 38
   |none=>.bad 39
  |none=>.bad 45
 |.ep r u z=>match u,jt P t,r.set z x with
  |u+1,true,some _=>.b9 (tM x) (.tup []) (some (nX (u+1) z x)) (cy (nX (u+1) z x) lh)
  |_,_,_=>.bad 47
 |_=>.bad 37
def yB(x:PV):Option aq:=match x with
 |.str l=>some (.bytes l)
 |.row _ r _=>some r
 |_=>none
def AF(tx:TypeId):Bool:=match P.underlying tx with
 |some (.slice _)=>true
 |some .string=>true
 |_=>false
def D8(e:TypeId):Nat:=match P.info? e with |some i=>i.bytes|none=>0
def mP(e:TypeId)(sz:Nat):Bool:=eP P e&&Nat.beq (aT P e) sz&&mL P e (zeroV P 5 e 0)&&Nat.ble (D8 P e) 65536
def D9(nl:Bool)(t:Nat)(d:Option Tmp):Option (Nat×Bool):=match t with
 |t+1=>some (t+1,false)
 |0=>match nl with
  |true=>(nameOf d).map fun n=>(n,true)
  |false=>none
def IQ(new:Bool)(t:Nat):PV→PV:=PV.aS (match new with |true=>cm t|false=>lA t)
def tN(t tx:TypeId)(x y:PV)(d:Option Tmp)(lh:List (Nat×PV)):rZ:=
 match P.underlying t,AF P tx,x,y with
 |some (.slice e),true,.vec nl sz l tk,.vec _ sz2 q _=>match mP P e sz&&Nat.beq sz sz2,D9 nl tk d with
  |true,some (t',new)=>.b9 (ak (l++q)≤dd) (.vec (bif q.isEmpty then nl else false) sz (l++q) t') (some (IQ new t')) (cy (IQ new t') lh)
  |_,_=>.bad 45
 |some (.slice e),true,.row nl r tk,y=>match yB y with
  |some q=>match mP P e 1,r.app q,D9 nl tk d with
   |true,some r',some (t',new)=>.b9 (r'.len≤dd) (.row (bif q.none? then nl else false) r' t') (some (IQ new t')) (cy (IQ new t') lh)
   |_,_,_=>.bad 44
  |none=>.bad 43
 |_,_,_,_=>.bad 46
def kL(t:TypeId)(n c:PV)(d:Option Tmp)(lh:List (Nat×PV)):rZ:=
 match P.underlying t,n,c,nameOf d with
 |some (.slice e),.int _ a,.int _ b,some tk=>match mP P e (aT P e)with
  |true=>
   let fin (v:PV):rZ:=.b9 (0≤a∧a≤b∧b≤dd) v (some (PV.aS (cm tk))) (cy (PV.aS (cm tk)) lh)
   match kp P e with
   |some (.bytes _)=>fin (.row false (.bytes (List.replicate a.toNat 0)) tk)
   |some (.strs _)=>fin (.row false (.strs (List.replicate a.toNat [])) tk)
   |some (.ints k _)=>fin (.row false (.ints k (List.replicate a.toNat 0)) tk)
   |none=>fin (.vec false (aT P e) (List.replicate a.toNat (zeroV P 5 e 0)) tk)
  |false=>.bad 47
 |_,_,_,_=>.bad 48
def iM(n:Nat)(l:List Nat):Bool:=l.any (Nat.beq n)
def aW(ns:List Nat):List Nat→List Nat
 |[]=>ns
 |m::ms=>aW (bif ns.any (Nat.beq m)then ns else ns++[m]) ms
def bI(us:List Nat)(u:Nat):Option Nat:=some (bif iM u us then 0 else u)
def vI(n:Nat):List Nat→Nat
 |[]=>0
 |m::l=>bif Nat.beq m n then 0 else Nat.succ (vI n l)
def yv(ms:List Nat)(t:Nat):Option Nat:=bif Nat.beq t 0 then some 0 else bif iM t ms then some (Nat.succ (vI t ms))else none
def BW(ns:List Nat)(n:Nat):Option Nat:=bif iM n ns then some (vI n ns)else none
def yC(n0 t:Nat):Option Nat:=bif Nat.beq t 0 then some 0 else bif Nat.blt t 64 then some (64*n0+t)else none
def Ji(ns:List Nat)(i:Nat):Option Nat:=ns[i]?
def fC(ms:List Nat)(n0 t:Nat):Option Nat:=bif Nat.beq t 0 then some 0 else bif iM t ms||(Nat.ble (64*n0) t&&Nat.blt t (64*n0+64))then none else some t
def PV.ee(fn ft:Nat→Option Nat):PV→PV
 |.row nl r t=>match ft t with |some u=>.row nl r u|none=>.undef
 |.vec nl sz l t=>match ft t with |some u=>.vec nl sz l u|none=>.undef
 |.ep r t i=>match ft t with |some u=>.ep r u i|none=>.undef
 |.epv sz l t i off=>match ft t with |some u=>.epv sz l u i off|none=>.undef
 |.ptr n off=>match fn n with |some m=>.ptr m off|none=>.undef
 |.pix n off i=>match fn n with |some m=>.pix m off i|none=>.undef
 |.asl n off i k=>match fn n with |some m=>.asl m off i k|none=>.undef
 |x=>x
def lE(lh:List (Nat×PV)):List Nat→Option (List PV)
 |[]=>some []
 |n::ns=>match bJ n lh,lE lh ns with
  |some c,some cs=>some (c::cs)
  |_,_=>none
def jv:List Nat→List PV→List (Nat×PV)→List (Nat×PV)
 |n::ns,c::cs,lh=>jo n c (jv ns cs lh)
 |_,_,lh=>lh
def reach(lh:List (Nat×PV)):Nat→List Nat→List Nat
 |0,ns=>ns
 |k+1,ns=>reach lh k (aW ns (ns.flatMap fun n=>match bJ n lh with |some c=>PV.di PV.br c|none=>[]))
def nodupB:List Nat→Bool
 |[]=>true
 |n::ns=>!iM n ns&&nodupB ns
def r5(X:cq)(f:FuncId)(us ns:List Nat)(xs:List PV)(lh:List (Nat×PV)):rZ:=
 match lE lh ns,ns with
 |some cs,n0::_=>match X f (PV.ba (PV.ee (BW ns) (yv (aW [] (PV.aA PV.bl cs)))) xs++PV.ba (PV.ee (BW ns) (yv (aW [] (PV.aA PV.bl cs)))) cs)with
  |none=>.bad 50
  |some c=>match c.r with
   |.tup (r::outs)=>match Nat.beq outs.length ns.length&&nodupB ns&&Nat.blt (aW [] (PV.aA PV.bl cs)).length 60,PV.di PV.bl r,PV.di PV.br r,PV.aA PV.br (PV.ba (PV.ee (BW ns) (yv (aW [] (PV.aA PV.bl cs)))) xs++PV.ba (PV.ee (BW ns) (yv (aW [] (PV.aA PV.bl cs)))) cs)with
    |true,[],[],_::_=>.b9 c.pre r (some fun y=>(y.aS (bI us)).aS (fC (aW [] (PV.aA PV.bl cs)) n0)) (jv ns (PV.ba (PV.ee (Ji ns) (yC n0)) outs) (cy (PV.aS (fC (aW [] (PV.aA PV.bl cs)) n0)) lh))
    |_,_,_,_=>.bad 53
   |_=>.bad 54
 |_,_=>.bad 51
def IS(X:cq)(f:FuncId)(xs:List PV)(lh:List (Nat×PV)):rZ:=
 r5 X f (aW [] (PV.aA PV.bl xs)) (reach (cy (PV.aS (bI (aW [] (PV.aA PV.bl xs)))) lh) 3 (aW [] (PV.aA PV.br xs))) (PV.ba (PV.aS (bI (aW [] (PV.aA PV.bl xs)))) xs) (cy (PV.aS (bI (aW [] (PV.aA PV.bl xs)))) lh)
def ic:Nat:=64000193
def BX(t:Nat):Option Nat:=bif Nat.beq t 0 then some 0 else bif Nat.beq t 1 then some ic else none
def K1(_:Nat):Option Nat:=none
def Ea(X:cq)(f:FuncId)(xs:List PV)(lh:List (Nat×PV)):rZ:=match PV.aA PV.br xs with
 |[]=>match X f (PV.ba (PV.aS cR) xs)with
  |none=>.bad 50
  |some c=>match aW [] (PV.aA PV.bl xs),PV.di PV.bl c.r,PV.di PV.br c.r with
   |[],[],[]=>.vneed c.pre c.r
   |us,[],[]=>.b9 c.pre c.r (some (PV.aS (bI us))) (cy (PV.aS (bI us)) lh)
   |us,[1],[]=>.b9 c.pre (c.r.ck (PV.ee K1 BX)) (some fun y=>(y.aS (bI us)).aS (cm ic)) (cy (PV.aS (cm ic)) (cy (PV.aS (bI us)) lh))
   |_,_,_=>.bad 52
 |_=>IS X f xs lh
def jw(x:Operand):Bool:=match x with
 |.const (.slice none 0 0)=>true
 |_=>false
def mQ:List TypeId→List PV→List PV
 |t::ts,x::xs=>typed P t 0 x::mQ ts xs
 |[],xs=>xs
 |_,[]=>[]
def AG(s d:TypeId)(x:PV)(t:Option Tmp)(lh:List (Nat×PV)):rZ:=match ku P s d x,nameOf t with
 |.b9 p (.row false (.bytes l) 0),some n=>.b9 p (.row false (.bytes l) n) (some (PV.aS (cm n))) (cy (PV.aS (cm n)) lh)
 |r,_=>r.at
def dk(X:cq)(T:b4)(o:Oper)(xs:List PV)(lh:List (Nat×PV)):rZ:=
 match o.op with
 |.move x=>.val (typed P o.type 0 (xs.getD 0 .undef))
 |.assign x=>match jw x,P.underlying o.type,nameOf o.dst with
  |true,some (.slice e),some n=>.ok (fA P true e n) (some (PV.aS (cm n))) (cy (PV.aS (cm n)) lh)
  |_,_,_=>.val (xs.getD 0 .undef)
 |.pick ..=>match xs with
  |[.bool b,x,y]=>.val (pj b x y)
  |_=>.bad 60
 |.alloc e=>mN P e o.dst lh
 |.box e _=>BV P e (xs.getD 0 .undef) o.dst lh
 |.build t ps=>(yz P t (ps.toList.map (·.1)) xs).at
 |.buildSlice t n ps=>match PV.aA PV.bl xs,PV.aA PV.br xs with
  |[],[]=>(ju P t n (ps.toList.map (·.1)) xs).at
  |_,_=>.bad 69
 |.load t _=>(pk P T lh t (xs.getD 0 .undef)).at
 |.store t _ _=>mO P t (xs.getD 0 .undef) (xs.getD 1 .undef) lh
 |.nilCheck _=>match xs with
  |[.ptr n off]=>.val (.ptr n off)
  |[.fn (.func f) a b]=>.val (.fn (.func f) a b)
  |_=>.bad 61
 |.binOp op t _ _ _=>(Jf P op t (xs.getD 0 .undef) (xs.getD 1 .undef)).at
 |.unOp op _ _=>(KZ op (xs.getD 0 .undef)).at
 |.convert a b _=>match o.guard with
  |none=>AG P a b (xs.getD 0 .undef) o.dst lh
  |some _=>(ku P a b (xs.getD 0 .undef)).at
 |.makeSlice t _ _=>kL P t (xs.getD 0 .undef) (xs.getD 1 .undef) o.dst lh
 |.slice t _ none none none=>(mM P t (xs.getD 0 .undef) none none).at
 |.slice t _ (some _) none none=>(mM P t (xs.getD 0 .undef) (some (xs.getD 1 .undef)) none).at
 |.slice t _ none (some _) none=>(mM P t (xs.getD 0 .undef) none (some (xs.getD 1 .undef))).at
 |.slice t _ (some _) (some _) none=>(mM P t (xs.getD 0 .undef) (some (xs.getD 1 .undef)) (some (xs.getD 2 .undef))).at
 |.fieldAddr t _ f=>(kK P t (xs.getD 0 .undef) f).at
 |.field t _ f=>(yA P t (xs.getD 0 .undef) f).at
 |.indexAddr t _ _=>(kJ P t (xs.getD 0 .undef) (xs.getD 1 .undef)).at
 |.index t _ _=>(yx P t (xs.getD 0 .undef) (xs.getD 1 .undef)).at
 |.extract _ i=>match xs with
  |[.tup l]=>(okV (l.getD i .undef)).at
  |_=>.bad 62
 |.call {callee:=.builtin b,argTypes,..}=>match b,argTypes[0]?with
  |.len,some t=>match xs with
   |[x]=>(Jg P t (typed P t 0 x)).at
   |_=>.bad 63
  |.append,some t=>match argTypes[1]?with
   |some tx=>match xs with
    |[x,y]=>tN P t tx (typed P t 0 x) (typed P tx 0 y) o.dst lh
    |_=>.bad 64
   |none=>.bad 68
  |.min,some _=>match xs with
   |[.int .i64 a,.int .i64 b]=>.val (.int .i64 (min a b))
   |_=>.bad 61
  |.max,some _=>match xs with
   |[.int .i64 a,.int .i64 b]=>.val (.int .i64 (max a b))
   |_=>.bad 62
  |_,_=>.bad 65
 |.call {callee:=.value _,args,argTypes}=>match xs with
  |.fn (.func f) a b::ys=>Ea X f (a++mQ P argTypes.toList ys++b) lh
  |_=>.bad 66
 |_=>.bad 67
def gU(a:Nat)(t:Nat):Nat:=Nat.lor a (Nat.pow 2 t)
def b5(a:Nat)(t:Nat):Bool:=Nat.beq (Nat.land (Nat.shiftRight a t) 1) 1
def aR(ops:List Oper):List Nat:=
 (ops.foldl (fun(acc:List Nat) o=>acc++[o.after.toList.foldl (fun s e=>if Region.binds .any e then Nat.lor (gU s e.on) (acc.getD e.on 0)else s) 0]) [])
def fq(ops:List Oper)(o:Oper):List Nat:=
 (o.op.operands.toList.filterMap fun |.tmp t=>some t|_=>none)++
 (match o.guard with
  |some (g,_)=>((ops[g]?).bind (·.dst)).toList
  |none=>[])
def mR(ops:List Oper)(x y:Oper):Bool:=
 (match x.dst with
  |some d=>!(fq ops y).contains d&&y.dst !=some d
  |none=>true)&&
 (match y.dst with
  |some d=>!(fq ops x).contains d
  |none=>true)
def po(ops:List Oper)(bf:List Nat):Bool:=
 (ops.zipIdx.all fun(o,i)=>o.after.toList.all fun e=>!Region.binds .any e||Nat.blt e.on i)&&(ops.zip bf).zipIdx.all fun((y,by_),j)=>(ops.take j).zipIdx.all fun(x,i)=>b5 by_ i||mR ops x y
def calm(g:Option (Nat×Bool))(s:rZ):rZ:=match s with
 |.bad n=>match g with
  |some _=>.vneed False .undef
  |none=>.bad n
 |s=>s
def eK(X:cq)(T:b4)(o:Oper)(xs:List PV)(lh:List (Nat×PV)):rZ:=calm o.guard (dk P X T o xs lh)
def gw(X:cq)(T:b4)(o:Oper)(xs:List PV)(lh:List (Nat×PV)):rZ:=
 match o.op with
 |.convert a b _=>(ku P a b (xs.getD 0 .undef)).at
 |_=>eK P X T o xs lh
def cr(t:Nat):List (Nat×Option (Nat×Bool)×PV)→Option (Option (Nat×Bool)×PV)
 |[]=>none
 |e::l=>bif Nat.beq e.1 t then some e.2 else cr t l
def cP(ops:List Oper):Nat→Option (Nat×Bool)→Option (Nat×Bool)→Bool
 |0,_,_=>false
 |k+1,g,h=>match h with
  |none=>true
  |some (j,b)=>match g with
   |none=>false
   |some (i,a)=>(Nat.beq i j&&(a==b))||cP ops k ((ops[i]?).bind (·.guard)) (some (j,b))
def bh(ops:List Oper)(g:Option (Nat×Bool))(s:VS)(x:Operand):PV:=match x with
 |.tmp t=>match cr t s.loc with
  |some (h,v)=>match cP ops 9 g h with
   |true=>v
   |false=>.undef
  |none=>(bJ t s.env).getD .undef
 |.const v=>ofValue v
 |.global g=>.gp g 0
 |.func f=>.fn (.func f) [] []
def dr(ops:List Oper)(s:VS):Nat→Option (Nat×Bool)→Prop →Prop
 |0,_,_=>False
 |k+1,g,p=>match g with
  |none=>p
  |some (j,w)=>match ops[j]?with
   |none=>False
   |some o=>match o.dst.bind fun t=>cr t s.loc with
    |some (_,.bool b)=>dr ops s k o.guard (match w with |true=>b=true→p|false=>b=false→p)
    |_=>False
def ie(ops:List Oper)(s:VS)(c:Operand):Option Nat:=match c with
 |.tmp t=>match cr t s.loc with
  |some _=>ops.findIdx? fun o=>match o.dst with |some d=>Nat.beq d t|none=>false
  |none=>none
 |_=>none
def aM(ops:List Oper)(o:Oper)(s:VS):List PV:=match o.op with
 |.pick c a b=>match ie ops s c with
  |some j=>[bh ops o.guard s c,bh ops (some (j,true)) s a,bh ops (some (j,false)) s b]
  |none=>o.op.operands.toList.map (bh ops o.guard s)
 |op=>op.operands.toList.map (bh ops o.guard s)
def bE(o:Oper)(v:PV)(s:VS):VS:=match o.dst with
 |some d=>{s with loc:=(d,o.guard,v)::s.loc}
 |none=>s
def kM(f:PV→(PV→Prop)→Prop):List PV→(List PV→Prop)→Prop
 |[],k=>k []
 |x::l,k=>f x fun y=>kM f l fun l=>k (y::l)
def pq(r:aq)(k:aq→Prop):Prop:=match r with
 |.bytes l=>k (.bytes l)
 |.strs l=>k (.strs l)
 |.ints i l=>k (.ints i l)
def bw:Nat→PV→(PV→Prop)→Prop
 |0,x,k=>k x
 |n+1,x,k=>match x with
  |.undef=>k .undef
  |.int i z=>k (.int i z)
  |.bool b=>k (.bool b)
  |.str l=>k (.str l)
  |.raw v=>k (.raw v)
  |.arr m r=>pq r fun r=>k (.arr m r)
  |.agg l=>kM (bw n) l fun l=>k (.agg l)
  |.tup l=>kM (bw n) l fun l=>k (.tup l)
  |.row nl r t=>pq r fun r=>k (.row nl r t)
  |.vec nl sz l t=>k (.vec nl sz l t)
  |.ep r t i=>k (.ep r t i)
  |.epv sz l t i off=>k (.epv sz l t i off)
  |.ptr m off=>k (.ptr m off)
  |.pix m off i=>k (.pix m off i)
  |.asl m off a b=>k (.asl m off a b)
  |.gp g off=>k (.gp g off)
  |.gix g off i=>k (.gix g off i)
  |.fn f a b=>k (.fn f a b)
def cV:List (Nat×PV)→(List (Nat×PV)→Prop)→Prop
 |[],k=>k []
 |e::l,k=>bw 4 e.2 fun x=>cV l fun l=>k ((e.1,x)::l)
def yD(t:Nat)(want:Bool)(s:VS)(A B:VS→Prop):Prop:=match cr t s.loc with
 |some (q,.bool b)=>(b=want→A {s with loc:=(t,q,.bool want)::s.loc})∧(b=!want→B {s with loc:=(t,q,.bool (!want))::s.loc})
 |_=>False
def pr(ops:List Oper):Nat→VS→Nat×Bool→(VS→Prop)→(VS→Prop)→Prop
 |0,_,_,_,_=>False
 |n+1,s,g,A,B=>match ops[g.1]?with
  |some o=>match o.dst with
   |some t=>match o.guard with
    |none=>yD t g.2 s A B
    |some g'=>pr ops n s g' (fun s=>yD t g.2 s A B) fun s=>B {s with loc:=(t,some g',.bool (!g.2))::s.loc}
   |none=>False
  |none=>False
def fD(X:cq)(T:b4)(ops:List Oper):List Oper→VS→(VS→Prop)→Prop
 |[],s,k=>k s
 |o::os,s,k=>match eK P X T o (aM ops o s) s.lh,o.guard with
  |.val v,_=>bw 4 v fun v=>fD X T ops os (bE o v s) k
  |.vneed p v,none=>p∧bw 4 v fun v=>fD X T ops os (bE o v s) k
  |.vneed p v,some g=>dr ops s 9 (some g) p∧bw 4 v fun v=>fD X T ops os (bE o v s) k
  |.ok v f lh,none=>bw 4 v fun v=>fD X T ops os (bE o v (s.turn f lh)) k
  |.b9 p v f lh,none=>p∧bw 4 v fun v=>fD X T ops os (bE o v (s.turn f lh)) k
  |.ok v f lh,some g=>pr ops 4 s g (fun s=>bw 4 v fun v=>fD X T ops os (bE o v (s.turn f lh)) k) (fun s=>fD X T ops os (bE o .undef s) k)
  |.b9 p v f lh,some g=>pr ops 4 s g (fun s=>p∧bw 4 v fun v=>fD X T ops os (bE o v (s.turn f lh)) k) (fun s=>fD X T ops os (bE o .undef s) k)
  |_,_=>False
def dj(ops:List Oper)(bf:List Nat)(i:Nat):Bool:=(List.range ops.length).all fun j=>Nat.beq j i||(bif Nat.blt j i then b5 (bf.getD i 0) j else b5 (bf.getD j 0) i)
def BY(X:cq)(T:b4)(ops:List Oper)(bf:List Nat):List Oper→Nat→VS→(VS→Prop)→Prop
 |[],_,s,k=>k s
 |o::os,i,s,k=>match dj ops bf i with
  |true=>match eK P X T o (aM ops o s) s.lh,o.guard with
   |.val v,_=>bw 4 v fun v=>BY X T ops bf os (i+1) (bE o v s) k
   |.vneed p v,none=>p∧bw 4 v fun v=>BY X T ops bf os (i+1) (bE o v s) k
   |.vneed p v,some g=>dr ops s 9 (some g) p∧bw 4 v fun v=>BY X T ops bf os (i+1) (bE o v s) k
   |.ok v f lh,none=>bw 4 v fun v=>BY X T ops bf os (i+1) (bE o v (s.turn f lh)) k
   |.b9 p v f lh,none=>p∧bw 4 v fun v=>BY X T ops bf os (i+1) (bE o v (s.turn f lh)) k
   |_,_=>False
  |false=>match gw P X T o (aM ops o s) s.lh,o.guard with
   |.val v,_=>bw 4 v fun v=>BY X T ops bf os (i+1) (bE o v s) k
   |.vneed p v,none=>p∧bw 4 v fun v=>BY X T ops bf os (i+1) (bE o v s) k
   |.vneed p v,some g=>dr ops s 9 (some g) p∧bw 4 v fun v=>BY X T ops bf os (i+1) (bE o v s) k
   |_,_=>False
def dU:Op→Bool
 |.move _ |.nilCheck _ |.binOp ..|.unOp ..|.slice ..|.fieldAddr ..|.field ..|.indexAddr ..|.index ..|.extract ..|.build ..=>true
 |.assign x=>!jw x
 |.call {callee:=.builtin .len,..}=>true
 |_=>false
inductive Pl where
 |box (n off len:Nat)
 |mark (t:Nat)
 |still
def GJ(p q:Pl):Bool:=match p,q with
 |.box n o l,.box n' o' l'=>!Nat.beq n n'||(Nat.ble (o+l) o'||Nat.ble (o'+l') o)
 |.mark t,.mark t'=>!Nat.beq t t'
 |.still,.still=>false
 |_,_=>true
def Ku(t:TypeId)(x:PV):Option Pl:=match x with
 |.ptr n off=>some (.box n off (match gH P t with |true=>aT P t|false=>1))
 |.ep _ 0 _=>some .still
 |_=>none
def Kv(t:TypeId)(x:PV)(lh:List (Nat×PV)):Option Pl:=match x with
 |.ptr n off=>some (.box n off (aT P t))
 |.pix n off _=>match bJ n lh with
  |some c=>match c.bX off with
   |some (m,_)=>some (.box n off m)
   |none=>none
  |none=>none
 |.ep _ (u+1) _=>some (.mark (u+1))
 |_=>none
abbrev GK:=List (Nat×Bool×Pl)
def Eb(m:Nat)(st:Bool)(p:Pl)(ms:GK):Bool:=ms.all fun e=>b5 m e.1||((!st&&!e.2.1)||GJ p e.2.2)
def vF(X:cq)(T:b4)(ops:List Oper)(bf:List Nat):List Oper→Nat→GK→VS→(VS→Prop)→Prop
 |[],_,_,s,k=>k s
 |o::os,i,ms,s,k=>match dj ops bf i with
  |true=>match eK P X T o (aM ops o s) s.lh,o.guard with
   |.val v,_=>bw 4 v fun v=>vF X T ops bf os (i+1) [] (bE o v s) k
   |.vneed p v,none=>p∧bw 4 v fun v=>vF X T ops bf os (i+1) [] (bE o v s) k
   |.vneed p v,some g=>dr ops s 9 (some g) p∧bw 4 v fun v=>vF X T ops bf os (i+1) [] (bE o v s) k
   |.ok v f lh,none=>bw 4 v fun v=>vF X T ops bf os (i+1) [] (bE o v (s.turn f lh)) k
   |.b9 p v f lh,none=>p∧bw 4 v fun v=>vF X T ops bf os (i+1) [] (bE o v (s.turn f lh)) k
   |_,_=>False
  |false=>match dU o.op with
   |true=>match eK P X T o (aM ops o s) s.lh,o.guard with
    |.val v,_=>bw 4 v fun v=>vF X T ops bf os (i+1) ms (bE o v s) k
    |.vneed p v,none=>p∧bw 4 v fun v=>vF X T ops bf os (i+1) ms (bE o v s) k
    |.vneed p v,some g=>dr ops s 9 (some g) p∧bw 4 v fun v=>vF X T ops bf os (i+1) ms (bE o v s) k
    |_,_=>False
   |false=>match o.op with
    |.load t _=>match Ku P t ((aM ops o s).getD 0 .undef)with
     |some p=>match Eb (bf.getD i 0) false p ms with
      |true=>match eK P X T o (aM ops o s) s.lh,o.guard with
       |.val v,_=>bw 4 v fun v=>vF X T ops bf os (i+1) ((i,false,p)::ms) (bE o v s) k
       |.vneed q v,none=>q∧bw 4 v fun v=>vF X T ops bf os (i+1) ((i,false,p)::ms) (bE o v s) k
       |.vneed q v,some g=>dr ops s 9 (some g) q∧bw 4 v fun v=>vF X T ops bf os (i+1) ((i,false,p)::ms) (bE o v s) k
       |_,_=>False
      |false=>False
     |none=>False
    |.store t _ _=>match Kv P t ((aM ops o s).getD 0 .undef) s.lh with
     |some p=>match Eb (bf.getD i 0) true p ms with
      |true=>match eK P X T o (aM ops o s) s.lh,o.guard with
       |.ok v f lh,none=>bw 4 v fun v=>vF X T ops bf os (i+1) ((i,true,p)::ms) (bE o v (s.turn f lh)) k
       |.b9 q v f lh,none=>q∧bw 4 v fun v=>vF X T ops bf os (i+1) ((i,true,p)::ms) (bE o v (s.turn f lh)) k
       |_,_=>False
      |false=>False
     |none=>False
    |_=>False
def Jj(ops:List Oper)(bf:List Nat):Bool:=ops.zipIdx.any fun(o,i)=>(match o.op with |.store ..=>true|_=>false)&&!dj ops bf i
def Jk(ops:List Oper)(S:List Bool):List Nat:=(List.range ops.length).filter fun i=>!(S.getD i true)&&(match ops[i]?with |some o=>o.after.toList.all (fun e=>!Region.binds .any e||S.getD e.on false)|none=>false)
def ig(ops:List Oper):Bool:=ops.all fun o=>(match o.guard with |none=>true|some _=>false)&&(match o.op with |.pick ..=>false|.select ..=>false|_=>true)
def yE(ops:List Oper)(S:List Bool)(i:Nat):Bool:=match ops[i]?with
 |some o=>dU o.op&&(List.range ops.length).all fun j=>Nat.beq j i||(S.getD j true||(match ops[j]?with |some q=>q.after.toList.any (fun e=>Region.binds .any e&&Nat.beq e.on i)||Oper.apart ops.toArray o q|none=>true))
 |none=>false
def AH(X:cq)(T:b4)(ops:List Oper)(i:Nat)(s:VS)(K:VS→Prop):Prop:=match ops[i]?with
 |none=>False
 |some o=>match eK P X T o (aM ops o s) s.lh with
  |.val v=>bw 4 v fun v=>K (bE o v s)
  |.vneed p v=>p∧bw 4 v fun v=>K (bE o v s)
  |.ok v f lh=>bw 4 v fun v=>K (bE o v (s.turn f lh))
  |.b9 p v f lh=>p∧bw 4 v fun v=>K (bE o v (s.turn f lh))
  |_=>False
def Jl:List Nat→(Nat→Prop)→Prop
 |[],_=>True
 |i::is,F=>match is with
  |[]=>F i
  |_=>F i∧Jl is F
def Ki(X:cq)(T:b4)(ops:List Oper):Nat→List Bool→VS→(VS→Prop)→Prop
 |0,_,_,_=>False
 |n+1,S,s,k=>match Jk ops S with
  |[]=>k s
  |r=>match r.find? (yE ops S)with
   |some i=>AH P X T ops i s fun s=>Ki X T ops n (S.set i true) s k
   |none=>Jl r fun i=>AH P X T ops i s fun s=>Ki X T ops n (S.set i true) s k
def Jm(ops:List Oper):List Nat:=ops.flatMap fun o=>match o.op with
 |.call {callee:=.value _,args,..}=>args.toList.filterMap fun |.tmp t=>some t|_=>none
 |_=>[]
def AI(ops:List Oper):List Nat:=let ts:=Jm ops
 ts++ops.filterMap fun o=>match o.op,o.dst with
  |.move (.tmp s),some d=>bif ts.any (Nat.beq d)then some s else none
  |_,_=>none
def Jn(o:Op):Bool:=match o with
 |.call {callee:=.builtin .append,..}=>true
 |.alloc ..=>true
 |.makeSlice ..=>true
 |_=>false
def IT(ops:List Oper)(bf:List Nat)(s:VS):Bool:=ig ops&&
 ((ops.zipIdx.any fun(o,i)=>Jn o.op&&!dj ops bf i)||
  ((ops.zipIdx.any fun(o,i)=>(match o.op with |.call {callee:=.value _,..}=>true|_=>false)&&!dj ops bf i)&&(AI ops).any fun t=>match bJ t s.env with |some x=>!(PV.di PV.br x).isEmpty|none=>false))
def Kj(X:cq)(T:b4)(ops:List Oper)(bf:List Nat)(s:VS)(k:VS→Prop):Prop:=match IT ops bf s with
 |true=>Ki P X T ops (Nat.succ ops.length) (ops.map fun _=>false) s k
 |false=>match Jj ops bf with
  |true=>vF P X T ops bf ops 0 [] s k
  |false=>BY P X T ops bf ops 0 s k
def ij(ops:List Oper)(s:VS):List Nat:=aW [] ((AI ops).flatMap fun t=>match bJ t s.env with |some x=>PV.di PV.bl x|none=>[])
def py(us:List Nat)(s:VS):VS:=match us with
 |[]=>s
 |us=>s.turn (some (PV.aS (bI us))) (cy (PV.aS (bI us)) s.lh)
def ik(s:VS):VS:=
 ⟨[],s.env.map fun e=>(e.1,match cr e.1 s.loc with |some (none,v)=>v|some (some _,_)=>.undef|none=>e.2),s.lh⟩
def yF(x:PV)(a b:Prop):Prop:=match x with
 |.bool t=>(t=true→a)∧(t=false→b)
 |_=>False
def iN:Code→Nat
 |.region id _ _=>id
 |.seq a b=>iN a
 |.cond _ a _=>iN a
 |.block _ a=>iN a
 |.loop a=>iN a
 |.scope a=>iN a
 |_=>999999
def VS.put(s:VS)(n:Nat)(x:PV):VS:=⟨s.loc,jo n x s.env,s.lh⟩
def VS.drop(s:VS):List Nat→VS
 |[]=>s
 |n::ns=>(s.put n .undef).drop ns
def Lp.into(h:Lp)(s:VS)(body:h.α→VS→Prop):Prop:=s.drop h.dead=h.at_ s (h.get s)∧h.inv s (h.get s)∧∀x,h.inv s x→body x (h.at_ s x)
def r6(s:VS):Prop:=s=s
def Lp.cut(h:Lp)(s s':VS):Prop:=s'.drop h.dead=h.at_ s (h.get s')∧h.inv s (h.get s')
def Lp.back(h:Lp)(s:VS)(x:h.α)(s':VS):Prop:=s'.drop h.dead=h.at_ s (h.get s')∧h.inv s (h.get s')∧h.mu s (h.get s')<h.mu s x
def VS.slot(s:VS)(n:Nat):PV:=(bJ n s.env).getD .undef
def VS.int(s:VS)(n:Nat):Int:=(s.slot n).asInt
def VS.bool(s:VS)(n:Nat):Bool:=(s.slot n).asBool
def VS.str(s:VS)(n:Nat):Bs:=(s.slot n).dc
def VS.bytes(s:VS)(n:Nat):Bs:=(s.slot n).tJ
def VS.strs(s:VS)(n:Nat):List Bs:=(s.slot n).kI
def VS.ints(s:VS)(n:Nat):List Int:=(s.slot n).mJ
def VS.nil(s:VS)(n:Nat):Bool:=(s.slot n).lB
def VS.row(s:VS)(e:VS)(n:Nat)(nl:Bool)(r:aq):VS:=s.put n (match e.slot n with |.row _ _ t=>.row nl r t|_=>.undef)
def tO:List Oper→Bool
 |[]=>true
 |o::os=>(match o.dst with |some d=>os.all (fun q=>match q.dst with |some e=>!Nat.beq d e|none=>true)|none=>true)&&tO os
def il(ops:List Oper):Nat→List Oper→Bool
 |_,[]=>true
 |i,o::os=>(match o.guard with |none=>true|some (j,_)=>Nat.blt j i&&(match(ops[j]?).bind (·.dst)with |some _=>true|none=>false))&&il ops (i+1) os
def r7(N:Nat)(ops:List Oper):Bool:=tO ops&&il ops 0 ops&&ops.all fun o=>match o.dst with |some d=>Nat.blt d N|none=>true
def mI(X:cq)(T:b4)(H:aY)(N:Nat):Nat→Option (Code×(Nat→Option (VS→Prop)))→Code→VS→Jh→Prop
 |0,_,_,_,_=>False
 |fuel+1,some (a,C),c,s,k=>mI X T H N fuel none c s fun e s=>match e with
   |.goto l=>match C l with
    |some J=>J s
    |none=>match findLabel a l with
     |none=>k (.goto l) s
     |some r=>match H (1000000+l)with
      |some h=>h.into s fun n s'=>mI X T H N fuel (some (a,fun l'=>bif Nat.beq l' l then some (h.back s n)else C l')) r s' k
      |none=>mI X T H N fuel (some (a,C)) r s k
   |e=>k e s
 |fuel+1,none,c,s,k=>match c with
  |.skip=>k .normal s
  |.region id ops draw=>match draw,r7 N ops.toList with
   |false,true=>fD P X T ops.toList ops.toList s fun s=>cV (ik s).env fun env=>cV s.lh fun lh=>k .normal ⟨[],env,lh⟩
   |true,true=>match po ops.toList (aR ops.toList)with
    |true=>match H (2000000+id)with
     |some h=>(Kj P X T ops.toList (aR ops.toList) (py (ij ops.toList s) s) fun s'=>cV (ik s').env fun env=>cV s'.lh fun lh=>h.cut s ⟨[],env,lh⟩)∧∀x,h.inv s x→k .normal (h.at_ s x)
     |none=>Kj P X T ops.toList (aR ops.toList) (py (ij ops.toList s) s) fun s=>cV (ik s).env fun env=>cV s.lh fun lh=>k .normal ⟨[],env,lh⟩
    |false=>False
   |_,_=>False
  |.seq a b=>mI X T H N fuel none a s fun e s=>match e with
   |.normal=>mI X T H N fuel none b s k
   |e=>k e s
  |.cond c a b=>yF (bh [] none s c) (mI X T H N fuel none a s k) (mI X T H N fuel none b s k)
  |.block id a=>mI X T H N fuel none a s fun e s=>match e with
   |.exit i=>bif Nat.beq i id then k .normal s else k (.exit i) s
   |e=>k e s
  |.loop a=>match H (iN a)with
   |some h=>h.into s fun n s'=>mI X T H N fuel none a s' fun e s''=>match e with
    |.normal=>h.back s n s''
    |e=>k e s''
   |none=>False
  |.exit id=>k (.exit id) s
  |.scope a=>mI X T H N fuel (some (a,fun _=>none)) a s k
  |.label _=>k .normal s
  |.goto l=>k (.goto l) s
  |.ret=>k .ret s
  |_=>False
end
def Kw(ops:List Oper)(acc:Nat):Nat:=
 (ops.foldl (fun(s:Nat×Nat) o=>((o.op.operands.toList.foldl (fun a x=>match x with |.tmp t=>if b5 s.2 t then a else gU a t|_=>a) s.1),match o.dst with |some d=>gU s.2 d|none=>s.2)) (acc,0)).1
def nY:Code→Nat→Nat
 |.region _ ops _,a=>Kw ops.toList a
 |.seq x y,a=>nY y (nY x a)
 |.cond c x y,a=>nY y (nY x (match c with |.tmp t=>gU a t|_=>a))
 |.block _ x,a=>nY x a
 |.loop x,a=>nY x a
 |.scope x,a=>nY x a
 |_,a=>a
def nZ(fn:Func):Nat:=
 match fn.body with
 |some c=>(List.range (fn.params.size+fn.nfree)).foldl gU (fn.results.toList.foldl (fun a r=>match r with |.tmp t=>gU a t|.cell t _=>gU a t) (nY c 0))
 |none=>0
def slotsOf(m:Nat):Nat→List Nat
 |0=>[]
 |n+1=>bif b5 m n then slotsOf m n++[n]else slotsOf m n
section
variable (P:Program)
def Jo(T:b4)(s:VS)(r:ResultVar):Option PV:=match r with
 |.tmp t=>some ((bJ t s.env).getD .undef)
 |.cell t ty=>match bJ t s.env with
  |some (.ptr n off)=>match pk P T s.lh ty (.ptr n off)with
   |.ok v=>some v
   |_=>none
  |_=>none
def vJ(T:b4)(s:VS):List ResultVar→Option (List PV)
 |[]=>some []
 |r::rs=>match Jo P T s r,vJ T s rs with
  |some x,some xs=>some (x::xs)
  |_,_=>none
def cL(T:b4)(s:VS)(rs:List ResultVar):Option PV:=match vJ P T s rs with
 |some [x]=>some x
 |some xs=>some (.tup xs)
 |none=>none
def BZ(r:Option PV)(k:PV→Prop):Prop:=match r with
 |some r=>bw 4 r fun r=>match PV.di PV.br r with
  |[]=>k (r.ck (PV.aS cR))
  |_=>False
 |none=>False
def gx(xs:List PV):List Nat→List (Nat×PV)
 |[]=>[]
 |t::ts=>(t,xs.getD t .undef)::gx xs ts
def cC(X:cq)(T:b4)(H:aY)(fuel:Nat)(fn:Func)(xs:List PV)(k:PV→Prop):Prop:=
 match fn.body with
 |none=>False
 |some c=>mI P X T H fn.ntmps fuel none c ⟨[],gx xs (slotsOf (nZ fn) fn.ntmps),[]⟩ fun e s=>match e with
  |.normal=>BZ (cL P T s fn.results.toList) k
  |.ret=>BZ (cL P T s fn.results.toList) k
  |_=>False
end
end Go.Vc
