import Derived.Orders
import Derived.Test.YtmfapopclbnlpaaGreatDoorPt1
set_option linter.unusedVariables false
set_option linter.unusedSectionVars false
namespace Go.Vc
structure aF where
 pre:Prop
 r:PV
abbrev cr:=FuncId→List PV→Option aF
inductive Ex where
 |normal|exit (id:Nat)|goto (l:Nat)|ret
abbrev Je:=Ex→VS→Prop
structure Lp where
 α:Type
 at_:VS→α→VS
 get:VS→α
 inv:VS→α→Prop
 mu:VS→α→Nat
 dead:List Nat
abbrev aY:=Nat→Option Lp
def dc:Int:=16777216
def nameOf(d:Option Tmp):Option Nat:=d.map (· +32)
def eR(n:Nat):Nat:=64*n
def Ax(n:Nat)(x:PV)(lh:List (Nat×PV)):List (Nat×PV):=match bK n lh with
 |some _=>jm n x lh
 |none=>(n,x)::lh
section
variable (P:Program)
def Gy(n:Nat)(x:PV)(f:PV→PV)(lh:List (Nat×PV)):r7:=.ok (.ptr n 0) (some f) (Ax n x (cz f lh))
def DS(n lo hi:Nat):PV→PV
 |.row nl r u=>.row nl r (bif Nat.ble lo u&&Nat.blt u hi then 0 else u)
 |.vec nl sz l u=>.vec nl sz l (bif Nat.ble lo u&&Nat.blt u hi then 0 else u)
 |.ep r u i=>.ep r (bif Nat.ble lo u&&Nat.blt u hi then 0 else u) i
 |.epv sz l u i off=>.epv sz l (bif Nat.ble lo u&&Nat.blt u hi then 0 else u) i off
 |x=>x.ig n
def mN(e:TypeId)(d:Option Tmp)(lh:List (Nat×PV)):r7:=match nameOf d with
 |some n=>match mL P e (zeroV P 5 e (eR n))with
  |true=>Gy n (zeroV P 5 e (eR n)) (DS n (eR n) (eR (n+1))) lh
  |false=>.bad 39
 |none=>.bad 40
def BM(e:TypeId)(x:PV)(d:Option Tmp)(lh:List (Nat×PV)):r7:=match nameOf d with
 |some n=>match eQ P e&&x.fit,Nat.beq (typed P e 0 x).wid (aW P e)with
  |true,true=>Gy n (typed P e 0 (x.cm (PV.ig n))) (PV.ig n) lh
  |_,_=>.bad 39
 |none=>.bad 41
def Lb(x:PV):Prop:=match x with
 |.int .u8 z=>o9 z
 |_=>True
def mO(t:TypeId)(a x:PV)(lh:List (Nat×PV)):r7:=match a with
 |.ptr n off=>match bK n lh with
  |some c=>match Nat.beq (typed P t 0 x).wid (aW P t)&&x.fit&&eQ P t&&c.fit,PV.setAt (typed P t 0 x) c off with
   |true,some c'=>.ok (.tup []) none (jm n c' lh)
   |_,_=>.bad 42
  |none=>.bad 45
 |.pix n off z=>match bK n lh with
  |some c=>match c.bY off with
   |some (m,r)=>match jr P t,r.set z x with
    |true,some r'=>match c.mK r' off with
     |some c'=>.cf (within z m∧r.Jb x) (.tup []) none (jm n c' lh)
     |none=>.bad 43
    |_,_=>.bad 38
   |none=>.bad 39
  |none=>.bad 45
 |.ep r u z=>match u,jr P t,r.set z x with
  |u+1,true,some _=>.cf (Lb x) (.tup []) (some (nW (u+1) z x)) (cz (nW (u+1) z x) lh)
  |_,_,_=>.bad 47
 |_=>.bad 37
def yw(x:PV):Option aq:=match x with
 |.str l=>some (.bytes l)
 |.row _ r _=>some r
 |_=>none
def Ay(tx:TypeId):Bool:=match P.underlying tx with
 |some (.slice _)=>true
 |some .string=>true
 |_=>false
def DT(e:TypeId):Nat:=match P.info? e with |some i=>i.bytes|none=>0
def mP(e:TypeId)(sz:Nat):Bool:=eQ P e&&Nat.beq (aW P e) sz&&mL P e (zeroV P 5 e 0)&&Nat.ble (DT P e) 65536
def DU(nl:Bool)(t:Nat)(d:Option Tmp):Option (Nat×Bool):=match t with
 |t+1=>some (t+1,false)
 |0=>match nl with
  |true=>(nameOf d).map fun n=>(n,true)
  |false=>none
def IM(new:Bool)(t:Nat):PV→PV:=PV.aU (match new with |true=>cp t|false=>ly t)
def tO(t tx:TypeId)(x y:PV)(d:Option Tmp)(lh:List (Nat×PV)):r7:=
 match P.underlying t,Ay P tx,x,y with
 |some (.slice e),true,.vec nl sz l tk,.vec _ sz2 q _=>match mP P e sz&&Nat.beq sz sz2,DU nl tk d with
  |true,some (t',new)=>.cf (ak (l++q)≤dc) (.vec (bif q.isEmpty then nl else false) sz (l++q) t') (some (IM new t')) (cz (IM new t') lh)
  |_,_=>.bad 45
 |some (.slice e),true,.row nl r tk,y=>match yw y with
  |some q=>match mP P e 1,r.app q,DU nl tk d with
   |true,some r',some (t',new)=>.cf (r'.len≤dc) (.row (bif q.none? then nl else false) r' t') (some (IM new t')) (cz (IM new t') lh)
   |_,_,_=>.bad 44
  |none=>.bad 43
 |_,_,_,_=>.bad 46
def kH(t:TypeId)(n c:PV)(d:Option Tmp)(lh:List (Nat×PV)):r7:=
 match P.underlying t,n,c,nameOf d with
 |some (.slice e),.int _ a,.int _ b,some tk=>match mP P e (aW P e)with
  |true=>
   let fin (v:PV):r7:=.cf (0≤a∧a≤b∧b≤dc) v (some (PV.aU (cp tk))) (cz (PV.aU (cp tk)) lh)
   match km P e with
   |some (.bytes _)=>fin (.row false (.bytes (List.replicate a.toNat 0)) tk)
   |some (.strs _)=>fin (.row false (.strs (List.replicate a.toNat [])) tk)
   |some (.ints k _)=>fin (.row false (.ints k (List.replicate a.toNat 0)) tk)
   |none=>fin (.vec false (aW P e) (List.replicate a.toNat (zeroV P 5 e 0)) tk)
  |false=>.bad 47
 |_,_,_,_=>.bad 48
def iO(n:Nat)(l:List Nat):Bool:=l.any (Nat.beq n)
def aX(ns:List Nat):List Nat→List Nat
 |[]=>ns
 |m::ms=>aX (bif ns.any (Nat.beq m)then ns else ns++[m]) ms
def bJ(us:List Nat)(u:Nat):Option Nat:=some (bif iO u us then 0 else u)
def vC(n:Nat):List Nat→Nat
 |[]=>0
 |m::l=>bif Nat.beq m n then 0 else Nat.succ (vC n l)
def yo(ms:List Nat)(t:Nat):Option Nat:=bif Nat.beq t 0 then some 0 else bif iO t ms then some (Nat.succ (vC t ms))else none
def BN(ns:List Nat)(n:Nat):Option Nat:=bif iO n ns then some (vC n ns)else none
def yx(n0 t:Nat):Option Nat:=bif Nat.beq t 0 then some 0 else bif Nat.blt t 64 then some (64*n0+t)else none
def Jf(ns:List Nat)(i:Nat):Option Nat:=ns[i]?
def fA(ms:List Nat)(n0 t:Nat):Option Nat:=bif Nat.beq t 0 then some 0 else bif iO t ms||(Nat.ble (64*n0) t&&Nat.blt t (64*n0+64))then none else some t
def PV.dZ(fn ft:Nat→Option Nat):PV→PV
 |.row nl r t=>match ft t with |some u=>.row nl r u|none=>.undef
 |.vec nl sz l t=>match ft t with |some u=>.vec nl sz l u|none=>.undef
 |.ep r t i=>match ft t with |some u=>.ep r u i|none=>.undef
 |.epv sz l t i off=>match ft t with |some u=>.epv sz l u i off|none=>.undef
 |.ptr n off=>match fn n with |some m=>.ptr m off|none=>.undef
 |.pix n off i=>match fn n with |some m=>.pix m off i|none=>.undef
 |.asl n off i k=>match fn n with |some m=>.asl m off i k|none=>.undef
 |x=>x
def lD(lh:List (Nat×PV)):List Nat→Option (List PV)
 |[]=>some []
 |n::ns=>match bK n lh,lD lh ns with
  |some c,some cs=>some (c::cs)
  |_,_=>none
def jt:List Nat→List PV→List (Nat×PV)→List (Nat×PV)
 |n::ns,c::cs,lh=>jm n c (jt ns cs lh)
 |_,_,lh=>lh
def reach(lh:List (Nat×PV)):Nat→List Nat→List Nat
 |0,ns=>ns
 |k+1,ns=>reach lh k (aX ns (ns.flatMap fun n=>match bK n lh with |some c=>PV.dh PV.bw c|none=>[]))
def nodupB:List Nat→Bool
 |[]=>true
 |n::ns=>!iO n ns&&nodupB ns
def r8(X:cr)(f:FuncId)(us ns:List Nat)(xs:List PV)(lh:List (Nat×PV)):r7:=
 match lD lh ns,ns with
 |some cs,n0::_=>match X f (PV.bb (PV.dZ (BN ns) (yo (aX [] (PV.aA PV.bo cs)))) xs++PV.bb (PV.dZ (BN ns) (yo (aX [] (PV.aA PV.bo cs)))) cs)with
  |none=>.bad 50
  |some c=>match c.r with
   |.tup (r::outs)=>match Nat.beq outs.length ns.length&&nodupB ns&&Nat.blt (aX [] (PV.aA PV.bo cs)).length 60,PV.dh PV.bo r,PV.dh PV.bw r,PV.aA PV.bw (PV.bb (PV.dZ (BN ns) (yo (aX [] (PV.aA PV.bo cs)))) xs++PV.bb (PV.dZ (BN ns) (yo (aX [] (PV.aA PV.bo cs)))) cs)with
    |true,[],[],_::_=>.cf c.pre r (some fun y=>(y.aU (bJ us)).aU (fA (aX [] (PV.aA PV.bo cs)) n0)) (jt ns (PV.bb (PV.dZ (Jf ns) (yx n0)) outs) (cz (PV.aU (fA (aX [] (PV.aA PV.bo cs)) n0)) lh))
    |_,_,_,_=>.bad 53
   |_=>.bad 54
 |_,_=>.bad 51
def IN(X:cr)(f:FuncId)(xs:List PV)(lh:List (Nat×PV)):r7:=
 r8 X f (aX [] (PV.aA PV.bo xs)) (reach (cz (PV.aU (bJ (aX [] (PV.aA PV.bo xs)))) lh) 3 (aX [] (PV.aA PV.bw xs))) (PV.bb (PV.aU (bJ (aX [] (PV.aA PV.bo xs)))) xs) (cz (PV.aU (bJ (aX [] (PV.aA PV.bo xs)))) lh)
def ij:Nat:=64000193
def BO(t:Nat):Option Nat:=bif Nat.beq t 0 then some 0 else bif Nat.beq t 1 then some ij else none
def KX(_:Nat):Option Nat:=none
def DV(X:cr)(f:FuncId)(xs:List PV)(lh:List (Nat×PV)):r7:=match PV.aA PV.bw xs with
 |[]=>match X f (PV.bb (PV.aU cR) xs)with
  |none=>.bad 50
  |some c=>match aX [] (PV.aA PV.bo xs),PV.dh PV.bo c.r,PV.dh PV.bw c.r with
   |[],[],[]=>.vneed c.pre c.r
   |us,[],[]=>.cf c.pre c.r (some (PV.aU (bJ us))) (cz (PV.aU (bJ us)) lh)
   |us,[1],[]=>.cf c.pre (c.r.cm (PV.dZ KX BO)) (some fun y=>(y.aU (bJ us)).aU (cp ij)) (cz (PV.aU (cp ij)) (cz (PV.aU (bJ us)) lh))
   |_,_,_=>.bad 52
 |_=>IN X f xs lh
def ju(x:Operand):Bool:=match x with
 |.const (.slice none 0 0)=>true
 |_=>false
def mQ:List TypeId→List PV→List PV
 |t::ts,x::xs=>typed P t 0 x::mQ ts xs
 |[],xs=>xs
 |_,[]=>[]
def Az(s d:TypeId)(x:PV)(t:Option Tmp)(lh:List (Nat×PV)):r7:=match kr P s d x,nameOf t with
 |.cf p (.row false (.bytes l) 0),some n=>.cf p (.row false (.bytes l) n) (some (PV.aU (cp n))) (cz (PV.aU (cp n)) lh)
 |r,_=>r.at
def dk(X:cr)(T:b6)(o:Oper)(xs:List PV)(lh:List (Nat×PV)):r7:=
 match o.op with
 |.move x=>.val (typed P o.type 0 (xs.getD 0 .undef))
 |.assign x=>match ju x,P.underlying o.type,nameOf o.dst with
  |true,some (.slice e),some n=>.ok (fv P true e n) (some (PV.aU (cp n))) (cz (PV.aU (cp n)) lh)
  |_,_,_=>.val (xs.getD 0 .undef)
 |.pick ..=>match xs with
  |[.bool b,x,y]=>.val (pg b x y)
  |_=>.bad 60
 |.alloc e=>mN P e o.dst lh
 |.box e _=>BM P e (xs.getD 0 .undef) o.dst lh
 |.build t ps=>(yu P t (ps.toList.map (·.1)) xs).at
 |.buildSlice t n ps=>match PV.aA PV.bo xs,PV.aA PV.bw xs with
  |[],[]=>(js P t n (ps.toList.map (·.1)) xs).at
  |_,_=>.bad 69
 |.load t _=>(ph P T lh t (xs.getD 0 .undef)).at
 |.store t _ _=>mO P t (xs.getD 0 .undef) (xs.getD 1 .undef) lh
 |.nilCheck _=>match xs with
  |[.ptr n off]=>.val (.ptr n off)
  |[.fn (.func f) a b]=>.val (.fn (.func f) a b)
  |_=>.bad 61
 |.binOp op t _ _ _=>(Jc P op t (xs.getD 0 .undef) (xs.getD 1 .undef)).at
 |.unOp op _ _=>(KV op (xs.getD 0 .undef)).at
 |.convert a b _=>match o.guard with
  |none=>Az P a b (xs.getD 0 .undef) o.dst lh
  |some _=>(kr P a b (xs.getD 0 .undef)).at
 |.makeSlice t _ _=>kH P t (xs.getD 0 .undef) (xs.getD 1 .undef) o.dst lh
 |.slice t _ none none none=>(mM P t (xs.getD 0 .undef) none none).at
 |.slice t _ (some _) none none=>(mM P t (xs.getD 0 .undef) (some (xs.getD 1 .undef)) none).at
 |.slice t _ none (some _) none=>(mM P t (xs.getD 0 .undef) none (some (xs.getD 1 .undef))).at
 |.slice t _ (some _) (some _) none=>(mM P t (xs.getD 0 .undef) (some (xs.getD 1 .undef)) (some (xs.getD 2 .undef))).at
 |.fieldAddr t _ f=>(kG P t (xs.getD 0 .undef) f).at
 |.field t _ f=>(yv P t (xs.getD 0 .undef) f).at
 |.indexAddr t _ _=>(kF P t (xs.getD 0 .undef) (xs.getD 1 .undef)).at
 |.index t _ _=>(yq P t (xs.getD 0 .undef) (xs.getD 1 .undef)).at
 |.extract _ i=>match xs with
  |[.tup l]=>(okV (l.getD i .undef)).at
  |_=>.bad 62
 |.call {callee:=.builtin b,argTypes,..}=>match b,argTypes[0]?with
  |.len,some t=>match xs with
   |[x]=>(Jd P t (typed P t 0 x)).at
   |_=>.bad 63
  |.append,some t=>match argTypes[1]?with
   |some tx=>match xs with
    |[x,y]=>tO P t tx (typed P t 0 x) (typed P tx 0 y) o.dst lh
    |_=>.bad 64
   |none=>.bad 68
  |.min,some _=>match xs with
   |[.int .i64 a,.int .i64 b]=>.val (.int .i64 (min a b))
   |_=>.bad 61
  |.max,some _=>match xs with
   |[.int .i64 a,.int .i64 b]=>.val (.int .i64 (max a b))
   |_=>.bad 62
  |_,_=>.bad 65
 |.call {callee:=.value _,args,argTypes}=>match xs with
  |.fn (.func f) a b::ys=>DV X f (a++mQ P argTypes.toList ys++b) lh
  |_=>.bad 66
 |_=>.bad 67
def gW(a:Nat)(t:Nat):Nat:=Nat.lor a (Nat.pow 2 t)
def b7(a:Nat)(t:Nat):Bool:=Nat.beq (Nat.land (Nat.shiftRight a t) 1) 1
def aT(ops:List Oper):List Nat:=
 (ops.foldl (fun(acc:List Nat) o=>acc++[o.after.toList.foldl (fun s e=>if Region.binds .any e then Nat.lor (gW s e.on) (acc.getD e.on 0)else s) 0]) [])
def fo(ops:List Oper)(o:Oper):List Nat:=
 (o.op.operands.toList.filterMap fun |.tmp t=>some t|_=>none)++
 (match o.guard with
  |some (g,_)=>((ops[g]?).bind (·.dst)).toList
  |none=>[])
def mR(ops:List Oper)(x y:Oper):Bool:=
 (match x.dst with
  |some d=>!(fo ops y).contains d&&y.dst !=some d
  |none=>true)&&
 (match y.dst with
  |some d=>!(fo ops x).contains d
  |none=>true)
def pj(ops:List Oper)(bf:List Nat):Bool:=
 (ops.zipIdx.all fun(o,i)=>o.after.toList.all fun e=>!Region.binds .any e||Nat.blt e.on i)&&(ops.zip bf).zipIdx.all fun((y,by_),j)=>(ops.take j).zipIdx.all fun(x,i)=>b7 by_ i||mR ops x y
def calm(g:Option (Nat×Bool))(s:r7):r7:=match s with
 |.bad n=>match g with
  |some _=>.vneed False .undef
  |none=>.bad n
 |s=>s
def eL(X:cr)(T:b6)(o:Oper)(xs:List PV)(lh:List (Nat×PV)):r7:=calm o.guard (dk P X T o xs lh)
def gx(X:cr)(T:b6)(o:Oper)(xs:List PV)(lh:List (Nat×PV)):r7:=
 match o.op with
 |.convert a b _=>(kr P a b (xs.getD 0 .undef)).at
 |_=>eL P X T o xs lh
def ct(t:Nat):List (Nat×Option (Nat×Bool)×PV)→Option (Option (Nat×Bool)×PV)
 |[]=>none
 |e::l=>bif Nat.beq e.1 t then some e.2 else ct t l
def cP(ops:List Oper):Nat→Option (Nat×Bool)→Option (Nat×Bool)→Bool
 |0,_,_=>false
 |k+1,g,h=>match h with
  |none=>true
  |some (j,b)=>match g with
   |none=>false
   |some (i,a)=>(Nat.beq i j&&(a==b))||cP ops k ((ops[i]?).bind (·.guard)) (some (j,b))
def bl(ops:List Oper)(g:Option (Nat×Bool))(s:VS)(x:Operand):PV:=match x with
 |.tmp t=>match ct t s.loc with
  |some (h,v)=>match cP ops 9 g h with
   |true=>v
   |false=>.undef
  |none=>(bK t s.env).getD .undef
 |.const v=>ofValue v
 |.global g=>.gp g 0
 |.func f=>.fn (.func f) [] []
def dr(ops:List Oper)(s:VS):Nat→Option (Nat×Bool)→Prop →Prop
 |0,_,_=>False
 |k+1,g,p=>match g with
  |none=>p
  |some (j,w)=>match ops[j]?with
   |none=>False
   |some o=>match o.dst.bind fun t=>ct t s.loc with
    |some (_,.bool b)=>dr ops s k o.guard (match w with |true=>b=true→p|false=>b=false→p)
    |_=>False
def ik(ops:List Oper)(s:VS)(c:Operand):Option Nat:=match c with
 |.tmp t=>match ct t s.loc with
  |some _=>ops.findIdx? fun o=>match o.dst with |some d=>Nat.beq d t|none=>false
  |none=>none
 |_=>none
def aM(ops:List Oper)(o:Oper)(s:VS):List PV:=match o.op with
 |.pick c a b=>match ik ops s c with
  |some j=>[bl ops o.guard s c,bl ops (some (j,true)) s a,bl ops (some (j,false)) s b]
  |none=>o.op.operands.toList.map (bl ops o.guard s)
 |op=>op.operands.toList.map (bl ops o.guard s)
def bE(o:Oper)(v:PV)(s:VS):VS:=match o.dst with
 |some d=>{s with loc:=(d,o.guard,v)::s.loc}
 |none=>s
def kI(f:PV→(PV→Prop)→Prop):List PV→(List PV→Prop)→Prop
 |[],k=>k []
 |x::l,k=>f x fun y=>kI f l fun l=>k (y::l)
def pk(r:aq)(k:aq→Prop):Prop:=match r with
 |.bytes l=>k (.bytes l)
 |.strs l=>k (.strs l)
 |.ints i l=>k (.ints i l)
def bC:Nat→PV→(PV→Prop)→Prop
 |0,x,k=>k x
 |n+1,x,k=>match x with
  |.undef=>k .undef
  |.int i z=>k (.int i z)
  |.bool b=>k (.bool b)
  |.str l=>k (.str l)
  |.raw v=>k (.raw v)
  |.arr m r=>pk r fun r=>k (.arr m r)
  |.agg l=>kI (bC n) l fun l=>k (.agg l)
  |.tup l=>kI (bC n) l fun l=>k (.tup l)
  |.row nl r t=>pk r fun r=>k (.row nl r t)
  |.vec nl sz l t=>k (.vec nl sz l t)
  |.ep r t i=>k (.ep r t i)
  |.epv sz l t i off=>k (.epv sz l t i off)
  |.ptr m off=>k (.ptr m off)
  |.pix m off i=>k (.pix m off i)
  |.asl m off a b=>k (.asl m off a b)
  |.gp g off=>k (.gp g off)
  |.gix g off i=>k (.gix g off i)
  |.fn f a b=>k (.fn f a b)
def cU:List (Nat×PV)→(List (Nat×PV)→Prop)→Prop
 |[],k=>k []
 |e::l,k=>bC 4 e.2 fun x=>cU l fun l=>k ((e.1,x)::l)
def yy(t:Nat)(want:Bool)(s:VS)(A B:VS→Prop):Prop:=match ct t s.loc with
 |some (q,.bool b)=>(b=want→A {s with loc:=(t,q,.bool want)::s.loc})∧(b=!want→B {s with loc:=(t,q,.bool (!want))::s.loc})
 |_=>False
def po(ops:List Oper):Nat→VS→Nat×Bool→(VS→Prop)→(VS→Prop)→Prop
 |0,_,_,_,_=>False
 |n+1,s,g,A,B=>match ops[g.1]?with
  |some o=>match o.dst with
   |some t=>match o.guard with
    |none=>yy t g.2 s A B
    |some g'=>po ops n s g' (fun s=>yy t g.2 s A B) fun s=>B {s with loc:=(t,some g',.bool (!g.2))::s.loc}
   |none=>False
  |none=>False
def fB(X:cr)(T:b6)(ops:List Oper):List Oper→VS→(VS→Prop)→Prop
 |[],s,k=>k s
 |o::os,s,k=>match eL P X T o (aM ops o s) s.lh,o.guard with
  |.val v,_=>bC 4 v fun v=>fB X T ops os (bE o v s) k
  |.vneed p v,none=>p∧bC 4 v fun v=>fB X T ops os (bE o v s) k
  |.vneed p v,some g=>dr ops s 9 (some g) p∧bC 4 v fun v=>fB X T ops os (bE o v s) k
  |.ok v f lh,none=>bC 4 v fun v=>fB X T ops os (bE o v (s.turn f lh)) k
  |.cf p v f lh,none=>p∧bC 4 v fun v=>fB X T ops os (bE o v (s.turn f lh)) k
  |.ok v f lh,some g=>po ops 4 s g (fun s=>bC 4 v fun v=>fB X T ops os (bE o v (s.turn f lh)) k) (fun s=>fB X T ops os (bE o .undef s) k)
  |.cf p v f lh,some g=>po ops 4 s g (fun s=>p∧bC 4 v fun v=>fB X T ops os (bE o v (s.turn f lh)) k) (fun s=>fB X T ops os (bE o .undef s) k)
  |_,_=>False
def di(ops:List Oper)(bf:List Nat)(i:Nat):Bool:=(List.range ops.length).all fun j=>Nat.beq j i||(bif Nat.blt j i then b7 (bf.getD i 0) j else b7 (bf.getD j 0) i)
def BP(X:cr)(T:b6)(ops:List Oper)(bf:List Nat):List Oper→Nat→VS→(VS→Prop)→Prop
 |[],_,s,k=>k s
 |o::os,i,s,k=>match di ops bf i with
  |true=>match eL P X T o (aM ops o s) s.lh,o.guard with
   |.val v,_=>bC 4 v fun v=>BP X T ops bf os (i+1) (bE o v s) k
   |.vneed p v,none=>p∧bC 4 v fun v=>BP X T ops bf os (i+1) (bE o v s) k
   |.vneed p v,some g=>dr ops s 9 (some g) p∧bC 4 v fun v=>BP X T ops bf os (i+1) (bE o v s) k
   |.ok v f lh,none=>bC 4 v fun v=>BP X T ops bf os (i+1) (bE o v (s.turn f lh)) k
   |.cf p v f lh,none=>p∧bC 4 v fun v=>BP X T ops bf os (i+1) (bE o v (s.turn f lh)) k
   |_,_=>False
  |false=>match gx P X T o (aM ops o s) s.lh,o.guard with
   |.val v,_=>bC 4 v fun v=>BP X T ops bf os (i+1) (bE o v s) k
   |.vneed p v,none=>p∧bC 4 v fun v=>BP X T ops bf os (i+1) (bE o v s) k
   |.vneed p v,some g=>dr ops s 9 (some g) p∧bC 4 v fun v=>BP X T ops bf os (i+1) (bE o v s) k
   |_,_=>False
def dS:Op→Bool
 |.move _ |.nilCheck _ |.binOp ..|.unOp ..|.slice ..|.fieldAddr ..|.field ..|.indexAddr ..|.index ..|.extract ..|.build ..=>true
 |.assign x=>!ju x
 |.call {callee:=.builtin .len,..}=>true
 |_=>false
inductive Pl where
 |box (n off len:Nat)
 |mark (t:Nat)
 |still
def Gz(p q:Pl):Bool:=match p,q with
 |.box n o l,.box n' o' l'=>!Nat.beq n n'||(Nat.ble (o+l) o'||Nat.ble (o'+l') o)
 |.mark t,.mark t'=>!Nat.beq t t'
 |.still,.still=>false
 |_,_=>true
def Kq(t:TypeId)(x:PV):Option Pl:=match x with
 |.ptr n off=>some (.box n off (match gK P t with |true=>aW P t|false=>1))
 |.ep _ 0 _=>some .still
 |_=>none
def Kr(t:TypeId)(x:PV)(lh:List (Nat×PV)):Option Pl:=match x with
 |.ptr n off=>some (.box n off (aW P t))
 |.pix n off _=>match bK n lh with
  |some c=>match c.bY off with
   |some (m,_)=>some (.box n off m)
   |none=>none
  |none=>none
 |.ep _ (u+1) _=>some (.mark (u+1))
 |_=>none
abbrev GA:=List (Nat×Bool×Pl)
def DW(m:Nat)(st:Bool)(p:Pl)(ms:GA):Bool:=ms.all fun e=>b7 m e.1||((!st&&!e.2.1)||Gz p e.2.2)
def vA(X:cr)(T:b6)(ops:List Oper)(bf:List Nat):List Oper→Nat→GA→VS→(VS→Prop)→Prop
 |[],_,_,s,k=>k s
 |o::os,i,ms,s,k=>match di ops bf i with
  |true=>match eL P X T o (aM ops o s) s.lh,o.guard with
   |.val v,_=>bC 4 v fun v=>vA X T ops bf os (i+1) [] (bE o v s) k
   |.vneed p v,none=>p∧bC 4 v fun v=>vA X T ops bf os (i+1) [] (bE o v s) k
   |.vneed p v,some g=>dr ops s 9 (some g) p∧bC 4 v fun v=>vA X T ops bf os (i+1) [] (bE o v s) k
   |.ok v f lh,none=>bC 4 v fun v=>vA X T ops bf os (i+1) [] (bE o v (s.turn f lh)) k
   |.cf p v f lh,none=>p∧bC 4 v fun v=>vA X T ops bf os (i+1) [] (bE o v (s.turn f lh)) k
   |_,_=>False
  |false=>match dS o.op with
   |true=>match eL P X T o (aM ops o s) s.lh,o.guard with
    |.val v,_=>bC 4 v fun v=>vA X T ops bf os (i+1) ms (bE o v s) k
    |.vneed p v,none=>p∧bC 4 v fun v=>vA X T ops bf os (i+1) ms (bE o v s) k
    |.vneed p v,some g=>dr ops s 9 (some g) p∧bC 4 v fun v=>vA X T ops bf os (i+1) ms (bE o v s) k
    |_,_=>False
   |false=>match o.op with
    |.load t _=>match Kq P t ((aM ops o s).getD 0 .undef)with
     |some p=>match DW (bf.getD i 0) false p ms with
      |true=>match eL P X T o (aM ops o s) s.lh,o.guard with
       |.val v,_=>bC 4 v fun v=>vA X T ops bf os (i+1) ((i,false,p)::ms) (bE o v s) k
       |.vneed q v,none=>q∧bC 4 v fun v=>vA X T ops bf os (i+1) ((i,false,p)::ms) (bE o v s) k
       |.vneed q v,some g=>dr ops s 9 (some g) q∧bC 4 v fun v=>vA X T ops bf os (i+1) ((i,false,p)::ms) (bE o v s) k
       |_,_=>False
      |false=>False
     |none=>False
    |.store t _ _=>match Kr P t ((aM ops o s).getD 0 .undef) s.lh with
     |some p=>match DW (bf.getD i 0) true p ms with
      |true=>match eL P X T o (aM ops o s) s.lh,o.guard with
       |.ok v f lh,none=>bC 4 v fun v=>vA X T ops bf os (i+1) ((i,true,p)::ms) (bE o v (s.turn f lh)) k
       |.cf q v f lh,none=>q∧bC 4 v fun v=>vA X T ops bf os (i+1) ((i,true,p)::ms) (bE o v (s.turn f lh)) k
       |_,_=>False
      |false=>False
     |none=>False
    |_=>False
def Jg(ops:List Oper)(bf:List Nat):Bool:=ops.zipIdx.any fun(o,i)=>(match o.op with |.store ..=>true|_=>false)&&!di ops bf i
def Jh(ops:List Oper)(S:List Bool):List Nat:=(List.range ops.length).filter fun i=>!(S.getD i true)&&(match ops[i]?with |some o=>o.after.toList.all (fun e=>!Region.binds .any e||S.getD e.on false)|none=>false)
def il(ops:List Oper):Bool:=ops.all fun o=>(match o.guard with |none=>true|some _=>false)&&(match o.op with |.pick ..=>false|.select ..=>false|_=>true)
def yz(ops:List Oper)(S:List Bool)(i:Nat):Bool:=match ops[i]?with
 |some o=>dS o.op&&(List.range ops.length).all fun j=>Nat.beq j i||(S.getD j true||(match ops[j]?with |some q=>q.after.toList.any (fun e=>Region.binds .any e&&Nat.beq e.on i)||Oper.apart ops.toArray o q|none=>true))
 |none=>false
def AA(X:cr)(T:b6)(ops:List Oper)(i:Nat)(s:VS)(K:VS→Prop):Prop:=match ops[i]?with
 |none=>False
 |some o=>match eL P X T o (aM ops o s) s.lh with
  |.val v=>bC 4 v fun v=>K (bE o v s)
  |.vneed p v=>p∧bC 4 v fun v=>K (bE o v s)
  |.ok v f lh=>bC 4 v fun v=>K (bE o v (s.turn f lh))
  |.cf p v f lh=>p∧bC 4 v fun v=>K (bE o v (s.turn f lh))
  |_=>False
def Ji:List Nat→(Nat→Prop)→Prop
 |[],_=>True
 |i::is,F=>match is with
  |[]=>F i
  |_=>F i∧Ji is F
def Ke(X:cr)(T:b6)(ops:List Oper):Nat→List Bool→VS→(VS→Prop)→Prop
 |0,_,_,_=>False
 |n+1,S,s,k=>match Jh ops S with
  |[]=>k s
  |r=>match r.find? (yz ops S)with
   |some i=>AA P X T ops i s fun s=>Ke X T ops n (S.set i true) s k
   |none=>Ji r fun i=>AA P X T ops i s fun s=>Ke X T ops n (S.set i true) s k
def Jj(ops:List Oper):List Nat:=ops.flatMap fun o=>match o.op with
 |.call {callee:=.value _,args,..}=>args.toList.filterMap fun |.tmp t=>some t|_=>none
 |_=>[]
def AB(ops:List Oper):List Nat:=let ts:=Jj ops
 ts++ops.filterMap fun o=>match o.op,o.dst with
  |.move (.tmp s),some d=>bif ts.any (Nat.beq d)then some s else none
  |_,_=>none
def Jk(o:Op):Bool:=match o with
 |.call {callee:=.builtin .append,..}=>true
 |.alloc ..=>true
 |.makeSlice ..=>true
 |_=>false
def IP(ops:List Oper)(bf:List Nat)(s:VS):Bool:=il ops&&
 ((ops.zipIdx.any fun(o,i)=>Jk o.op&&!di ops bf i)||
  ((ops.zipIdx.any fun(o,i)=>(match o.op with |.call {callee:=.value _,..}=>true|_=>false)&&!di ops bf i)&&(AB ops).any fun t=>match bK t s.env with |some x=>!(PV.dh PV.bw x).isEmpty|none=>false))
def Kf(X:cr)(T:b6)(ops:List Oper)(bf:List Nat)(s:VS)(k:VS→Prop):Prop:=match IP ops bf s with
 |true=>Ke P X T ops (Nat.succ ops.length) (ops.map fun _=>false) s k
 |false=>match Jg ops bf with
  |true=>vA P X T ops bf ops 0 [] s k
  |false=>BP P X T ops bf ops 0 s k
def im(ops:List Oper)(s:VS):List Nat:=aX [] ((AB ops).flatMap fun t=>match bK t s.env with |some x=>PV.dh PV.bo x|none=>[])
def pq(us:List Nat)(s:VS):VS:=match us with
 |[]=>s
 |us=>s.turn (some (PV.aU (bJ us))) (cz (PV.aU (bJ us)) s.lh)
def iq(s:VS):VS:=
 ⟨[],s.env.map fun e=>(e.1,match ct e.1 s.loc with |some (none,v)=>v|some (some _,_)=>.undef|none=>e.2),s.lh⟩
def yA(x:PV)(a b:Prop):Prop:=match x with
 |.bool t=>(t=true→a)∧(t=false→b)
 |_=>False
def iP:Code→Nat
 |.region id _ _=>id
 |.seq a b=>iP a
 |.cond _ a _=>iP a
 |.block _ a=>iP a
 |.loop a=>iP a
 |.scope a=>iP a
 |_=>999999
def VS.put(s:VS)(n:Nat)(x:PV):VS:=⟨s.loc,jm n x s.env,s.lh⟩
def VS.drop(s:VS):List Nat→VS
 |[]=>s
 |n::ns=>(s.put n .undef).drop ns
def Lp.into(h:Lp)(s:VS)(body:h.α→VS→Prop):Prop:=s.drop h.dead=h.at_ s (h.get s)∧h.inv s (h.get s)∧∀x,h.inv s x→body x (h.at_ s x)
def vD(s:VS):Prop:=s=s
def Lp.cut(h:Lp)(s s':VS):Prop:=s'.drop h.dead=h.at_ s (h.get s')∧h.inv s (h.get s')
def Lp.back(h:Lp)(s:VS)(x:h.α)(s':VS):Prop:=s'.drop h.dead=h.at_ s (h.get s')∧h.inv s (h.get s')∧h.mu s (h.get s')<h.mu s x
def VS.slot(s:VS)(n:Nat):PV:=(bK n s.env).getD .undef
def VS.int(s:VS)(n:Nat):Int:=(s.slot n).asInt
def VS.bool(s:VS)(n:Nat):Bool:=(s.slot n).asBool
def VS.str(s:VS)(n:Nat):Bs:=(s.slot n).db
def VS.bytes(s:VS)(n:Nat):Bs:=(s.slot n).tL
def VS.strs(s:VS)(n:Nat):List Bs:=(s.slot n).kE
def VS.ints(s:VS)(n:Nat):List Int:=(s.slot n).mJ
def VS.nil(s:VS)(n:Nat):Bool:=(s.slot n).lA
def VS.row(s:VS)(e:VS)(n:Nat)(nl:Bool)(r:aq):VS:=s.put n (match e.slot n with |.row _ _ t=>.row nl r t|_=>.undef)
def tP:List Oper→Bool
 |[]=>true
 |o::os=>(match o.dst with |some d=>os.all (fun q=>match q.dst with |some e=>!Nat.beq d e|none=>true)|none=>true)&&tP os
def ir(ops:List Oper):Nat→List Oper→Bool
 |_,[]=>true
 |i,o::os=>(match o.guard with |none=>true|some (j,_)=>Nat.blt j i&&(match(ops[j]?).bind (·.dst)with |some _=>true|none=>false))&&ir ops (i+1) os
def r9(N:Nat)(ops:List Oper):Bool:=tP ops&&ir ops 0 ops&&ops.all fun o=>match o.dst with |some d=>Nat.blt d N|none=>true
def mI(X:cr)(T:b6)(H:aY)(N:Nat):Nat→Option (Code×(Nat→Option (VS→Prop)))→Code→VS→Je→Prop
 |0,_,_,_,_=>False
 |fuel+1,some (a,C),c,s,k=>mI X T H N fuel none c s fun e s=>match e with
   |.goto l=>match C l with
    |some J=>J s
    |none=>match findLabel a l with
     |none=>k (.goto l) s
     |some r=>match H (1000000+l)with
      |some h=>h.into s fun n s'=>mI X T H N fuel (some (a,fun l'=>bif Nat.beq l' l then some (h.back s n)else C l')) r s' k
      |none=>mI X T H N fuel (some (a,C)) r s k
   |e=>k e s
 |fuel+1,none,c,s,k=>match c with
  |.skip=>k .normal s
  |.region id ops draw=>match draw,r9 N ops.toList with
   |false,true=>fB P X T ops.toList ops.toList s fun s=>cU (iq s).env fun env=>cU s.lh fun lh=>k .normal ⟨[],env,lh⟩
   |true,true=>match pj ops.toList (aT ops.toList)with
    |true=>match H (2000000+id)with
     |some h=>(Kf P X T ops.toList (aT ops.toList) (pq (im ops.toList s) s) fun s'=>cU (iq s').env fun env=>cU s'.lh fun lh=>h.cut s ⟨[],env,lh⟩)∧∀x,h.inv s x→k .normal (h.at_ s x)
     |none=>Kf P X T ops.toList (aT ops.toList) (pq (im ops.toList s) s) fun s=>cU (iq s).env fun env=>cU s.lh fun lh=>k .normal ⟨[],env,lh⟩
    |false=>False
   |_,_=>False
  |.seq a b=>mI X T H N fuel none a s fun e s=>match e with
   |.normal=>mI X T H N fuel none b s k
   |e=>k e s
  |.cond c a b=>yA (bl [] none s c) (mI X T H N fuel none a s k) (mI X T H N fuel none b s k)
  |.block id a=>mI X T H N fuel none a s fun e s=>match e with
   |.exit i=>bif Nat.beq i id then k .normal s else k (.exit i) s
   |e=>k e s
  |.loop a=>match H (iP a)with
   |some h=>h.into s fun n s'=>mI X T H N fuel none a s' fun e s''=>match e with
    |.normal=>h.back s n s''
    |e=>k e s''
   |none=>False
  |.exit id=>k (.exit id) s
  |.scope a=>mI X T H N fuel (some (a,fun _=>none)) a s k
  |.label _=>k .normal s
  |.goto l=>k (.goto l) s
  |.ret=>k .ret s
  |_=>False
end
def Ks(ops:List Oper)(acc:Nat):Nat:=
 (ops.foldl (fun(s:Nat×Nat) o=>((o.op.operands.toList.foldl (fun a x=>match x with |.tmp t=>if b7 s.2 t then a else gW a t|_=>a) s.1),match o.dst with |some d=>gW s.2 d|none=>s.2)) (acc,0)).1
def nX:Code→Nat→Nat
 |.region _ ops _,a=>Ks ops.toList a
 |.seq x y,a=>nX y (nX x a)
 |.cond c x y,a=>nX y (nX x (match c with |.tmp t=>gW a t|_=>a))
 |.block _ x,a=>nX x a
 |.loop x,a=>nX x a
 |.scope x,a=>nX x a
 |_,a=>a
def nY(fn:Func):Nat:=
 match fn.body with
 |some c=>(List.range (fn.params.size+fn.nfree)).foldl gW (fn.results.toList.foldl (fun a r=>match r with |.tmp t=>gW a t|.cell t _=>gW a t) (nX c 0))
 |none=>0
def slotsOf(m:Nat):Nat→List Nat
 |0=>[]
 |n+1=>bif b7 m n then slotsOf m n++[n]else slotsOf m n
section
variable (P:Program)
def Jl(T:b6)(s:VS)(r:ResultVar):Option PV:=match r with
 |.tmp t=>some ((bK t s.env).getD .undef)
 |.cell t ty=>match bK t s.env with
  |some (.ptr n off)=>match ph P T s.lh ty (.ptr n off)with
   |.ok v=>some v
   |_=>none
  |_=>none
def vE(T:b6)(s:VS):List ResultVar→Option (List PV)
 |[]=>some []
 |r::rs=>match Jl P T s r,vE T s rs with
  |some x,some xs=>some (x::xs)
  |_,_=>none
def cL(T:b6)(s:VS)(rs:List ResultVar):Option PV:=match vE P T s rs with
 |some [x]=>some x
 |some xs=>some (.tup xs)
 |none=>none
def BQ(r:Option PV)(k:PV→Prop):Prop:=match r with
 |some r=>bC 4 r fun r=>match PV.dh PV.bw r with
  |[]=>k (r.cm (PV.aU cR))
  |_=>False
 |none=>False
def gy(xs:List PV):List Nat→List (Nat×PV)
 |[]=>[]
 |t::ts=>(t,xs.getD t .undef)::gy xs ts
def cD(X:cr)(T:b6)(H:aY)(fuel:Nat)(fn:Func)(xs:List PV)(k:PV→Prop):Prop:=
 match fn.body with
 |none=>False
 |some c=>mI P X T H fn.ntmps fuel none c ⟨[],gy xs (slotsOf (nY fn) fn.ntmps),[]⟩ fun e s=>match e with
  |.normal=>BQ (cL P T s fn.results.toList) k
  |.ret=>BQ (cL P T s fn.results.toList) k
  |_=>False
end
end Go.Vc
