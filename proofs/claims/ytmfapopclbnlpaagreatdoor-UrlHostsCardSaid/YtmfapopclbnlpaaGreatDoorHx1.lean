import Derived.Calls
set_option linter.unusedVariables false
set_option linter.unusedSectionVars false
namespace Go.Vc
abbrev Bs:=List UInt8
def maxLen:Nat:=1099511627776
abbrev bL(a:Array UInt8):Bs:=(ByteArray.mk a).data.toList
def ai {α:Type}(l:List α):Int:=(l.length:Int)
def ag(l:Bs)(z:Int):Int:=((l.getD z.toNat 0).toNat:Int)
def ab {α:Type}(l:List α)(z:Int):List α:=l.take z.toNat
def aa {α:Type}(l:List α)(z:Int):List α:=l.drop z.toNat
def bZ {α:Type}(l:List α)(a b:Int):List α:=(l.take b.toNat).drop a.toNat
def bt(l:List Bs)(z:Int):Bs:=l.getD z.toNat []
def fi(l:List Int)(z:Int):Int:=l.getD z.toNat 0
def aS {α:Type}(l:List α)(z:Int)(x:α):List α:=l.set z.toNat x
def b4(z:Int):UInt8:=UInt8.ofNat z.toNat
inductive al where
 |bytes (l:Bs)
 |strs (l:List Bs)
 |ints (k:IntKind) (l:List Int)
inductive PV where
 |undef
 |int (k:IntKind) (z:Int)
 |bool (b:Bool)
 |str (l:Bs)
 |raw (v:Value)
 |arr (n:Nat) (r:al)
 |agg (l:List PV)
 |tup (l:List PV)
 |row (nl:Bool) (r:al) (t:Nat)
 |vec (nl:Bool) (sz:Nat) (l:List PV) (t:Nat)
 |ep (r:al) (t:Nat) (i:Int)
 |epv (sz:Nat) (l:List PV) (t:Nat) (i:Int) (off:Nat)
 |ptr (n off:Nat)
 |pix (n off:Nat) (i:Int)
 |asl (n off:Nat) (lo len:Int)
 |gp (g off:Nat)
 |gix (g off:Nat) (i:Int)
 |fn (f:Fn) (a b:List PV)
instance:Inhabited PV:=⟨.undef⟩
mutual
def PV.cC(f:PV->PV):PV->PV
 |.agg l=>.agg (PV.bh f l)
 |.tup l=>.tup (PV.bh f l)
 |.fn g a b=>.fn g (PV.bh f a) (PV.bh f b)
 |x=>f x
def PV.bh(f:PV->PV):List PV->List PV
 |[]=>[]
 |x::l=>PV.cC f x::PV.bh f l
end
mutual
def PV.ee {α:Type}(f:PV->List α):PV->List α
 |.agg l=>PV.aC f l
 |.tup l=>PV.aC f l
 |.fn g a b=>PV.aC f a++PV.aC f b
 |x=>f x
def PV.aC {α:Type}(f:PV->List α):List PV->List α
 |[]=>[]
 |x::l=>PV.ee f x++PV.aC f l
end
def PV.bM:PV->List Nat
 |.row _ _ (t+1)=>[t+1]
 |.vec _ _ _ (t+1)=>[t+1]
 |.ep _ (t+1) _=>[t+1]
 |.epv _ _ (t+1) _ _=>[t+1]
 |_=>[]
def PV.bU:PV->List Nat
 |.ptr n _=>[n]
 |.pix n _ _=>[n]
 |.asl n _ _ _=>[n]
 |_=>[]
def PV.aO(f:Nat->Option Nat):PV->PV
 |.row nl r u=>match f u with |some u=>.row nl r u|none=>.undef
 |.vec nl sz l u=>match f u with |some u=>.vec nl sz l u|none=>.undef
 |.ep r u i=>match f u with |some u=>.ep r u i|none=>.undef
 |.epv sz l u i off=>match f u with |some u=>.epv sz l u i off|none=>.undef
 |x=>x
def ng(t u:Nat):Option Nat:=bif Nat.beq u t then none else some u
def cH(t u:Nat):Option Nat:=some (bif Nat.beq u t then 0 else u)
def ig(lo hi u:Nat):Option Nat:=some (bif Nat.ble lo u&&Nat.blt u hi then 0 else u)
def dC(u:Nat):Option Nat:=some 0
def PV.jy(n:Nat):PV->PV
 |.ptr m off=>bif Nat.beq m n then .undef else .ptr m off
 |.pix m off i=>bif Nat.beq m n then .undef else .pix m off i
 |.asl m off i k=>bif Nat.beq m n then .undef else .asl m off i k
 |x=>x
def al.len:al->Int
 |.bytes l=>ai l
 |.strs l=>ai l
 |.ints _ l=>ai l
def al.get(r:al)(i:Int):PV:=
 match r with
 |.bytes l=>.int .u8 (ag l i)
 |.strs l=>.str (bt l i)
 |.ints k l=>.int k (fi l i)
def al.none?:al->Bool
 |.bytes l=>l.isEmpty
 |.strs l=>l.isEmpty
 |.ints _ l=>l.isEmpty
def sameKind(a b:IntKind):Bool:=match a,b with
 |.i8,.i8|.i16,.i16|.i32,.i32|.i64,.i64|.u8,.u8|.u16,.u16|.u32,.u32|.u64,.u64=>true
 |_,_=>false
def al.app(r q:al):Option al:=
 match r,q with
 |.bytes l,.bytes m=>some (.bytes (l++m))
 |.strs l,.strs m=>some (.strs (l++m))
 |.ints k l,.ints j m=>match sameKind k j with
  |true=>some (.ints k (l++m))
  |false=>none
 |_,_=>none
def al.set(r:al)(i:Int)(x:PV):Option al:=
 match r,x with
 |.bytes l,.int .u8 z=>some (.bytes (aS l i (b4 z)))
 |.strs l,.str s=>some (.strs (aS l i s))
 |.ints k l,.int j z=>match sameKind k j with
  |true=>some (.ints k (aS l i z))
  |false=>none
 |_,_=>none
def setOf(r:al)(i:Int)(x:PV)(k:al->PV):PV:=match r.set i x with
 |some r'=>k r'
 |none=>.undef
def qd(t:Nat)(i:Int)(x:PV):PV->PV
 |.row nl r u=>bif Nat.beq u t then setOf r i x (fun r'=>.row nl r' u)else .row nl r u
 |.ep r u j=>bif Nat.beq u t then setOf r i x (fun r'=>.ep r' u j)else .ep r u j
 |.vec nl sz l u=>bif Nat.beq u t then .undef else .vec nl sz l u
 |.epv sz l u j off=>bif Nat.beq u t then .undef else .epv sz l u j off
 |y=>y
def al.OC(r:al)(i:Nat)(x:PV):Option al:=
 match r,x with
 |.strs l,.str s=>some (.strs (l.set i s))
 |.ints k l,.int j z=>match sameKind k j with
  |true=>some (.ints k (l.set i z))
  |false=>none
 |_,_=>none
def rK(z:Int):Prop:=0<=z/\z<=255
def al.OD(r:al)(x:PV):Prop:=match r,x with
 |.bytes _,.int _ z=>rK z
 |_,_=>True
def PV.asInt:PV->Int|.int _ z=>z|_=>0
def PV.asBool:PV->Bool|.bool b=>b|_=>false
def PV.dS:PV->Bs|.str l=>l|_=>[]
def PV.N6:PV->Value|.raw v=>v|_=>.tuple #[]
def PV.nh:PV->Bool|.row n _ _=>n|.vec n _ _ _=>n|_=>true
def PV.xa:PV->Bs|.row _ (.bytes l) _=>l|.arr _ (.bytes l)=>l|_=>[]
def PV.mh:PV->List Bs|.row _ (.strs l) _=>l|.arr _ (.strs l)=>l|_=>[]
def PV.oI:PV->List Int|.row _ (.ints _ l) _=>l|.arr _ (.ints _ l)=>l|_=>[]
def PV.PX:PV->List PV|.vec _ _ l _=>l|_=>[]
def PY(l:List PV)(z:Int):PV:=l.getD z.toNat .undef
def PV.part(x:PV)(j:Nat):PV:=match x with |.agg l=>l.getD j .undef|_=>.undef
mutual
def PV.wid:PV->Nat
 |.agg l=>PV.kx l
 |.arr n _=>n
 |_=>1
def PV.kx:List PV->Nat
 |[]=>0
 |x::l=>PV.wid x+PV.kx l
end
mutual
def PV.eM(whole:Bool)(sz:Nat):PV->Nat->PV
 |.agg l,off=>match whole&&Nat.beq off 0&&Nat.beq (PV.kx l) sz with
  |true=>.agg l
  |false=>PV.iH whole sz l off
 |.arr n r,off=>match whole&&Nat.beq off 0&&Nat.beq n sz with
  |true=>.arr n r
  |false=>match Nat.blt off n with
   |true=>r.get (off:Int)
   |false=>.undef
 |x,off=>match Nat.beq off 0 with
  |true=>x
  |false=>.undef
def PV.iH(whole:Bool)(sz:Nat):List PV->Nat->PV
 |[],_=>.undef
 |x::l,off=>match Nat.blt off (PV.wid x)with
  |true=>PV.eM whole sz x off
  |false=>PV.iH whole sz l (off-PV.wid x)
end
mutual
def PV.setAt(y:PV):PV->Nat->Option PV
 |.agg l,off=>match Nat.beq off 0&&Nat.beq (PV.kx l) (PV.wid y)&&(match y with |.agg _=>true|_=>false)with
  |true=>some y
  |false=>(PV.rL y l off).map .agg
 |.arr n r,off=>match Nat.beq off 0&&(match y with |.arr m _=>Nat.beq m n|_=>false)with
  |true=>some y
  |false=>match Nat.blt off n with
   |true=>(r.OC off y).map (.arr n)
   |false=>none
 |x,off=>match Nat.beq off 0&&Nat.beq (PV.wid y) 1 with
  |true=>some y
  |false=>none
def PV.rL(y:PV):List PV->Nat->Option (List PV)
 |[],_=>none
 |x::l,off=>match Nat.blt off (PV.wid x)with
  |true=>(PV.setAt y x off).map (· ::l)
  |false=>(PV.rL y l (off-PV.wid x)).map (x::·)
end
mutual
def PV.cv:PV->Nat->Option (Nat×al)
 |.agg l,off=>PV.kD l off
 |.arr n r,off=>match Nat.beq off 0 with
  |true=>some (n,r)
  |false=>none
 |_,_=>none
def PV.kD:List PV->Nat->Option (Nat×al)
 |[],_=>none
 |x::l,off=>match Nat.blt off (PV.wid x)with
  |true=>PV.cv x off
  |false=>PV.kD l (off-PV.wid x)
end
mutual
def PV.oJ(q:al):PV->Nat->Option PV
 |.agg l,off=>(PV.ni q l off).map .agg
 |.arr n r,off=>match Nat.beq off 0 with
  |true=>some (.arr n q)
  |false=>none
 |_,_=>none
def PV.ni(q:al):List PV->Nat->Option (List PV)
 |[],_=>none
 |x::l,off=>match Nat.blt off (PV.wid x)with
  |true=>(PV.oJ q x off).map (· ::l)
  |false=>(PV.ni q l (off-PV.wid x)).map (x::·)
end
inductive eN where
 |ok (v:PV)
 |cE (p:Prop) (v:PV)
 |bad (n:Nat)
structure VS where
 loc:List (Nat×Option (Nat×Bool)×PV)
 env:List (Nat×PV)
 lh:List (Nat×PV)
inductive u6 where
 |val (v:PV)
 |vneed (p:Prop) (v:PV)
 |ok (v:PV) (f:Option (PV->PV)) (lh:List (Nat×PV))
 |cE (p:Prop) (v:PV) (f:Option (PV->PV)) (lh:List (Nat×PV))
 |bad (n:Nat)
def eN.at(r:eN):u6:=match r with
 |.ok v=>.val v
 |.cE p v=>.vneed p v
 |.bad n=>.bad n
def b6 {α:Type}(n:Nat):List (Nat×α)->Option α
 |[]=>none
 |e::l=>bif Nat.beq e.1 n then some e.2 else b6 n l
def iI {α:Type}(n:Nat)(x:α):List (Nat×α)->List (Nat×α)
 |[]=>[]
 |e::l=>bif Nat.beq e.1 n then(n,x)::l else e::iI n x l
def VS.turn(f:Option (PV->PV))(lh:List (Nat×PV))(s:VS):VS:=match f with
 |none=>⟨s.loc,s.env,lh⟩
 |some f=>⟨s.loc.map fun e=>(e.1,e.2.1,e.2.2.cC f),s.env.map fun e=>(e.1,e.2.cC f),lh⟩
def cT(f:PV->PV)(lh:List (Nat×PV)):List (Nat×PV):=lh.map fun e=>(e.1,e.2.cC f)
section
variable (P:Program)
def aY(t:TypeId):Nat:=match P.info? t with |some i=>i.size|none=>0
def fQ(t:TypeId):Bool:=(P.underlying t).isSome
def nj(t:TypeId):Bool:=match P.underlying t with
 |some (.struct _)=>true
 |some (.array _ _)=>true
 |_=>false
def lS(e:TypeId):Option al:=match P.underlying e with
 |some (.int .u8)=>some (.bytes [])
 |some .string=>some (.strs [])
 |some (.int k)=>some (.ints k [])
 |_=>none
def gL(nl:Bool)(e:TypeId)(t:Nat):PV:=match lS P e with
 |some r=>.row nl r t
 |none=>.vec nl (aY P e) [] t
def typed(t:TypeId)(tok:Nat)(x:PV):PV:=match x with
 |.raw (.slice none 0 0)=>match P.underlying t with
  |some (.slice e)=>gL P true e tok
  |_=>x
 |x=>x
def ofValue(v:Value):PV:=match v with
 |.int k n=>.int k n
 |.bool b=>.bool b
 |.string s=>.str s.data.toList
 |.agg _=>.undef
 |.tuple _=>.undef
 |v=>.raw v
def Co:Nat->TypeId->PV->PV
 |0,_,_=>.undef
 |n+1,t,c=>match P.underlying t with
  |some (.int k)=>.int k c.asInt
  |some .bool=>.bool c.asBool
  |some .string=>.str c.dS
  |some (.slice e)=>match lS P e with
   |some (.bytes _)=>.row c.nh (.bytes c.xa) 0
   |some (.strs _)=>.row c.nh (.strs c.mh) 0
   |some (.ints k _)=>.row c.nh (.ints k c.oI) 0
   |none=>.vec c.nh (aY P e) c.PX 0
  |some (.complex _)=>.raw c.N6
  |some (.float _)=>.raw c.N6
  |some (.struct fs)=>.agg (fs.toList.zipIdx.map fun e=>Co n e.1.type (c.part e.2))
  |some (.array len e)=>match lS P e with
   |some (.bytes _)=>.arr len (.bytes c.xa)
   |some (.strs _)=>.arr len (.strs c.mh)
   |some (.ints k _)=>.arr len (.ints k c.oI)
   |none=>.agg ((List.range len).map fun i=>Co n e (c.part i))
  |_=>.undef
def zeroV:Nat->TypeId->Nat->PV
 |0,_,_=>.undef
 |n+1,t,tok=>match P.underlying t with
  |some (.struct fs)=>.agg (fs.toList.map fun f=>zeroV n f.type (match tok with |0=>0|k=>k+f.offset))
  |some (.array len e)=>match lS P e with
   |some (.bytes _)=>.arr len (.bytes (List.replicate len 0))
   |some (.strs _)=>.arr len (.strs (List.replicate len []))
   |some (.ints k _)=>.arr len (.ints k (List.replicate len 0))
   |none=>.agg ((List.range len).map fun i=>zeroV n e (match tok with |0=>0|k=>k+i*aY P e))
  |some (.int k)=>.int k 0
  |some .bool=>.bool false
  |some .string=>.str []
  |some (.slice e)=>gL P true e tok
  |some (.pointer _)=>.raw (.pointer none)
  |some (.map _ _)=>.raw (.map none)
  |some (.func _ _ _)=>.raw .nilFunc
  |some (.complex k)=>.raw (.complex k 0 0)
  |some (.float k)=>.raw (.float k 0)
  |some (.interface _)=>.raw .nilIface
  |_=>.undef
def al.aM:al->List Value
 |.bytes l=>l.map fun c=>.int .u8 (c.toNat:Int)
 |.strs l=>l.map fun s=>.string ⟨s.toArray⟩
 |.ints k l=>l.map fun z=>.int k z
def PV.isAgg:PV->Bool
 |.agg _=>true
 |.arr _ _=>true
 |.tup _=>true
 |_=>false
def PZ:Value->Bool
 |.agg _=>false
 |.tuple _=>false
 |_=>true
def PV.fit:PV->Bool
 |.undef=>false
 |.tup _=>false
 |_=>true
def PV.cR:PV->Option (List Value)
 |.int k z=>some [.int k z]
 |.bool b=>some [.bool b]
 |.str l=>some [.string ⟨l.toArray⟩]
 |.raw u=>match PZ u with
  |true=>some [u]
  |false=>none
 |.arr n r=>match Nat.beq r.aM.length n with
  |true=>some r.aM
  |false=>none
 |.row true r _=>match r.none? with
  |true=>some [.slice none 0 0]
  |false=>none
 |.vec true _ [] _=>some [.slice none 0 0]
 |.agg l=>zs l
 |_=>none
where zs:List PV->Option (List Value)
 |[]=>some []
 |x::l=>match PV.cR x,zs l with
  |some a,some b=>some (a++b)
  |_,_=>none
def Qv:Value->Value->Bool
 |.int k a,.int j b=>sameKind k j&&decide (a=b)
 |.bool a,.bool b=>a==b
 |.string a,.string b=>decide (a.data.toList=b.data.toList)
 |.pointer none,.pointer none=>true
 |.slice none 0 0,.slice none 0 0=>true
 |.map none,.map none=>true
 |.nilFunc,.nilFunc=>true
 |.nilIface,.nilIface=>true
 |.complex .f64 a b,.complex .f64 c d=>Nat.beq a c&&Nat.beq b d
 |.float .f64 a,.float .f64 b=>Nat.beq a b
 |_,_=>false
def Mh:List Value->List Value->Bool
 |[],[]=>true
 |x::l,y::m=>Qv x y&&Mh l m
 |_,_=>false
def oK(t:TypeId)(x:PV):Bool:=match P.info? t,x.cR with
 |some i,some cs=>match i.zero with
  |some z=>Mh cs z.cells.toList&&Nat.beq x.wid i.size&&Nat.beq cs.length i.size&&(match z,x.isAgg with |.agg _,b=>b|_,b=>!b)
  |none=>false
 |_,_=>false
def Jc:Bs->Bs->Bool
 |_,[]=>false
 |[],_::_=>true
 |a::x,b::y=>decide (a.toNat<b.toNat)||(decide (a=b)&&Jc x y)
def av(z:Int):Prop:=-9223372036854775808<=z/\z<=9223372036854775807
def Gi(k:IntKind)(z:Int):eN:=match k with
 |.i64=>.cE (av z) (.int .i64 z)
 |k=>.ok (.int k (k.wrap z))
def eH(op:BinOp)(k:IntKind)(x y:Int):Int:=
 let a:=BitVec.ofInt k.bits x
 let b:=BitVec.ofInt k.bits y
 match op with
 |.and=>k.wrap (a&&&b).toNat
 |.or=>k.wrap (a|||b).toNat
 |.xor=>k.wrap (a^^^b).toNat
 |_=>k.wrap (a&&&~~~b).toNat
def lT(k:IntKind)(a b:Int):Int:=k.wrap (a*2^min b.toNat k.bits)
def jX(k:IntKind)(a b:Int):Int:=a.fdiv (2^min b.toNat k.bits)
def P0(op:BinOp)(k:IntKind)(a b:Int):eN:=match op with
 |.add=>Gi k (a+b)
 |.sub=>Gi k (a-b)
 |.mul=>Gi k (a*b)
 |.quo=>match k with
  |.i64=>.cE (0<=a/\0<b/\a<=9223372036854775807) (.int .i64 (a/b))
  |k=>.cE (0<=a/\0<b) (.int k (k.wrap (a/b)))
 |.rem=>.cE (0<=a/\0<b) (.int k (a %b))
 |.and=>.ok (.int k (eH .and k a b))
 |.or=>.ok (.int k (eH .or k a b))
 |.xor=>.ok (.int k (eH .xor k a b))
 |.andNot=>.ok (.int k (eH .andNot k a b))
 |.eql=>.ok (.bool (decide (a=b)))
 |.neq=>.ok (.bool (!decide (a=b)))
 |.lss=>.ok (.bool (decide (a<b)))
 |.leq=>.ok (.bool (decide (a<=b)))
 |.gtr=>.ok (.bool (decide (b<a)))
 |.geq=>.ok (.bool (decide (b<=a)))
 |_=>.bad 1
def P1(op:BinOp)(a b:Bs):eN:=match op with
 |.add=>.cE (a.length+b.length<=maxLen) (.str (a++b))
 |.eql=>.ok (.bool (decide (a=b)))
 |.neq=>.ok (.bool (!decide (a=b)))
 |.lss=>.ok (.bool (Jc a b))
 |.geq=>.ok (.bool (!Jc a b))
 |.gtr=>.ok (.bool (Jc b a))
 |.leq=>.ok (.bool (!Jc b a))
 |_=>.bad 2
def gM(t:TypeId)(x:PV)(off:Nat):PV:=
 let y:=PV.eM (nj P t) (aY P t) x off
 match fQ P t,nj P t,y.isAgg,Nat.beq y.wid (aY P t)with
 |true,true,true,true=>y
 |true,false,false,_=>y
 |_,_,_,_=>.undef
def Gj:PV->Option (Nat×Bool)
 |.row nl _ _=>some (1,nl)
 |.vec nl _ _ _=>some (1,nl)
 |.raw (.pointer none)=>some (0,true)
 |.raw (.map none)=>some (2,true)
 |.raw .nilFunc=>some (3,true)
 |.raw (.slice none 0 0)=>some (1,true)
 |.ptr _ _=>some (0,false)
 |.fn _ _ _=>some (3,false)
 |_=>none
def xb:PV->Bool
 |.raw (.pointer none)=>true
 |.raw (.map none)=>true
 |.raw .nilFunc=>true
 |.raw (.slice none 0 0)=>true
 |_=>false
def Je(eq:TypeId->PV->PV->Option Bool)(x y:PV):List Field->Option Bool
 |[]=>some true
 |f::fs=>match f.name== "_",eq f.type (gM P f.type x f.offset) (gM P f.type y f.offset),Je eq x y fs with
  |false,some a,some b=>some (a&&b)
  |_,_,_=>none
def zd:Nat->TypeId->PV->PV->Option Bool
 |0,_,_,_=>none
 |n+1,t,x,y=>match P.underlying t,x,y with
  |some .bool,.bool a,.bool b=>some (a==b)
  |some (.int _),.int k a,.int j b=>match sameKind k j with
   |true=>some (decide (a=b))
   |false=>none
  |some .string,.str a,.str b=>some (decide (a=b))
  |some (.array len e),.arr p (.ints k a),.arr q (.ints j b)=>match sameKind k j&&Nat.beq p len&&Nat.beq q len&&Nat.beq (aY P e) 1&&fQ P e,P.underlying e with
   |true,some (.int _)=>some (decide (a=b))
   |_,_=>none
  |some (.struct fs),.agg l,.agg m=>match P.stoodInHeld t||P.eqGuardType P.depth t with
   |false=>Je P (zd n) (.agg l) (.agg m) fs.toList
   |true=>none
  |_,_,_=>none
def P2(neg b:Bool):Bool:=match neg with |true=>!b|false=>b
def rl(t:TypeId)(x:PV):Bool:=match x with
 |.agg _=>!P.eqGuardType P.depth t
 |.arr _ _=>!P.eqGuardType P.depth t
 |_=>true
def N7(neg:Bool)(t:TypeId)(x y:PV):eN:=
 let fin (b:Bool):eN:=.ok (.bool (P2 neg b))
 match rl P t x,zd P 6 t x y with
 |true,some b=>fin b
 |_,_=>match P.underlying t with
  |some (.pointer _)=>nilR 0 fin x y
  |some (.slice _)=>nilR 1 fin x y
  |some (.map _ _)=>nilR 2 fin x y
  |some (.func _ _ _)=>nilR 3 fin x y
  |_=>.bad 3
where
 nilR (q:Nat) (fin:Bool->eN) (x y:PV):eN:=match Gj x,Gj y with
  |some (i,a),some (j,b)=>match Nat.beq i q&&Nat.beq j q,xb y,xb x with
   |true,true,_=>fin a
   |true,false,true=>fin b
   |_,_,_=>.bad 5
  |_,_=>.bad 6
def OE(op:BinOp)(t:TypeId)(x y:PV):eN:=
 match x,y with
 |.int k a,.int j b=>match op with
  |.shl=>.cE (0<=b) (.int k (lT k a b))
  |.shr=>.cE (0<=b) (.int k (jX k a b))
  |op=>match sameKind k j with
   |true=>P0 op k a b
   |false=>.bad 7
 |.str a,.str b=>P1 op a b
 |.raw a,.raw b=>match op with
  |.eql=>N7 P false t x y
  |.neq=>N7 P true t x y
  |_=>.bad 8
 |x,y=>match op with
  |.eql=>N7 P false t x y
  |.neq=>N7 P true t x y
  |_=>.bad 8
def Qw(op:UnOp)(x:PV):eN:=
 match op,x with
 |.not,.bool b=>.ok (.bool (!b))
 |.neg,.int k z=>Gi k (0-z)
 |.xor,.int k z=>.ok (.int k (eH .xor k (match k.signed with |true=>-1|false=>k.max) z))
 |_,_=>.bad 9
def lX(src dst:TypeId)(x:PV):eN:=
 match P.underlying src,P.underlying dst,x with
 |some (.int _),some (.int k),.int _ z=>.ok (.int k (k.wrap z))
 |some .string,some .string,.str l=>.ok (.str l)
 |some .string,some (.slice e),.str l=>match lS P e with
  |some (.bytes _)=>.cE (l.length<=maxLen) (.row false (.bytes l) 0)
  |_=>.bad 10
 |some (.slice e),some .string,.row _ (.bytes l) _=>match lS P e with
  |some (.bytes _)=>.ok (.str l)
  |_=>.bad 11
 |_,_,_=>.bad 12
def OF(t:TypeId)(x:PV):eN:=
 match P.underlying t,x with
 |some .string,.str l=>.ok (.int .i64 (ai l))
 |some (.slice _),.row _ r _=>.ok (.int .i64 r.len)
 |some (.slice _),.vec _ _ l _=>.ok (.int .i64 (ai l))
 |some (.slice _),.asl _ _ _ n=>.ok (.int .i64 n)
 |some (.array n _),_=>.ok (.int .i64 (n:Int))
 |_,_=>.bad 13
def okV(x:PV):eN:=match x with
 |.undef=>.bad 33
 |x=>.ok x
def within(i:Int)(n:Int):Prop:=0<=i/\i<n
def kE(e:TypeId):Bool:=fQ P e&&Nat.beq (aY P e) 1&&!nj P e
def Cp(t:TypeId)(x:PV)(i:PV):eN:=
 match P.underlying t,x,i with
 |some .string,.str l,.int _ z=>.cE (within z (ai l)) (.int .u8 (ag l z))
 |some (.array m e),.arr n r,.int _ z=>match kE P e&&Nat.beq m n with
  |true=>.cE (within z n) (r.get z)
  |false=>.bad 15
 |some (.array m e),.agg l,.int _ (.ofNat k)=>match Nat.blt k m with
  |true=>okV (gM P e (.agg l) (k*aY P e))
  |false=>.bad 14
 |_,_,_=>.bad 16
def upto(a b n:Int):Prop:=0<=a/\a<=b/\b<=n
def Jf(n:Int)(lo hi:Option PV)(k:Int->Int->PV):eN:=match lo,hi with
 |none,none=>.ok (k 0 n)
 |some (.int _ a),none=>.cE (upto a n n) (k a n)
 |none,some (.int _ b)=>.cE (upto 0 b n) (k 0 b)
 |some (.int _ a),some (.int _ b)=>.cE (upto a b n) (k a b)
 |_,_=>.bad 17
def Cq {α:Type}(lo hi:Option PV)(l:List α)(a b:Int):List α:=match lo,hi with
 |none,none=>l
 |some _,none=>aa l a
 |none,some _=>ab l b
 |some _,some _=>bZ l a b
def eO(lo hi:Option PV)(r:al)(a b:Int):al:=match r with
 |.bytes l=>.bytes (Cq lo hi l a b)
 |.strs l=>.strs (Cq lo hi l a b)
 |.ints k l=>.ints k (Cq lo hi l a b)
def oL(t:TypeId)(x:PV)(lo hi:Option PV):eN:=
 match P.underlying t,x with
 |some .string,.str l=>Jf (ai l) lo hi fun a b=>.str (Cq lo hi l a b)
 |some (.slice e),.row nl r t=>match fQ P e&&Nat.beq (aY P e) 1&&(Nat.beq t 0||lo.isNone)with
  |true=>Jf r.len lo hi fun a b=>.row nl (eO lo hi r a b) t
  |false=>.bad 18
 |some (.slice e),.vec nl sz l t=>match fQ P e&&Nat.beq (aY P e) sz&&(Nat.beq t 0||lo.isNone)with
  |true=>Jf (ai l) lo hi fun a b=>.vec nl sz (Cq lo hi l a b) t
  |false=>.bad 19
 |_,_=>.bad 17
def rM(place:Nat->Option (Nat×TypeId)):List Nat->List PV->PV->Option PV
 |[],[],c=>some c
 |i::is,x::xs,c=>match place i with
  |some (off,t)=>match Nat.beq (typed P t 0 x).wid (aY P t)&&x.fit&&fQ P t,PV.setAt (typed P t 0 x) c off with
   |true,some c=>rM place is xs c
   |_,_=>none
  |none=>none
 |_,_,_=>none
def Cr(t:TypeId)(ps:List Nat)(xs:List PV):eN:=
 match oK P t (zeroV P 5 t 0),P.underlying t with
 |true,some (.struct fs)=>match fs.toList.all (fun f=>fQ P f.type),rM P (fun i=>(fs[i]?).map fun f=>(f.offset,f.type)) ps xs (zeroV P 5 t 0)with
  |true,some c=>.ok c
  |_,_=>.bad 18
 |true,some (.array _ e)=>match fQ P e,rM P (fun i=>some (i*aY P e,e)) ps xs (zeroV P 5 t 0)with
  |true,some c=>.ok c
  |_,_=>.bad 19
 |_,_=>.bad 20
def Qx:PV->Bool|.int .u8 _=>true|_=>false
def isS:PV->Bool|.str _=>true|_=>false
def QS(k:IntKind):PV->Bool|.int j _=>sameKind k j|_=>false
def Gk(f:PV->Bool):List PV->Bool
 |[]=>true
 |x::l=>f x&&Gk f l
def jz:List PV->Prop
 |[]=>True
 |[x]=>rK x.asInt
 |x::l=>rK x.asInt/\jz l
def rowOf(e:TypeId)(xs:List PV):eN:=match lS P e with
 |some (.bytes _)=>match Gk Qx xs&&Nat.beq (aY P e) 1 with
  |true=>.cE (jz xs) (.row false (.bytes (xs.map fun x=>b4 x.asInt)) 0)
  |false=>.bad 61
 |some (.strs _)=>match Gk isS xs&&Nat.beq (aY P e) 1 with
  |true=>.ok (.row false (.strs (xs.map PV.dS)) 0)
  |false=>.bad 62
 |some (.ints k _)=>match Gk (QS k) xs&&Nat.beq (aY P e) 1 with
  |true=>.ok (.row false (.ints k (xs.map PV.asInt)) 0)
  |false=>.bad 63
 |none=>.ok (.vec false (aY P e) (xs.map (typed P e 0)) 0)
def Mi(e:TypeId):List PV->Bool
 |[]=>true
 |x::l=>Nat.beq (typed P e 0 x).wid (aY P e)&&x.fit&&Mi e l
def xc:List Nat->Nat->Bool
 |[],_=>true
 |i::is,n=>Nat.beq i n&&xc is (n+1)
def kF(t:TypeId)(len:Nat)(ps:List Nat)(xs:List PV):eN:=
 match P.underlying t with
 |some (.slice e)=>match xc ps 0&&Nat.beq ps.length len&&Nat.beq xs.length len&&fQ P e&&Mi P e xs&&Nat.ble (len*aY P e) 4096&&oK P e (zeroV P 5 e 0)with
  |true=>rowOf P e xs
  |false=>.bad 64
 |_=>.bad 21
def Cs(t:TypeId)(x:PV)(f:Nat):eN:=
 match P.underlying t,x with
 |some (.struct fs),.agg l=>match fs[f]?with
  |some g=>okV (gM P g.type (.agg l) g.offset)
  |none=>.bad 22
 |_,_=>.bad 23
def mi(t:TypeId)(x i:PV):eN:=
 match P.underlying t,x,i with
 |some (.slice e),.row _ r t,.int _ z=>match fQ P e&&Nat.beq (aY P e) 1 with
  |true=>.cE (within z r.len) (.ep r t z)
  |false=>.bad 20
 |some (.slice e),.vec _ sz l t,.int _ z=>match fQ P e&&Nat.beq (aY P e) sz with
  |true=>.cE (within z (ai l)) (.epv sz l t z 0)
  |false=>.bad 21
 |some (.array n e),.ptr b off,.int _ z=>match kE P e with
  |true=>.cE (within z n) (.pix b off z)
  |false=>.bad 22
 |some (.array n e),.gp b off,.int _ z=>match kE P e with
  |true=>.cE (within z n) (.gix b off z)
  |false=>.bad 22
 |_,_,_=>.bad 24
def mj(t:TypeId)(x:PV)(f:Nat):eN:=
 match P.underlying t with
 |some (.struct fs)=>match fs[f]?with
  |some g=>match fQ P g.type&&!Nat.beq (aY P g.type) 0,x with
   |true,.ptr b off=>.ok (.ptr b (off+g.offset))
   |true,.epv sz l t i off=>.ok (.epv sz l t i (off+g.offset))
   |true,.gp b off=>.ok (.gp b (off+g.offset))
   |_,_=>.bad 25
  |none=>.bad 26
 |_=>.bad 28
def rN(b:Bool)(x y:PV):PV:=
 match x,y with
 |.bool p,.bool q=>.bool (bif b then p else q)
 |.int k p,.int j q=>match sameKind k j with
  |true=>.int k (bif b then p else q)
  |false=>bif b then .int k p else .int j q
 |.str p,.str q=>.str (bif b then p else q)
 |x,y=>bif b then x else y
abbrev cO:=Nat->PV
def EF(x:Option (Nat×al))(z:Int):eN:=match x with
 |some (n,r)=>.cE (within z n) (r.get z)
 |none=>.bad 32
def EG(t:TypeId)(x:PV):eN:=match Co P 5 t x with
 |.undef=>.bad 34
 |y=>.cE (x=y) y
def EH(T:cO)(lh:List (Nat×PV))(t:TypeId)(x:PV):eN:=
 match fQ P t,x with
 |true,.ep r _ i=>match kE P t with
  |true=>.ok (r.get i)
  |false=>.bad 30
 |true,.epv sz l _ i off=>EG P t (gM P t (PY l i) off)
 |true,.ptr n off=>match b6 n lh with
  |some c=>okV (gM P t c off)
  |none=>.bad 35
 |true,.pix n off z=>match b6 n lh,kE P t with
  |some c,true=>EF (c.cv off) z
  |_,_=>.bad 36
 |true,.gp g off=>match(T g).fit with
  |true=>okV (gM P t (T g) off)
  |false=>.bad 37
 |true,.gix g off z=>match kE P t with
  |true=>EF ((T g).cv off) z
  |false=>.bad 31
 |_,_=>.bad 29
end
end Go.Vc
