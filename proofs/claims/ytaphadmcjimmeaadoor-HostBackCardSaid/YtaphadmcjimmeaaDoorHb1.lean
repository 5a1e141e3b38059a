import Derived.Calls
set_option linter.unusedVariables false
set_option linter.unusedSectionVars false
namespace Go.Vc
abbrev Bs := List UInt8
def maxLen : Nat := 1099511627776
abbrev bL (a : Array UInt8) : Bs := (ByteArray.mk a).data.toList
def lenZ {α : Type} (l : List α) : Int := (l.length : Int)
def byteZ (l : Bs) (z : Int) : Int := ((l.getD z.toNat 0).toNat : Int)
def takeZ {α : Type} (l : List α) (z : Int) : List α := l.take z.toNat
def dropZ {α : Type} (l : List α) (z : Int) : List α := l.drop z.toNat
def cutZ {α : Type} (l : List α) (a b : Int) : List α := (l.take b.toNat).drop a.toNat
def strZ (l : List Bs) (z : Int) : Bs := l.getD z.toNat []
def intZ (l : List Int) (z : Int) : Int := l.getD z.toNat 0
def setZ {α : Type} (l : List α) (z : Int) (x : α) : List α := l.set z.toNat x
def zByte (z : Int) : UInt8 := UInt8.ofNat z.toNat
inductive BRow where
  | bytes (l : Bs)
  | strs (l : List Bs)
  | ints (k : IntKind) (l : List Int)
inductive PV where
  | undef
  | int (k : IntKind) (z : Int)
  | bool (b : Bool)
  | str (l : Bs)
  | raw (v : Value)
  | arr (n : Nat) (r : BRow)
  | agg (l : List PV)
  | tup (l : List PV)
  | row (nl : Bool) (r : BRow) (t : Nat)
  | vec (nl : Bool) (sz : Nat) (l : List PV) (t : Nat)
  | ep (r : BRow) (t : Nat) (i : Int)
  | epv (sz : Nat) (l : List PV) (t : Nat) (i : Int) (off : Nat)
  | ptr (n off : Nat)
  | pix (n off : Nat) (i : Int)
  | asl (n off : Nat) (lo len : Int)
  | gp (g off : Nat)
  | gix (g off : Nat) (i : Int)
  | fn (f : Fn) (a b : List PV)
instance : Inhabited PV := ⟨.undef⟩
mutual
def PV.mapL (f : PV → PV) : PV → PV
  | .agg l => .agg (PV.mapLs f l)
  | .tup l => .tup (PV.mapLs f l)
  | .fn g a b => .fn g (PV.mapLs f a) (PV.mapLs f b)
  | x => f x
def PV.mapLs (f : PV → PV) : List PV → List PV
  | [] => []
  | x :: l => PV.mapL f x :: PV.mapLs f l
end
mutual
def PV.allL {α : Type} (f : PV → List α) : PV → List α
  | .agg l => PV.allLs f l
  | .tup l => PV.allLs f l
  | .fn g a b => PV.allLs f a ++ PV.allLs f b
  | x => f x
def PV.allLs {α : Type} (f : PV → List α) : List PV → List α
  | [] => []
  | x :: l => PV.allL f x ++ PV.allLs f l
end
def PV.tok1 : PV → List Nat
  | .row _ _ (t + 1) => [t + 1]
  | .vec _ _ _ (t + 1) => [t + 1]
  | .ep _ (t + 1) _ => [t + 1]
  | .epv _ _ (t + 1) _ _ => [t + 1]
  | _ => []
def PV.nam1 : PV → List Nat
  | .ptr n _ => [n]
  | .pix n _ _ => [n]
  | .asl n _ _ _ => [n]
  | _ => []
def PV.mark1 (f : Nat → Option Nat) : PV → PV
  | .row nl r u => match f u with | some u => .row nl r u | none => .undef
  | .vec nl sz l u => match f u with | some u => .vec nl sz l u | none => .undef
  | .ep r u i => match f u with | some u => .ep r u i | none => .undef
  | .epv sz l u i off => match f u with | some u => .epv sz l u i off | none => .undef
  | x => x
def killF (t u : Nat) : Option Nat := bif Nat.beq u t then none else some u
def stillF (t u : Nat) : Option Nat := some (bif Nat.beq u t then 0 else u)
def stillRF (lo hi u : Nat) : Option Nat := some (bif Nat.ble lo u && Nat.blt u hi then 0 else u)
def bareF (u : Nat) : Option Nat := some 0
def PV.lose1 (n : Nat) : PV → PV
  | .ptr m off => bif Nat.beq m n then .undef else .ptr m off
  | .pix m off i => bif Nat.beq m n then .undef else .pix m off i
  | .asl m off i k => bif Nat.beq m n then .undef else .asl m off i k
  | x => x
def BRow.len : BRow → Int
  | .bytes l => lenZ l
  | .strs l => lenZ l
  | .ints _ l => lenZ l
def BRow.get (r : BRow) (i : Int) : PV :=
  match r with
  | .bytes l => .int .u8 (byteZ l i)
  | .strs l => .str (strZ l i)
  | .ints k l => .int k (intZ l i)
def BRow.none? : BRow → Bool
  | .bytes l => l.isEmpty
  | .strs l => l.isEmpty
  | .ints _ l => l.isEmpty
def sameKind (a b : IntKind) : Bool := match a, b with
  | .i8, .i8 | .i16, .i16 | .i32, .i32 | .i64, .i64 | .u8, .u8 | .u16, .u16 | .u32, .u32 | .u64, .u64 => true
  | _, _ => false
def BRow.app (r q : BRow) : Option BRow :=
  match r, q with
  | .bytes l, .bytes m => some (.bytes (l ++ m))
  | .strs l, .strs m => some (.strs (l ++ m))
  | .ints k l, .ints j m => match sameKind k j with
    | true => some (.ints k (l ++ m))
    | false => none
  | _, _ => none
def BRow.set (r : BRow) (i : Int) (x : PV) : Option BRow :=
  match r, x with
  | .bytes l, .int .u8 z => some (.bytes (setZ l i (zByte z)))
  | .strs l, .str s => some (.strs (setZ l i s))
  | .ints k l, .int j z => match sameKind k j with
    | true => some (.ints k (setZ l i z))
    | false => none
  | _, _ => none
def setOf (r : BRow) (i : Int) (x : PV) (k : BRow → PV) : PV := match r.set i x with
  | some r' => k r'
  | none => .undef
def laidV (t : Nat) (i : Int) (x : PV) : PV → PV
  | .row nl r u => bif Nat.beq u t then setOf r i x (fun r' => .row nl r' u) else .row nl r u
  | .ep r u j => bif Nat.beq u t then setOf r i x (fun r' => .ep r' u j) else .ep r u j
  | .vec nl sz l u => bif Nat.beq u t then .undef else .vec nl sz l u
  | .epv sz l u j off => bif Nat.beq u t then .undef else .epv sz l u j off
  | y => y
def BRow.setE (r : BRow) (i : Nat) (x : PV) : Option BRow :=
  match r, x with
  | .strs l, .str s => some (.strs (l.set i s))
  | .ints k l, .int j z => match sameKind k j with
    | true => some (.ints k (l.set i z))
    | false => none
  | _, _ => none
def inU8 (z : Int) : Prop := 0 ≤ z ∧ z ≤ 255
def BRow.okAt (r : BRow) (x : PV) : Prop := match r, x with
  | .bytes _, .int _ z => inU8 z
  | _, _ => True
def PV.asInt : PV → Int | .int _ z => z | _ => 0
def PV.asBool : PV → Bool | .bool b => b | _ => false
def PV.asStr : PV → Bs | .str l => l | _ => []
def PV.asRaw : PV → Value | .raw v => v | _ => .tuple #[]
def PV.asNil : PV → Bool | .row n _ _ => n | .vec n _ _ _ => n | _ => true
def PV.asBytes : PV → Bs | .row _ (.bytes l) _ => l | .arr _ (.bytes l) => l | _ => []
def PV.asStrs : PV → List Bs | .row _ (.strs l) _ => l | .arr _ (.strs l) => l | _ => []
def PV.asInts : PV → List Int | .row _ (.ints _ l) _ => l | .arr _ (.ints _ l) => l | _ => []
def PV.asVec : PV → List PV | .vec _ _ l _ => l | _ => []
def pvZ (l : List PV) (z : Int) : PV := l.getD z.toNat .undef
def PV.part (x : PV) (j : Nat) : PV := match x with | .agg l => l.getD j .undef | _ => .undef
mutual
def PV.wid : PV → Nat
  | .agg l => PV.wids l
  | .arr n _ => n
  | _ => 1
def PV.wids : List PV → Nat
  | [] => 0
  | x :: l => PV.wid x + PV.wids l
end
mutual
def PV.getAt (whole : Bool) (sz : Nat) : PV → Nat → PV
  | .agg l, off => match whole && Nat.beq off 0 && Nat.beq (PV.wids l) sz with
    | true => .agg l
    | false => PV.getAts whole sz l off
  | .arr n r, off => match whole && Nat.beq off 0 && Nat.beq n sz with
    | true => .arr n r
    | false => match Nat.blt off n with
      | true => r.get (off : Int)
      | false => .undef
  | x, off => match Nat.beq off 0 with
    | true => x
    | false => .undef
def PV.getAts (whole : Bool) (sz : Nat) : List PV → Nat → PV
  | [], _ => .undef
  | x :: l, off => match Nat.blt off (PV.wid x) with
    | true => PV.getAt whole sz x off
    | false => PV.getAts whole sz l (off - PV.wid x)
end
mutual
def PV.setAt (y : PV) : PV → Nat → Option PV
  | .agg l, off => match Nat.beq off 0 && Nat.beq (PV.wids l) (PV.wid y) && (match y with | .agg _ => true | _ => false) with
    | true => some y
    | false => (PV.setAts y l off).map .agg
  | .arr n r, off => match Nat.beq off 0 && (match y with | .arr m _ => Nat.beq m n | _ => false) with
    | true => some y
    | false => match Nat.blt off n with
      | true => (r.setE off y).map (.arr n)
      | false => none
  | x, off => match Nat.beq off 0 && Nat.beq (PV.wid y) 1 with
    | true => some y
    | false => none
def PV.setAts (y : PV) : List PV → Nat → Option (List PV)
  | [], _ => none
  | x :: l, off => match Nat.blt off (PV.wid x) with
    | true => (PV.setAt y x off).map (· :: l)
    | false => (PV.setAts y l (off - PV.wid x)).map (x :: ·)
end
mutual
def PV.arrAt : PV → Nat → Option (Nat × BRow)
  | .agg l, off => PV.arrAts l off
  | .arr n r, off => match Nat.beq off 0 with
    | true => some (n, r)
    | false => none
  | _, _ => none
def PV.arrAts : List PV → Nat → Option (Nat × BRow)
  | [], _ => none
  | x :: l, off => match Nat.blt off (PV.wid x) with
    | true => PV.arrAt x off
    | false => PV.arrAts l (off - PV.wid x)
end
mutual
def PV.putArr (q : BRow) : PV → Nat → Option PV
  | .agg l, off => (PV.putArrs q l off).map .agg
  | .arr n r, off => match Nat.beq off 0 with
    | true => some (.arr n q)
    | false => none
  | _, _ => none
def PV.putArrs (q : BRow) : List PV → Nat → Option (List PV)
  | [], _ => none
  | x :: l, off => match Nat.blt off (PV.wid x) with
    | true => (PV.putArr q x off).map (· :: l)
    | false => (PV.putArrs q l (off - PV.wid x)).map (x :: ·)
end
inductive OpR where
  | ok (v : PV)
  | need (p : Prop) (v : PV)
  | bad (n : Nat)
structure VS where
  loc : List (Nat × Option (Nat × Bool) × PV)
  env : List (Nat × PV)
  lh : List (Nat × PV)
inductive OpS where
  | val (v : PV)
  | vneed (p : Prop) (v : PV)
  | ok (v : PV) (f : Option (PV → PV)) (lh : List (Nat × PV))
  | need (p : Prop) (v : PV) (f : Option (PV → PV)) (lh : List (Nat × PV))
  | bad (n : Nat)
def OpR.at (r : OpR) : OpS := match r with
  | .ok v => .val v
  | .need p v => .vneed p v
  | .bad n => .bad n
def getN {α : Type} (n : Nat) : List (Nat × α) → Option α
  | [] => none
  | e :: l => bif Nat.beq e.1 n then some e.2 else getN n l
def setN {α : Type} (n : Nat) (x : α) : List (Nat × α) → List (Nat × α)
  | [] => []
  | e :: l => bif Nat.beq e.1 n then (n, x) :: l else e :: setN n x l
def VS.turn (f : Option (PV → PV)) (lh : List (Nat × PV)) (s : VS) : VS := match f with
  | none => ⟨s.loc, s.env, lh⟩
  | some f => ⟨s.loc.map fun e => (e.1, e.2.1, e.2.2.mapL f), s.env.map fun e => (e.1, e.2.mapL f), lh⟩
def turnB (f : PV → PV) (lh : List (Nat × PV)) : List (Nat × PV) := lh.map fun e => (e.1, e.2.mapL f)
section
variable (P : Program)
def sizeT (t : TypeId) : Nat := match P.info? t with | some i => i.size | none => 0
def hasT (t : TypeId) : Bool := (P.underlying t).isSome
def aggT (t : TypeId) : Bool := match P.underlying t with
  | some (.struct _) => true
  | some (.array _ _) => true
  | _ => false
def rowT (e : TypeId) : Option BRow := match P.underlying e with
  | some (.int .u8) => some (.bytes [])
  | some .string => some (.strs [])
  | some (.int k) => some (.ints k [])
  | _ => none
def emptyRow (nl : Bool) (e : TypeId) (t : Nat) : PV := match rowT P e with
  | some r => .row nl r t
  | none => .vec nl (sizeT P e) [] t
def typed (t : TypeId) (tok : Nat) (x : PV) : PV := match x with
  | .raw (.slice none 0 0) => match P.underlying t with
    | some (.slice e) => emptyRow P true e tok
    | _ => x
  | x => x
def ofValue (v : Value) : PV := match v with
  | .int k n => .int k n
  | .bool b => .bool b
  | .string s => .str s.data.toList
  | .agg _ => .undef
  | .tuple _ => .undef
  | v => .raw v
def shapeV : Nat → TypeId → PV → PV
  | 0, _, _ => .undef
  | n + 1, t, c => match P.underlying t with
    | some (.int k) => .int k c.asInt
    | some .bool => .bool c.asBool
    | some .string => .str c.asStr
    | some (.slice e) => match rowT P e with
      | some (.bytes _) => .row c.asNil (.bytes c.asBytes) 0
      | some (.strs _) => .row c.asNil (.strs c.asStrs) 0
      | some (.ints k _) => .row c.asNil (.ints k c.asInts) 0
      | none => .vec c.asNil (sizeT P e) c.asVec 0
    | some (.complex _) => .raw c.asRaw
    | some (.float _) => .raw c.asRaw
    | some (.struct fs) => .agg (fs.toList.zipIdx.map fun e => shapeV n e.1.type (c.part e.2))
    | some (.array len e) => match rowT P e with
      | some (.bytes _) => .arr len (.bytes c.asBytes)
      | some (.strs _) => .arr len (.strs c.asStrs)
      | some (.ints k _) => .arr len (.ints k c.asInts)
      | none => .agg ((List.range len).map fun i => shapeV n e (c.part i))
    | _ => .undef
def zeroV : Nat → TypeId → Nat → PV
  | 0, _, _ => .undef
  | n + 1, t, tok => match P.underlying t with
    | some (.struct fs) => .agg (fs.toList.map fun f => zeroV n f.type (match tok with | 0 => 0 | k => k + f.offset))
    | some (.array len e) => match rowT P e with
      | some (.bytes _) => .arr len (.bytes (List.replicate len 0))
      | some (.strs _) => .arr len (.strs (List.replicate len []))
      | some (.ints k _) => .arr len (.ints k (List.replicate len 0))
      | none => .agg ((List.range len).map fun i => zeroV n e (match tok with | 0 => 0 | k => k + i * sizeT P e))
    | some (.int k) => .int k 0
    | some .bool => .bool false
    | some .string => .str []
    | some (.slice e) => emptyRow P true e tok
    | some (.pointer _) => .raw (.pointer none)
    | some (.map _ _) => .raw (.map none)
    | some (.func _ _ _) => .raw .nilFunc
    | some (.complex k) => .raw (.complex k 0 0)
    | some (.float k) => .raw (.float k 0)
    | some (.interface _) => .raw .nilIface
    | _ => .undef
def BRow.vals : BRow → List Value
  | .bytes l => l.map fun c => .int .u8 (c.toNat : Int)
  | .strs l => l.map fun s => .string ⟨s.toArray⟩
  | .ints k l => l.map fun z => .int k z
def PV.isAgg : PV → Bool
  | .agg _ => true
  | .arr _ _ => true
  | .tup _ => true
  | _ => false
def oneV : Value → Bool
  | .agg _ => false
  | .tuple _ => false
  | _ => true
def PV.fit : PV → Bool
  | .undef => false
  | .tup _ => false
  | _ => true
def PV.zcells : PV → Option (List Value)
  | .int k z => some [.int k z]
  | .bool b => some [.bool b]
  | .str l => some [.string ⟨l.toArray⟩]
  | .raw u => match oneV u with
    | true => some [u]
    | false => none
  | .arr n r => match Nat.beq r.vals.length n with
    | true => some r.vals
    | false => none
  | .row true r _ => match r.none? with
    | true => some [.slice none 0 0]
    | false => none
  | .vec true _ [] _ => some [.slice none 0 0]
  | .agg l => zs l
  | _ => none
where zs : List PV → Option (List Value)
  | [] => some []
  | x :: l => match PV.zcells x, zs l with
    | some a, some b => some (a ++ b)
    | _, _ => none
def eqC : Value → Value → Bool
  | .int k a, .int j b => sameKind k j && decide (a = b)
  | .bool a, .bool b => a == b
  | .string a, .string b => decide (a.data.toList = b.data.toList)
  | .pointer none, .pointer none => true
  | .slice none 0 0, .slice none 0 0 => true
  | .map none, .map none => true
  | .nilFunc, .nilFunc => true
  | .nilIface, .nilIface => true
  | .complex .f64 a b, .complex .f64 c d => Nat.beq a c && Nat.beq b d
  | .float .f64 a, .float .f64 b => Nat.beq a b
  | _, _ => false
def eqCs : List Value → List Value → Bool
  | [], [] => true
  | x :: l, y :: m => eqC x y && eqCs l m
  | _, _ => false
def zeroOk (t : TypeId) (x : PV) : Bool := match P.info? t, x.zcells with
  | some i, some cs => match i.zero with
    | some z => eqCs cs z.cells.toList && Nat.beq x.wid i.size && Nat.beq cs.length i.size && (match z, x.isAgg with | .agg _, b => b | _, b => !b)
    | none => false
  | _, _ => false
def ltB : Bs → Bs → Bool
  | _, [] => false
  | [], _ :: _ => true
  | a :: x, b :: y => decide (a.toNat < b.toNat) || (decide (a = b) && ltB x y)
def inI64 (z : Int) : Prop := -9223372036854775808 ≤ z ∧ z ≤ 9223372036854775807
def numR (k : IntKind) (z : Int) : OpR := match k with
  | .i64 => .need (inI64 z) (.int .i64 z)
  | k => .ok (.int k (k.wrap z))
def bitsZ (op : BinOp) (k : IntKind) (x y : Int) : Int :=
  let a := BitVec.ofInt k.bits x
  let b := BitVec.ofInt k.bits y
  match op with
  | .and => k.wrap (a &&& b).toNat
  | .or => k.wrap (a ||| b).toNat
  | .xor => k.wrap (a ^^^ b).toNat
  | _ => k.wrap (a &&& ~~~b).toNat
def shlZ (k : IntKind) (a b : Int) : Int := k.wrap (a * 2 ^ min b.toNat k.bits)
def shrZ (k : IntKind) (a b : Int) : Int := a.fdiv (2 ^ min b.toNat k.bits)
def intR (op : BinOp) (k : IntKind) (a b : Int) : OpR := match op with
  | .add => numR k (a + b)
  | .sub => numR k (a - b)
  | .mul => numR k (a * b)
  | .quo => match k with
    | .i64 => .need (0 ≤ a ∧ 0 < b ∧ a ≤ 9223372036854775807) (.int .i64 (a / b))
    | k => .need (0 ≤ a ∧ 0 < b) (.int k (k.wrap (a / b)))
  | .rem => .need (0 ≤ a ∧ 0 < b) (.int k (a % b))
  | .and => .ok (.int k (bitsZ .and k a b))
  | .or => .ok (.int k (bitsZ .or k a b))
  | .xor => .ok (.int k (bitsZ .xor k a b))
  | .andNot => .ok (.int k (bitsZ .andNot k a b))
  | .eql => .ok (.bool (decide (a = b)))
  | .neq => .ok (.bool (!decide (a = b)))
  | .lss => .ok (.bool (decide (a < b)))
  | .leq => .ok (.bool (decide (a ≤ b)))
  | .gtr => .ok (.bool (decide (b < a)))
  | .geq => .ok (.bool (decide (b ≤ a)))
  | _ => .bad 1
def strR (op : BinOp) (a b : Bs) : OpR := match op with
  | .add => .need (a.length + b.length ≤ maxLen) (.str (a ++ b))
  | .eql => .ok (.bool (decide (a = b)))
  | .neq => .ok (.bool (!decide (a = b)))
  | .lss => .ok (.bool (ltB a b))
  | .geq => .ok (.bool (!ltB a b))
  | .gtr => .ok (.bool (ltB b a))
  | .leq => .ok (.bool (!ltB b a))
  | _ => .bad 2
def partV (t : TypeId) (x : PV) (off : Nat) : PV :=
  let y := PV.getAt (aggT P t) (sizeT P t) x off
  match hasT P t, aggT P t, y.isAgg, Nat.beq y.wid (sizeT P t) with
  | true, true, true, true => y
  | true, false, false, _ => y
  | _, _, _, _ => .undef
def nilK : PV → Option (Nat × Bool)
  | .row nl _ _ => some (1, nl)
  | .vec nl _ _ _ => some (1, nl)
  | .raw (.pointer none) => some (0, true)
  | .raw (.map none) => some (2, true)
  | .raw .nilFunc => some (3, true)
  | .raw (.slice none 0 0) => some (1, true)
  | .ptr _ _ => some (0, false)
  | .fn _ _ _ => some (3, false)
  | _ => none
def isNilC : PV → Bool
  | .raw (.pointer none) => true
  | .raw (.map none) => true
  | .raw .nilFunc => true
  | .raw (.slice none 0 0) => true
  | _ => false
def eqFs (eq : TypeId → PV → PV → Option Bool) (x y : PV) : List Field → Option Bool
  | [] => some true
  | f :: fs => match f.name == "_", eq f.type (partV P f.type x f.offset) (partV P f.type y f.offset), eqFs eq x y fs with
    | false, some a, some b => some (a && b)
    | _, _, _ => none
def eqT : Nat → TypeId → PV → PV → Option Bool
  | 0, _, _, _ => none
  | n + 1, t, x, y => match P.underlying t, x, y with
    | some .bool, .bool a, .bool b => some (a == b)
    | some (.int _), .int k a, .int j b => match sameKind k j with
      | true => some (decide (a = b))
      | false => none
    | some .string, .str a, .str b => some (decide (a = b))
    | some (.array len e), .arr p (.ints k a), .arr q (.ints j b) => match sameKind k j && Nat.beq p len && Nat.beq q len && Nat.beq (sizeT P e) 1 && hasT P e, P.underlying e with
      | true, some (.int _) => some (decide (a = b))
      | _, _ => none
    | some (.struct fs), .agg l, .agg m => match P.stoodInHeld t || P.eqGuardType P.depth t with
      | false => eqFs P (eqT n) (.agg l) (.agg m) fs.toList
      | true => none
    | _, _, _ => none
def negB (neg b : Bool) : Bool := match neg with | true => !b | false => b
def guardOk (t : TypeId) (x : PV) : Bool := match x with
  | .agg _ => !P.eqGuardType P.depth t
  | .arr _ _ => !P.eqGuardType P.depth t
  | _ => true
def eqR (neg : Bool) (t : TypeId) (x y : PV) : OpR :=
  let fin (b : Bool) : OpR := .ok (.bool (negB neg b))
  match guardOk P t x, eqT P 6 t x y with
  | true, some b => fin b
  | _, _ => match P.underlying t with
    | some (.pointer _) => nilR 0 fin x y
    | some (.slice _) => nilR 1 fin x y
    | some (.map _ _) => nilR 2 fin x y
    | some (.func _ _ _) => nilR 3 fin x y
    | _ => .bad 3
where
  nilR (q : Nat) (fin : Bool → OpR) (x y : PV) : OpR := match nilK x, nilK y with
    | some (i, a), some (j, b) => match Nat.beq i q && Nat.beq j q, isNilC y, isNilC x with
      | true, true, _ => fin a
      | true, false, true => fin b
      | _, _, _ => .bad 5
    | _, _ => .bad 6
def binR (op : BinOp) (t : TypeId) (x y : PV) : OpR :=
  match x, y with
  | .int k a, .int j b => match op with
    | .shl => .need (0 ≤ b) (.int k (shlZ k a b))
    | .shr => .need (0 ≤ b) (.int k (shrZ k a b))
    | op => match sameKind k j with
      | true => intR op k a b
      | false => .bad 7
  | .str a, .str b => strR op a b
  | .raw a, .raw b => match op with
    | .eql => eqR P false t x y
    | .neq => eqR P true t x y
    | _ => .bad 8
  | x, y => match op with
    | .eql => eqR P false t x y
    | .neq => eqR P true t x y
    | _ => .bad 8
def unR (op : UnOp) (x : PV) : OpR :=
  match op, x with
  | .not, .bool b => .ok (.bool (!b))
  | .neg, .int k z => numR k (0 - z)
  | .xor, .int k z => .ok (.int k (bitsZ .xor k (match k.signed with | true => -1 | false => k.max) z))
  | _, _ => .bad 9
def convR (src dst : TypeId) (x : PV) : OpR :=
  match P.underlying src, P.underlying dst, x with
  | some (.int _), some (.int k), .int _ z => .ok (.int k (k.wrap z))
  | some .string, some .string, .str l => .ok (.str l)
  | some .string, some (.slice e), .str l => match rowT P e with
    | some (.bytes _) => .need (l.length ≤ maxLen) (.row false (.bytes l) 0)
    | _ => .bad 10
  | some (.slice e), some .string, .row _ (.bytes l) _ => match rowT P e with
    | some (.bytes _) => .ok (.str l)
    | _ => .bad 11
  | _, _, _ => .bad 12
def lenR (t : TypeId) (x : PV) : OpR :=
  match P.underlying t, x with
  | some .string, .str l => .ok (.int .i64 (lenZ l))
  | some (.slice _), .row _ r _ => .ok (.int .i64 r.len)
  | some (.slice _), .vec _ _ l _ => .ok (.int .i64 (lenZ l))
  | some (.slice _), .asl _ _ _ n => .ok (.int .i64 n)
  | some (.array n _), _ => .ok (.int .i64 (n : Int))
  | _, _ => .bad 13
def okV (x : PV) : OpR := match x with
  | .undef => .bad 33
  | x => .ok x
def within (i : Int) (n : Int) : Prop := 0 ≤ i ∧ i < n
def cellT (e : TypeId) : Bool := hasT P e && Nat.beq (sizeT P e) 1 && !aggT P e
def indexR (t : TypeId) (x : PV) (i : PV) : OpR :=
  match P.underlying t, x, i with
  | some .string, .str l, .int _ z => .need (within z (lenZ l)) (.int .u8 (byteZ l z))
  | some (.array m e), .arr n r, .int _ z => match cellT P e && Nat.beq m n with
    | true => .need (within z n) (r.get z)
    | false => .bad 15
  | some (.array m e), .agg l, .int _ (.ofNat k) => match Nat.blt k m with
    | true => okV (partV P e (.agg l) (k * sizeT P e))
    | false => .bad 14
  | _, _, _ => .bad 16
def upto (a b n : Int) : Prop := 0 ≤ a ∧ a ≤ b ∧ b ≤ n
def cutR (n : Int) (lo hi : Option PV) (k : Int → Int → PV) : OpR := match lo, hi with
  | none, none => .ok (k 0 n)
  | some (.int _ a), none => .need (upto a n n) (k a n)
  | none, some (.int _ b) => .need (upto 0 b n) (k 0 b)
  | some (.int _ a), some (.int _ b) => .need (upto a b n) (k a b)
  | _, _ => .bad 17
def cutW {α : Type} (lo hi : Option PV) (l : List α) (a b : Int) : List α := match lo, hi with
  | none, none => l
  | some _, none => dropZ l a
  | none, some _ => takeZ l b
  | some _, some _ => cutZ l a b
def cutB (lo hi : Option PV) (r : BRow) (a b : Int) : BRow := match r with
  | .bytes l => .bytes (cutW lo hi l a b)
  | .strs l => .strs (cutW lo hi l a b)
  | .ints k l => .ints k (cutW lo hi l a b)
def sliceR (t : TypeId) (x : PV) (lo hi : Option PV) : OpR :=
  match P.underlying t, x with
  | some .string, .str l => cutR (lenZ l) lo hi fun a b => .str (cutW lo hi l a b)
  | some (.slice e), .row nl r t => match hasT P e && Nat.beq (sizeT P e) 1 && (Nat.beq t 0 || lo.isNone) with
    | true => cutR r.len lo hi fun a b => .row nl (cutB lo hi r a b) t
    | false => .bad 18
  | some (.slice e), .vec nl sz l t => match hasT P e && Nat.beq (sizeT P e) sz && (Nat.beq t 0 || lo.isNone) with
    | true => cutR (lenZ l) lo hi fun a b => .vec nl sz (cutW lo hi l a b) t
    | false => .bad 19
  | some (.array n e), .ptr m off => match hasT P e && Nat.beq (sizeT P e) 1 with
    | true => cutR (n : Int) lo hi fun a b => .asl m off a (b - a)
    | false => .bad 20
  | _, _ => .bad 17
def fillR (place : Nat → Option (Nat × TypeId)) : List Nat → List PV → PV → Option PV
  | [], [], c => some c
  | i :: is, x :: xs, c => match place i with
    | some (off, t) => match Nat.beq (typed P t 0 x).wid (sizeT P t) && x.fit && hasT P t, PV.setAt (typed P t 0 x) c off with
      | true, some c => fillR place is xs c
      | _, _ => none
    | none => none
  | _, _, _ => none
def buildR (t : TypeId) (ps : List Nat) (xs : List PV) : OpR :=
  match zeroOk P t (zeroV P 5 t 0), P.underlying t with
  | true, some (.struct fs) => match fs.toList.all (fun f => hasT P f.type), fillR P (fun i => (fs[i]?).map fun f => (f.offset, f.type)) ps xs (zeroV P 5 t 0) with
    | true, some c => .ok c
    | _, _ => .bad 18
  | true, some (.array _ e) => match hasT P e, fillR P (fun i => some (i * sizeT P e, e)) ps xs (zeroV P 5 t 0) with
    | true, some c => .ok c
    | _, _ => .bad 19
  | _, _ => .bad 20
def isU8 : PV → Bool | .int .u8 _ => true | _ => false
def isS : PV → Bool | .str _ => true | _ => false
def isK (k : IntKind) : PV → Bool | .int j _ => sameKind k j | _ => false
def allB (f : PV → Bool) : List PV → Bool
  | [] => true
  | x :: l => f x && allB f l
def allU8 : List PV → Prop
  | [] => True
  | [x] => inU8 x.asInt
  | x :: l => inU8 x.asInt ∧ allU8 l
def rowOf (e : TypeId) (xs : List PV) : OpR := match rowT P e with
  | some (.bytes _) => match allB isU8 xs && Nat.beq (sizeT P e) 1 with
    | true => .need (allU8 xs) (.row false (.bytes (xs.map fun x => zByte x.asInt)) 0)
    | false => .bad 61
  | some (.strs _) => match allB isS xs && Nat.beq (sizeT P e) 1 with
    | true => .ok (.row false (.strs (xs.map PV.asStr)) 0)
    | false => .bad 62
  | some (.ints k _) => match allB (isK k) xs && Nat.beq (sizeT P e) 1 with
    | true => .ok (.row false (.ints k (xs.map PV.asInt)) 0)
    | false => .bad 63
  | none => .ok (.vec false (sizeT P e) (xs.map (typed P e 0)) 0)
def widE (e : TypeId) : List PV → Bool
  | [] => true
  | x :: l => Nat.beq (typed P e 0 x).wid (sizeT P e) && x.fit && widE e l
def inLine : List Nat → Nat → Bool
  | [], _ => true
  | i :: is, n => Nat.beq i n && inLine is (n + 1)
def buildSliceR (t : TypeId) (len : Nat) (ps : List Nat) (xs : List PV) : OpR :=
  match P.underlying t with
  | some (.slice e) => match inLine ps 0 && Nat.beq ps.length len && Nat.beq xs.length len && hasT P e && widE P e xs && Nat.ble (len * sizeT P e + len) 8192 && zeroOk P e (zeroV P 5 e 0) with
    | true => rowOf P e xs
    | false => .bad 64
  | _ => .bad 21
def fieldR (t : TypeId) (x : PV) (f : Nat) : OpR :=
  match P.underlying t, x with
  | some (.struct fs), .agg l => match fs[f]? with
    | some g => okV (partV P g.type (.agg l) g.offset)
    | none => .bad 22
  | _, _ => .bad 23
def indexAddrR (t : TypeId) (x i : PV) : OpR :=
  match P.underlying t, x, i with
  | some (.slice e), .row _ r t, .int _ z => match hasT P e && Nat.beq (sizeT P e) 1 with
    | true => .need (within z r.len) (.ep r t z)
    | false => .bad 20
  | some (.slice e), .vec _ sz l t, .int _ z => match hasT P e && Nat.beq (sizeT P e) sz with
    | true => .need (within z (lenZ l)) (.epv sz l t z 0)
    | false => .bad 21
  | some (.array n e), .ptr b off, .int _ z => match cellT P e with
    | true => .need (within z n) (.pix b off z)
    | false => .bad 22
  | some (.array n e), .gp b off, .int _ z => match cellT P e with
    | true => .need (within z n) (.gix b off z)
    | false => .bad 22
  | _, _, _ => .bad 24
def fieldAddrR (t : TypeId) (x : PV) (f : Nat) : OpR :=
  match P.underlying t with
  | some (.struct fs) => match fs[f]? with
    | some g => match hasT P g.type && !Nat.beq (sizeT P g.type) 0, x with
      | true, .ptr b off => .ok (.ptr b (off + g.offset))
      | true, .epv sz l t i off => .ok (.epv sz l t i (off + g.offset))
      | true, .gp b off => .ok (.gp b (off + g.offset))
      | _, _ => .bad 25
    | none => .bad 26
  | _ => .bad 28
def pickV (b : Bool) (x y : PV) : PV :=
  match x, y with
  | .bool p, .bool q => .bool (bif b then p else q)
  | .int k p, .int j q => match sameKind k j with
    | true => .int k (bif b then p else q)
    | false => bif b then .int k p else .int j q
  | .str p, .str q => .str (bif b then p else q)
  | x, y => bif b then x else y
abbrev Tabs := Nat → PV
def atRow (x : Option (Nat × BRow)) (z : Int) : OpR := match x with
  | some (n, r) => .need (within z n) (r.get z)
  | none => .bad 32
def shapedV (t : TypeId) (x : PV) : OpR := match shapeV P 5 t x with
  | .undef => .bad 34
  | y => .need (x = y) y
def loadR (T : Tabs) (lh : List (Nat × PV)) (t : TypeId) (x : PV) : OpR :=
  match hasT P t, x with
  | true, .ep r _ i => match cellT P t with
    | true => .ok (r.get i)
    | false => .bad 30
  | true, .epv sz l _ i off => shapedV P t (partV P t (pvZ l i) off)
  | true, .ptr n off => match getN n lh with
    | some c => okV (partV P t c off)
    | none => .bad 35
  | true, .pix n off z => match getN n lh, cellT P t with
    | some c, true => atRow (c.arrAt off) z
    | _, _ => .bad 36
  | true, .gp g off => match (T g).fit with
    | true => okV (partV P t (T g) off)
    | false => .bad 37
  | true, .gix g off z => match cellT P t with
    | true => atRow ((T g).arrAt off) z
    | false => .bad 31
  | _, _ => .bad 29
end
end Go.Vc
