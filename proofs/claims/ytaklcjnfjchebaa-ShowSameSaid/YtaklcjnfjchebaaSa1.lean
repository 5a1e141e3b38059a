import Derived.Calls
set_option linter.unusedVariables false
set_option linter.unusedSectionVars false
namespace Go.Vc
section
abbrev Bs := List UInt8
def maxLen : Nat := 1099511627776
abbrev bL (a : Array UInt8) : Bs := (ByteArray.mk a).data.toList
def lenZ {α : Type} (l : List α) : Int := (l.length : Int)
def byteZ (l : Bs) (z : Int) : Int := ((l.getD z.toNat 0).toNat : Int)
def takeZ {α : Type} (l : List α) (z : Int) : List α := l.take z.toNat
def dropZ {α : Type} (l : List α) (z : Int) : List α := l.drop z.toNat
def cutZ {α : Type} (l : List α) (a b : Int) : List α := (l.take b.toNat).drop a.toNat
def strZ (l : List Bs) (z : Int) : Bs := l.getD z.toNat []
def intZ (l : List Int) (z : Int) : Int := l.getD z.toNat 0
def setZ {α : Type} (l : List α) (z : Int) (x : α) : List α := l.set z.toNat x
def zByte (z : Int) : UInt8 := UInt8.ofNat z.toNat
inductive BRow where
  | bytes (l : Bs)
  | strs (l : List Bs)
  | ints (k : IntKind) (l : List Int)
inductive PV where
  | undef
  | int (k : IntKind) (z : Int)
  | bool (b : Bool)
  | str (l : Bs)
  | raw (v : Value)
  | arr (n : Nat) (r : BRow)
  | agg (l : List PV)
  | tup (l : List PV)
  | row (nl : Bool) (r : BRow) (t : Nat)
  | vec (nl : Bool) (sz : Nat) (l : List PV) (t : Nat)
  | ep (r : BRow) (t : Nat) (i : Int)
  | epv (sz : Nat) (l : List PV) (t : Nat) (i : Int) (off : Nat)
  | ptr (n off : Nat)
  | pix (n off : Nat) (i : Int)
  | asl (n off : Nat) (lo len : Int)
  | gp (g off : Nat)
  | gix (g off : Nat) (i : Int)
  | fn (f : Fn) (a b : List PV)
instance : Inhabited PV := ⟨.undef⟩
mutual
def PV.mapL (f : PV → PV) : PV → PV
  | .agg l => .agg (PV.mapLs f l)
  | .tup l => .tup (PV.mapLs f l)
  | .fn g a b => .fn g (PV.mapLs f a) (PV.mapLs f b)
  | x => f x
def PV.mapLs (f : PV → PV) : List PV → List PV
  | [] => []
  | x :: l => PV.mapL f x :: PV.mapLs f l
end
mutual
def PV.allL {α : Type} (f : PV → List α) : PV → List α
  | .agg l => PV.allLs f l
  | .tup l => PV.allLs f l
  | .fn g a b => PV.allLs f a ++ PV.allLs f b
  | x => f x
def PV.allLs {α : Type} (f : PV → List α) : List PV → List α
  | [] => []
  | x :: l => PV.allL f x ++ PV.allLs f l
end
def PV.tok1 : PV → List Nat
  | .row _ _ (t + 1) => [t + 1]
  | .vec _ _ _ (t + 1) => [t + 1]
  | .ep _ (t + 1) _ => [t + 1]
  | .epv _ _ (t + 1) _ _ => [t + 1]
  | _ => []
def PV.nam1 : PV → List Nat
  | .ptr n _ => [n]
  | .pix n _ _ => [n]
  | .asl n _ _ _ => [n]
  | _ => []
def PV.mark1 (f : Nat → Option Nat) : PV → PV
  | .row nl r u => match f u with | some u => .row nl r u | none => .undef
  | .vec nl sz l u => match f u with | some u => .vec nl sz l u | none => .undef
  | .ep r u i => match f u with | some u => .ep r u i | none => .undef
  | .epv sz l u i off => match f u with | some u => .epv sz l u i off | none => .undef
  | x => x
def killF (t u : Nat) : Option Nat := bif Nat.beq u t then none else some u
def stillF (t u : Nat) : Option Nat := some (bif Nat.beq u t then 0 else u)
def stillRF (lo hi u : Nat) : Option Nat := some (bif Nat.ble lo u && Nat.blt u hi then 0 else u)
def bareF (u : Nat) : Option Nat := some 0
def PV.lose1 (n : Nat) : PV → PV
  | .ptr m off => bif Nat.beq m n then .undef else .ptr m off
  | .pix m off i => bif Nat.beq m n then .undef else .pix m off i
  | .asl m off i k => bif Nat.beq m n then .undef else .asl m off i k
  | x => x
def BRow.len : BRow → Int
  | .bytes l => lenZ l
  | .strs l => lenZ l
  | .ints _ l => lenZ l
def BRow.get (r : BRow) (i : Int) : PV :=
  match r with
  | .bytes l => .int .u8 (byteZ l i)
  | .strs l => .str (strZ l i)
  | .ints k l => .int k (intZ l i)
def BRow.take (r : BRow) (n : Int) : BRow :=
  match r with
  | .bytes l => .bytes (takeZ l n)
  | .strs l => .strs (takeZ l n)
  | .ints k l => .ints k (takeZ l n)
def BRow.drop (r : BRow) (n : Int) : BRow :=
  match r with
  | .bytes l => .bytes (dropZ l n)
  | .strs l => .strs (dropZ l n)
  | .ints k l => .ints k (dropZ l n)
def BRow.cut (r : BRow) (a b : Int) : BRow :=
  match r with
  | .bytes l => .bytes (cutZ l a b)
  | .strs l => .strs (cutZ l a b)
  | .ints k l => .ints k (cutZ l a b)
def BRow.none? : BRow → Bool
  | .bytes l => l.isEmpty
  | .strs l => l.isEmpty
  | .ints _ l => l.isEmpty
def sameKind (a b : IntKind) : Bool := match a, b with
  | .i8, .i8 | .i16, .i16 | .i32, .i32 | .i64, .i64 | .u8, .u8 | .u16, .u16 | .u32, .u32 | .u64, .u64 => true
  | _, _ => false
def BRow.app (r q : BRow) : Option BRow :=
  match r, q with
  | .bytes l, .bytes m => some (.bytes (l ++ m))
  | .strs l, .strs m => some (.strs (l ++ m))
  | .ints k l, .ints j m => match sameKind k j with
    | true => some (.ints k (l ++ m))
    | false => none
  | _, _ => none
def BRow.set (r : BRow) (i : Int) (x : PV) : Option BRow :=
  match r, x with
  | .bytes l, .int .u8 z => some (.bytes (setZ l i (zByte z)))
  | .strs l, .str s => some (.strs (setZ l i s))
  | .ints k l, .int j z => match sameKind k j with
    | true => some (.ints k (setZ l i z))
    | false => none
  | _, _ => none
def setOf (r : BRow) (i : Int) (x : PV) (k : BRow → PV) : PV := match r.set i x with
  | some r' => k r'
  | none => .undef
def laidV (t : Nat) (i : Int) (x : PV) : PV → PV
  | .row nl r u => bif Nat.beq u t then setOf r i x (fun r' => .row nl r' u) else .row nl r u
  | .ep r u j => bif Nat.beq u t then setOf r i x (fun r' => .ep r' u j) else .ep r u j
  | .vec nl sz l u => bif Nat.beq u t then .undef else .vec nl sz l u
  | .epv sz l u j off => bif Nat.beq u t then .undef else .epv sz l u j off
  | y => y
def BRow.setE (r : BRow) (i : Nat) (x : PV) : Option BRow :=
  match r, x with
  | .strs l, .str s => some (.strs (l.set i s))
  | .ints k l, .int j z => match sameKind k j with
    | true => some (.ints k (l.set i z))
    | false => none
  | _, _ => none
def inU8 (z : Int) : Prop := 0 ≤ z ∧ z ≤ 255
def BRow.okAt (r : BRow) (x : PV) : Prop := match r, x with
  | .bytes _, .int _ z => inU8 z
  | _, _ => True
def overZ {α : Type} (l : List α) (i : Int) (m : List α) : List α := l.take i.toNat ++ m ++ l.drop (i.toNat + m.length)
def BRow.over (r : BRow) (i : Int) (q : BRow) : Option BRow :=
  match r, q with
  | .bytes l, .bytes m => some (.bytes (overZ l i m))
  | .strs l, .strs m => some (.strs (overZ l i m))
  | .ints k l, .ints j m => match sameKind k j with
    | true => some (.ints k (overZ l i m))
    | false => none
  | _, _ => none
def PV.asInt : PV → Int | .int _ z => z | _ => 0
def PV.asBool : PV → Bool | .bool b => b | _ => false
def PV.asStr : PV → Bs | .str l => l | _ => []
def PV.asRaw : PV → Value | .raw v => v | _ => .tuple #[]
def PV.asNil : PV → Bool | .row n _ _ => n | .vec n _ _ _ => n | _ => true
def PV.asBytes : PV → Bs | .row _ (.bytes l) _ => l | .arr _ (.bytes l) => l | _ => []
def PV.asStrs : PV → List Bs | .row _ (.strs l) _ => l | .arr _ (.strs l) => l | _ => []
def PV.asInts : PV → List Int | .row _ (.ints _ l) _ => l | .arr _ (.ints _ l) => l | _ => []
def PV.asVec : PV → List PV | .vec _ _ l _ => l | _ => []
def pvZ (l : List PV) (z : Int) : PV := l.getD z.toNat .undef
def PV.part (x : PV) (j : Nat) : PV := match x with | .agg l => l.getD j .undef | _ => .undef
mutual
def PV.wid : PV → Nat
  | .agg l => PV.wids l
  | .arr n _ => n
  | _ => 1
def PV.wids : List PV → Nat
  | [] => 0
  | x :: l => PV.wid x + PV.wids l
end
mutual
def PV.getAt (whole : Bool) (sz : Nat) : PV → Nat → PV
  | .agg l, off => match whole && Nat.beq off 0 && Nat.beq (PV.wids l) sz with
    | true => .agg l
    | false => PV.getAts whole sz l off
  | .arr n r, off => match whole && Nat.beq off 0 && Nat.beq n sz with
    | true => .arr n r
    | false => match Nat.blt off n with
      | true => r.get (off : Int)
      | false => .undef
  | x, off => match Nat.beq off 0 with
    | true => x
    | false => .undef
def PV.getAts (whole : Bool) (sz : Nat) : List PV → Nat → PV
  | [], _ => .undef
  | x :: l, off => match Nat.blt off (PV.wid x) with
    | true => PV.getAt whole sz x off
    | false => PV.getAts whole sz l (off - PV.wid x)
end
mutual
def PV.setAt (y : PV) : PV → Nat → Option PV
  | .agg l, off => match Nat.beq off 0 && Nat.beq (PV.wids l) (PV.wid y) && (match y with | .agg _ => true | _ => false) with
    | true => some y
    | false => (PV.setAts y l off).map .agg
  | .arr n r, off => match Nat.beq off 0 && (match y with | .arr m _ => Nat.beq m n | _ => false) with
    | true => some y
    | false => match Nat.blt off n with
      | true => (r.setE off y).map (.arr n)
      | false => none
  | x, off => match Nat.beq off 0 && Nat.beq (PV.wid y) 1 with
    | true => some y
    | false => none
def PV.setAts (y : PV) : List PV → Nat → Option (List PV)
  | [], _ => none
  | x :: l, off => match Nat.blt off (PV.wid x) with
    | true => (PV.setAt y x off).map (· :: l)
    | false => (PV.setAts y l (off - PV.wid x)).map (x :: ·)
end
mutual
def PV.arrAt : PV → Nat → Option (Nat × BRow)
  | .agg l, off => PV.arrAts l off
  | .arr n r, off => match Nat.beq off 0 with
    | true => some (n, r)
    | false => none
  | _, _ => none
def PV.arrAts : List PV → Nat → Option (Nat × BRow)
  | [], _ => none
  | x :: l, off => match Nat.blt off (PV.wid x) with
    | true => PV.arrAt x off
    | false => PV.arrAts l (off - PV.wid x)
end
mutual
def PV.putArr (q : BRow) : PV → Nat → Option PV
  | .agg l, off => (PV.putArrs q l off).map .agg
  | .arr n r, off => match Nat.beq off 0 with
    | true => some (.arr n q)
    | false => none
  | _, _ => none
def PV.putArrs (q : BRow) : List PV → Nat → Option (List PV)
  | [], _ => none
  | x :: l, off => match Nat.blt off (PV.wid x) with
    | true => (PV.putArr q x off).map (· :: l)
    | false => (PV.putArrs q l (off - PV.wid x)).map (x :: ·)
end
inductive OpR where
  | ok (v : PV)
  | need (p : Prop) (v : PV)
  | bad (n : Nat)
structure VS where
  loc : List (Nat × Option (Nat × Bool) × PV)
  env : List (Nat × PV)
  lh : List (Nat × PV)
inductive OpS where
  | val (v : PV)
  | vneed (p : Prop) (v : PV)
  | ok (v : PV) (f : Option (PV → PV)) (lh : List (Nat × PV))
  | need (p : Prop) (v : PV) (f : Option (PV → PV)) (lh : List (Nat × PV))
  | bad (n : Nat)
def OpR.at (r : OpR) : OpS := match r with
  | .ok v => .val v
  | .need p v => .vneed p v
  | .bad n => .bad n
def getN {α : Type} (n : Nat) : List (Nat × α) → Option α
  | [] => none
  | e :: l => bif Nat.beq e.1 n then some e.2 else getN n l
def setN {α : Type} (n : Nat) (x : α) : List (Nat × α) → List (Nat × α)
  | [] => []
  | e :: l => bif Nat.beq e.1 n then (n, x) :: l else e :: setN n x l
def VS.turn (f : Option (PV → PV)) (lh : List (Nat × PV)) (s : VS) : VS := match f with
  | none => ⟨s.loc, s.env, lh⟩
  | some f => ⟨s.loc.map fun e => (e.1, e.2.1, e.2.2.mapL f), s.env.map fun e => (e.1, e.2.mapL f), lh⟩
def turnB (f : PV → PV) (lh : List (Nat × PV)) : List (Nat × PV) := lh.map fun e => (e.1, e.2.mapL f)
section
variable (P : Program)
def sizeT (t : TypeId) : Nat := match P.info? t with | some i => i.size | none => 0
def hasT (t : TypeId) : Bool := (P.underlying t).isSome
def aggT (t : TypeId) : Bool := match P.underlying t with
  | some (.struct _) => true
  | some (.array _ _) => true
  | _ => false
def rowT (e : TypeId) : Option BRow := match P.underlying e with
  | some (.int .u8) => some (.bytes [])
  | some .string => some (.strs [])
  | some (.int k) => some (.ints k [])
  | _ => none
def emptyRow (nl : Bool) (e : TypeId) (t : Nat) : PV := match rowT P e with
  | some r => .row nl r t
  | none => .vec nl (sizeT P e) [] t
def typed (t : TypeId) (tok : Nat) (x : PV) : PV := match x with
  | .raw (.slice none 0 0) => match P.underlying t with
    | some (.slice e) => emptyRow P true e tok
    | _ => x
  | x => x
def ofValue (v : Value) : PV := match v with
  | .int k n => .int k n
  | .bool b => .bool b
  | .string s => .str s.data.toList
  | .agg _ => .undef
  | .tuple _ => .undef
  | v => .raw v
def shapeV : Nat → TypeId → PV → PV
  | 0, _, _ => .undef
  | n + 1, t, c => match P.underlying t with
    | some (.int k) => .int k c.asInt
    | some .bool => .bool c.asBool
    | some .string => .str c.asStr
    | some (.slice e) => match rowT P e with
      | some (.bytes _) => .row c.asNil (.bytes c.asBytes) 0
      | some (.strs _) => .row c.asNil (.strs c.asStrs) 0
      | some (.ints k _) => .row c.asNil (.ints k c.asInts) 0
      | none => .vec c.asNil (sizeT P e) c.asVec 0
    | some (.complex _) => .raw c.asRaw
    | some (.float _) => .raw c.asRaw
    | some (.struct fs) => .agg (fs.toList.zipIdx.map fun e => shapeV n e.1.type (c.part e.2))
    | some (.array len e) => match rowT P e with
      | some (.bytes _) => .arr len (.bytes c.asBytes)
      | some (.strs _) => .arr len (.strs c.asStrs)
      | some (.ints k _) => .arr len (.ints k c.asInts)
      | none => .agg ((List.range len).map fun i => shapeV n e (c.part i))
    | _ => .undef
def zeroV : Nat → TypeId → Nat → PV
  | 0, _, _ => .undef
  | n + 1, t, tok => match P.underlying t with
    | some (.struct fs) => .agg (fs.toList.map fun f => zeroV n f.type (match tok with | 0 => 0 | k => k + f.offset))
    | some (.array len e) => match rowT P e with
      | some (.bytes _) => .arr len (.bytes (List.replicate len 0))
      | some (.strs _) => .arr len (.strs (List.replicate len []))
      | some (.ints k _) => .arr len (.ints k (List.replicate len 0))
      | none => .agg ((List.range len).map fun i => zeroV n e (match tok with | 0 => 0 | k => k + i * sizeT P e))
    | some (.int k) => .int k 0
    | some .bool => .bool false
    | some .string => .str []
    | some (.slice e) => emptyRow P true e tok
    | some (.pointer _) => .raw (.pointer none)
    | some (.map _ _) => .raw (.map none)
    | some (.func _ _ _) => .raw .nilFunc
    | some (.complex k) => .raw (.complex k 0 0)
    | some (.float k) => .raw (.float k 0)
    | some (.interface _) => .raw .nilIface
    | _ => .undef
def BRow.vals : BRow → List Value
  | .bytes l => l.map fun c => .int .u8 (c.toNat : Int)
  | .strs l => l.map fun s => .string ⟨s.toArray⟩
  | .ints k l => l.map fun z => .int k z
def PV.isAgg : PV → Bool
  | .agg _ => true
  | .arr _ _ => true
  | .tup _ => true
  | _ => false
def oneV : Value → Bool
  | .agg _ => false
  | .tuple _ => false
  | _ => true
def PV.fit : PV → Bool
  | .undef => false
  | .tup _ => false
  | _ => true
def PV.zcells : PV → Option (List Value)
  | .int k z => some [.int k z]
  | .bool b => some [.bool b]
  | .str l => some [.string ⟨l.toArray⟩]
  | .raw u => match oneV u with
    | true => some [u]
    | false => none
  | .arr n r => match Nat.beq r.vals.length n with
    | true => some r.vals
    | false => none
  | .row true r _ => match r.none? with
    | true => some [.slice none 0 0]
    | false => none
  | .vec true _ [] _ => some [.slice none 0 0]
  | .agg l => zs l
  | _ => none
where zs : List PV → Option (List Value)
  | [] => some []
  | x :: l => match PV.zcells x, zs l with
    | some a, some b => some (a ++ b)
    | _, _ => none
def eqC : Value → Value → Bool
  | .int k a, .int j b => sameKind k j && decide (a = b)
  | .bool a, .bool b => a == b
  | .string a, .string b => decide (a.data.toList = b.data.toList)
  | .pointer none, .pointer none => true
  | .slice none 0 0, .slice none 0 0 => true
  | .map none, .map none => true
  | .nilFunc, .nilFunc => true
  | .nilIface, .nilIface => true
  | .complex .f64 a b, .complex .f64 c d => Nat.beq a c && Nat.beq b d
  | .float .f64 a, .float .f64 b => Nat.beq a b
  | _, _ => false
def eqCs : List Value → List Value → Bool
  | [], [] => true
  | x :: l, y :: m => eqC x y && eqCs l m
  | _, _ => false
def zeroOk (t : TypeId) (x : PV) : Bool := match P.info? t, x.zcells with
  | some i, some cs => match i.zero with
    | some z => eqCs cs z.cells.toList && Nat.beq x.wid i.size && Nat.beq cs.length i.size && (match z, x.isAgg with | .agg _, b => b | _, b => !b)
    | none => false
  | _, _ => false
def ltB : Bs → Bs → Bool
  | _, [] => false
  | [], _ :: _ => true
  | a :: x, b :: y => decide (a.toNat < b.toNat) || (decide (a = b) && ltB x y)
def inI64 (z : Int) : Prop := -9223372036854775808 ≤ z ∧ z ≤ 9223372036854775807
def numR (k : IntKind) (z : Int) : OpR := match k with
  | .i64 => .need (inI64 z) (.int .i64 z)
  | k => .ok (.int k (k.wrap z))
def bitsZ (op : BinOp) (k : IntKind) (x y : Int) : Int :=
  let a := BitVec.ofInt k.bits x
  let b := BitVec.ofInt k.bits y
  match op with
  | .and => k.wrap (a &&& b).toNat
  | .or => k.wrap (a ||| b).toNat
  | .xor => k.wrap (a ^^^ b).toNat
  | _ => k.wrap (a &&& ~~~b).toNat
def shlZ (k : IntKind) (a b : Int) : Int := k.wrap (a * 2 ^ min b.toNat k.bits)
def shrZ (k : IntKind) (a b : Int) : Int := a.fdiv (2 ^ min b.toNat k.bits)
def intR (op : BinOp) (k : IntKind) (a b : Int) : OpR := match op with
  | .add => numR k (a + b)
  | .sub => numR k (a - b)
  | .mul => numR k (a * b)
  | .quo => match k with
    | .i64 => .need (0 ≤ a ∧ 0 < b ∧ a ≤ 9223372036854775807) (.int .i64 (a / b))
    | k => .need (0 ≤ a ∧ 0 < b) (.int k (k.wrap (a / b)))
  | .rem => .need (0 ≤ a ∧ 0 < b) (.int k (a % b))
  | .and => .ok (.int k (bitsZ .and k a b))
  | .or => .ok (.int k (bitsZ .or k a b))
  | .xor => .ok (.int k (bitsZ .xor k a b))
  | .andNot => .ok (.int k (bitsZ .andNot k a b))
  | .eql => .ok (.bool (decide (a = b)))
  | .neq => .ok (.bool (!decide (a = b)))
  | .lss => .ok (.bool (decide (a < b)))
  | .leq => .ok (.bool (decide (a ≤ b)))
  | .gtr => .ok (.bool (decide (b < a)))
  | .geq => .ok (.bool (decide (b ≤ a)))
  | _ => .bad 1
def strR (op : BinOp) (a b : Bs) : OpR := match op with
  | .add => .need (a.length + b.length ≤ maxLen) (.str (a ++ b))
  | .eql => .ok (.bool (decide (a = b)))
  | .neq => .ok (.bool (!decide (a = b)))
  | .lss => .ok (.bool (ltB a b))
  | .geq => .ok (.bool (!ltB a b))
  | .gtr => .ok (.bool (ltB b a))
  | .leq => .ok (.bool (!ltB b a))
  | _ => .bad 2
def partV (t : TypeId) (x : PV) (off : Nat) : PV :=
  let y := PV.getAt (aggT P t) (sizeT P t) x off
  match hasT P t, aggT P t, y.isAgg, Nat.beq y.wid (sizeT P t) with
  | true, true, true, true => y
  | true, false, false, _ => y
  | _, _, _, _ => .undef
def nilK : PV → Option (Nat × Bool)
  | .row nl _ _ => some (1, nl)
  | .vec nl _ _ _ => some (1, nl)
  | .raw (.pointer none) => some (0, true)
  | .raw (.map none) => some (2, true)
  | .raw .nilFunc => some (3, true)
  | .raw (.slice none 0 0) => some (1, true)
  | .ptr _ _ => some (0, false)
  | .fn _ _ _ => some (3, false)
  | _ => none
def isNilC : PV → Bool
  | .raw (.pointer none) => true
  | .raw (.map none) => true
  | .raw .nilFunc => true
  | .raw (.slice none 0 0) => true
  | _ => false
def eqFs (eq : TypeId → PV → PV → Option Bool) (x y : PV) : List Field → Option Bool
  | [] => some true
  | f :: fs => match f.name == "_", eq f.type (partV P f.type x f.offset) (partV P f.type y f.offset), eqFs eq x y fs with
    | false, some a, some b => some (a && b)
    | _, _, _ => none
def eqT : Nat → TypeId → PV → PV → Option Bool
  | 0, _, _, _ => none
  | n + 1, t, x, y => match P.underlying t, x, y with
    | some .bool, .bool a, .bool b => some (a == b)
    | some (.int _), .int k a, .int j b => match sameKind k j with
      | true => some (decide (a = b))
      | false => none
    | some .string, .str a, .str b => some (decide (a = b))
    | some (.array len e), .arr p (.ints k a), .arr q (.ints j b) => match sameKind k j && Nat.beq p len && Nat.beq q len && Nat.beq (sizeT P e) 1 && hasT P e, P.underlying e with
      | true, some (.int _) => some (decide (a = b))
      | _, _ => none
    | some (.struct fs), .agg l, .agg m => match P.stoodInHeld t || P.eqGuardType P.depth t with
      | false => eqFs P (eqT n) (.agg l) (.agg m) fs.toList
      | true => none
    | _, _, _ => none
def negB (neg b : Bool) : Bool := match neg with | true => !b | false => b
def guardOk (t : TypeId) (x : PV) : Bool := match x with
  | .agg _ => !P.eqGuardType P.depth t
  | .arr _ _ => !P.eqGuardType P.depth t
  | _ => true
def eqR (neg : Bool) (t : TypeId) (x y : PV) : OpR :=
  let fin (b : Bool) : OpR := .ok (.bool (negB neg b))
  match guardOk P t x, eqT P 6 t x y with
  | true, some b => fin b
  | _, _ => match P.underlying t with
    | some (.pointer _) => nilR 0 fin x y
    | some (.slice _) => nilR 1 fin x y
    | some (.map _ _) => nilR 2 fin x y
    | some (.func _ _ _) => nilR 3 fin x y
    | _ => .bad 3
where
  nilR (q : Nat) (fin : Bool → OpR) (x y : PV) : OpR := match nilK x, nilK y with
    | some (i, a), some (j, b) => match Nat.beq i q && Nat.beq j q, isNilC y, isNilC x with
      | true, true, _ => fin a
      | true, false, true => fin b
      | _, _, _ => .bad 5
    | _, _ => .bad 6
def binR (op : BinOp) (t : TypeId) (x y : PV) : OpR :=
  match x, y with
  | .int k a, .int j b => match op with
    | .shl => .need (0 ≤ b) (.int k (shlZ k a b))
    | .shr => .need (0 ≤ b) (.int k (shrZ k a b))
    | op => match sameKind k j with
      | true => intR op k a b
      | false => .bad 7
  | .str a, .str b => strR op a b
  | .raw a, .raw b => match op with
    | .eql => eqR P false t x y
    | .neq => eqR P true t x y
    | _ => .bad 8
  | x, y => match op with
    | .eql => eqR P false t x y
    | .neq => eqR P true t x y
    | _ => .bad 8
def unR (op : UnOp) (x : PV) : OpR :=
  match op, x with
  | .not, .bool b => .ok (.bool (!b))
  | .neg, .int k z => numR k (0 - z)
  | .xor, .int k z => .ok (.int k (bitsZ .xor k (match k.signed with | true => -1 | false => k.max) z))
  | _, _ => .bad 9
def convR (src dst : TypeId) (x : PV) : OpR :=
  match P.underlying src, P.underlying dst, x with
  | some (.int _), some (.int k), .int _ z => .ok (.int k (k.wrap z))
  | some .string, some .string, .str l => .ok (.str l)
  | some .string, some (.slice e), .str l => match rowT P e with
    | some (.bytes _) => .need (l.length ≤ maxLen) (.row false (.bytes l) 0)
    | _ => .bad 10
  | some (.slice e), some .string, .row _ (.bytes l) _ => match rowT P e with
    | some (.bytes _) => .ok (.str l)
    | _ => .bad 11
  | _, _, _ => .bad 12
def lenR (t : TypeId) (x : PV) : OpR :=
  match P.underlying t, x with
  | some .string, .str l => .ok (.int .i64 (lenZ l))
  | some (.slice _), .row _ r _ => .ok (.int .i64 r.len)
  | some (.slice _), .vec _ _ l _ => .ok (.int .i64 (lenZ l))
  | some (.slice _), .asl _ _ _ n => .ok (.int .i64 n)
  | some (.array n _), _ => .ok (.int .i64 (n : Int))
  | _, _ => .bad 13
def okV (x : PV) : OpR := match x with
  | .undef => .bad 33
  | x => .ok x
def within (i : Int) (n : Int) : Prop := 0 ≤ i ∧ i < n
def cellT (e : TypeId) : Bool := hasT P e && Nat.beq (sizeT P e) 1 && !aggT P e
def indexR (t : TypeId) (x : PV) (i : PV) : OpR :=
  match P.underlying t, x, i with
  | some .string, .str l, .int _ z => .need (within z (lenZ l)) (.int .u8 (byteZ l z))
  | some (.array m e), .arr n r, .int _ z => match cellT P e && Nat.beq m n with
    | true => .need (within z n) (r.get z)
    | false => .bad 15
  | some (.array m e), .agg l, .int _ (.ofNat k) => match Nat.blt k m with
    | true => okV (partV P e (.agg l) (k * sizeT P e))
    | false => .bad 14
  | _, _, _ => .bad 16
def upto (a b n : Int) : Prop := 0 ≤ a ∧ a ≤ b ∧ b ≤ n
def cutR (n : Int) (lo hi : Option PV) (k : Int → Int → PV) : OpR := match lo, hi with
  | none, none => .ok (k 0 n)
  | some (.int _ a), none => .need (upto a n n) (k a n)
  | none, some (.int _ b) => .need (upto 0 b n) (k 0 b)
  | some (.int _ a), some (.int _ b) => .need (upto a b n) (k a b)
  | _, _ => .bad 17
def cutW {α : Type} (lo hi : Option PV) (l : List α) (a b : Int) : List α := match lo, hi with
  | none, none => l
  | some _, none => dropZ l a
  | none, some _ => takeZ l b
  | some _, some _ => cutZ l a b
def cutB (lo hi : Option PV) (r : BRow) (a b : Int) : BRow := match r with
  | .bytes l => .bytes (cutW lo hi l a b)
  | .strs l => .strs (cutW lo hi l a b)
  | .ints k l => .ints k (cutW lo hi l a b)
def sliceR (t : TypeId) (x : PV) (lo hi : Option PV) : OpR :=
  match P.underlying t, x with
  | some .string, .str l => cutR (lenZ l) lo hi fun a b => .str (cutW lo hi l a b)
  | some (.slice e), .row nl r t => match hasT P e && Nat.beq (sizeT P e) 1 && (Nat.beq t 0 || lo.isNone) with
    | true => cutR r.len lo hi fun a b => .row nl (cutB lo hi r a b) t
    | false => .bad 18
  | some (.slice e), .vec nl sz l t => match hasT P e && Nat.beq (sizeT P e) sz && (Nat.beq t 0 || lo.isNone) with
    | true => cutR (lenZ l) lo hi fun a b => .vec nl sz (cutW lo hi l a b) t
    | false => .bad 19
  | _, _ => .bad 17
def fillR (place : Nat → Option (Nat × TypeId)) : List Nat → List PV → PV → Option PV
  | [], [], c => some c
  | i :: is, x :: xs, c => match place i with
    | some (off, t) => match Nat.beq (typed P t 0 x).wid (sizeT P t) && x.fit && hasT P t, PV.setAt (typed P t 0 x) c off with
      | true, some c => fillR place is xs c
      | _, _ => none
    | none => none
  | _, _, _ => none
def buildR (t : TypeId) (ps : List Nat) (xs : List PV) : OpR :=
  match zeroOk P t (zeroV P 5 t 0), P.underlying t with
  | true, some (.struct fs) => match fs.toList.all (fun f => hasT P f.type), fillR P (fun i => (fs[i]?).map fun f => (f.offset, f.type)) ps xs (zeroV P 5 t 0) with
    | true, some c => .ok c
    | _, _ => .bad 18
  | true, some (.array _ e) => match hasT P e, fillR P (fun i => some (i * sizeT P e, e)) ps xs (zeroV P 5 t 0) with
    | true, some c => .ok c
    | _, _ => .bad 19
  | _, _ => .bad 20
def isU8 : PV → Bool | .int .u8 _ => true | _ => false
def isS : PV → Bool | .str _ => true | _ => false
def isK (k : IntKind) : PV → Bool | .int j _ => sameKind k j | _ => false
def allB (f : PV → Bool) : List PV → Bool
  | [] => true
  | x :: l => f x && allB f l
def allU8 : List PV → Prop
  | [] => True
  | [x] => inU8 x.asInt
  | x :: l => inU8 x.asInt ∧ allU8 l
def rowOf (e : TypeId) (xs : List PV) : OpR := match rowT P e with
  | some (.bytes _) => match allB isU8 xs && Nat.beq (sizeT P e) 1 with
    | true => .need (allU8 xs) (.row false (.bytes (xs.map fun x => zByte x.asInt)) 0)
    | false => .bad 61
  | some (.strs _) => match allB isS xs && Nat.beq (sizeT P e) 1 with
    | true => .ok (.row false (.strs (xs.map PV.asStr)) 0)
    | false => .bad 62
  | some (.ints k _) => match allB (isK k) xs && Nat.beq (sizeT P e) 1 with
    | true => .ok (.row false (.ints k (xs.map PV.asInt)) 0)
    | false => .bad 63
  | none => .ok (.vec false (sizeT P e) (xs.map (typed P e 0)) 0)
def widE (e : TypeId) : List PV → Bool
  | [] => true
  | x :: l => Nat.beq (typed P e 0 x).wid (sizeT P e) && x.fit && widE e l
def inLine : List Nat → Nat → Bool
  | [], _ => true
  | i :: is, n => Nat.beq i n && inLine is (n + 1)
def buildSliceR (t : TypeId) (len : Nat) (ps : List Nat) (xs : List PV) : OpR :=
  match P.underlying t with
  | some (.slice e) => match inLine ps 0 && Nat.beq ps.length len && Nat.beq xs.length len && hasT P e && widE P e xs && Nat.ble (len * sizeT P e) 4096 && zeroOk P e (zeroV P 5 e 0) with
    | true => rowOf P e xs
    | false => .bad 64
  | _ => .bad 21
def fieldR (t : TypeId) (x : PV) (f : Nat) : OpR :=
  match P.underlying t, x with
  | some (.struct fs), .agg l => match fs[f]? with
    | some g => okV (partV P g.type (.agg l) g.offset)
    | none => .bad 22
  | _, _ => .bad 23
def indexAddrR (t : TypeId) (x i : PV) : OpR :=
  match P.underlying t, x, i with
  | some (.slice e), .row _ r t, .int _ z => match hasT P e && Nat.beq (sizeT P e) 1 with
    | true => .need (within z r.len) (.ep r t z)
    | false => .bad 20
  | some (.slice e), .vec _ sz l t, .int _ z => match hasT P e && Nat.beq (sizeT P e) sz with
    | true => .need (within z (lenZ l)) (.epv sz l t z 0)
    | false => .bad 21
  | some (.array n e), .ptr b off, .int _ z => match cellT P e with
    | true => .need (within z n) (.pix b off z)
    | false => .bad 22
  | some (.array n e), .gp b off, .int _ z => match cellT P e with
    | true => .need (within z n) (.gix b off z)
    | false => .bad 22
  | _, _, _ => .bad 24
def fieldAddrR (t : TypeId) (x : PV) (f : Nat) : OpR :=
  match P.underlying t with
  | some (.struct fs) => match fs[f]? with
    | some g => match hasT P g.type && !Nat.beq (sizeT P g.type) 0, x with
      | true, .ptr b off => .ok (.ptr b (off + g.offset))
      | true, .epv sz l t i off => .ok (.epv sz l t i (off + g.offset))
      | true, .gp b off => .ok (.gp b (off + g.offset))
      | _, _ => .bad 25
    | none => .bad 26
  | _ => .bad 28
def pickV (b : Bool) (x y : PV) : PV :=
  match x, y with
  | .bool p, .bool q => .bool (bif b then p else q)
  | .int k p, .int j q => match sameKind k j with
    | true => .int k (bif b then p else q)
    | false => bif b then .int k p else .int j q
  | .str p, .str q => .str (bif b then p else q)
  | x, y => bif b then x else y
abbrev Tabs := Nat → PV
def atRow (x : Option (Nat × BRow)) (z : Int) : OpR := match x with
  | some (n, r) => .need (within z n) (r.get z)
  | none => .bad 32
def shapedV (t : TypeId) (x : PV) : OpR := match shapeV P 5 t x with
  | .undef => .bad 34
  | y => .need (x = y) y
def loadR (T : Tabs) (lh : List (Nat × PV)) (t : TypeId) (x : PV) : OpR :=
  match hasT P t, x with
  | true, .ep r _ i => match cellT P t with
    | true => .ok (r.get i)
    | false => .bad 30
  | true, .epv sz l _ i off => shapedV P t (partV P t (pvZ l i) off)
  | true, .ptr n off => match getN n lh with
    | some c => okV (partV P t c off)
    | none => .bad 35
  | true, .pix n off z => match getN n lh, cellT P t with
    | some c, true => atRow (c.arrAt off) z
    | _, _ => .bad 36
  | true, .gp g off => match (T g).fit with
    | true => okV (partV P t (T g) off)
    | false => .bad 37
  | true, .gix g off z => match cellT P t with
    | true => atRow ((T g).arrAt off) z
    | false => .bad 31
  | _, _ => .bad 29
end
end
end Go.Vc
section
namespace Go.Ev
inductive Ans where
  | yes | no (c : Nat)
inductive Tr (α : Type) where
  | leaf
  | node (v : Option α) (l r : Tr α)
inductive Pa where
  | e | o (p : Pa) | z (p : Pa)
  deriving DecidableEq
noncomputable def pathF (f : Nat) : Nat → Pa :=
  Nat.rec (motive := fun _ => Nat → Pa) (fun _ => .e) (fun _ ih n => Nat.rec (motive := fun _ => Pa) .e (fun m _ => Bool.rec (motive := fun _ => Pa) (.z (ih (Nat.div m 2))) (.o (ih (Nat.div m 2))) (Nat.beq (Nat.mod m 2) 0)) n) f
noncomputable def path (n : Nat) : Pa := pathF (Nat.succ n) n
noncomputable def Tr.getP {α : Type} (p : Pa) (t : Tr α) (no : Ans) (k : α → Ans) : Ans :=
  Pa.rec (motive := fun _ => Tr α → Ans)
    (fun t => Tr.rec (motive := fun _ => Ans) no (fun v _ _ _ _ => Option.rec (motive := fun _ => Ans) no k v) t)
    (fun _ ih t => Tr.rec (motive := fun _ => Ans) no (fun _ l _ _ _ => ih l) t)
    (fun _ ih t => Tr.rec (motive := fun _ => Ans) no (fun _ _ r _ _ => ih r) t) p t
noncomputable def Tr.setP {α : Type} (p : Pa) (x : Option α) (t : Tr α) (k : Tr α → Ans) : Ans :=
  Pa.rec (motive := fun _ => Tr α → (Tr α → Ans) → Ans)
    (fun t k => Tr.rec (motive := fun _ => Ans) (k (.node x .leaf .leaf)) (fun _ l r _ _ => k (.node x l r)) t)
    (fun _ ih t k => Tr.rec (motive := fun _ => Ans) (ih .leaf (fun t => k (.node none t .leaf))) (fun v l r _ _ => ih l (fun t => k (.node v t r))) t)
    (fun _ ih t k => Tr.rec (motive := fun _ => Ans) (ih .leaf (fun t => k (.node none .leaf t))) (fun v l r _ _ => ih r (fun t => k (.node v l t))) t) p t k
class Sg where
  val : Nat → Value
inductive AV where
  | nat (n : Nat)
  | u8 (n : Nat)
  | int (k : IntKind) (n : Int)
  | bool (b : Bool)
  | str (n : Nat) (l : List Nat)
  | raw (v : Value)
  | ptr (b off : Nat)
  | slice (b off len : Nat) (exact : Bool) (c : Nat)
  | map (b : Nat)
  | iface (t : TypeId) (v : AV)
  | agg (l : List AV)
  | tup (l : List AV)
  | fn (f : Fn) (first captured : List AV)
  | sym (i : Nat)
class Sl where
  low : Nat → Nat → Option Nat
  tabs : List (Nat × List AV)
inductive Blk where
  | cells (elem : TypeId) (len : Nat) (t : Tr AV) (exact : Bool) (esz : Nat)
  | map (es : List (AV × AV × Nat)) (clock : Nat)
  | iter (l : List Nat) (pos : Nat)
  | miter (b since : Nat)
inductive Hp where
  | mk (t : Tr Blk) (n low : Nat)
noncomputable def fNat (n : Nat) (k : Nat → Ans) : Ans := Nat.rec (motive := fun _ => Ans) (k 0) (fun m _ => k (Nat.succ m)) n
noncomputable def fInt (z : Int) (k : Int → Ans) : Ans := Int.rec (motive := fun _ => Ans) (fun n => fNat n fun m => k (.ofNat m)) (fun n => fNat n fun m => k (.negSucc m)) z
noncomputable def fBool (b : Bool) (k : Bool → Ans) : Ans := Bool.rec (motive := fun _ => Ans) (k false) (k true) b
noncomputable def fBytes (l : List UInt8) (k : Nat → List Nat → Ans) : Ans :=
  List.rec (motive := fun _ => (Nat → List Nat → Ans) → Ans) (fun k => k 0 []) (fun x _ ih k => fNat x.toNat fun y => ih fun n ys => fNat (Nat.succ n) fun n => k n (y :: ys)) l k
noncomputable def cnd (b : Bool) (x y : Ans) : Ans := Bool.rec (motive := fun _ => Ans) y x b
noncomputable def intAV (q : IntKind) (z : Int) (k : AV → Ans) : Ans :=
  match q, z with
  | .i64, .ofNat n => fNat n fun n => k (.nat n)
  | .u8, .ofNat n => fNat n fun n => k (.u8 n)
  | q, z => fInt z fun z => k (.int q z)
noncomputable def fVal1 (v : Value) (k : AV → Ans) : Ans :=
  match v with
  | .int q n => intAV q n k
  | .bool b => fBool b fun b => k (.bool b)
  | .string s => fBytes s.data.toList fun n l => k (.str n l)
  | .complex q a b => fNat a fun a => fNat b fun b => k (.raw (.complex q a b))
  | .float q a => fNat a fun a => k (.raw (.float q a))
  | .agg _ => .no 2
  | .tuple _ => .no 2
  | v => k (.raw v)
noncomputable def fVals (l : List Value) (k : List AV → Ans) : Ans :=
  List.rec (motive := fun _ => (List AV → Ans) → Ans) (fun k => k []) (fun v _ ih k => fVal1 v fun a => ih fun as => k (a :: as)) l k
noncomputable def fVal (v : Value) (k : AV → Ans) : Ans :=
  match v with
  | .agg cs => fVals cs.toList fun l => k (.agg l)
  | .tuple cs => fVals cs.toList fun l => k (.tup l)
  | v => fVal1 v k
noncomputable def toAV1 (v : Value) : AV :=
  match v with
  | .int .i64 (.ofNat n) => .nat n
  | .int .u8 (.ofNat n) => .u8 n
  | .int q z => .int q z
  | .bool b => .bool b
  | .string s => .str s.data.toList.length (s.data.toList.map (·.toNat))
  | v => .raw v
noncomputable def toAV (v : Value) : AV :=
  match v with
  | .agg cs => .agg (cs.toList.map toAV1)
  | .tuple cs => .tup (cs.toList.map toAV1)
  | v => toAV1 v
noncomputable def semPure {α : Type} (P : Program) (s : Sem α) : Option α :=
  Sem.rec (motive := fun _ => Option α) (fun a => some a) (fun _ _ _ _ => none) (fun _ _ _ _ _ => none) (fun _ _ _ => none) (fun _ _ _ => none) (fun _ _ _ _ => none) (fun _ _ _ => none) (fun _ _ _ => none) (fun _ _ _ _ => none) (fun _ _ _ => none) (fun _ _ _ => none) (fun _ ih => ih P) (fun _ _ ih => ih) (fun _ => none) s
def bytesOf (l : List Nat) : ByteArray := ⟨(l.map UInt8.ofNat).toArray⟩
def AV.plain1 : AV → Option Value
  | .nat n => some (.int .i64 n)
  | .u8 n => some (.int .u8 n)
  | .int k n => some (.int k n)
  | .bool b => some (.bool b)
  | .str _ l => some (.string (bytesOf l))
  | .raw v => some v
  | _ => none
def plainL : List AV → Option (List Value)
  | [] => some []
  | x :: xs => match x.plain1, plainL xs with
    | some v, some vs => some (v :: vs)
    | _, _ => none
def AV.plain : AV → Option Value
  | .agg l => (plainL l).map fun vs => .agg vs.toArray
  | x => x.plain1
noncomputable def AV.cells (x : AV) (k : List AV → Ans) : Ans :=
  match x with
  | .agg l => k l
  | .tup _ => .no 1
  | x => k [x]
end Go.Ev
namespace Go.Ev
noncomputable def readN (t : Tr AV) (n : Nat) (off : Nat) (k : List AV → Ans) : Ans :=
  Nat.rec (motive := fun _ => Nat → (List AV → Ans) → Ans) (fun _ k => k [])
    (fun _ ih off k => t.getP (path off) (.no 10) fun v => fNat (Nat.succ off) fun off => ih off fun l => k (v :: l)) n off k
noncomputable def writeL (l : List AV) (off : Nat) (t : Tr AV) (k : Tr AV → Ans) : Ans :=
  List.rec (motive := fun _ => Nat → Tr AV → (Tr AV → Ans) → Ans) (fun _ t k => k t)
    (fun v _ ih off t k => t.setP (path off) (some v) fun t => fNat (Nat.succ off) fun off => ih off t k) l off t k
noncomputable def lenK (l : List AV) (k : Nat → Ans) : Ans :=
  List.rec (motive := fun _ => (Nat → Ans) → Ans) (fun k => k 0) (fun _ _ ih k => ih fun n => fNat (Nat.succ n) k) l k
noncomputable def catK (l m : List AV) (k : List AV → Ans) : Ans :=
  List.rec (motive := fun _ => (List AV → Ans) → Ans) (fun k => k m) (fun x _ ih k => ih fun r => k (x :: r)) l k
noncomputable def catN (l m : List Nat) (k : List Nat → Ans) : Ans :=
  List.rec (motive := fun _ => (List Nat → Ans) → Ans) (fun k => k m) (fun x _ ih k => ih fun r => k (x :: r)) l k
noncomputable def takeK {α : Type} (n : Nat) (l : List α) (k : List α → Ans) : Ans :=
  Nat.rec (motive := fun _ => List α → (List α → Ans) → Ans) (fun _ k => k [])
    (fun _ ih l k => List.rec (motive := fun _ => Ans) (k []) (fun x xs _ => ih xs fun r => k (x :: r)) l) n l k
noncomputable def dropK {α : Type} (n : Nat) (l : List α) (k : List α → Ans) : Ans :=
  Nat.rec (motive := fun _ => List α → Ans) (fun l => k l) (fun _ ih l => List.rec (motive := fun _ => Ans) (k []) (fun _ xs _ => ih xs) l) n l
noncomputable def nthK {α : Type} (n : Nat) (l : List α) (no : Ans) (k : α → Ans) : Ans :=
  Nat.rec (motive := fun _ => List α → Ans) (fun l => List.rec (motive := fun _ => Ans) no (fun x _ _ => k x) l)
    (fun _ ih l => List.rec (motive := fun _ => Ans) no (fun _ xs _ => ih xs) l) n l
noncomputable def newK (e : TypeId) (l : List AV) (exact : Bool) (esz : Nat) (h : Hp) (k : Nat → Hp → Ans) : Ans :=
  match h with
  | .mk t n low => lenK l fun m => writeL l 0 .leaf fun c => t.setP (path n) (some (.cells e m c exact esz)) fun t => fNat (Nat.succ n) fun n' => k n (.mk t n' low)
noncomputable def natMin (a b : Nat) (k : Nat → Ans) : Ans := cnd (Nat.ble a b) (k a) (k b)
noncomputable def putK (b off : Nat) (l : List AV) (h : Hp) (k : Hp → Ans) : Ans :=
  match h with
  | .mk t n low => t.getP (path b) (.no 11) fun bl =>
    match bl with
    | .cells e m c ex sz => lenK l fun q => cnd (Nat.ble (Nat.add off q) m) (writeL l off c fun c => t.setP (path b) (some (.cells e m c ex sz)) fun t => natMin low b fun low => k (.mk t n low)) (.no 12)
    | _ => .no 13
noncomputable def getK (b off n : Nat) (h : Hp) (k : List AV → Ans) : Ans :=
  match h with
  | .mk t _ _ => t.getP (path b) (.no (1400000 + b)) fun bl =>
    match bl with
    | .cells _ m c _ _ => cnd (Nat.ble (Nat.add off n) m) (readN c n off k) (.no 15)
    | _ => .no 16
section
variable (P : Program)
noncomputable def sizeK (t : TypeId) (k : Nat → Ans) : Ans := Option.rec (motive := fun _ => Ans) (.no 20) (fun (i : TypeInfo) => fNat i.size k) (P.info? t)
def aggB (P : Program) (t : TypeId) : Bool :=
  match P.underlying t with
  | some (.struct _) => true
  | some (.array _ _) => true
  | _ => false
def knownB (P : Program) (t : TypeId) : Bool := (P.underlying t).isSome
noncomputable def zeroK (t : TypeId) (k : AV → Ans) : Ans :=
  Option.rec (motive := fun _ => Ans) (.no 21) (fun (i : TypeInfo) => Option.rec (motive := fun _ => Ans) (.no 22) (fun v => fVal v k) i.zero) (P.info? t)
noncomputable def plainK (x : AV) (k : Value → Ans) : Ans := Option.rec (motive := fun _ => Ans) (.no 23) k x.plain
noncomputable def modelK (s : Sem Value) (k : AV → Ans) : Ans := Option.rec (motive := fun _ => Ans) (.no 24) (fun v => fVal v k) (semPure P s)
noncomputable def isNil (x : AV) (k : Nat → Bool → Ans) : Ans :=
  match x with
  | .raw (.pointer none) => k 0 true
  | .raw (.slice none _ _) => k 1 true
  | .raw (.map none) => k 2 true
  | .raw .nilFunc => k 3 true
  | .ptr _ _ => k 0 false
  | .slice _ _ _ _ _ => k 1 false
  | .map _ => k 2 false
  | .fn _ _ _ => k 3 false
  | _ => .no 25
noncomputable def nilOf (q : Nat) (x y : AV) (k : Bool → Ans) : Ans :=
  isNil x fun i a => isNil y fun j b => cnd (Nat.beq i q) (cnd (Nat.beq j q) (cnd a (k b) (cnd b (k false) (.no 27))) (.no 27)) (.no 27)
noncomputable def nilEq (t : TypeId) (x y : AV) (k : Bool → Ans) : Ans :=
  match P.underlying t with
  | some (.pointer _) => nilOf 0 x y k
  | some (.slice _) => nilOf 1 x y k
  | some (.map _ _) => nilOf 2 x y k
  | some (.func _ _ _) => nilOf 3 x y k
  | _ => .no 26
noncomputable def wrapK (q : IntKind) (z : Int) (k : AV → Ans) : Ans := fInt (q.wrap z) fun z => intAV q z k
noncomputable def two63 : Nat := 9223372036854775808
noncomputable def eqNat (l m : List Nat) (k : Bool → Ans) : Ans :=
  List.rec (motive := fun _ => List Nat → Ans) (fun m => List.rec (motive := fun _ => Ans) (k true) (fun _ _ _ => k false) m)
    (fun x _ ih m => List.rec (motive := fun _ => Ans) (k false) (fun y ys _ => cnd (Nat.beq x y) (ih ys) (k false)) m) l m
noncomputable def ltNat (l m : List Nat) (k : Bool → Ans) : Ans :=
  List.rec (motive := fun _ => List Nat → Ans) (fun m => List.rec (motive := fun _ => Ans) (k false) (fun _ _ _ => k true) m)
    (fun x _ ih m => List.rec (motive := fun _ => Ans) (k false) (fun y ys _ => cnd (Nat.blt x y) (k true) (cnd (Nat.beq x y) (ih ys) (k false))) m) l m
noncomputable def strK (op : BinOp) (n : Nat) (l : List Nat) (m : Nat) (r : List Nat) (k : AV → Ans) : Ans :=
  match op with
  | .add => fNat (n + m) fun s => cnd (Nat.blt s 9223372036854775808) (catN l r fun t => k (.str s t)) (.no 28)
  | .eql => eqNat l r fun b => k (.bool b)
  | .neq => eqNat l r fun b => fBool (!b) fun b => k (.bool b)
  | .lss => ltNat l r fun b => k (.bool b)
  | .gtr => ltNat r l fun b => k (.bool b)
  | .leq => ltNat r l fun b => fBool (!b) fun b => k (.bool b)
  | .geq => ltNat l r fun b => fBool (!b) fun b => k (.bool b)
  | _ => .no 29
noncomputable def genK (op : BinOp) (t : TypeId) (x y : AV) (k : AV → Ans) : Ans :=
  plainK x fun a => plainK y fun b => modelK P (do eqGuard op t (.tmp 0) (.tmp 0) a b; Go.binOp op t a b) k
inductive OpC where
  | c1 (f : AV → Hp → (AV → Hp → Ans) → Ans)
  | c2 (f : AV → AV → Hp → (AV → Hp → Ans) → Ans)
  | cn (f : List AV → Hp → (AV → Hp → Ans) → Ans)
  | bad (n : Nat)
noncomputable def AV.cas (x : AV) (a b : Nat → Ans) (c : Nat → List Nat → Ans) (o : Ans) : Ans :=
  AV.rec (motive_1 := fun _ => (Nat → Ans) → (Nat → Ans) → (Nat → List Nat → Ans) → Ans → Ans) (motive_2 := fun _ => Unit)
    (fun n a _ _ _ => a n) (fun n _ b _ _ => b n) (fun _ _ _ _ _ o => o) (fun _ _ _ _ o => o) (fun n l _ _ c _ => c n l) (fun _ _ _ _ o => o) (fun _ _ _ _ _ o => o) (fun _ _ _ _ _ _ _ _ o => o) (fun _ _ _ _ o => o) (fun _ _ _ _ _ _ o => o) (fun _ _ _ _ _ o => o) (fun _ _ _ _ _ o => o) (fun _ _ _ _ _ _ _ _ o => o) (fun _ _ _ _ o => o) () (fun _ _ _ _ => ()) x a b c o
noncomputable def onBool (x : AV) (f t : Ans) (o : Ans) : Ans :=
  AV.rec (motive_1 := fun _ => Ans → Ans → Ans → Ans) (motive_2 := fun _ => Unit)
    (fun _ _ _ o => o) (fun _ _ _ o => o) (fun _ _ _ _ o => o) (fun b f t _ => Bool.rec (motive := fun _ => Ans) f t b) (fun _ _ _ _ o => o) (fun _ _ _ o => o) (fun _ _ _ _ o => o) (fun _ _ _ _ _ _ _ o => o) (fun _ _ _ o => o) (fun _ _ _ _ _ o => o) (fun _ _ _ _ o => o) (fun _ _ _ _ o => o) (fun _ _ _ _ _ _ _ o => o) (fun _ _ _ o => o) () (fun _ _ _ _ => ()) x f t o
def ptrB (P : Program) (t : TypeId) : Bool := match P.underlying t with
  | some (.pointer e) => (P.info? e).isSome
  | _ => false
noncomputable def eqAll (t : TypeId) (x y : AV) (k : Bool → Ans) (gen : Ans) : Ans :=
  match x, y with
  | .bool a, .bool b => cnd (knownBool P t) (fBool (a == b) k) (.no 31)
  | .int .., _ => gen
  | _, .int .. => gen
  | .raw (.complex ..), .raw (.complex ..) => gen
  | .raw (.float ..), .raw (.float ..) => gen
  | .agg _, .agg _ => gen
  | .ptr b o, .ptr b' o' => cnd (Nat.beq b b') (cnd (Nat.beq o o') (cnd (ptrB P t) (k true) (.no 186)) (.no 187)) (.no 188)
  | x, y => nilEq P t x y k
where
  knownBool (P : Program) (t : TypeId) : Bool := match P.underlying t with | some .bool => true | _ => false
abbrev AK := AV → Hp → Ans
noncomputable def gen2 (op : BinOp) (t : TypeId) (x y : AV) (h : Hp) (k : AK) : Ans := genK P op t x y fun v => k v h
noncomputable def addK (t : TypeId) (x y : AV) (h : Hp) (k : AK) : Ans :=
  x.cas (fun a => y.cas (fun b => fNat (Nat.add a b) fun s => cnd (Nat.blt s two63) (k (.nat s) h) (.no 125)) (fun _ => .no 125) (fun _ _ => .no 125) (gen2 P .add t x y h k))
    (fun _ => gen2 P .add t x y h k) (fun n l => y.cas (fun _ => .no 125) (fun _ => .no 125) (fun m r => strK .add n l m r fun v => k v h) (.no 125)) (gen2 P .add t x y h k)
noncomputable def subK (t : TypeId) (x y : AV) (h : Hp) (k : AK) : Ans :=
  x.cas (fun a => y.cas (fun b => cnd (Nat.ble b a) (fNat (Nat.sub a b) fun s => cnd (Nat.blt s two63) (k (.nat s) h) (.no 126)) (gen2 P .sub t x y h k)) (fun _ => .no 126) (fun _ _ => .no 126) (gen2 P .sub t x y h k))
    (fun _ => gen2 P .sub t x y h k) (fun _ _ => .no 126) (gen2 P .sub t x y h k)
noncomputable def mulK (t : TypeId) (x y : AV) (h : Hp) (k : AK) : Ans :=
  x.cas (fun a => y.cas (fun b => fNat (Nat.mul a b) fun s => cnd (Nat.blt s two63) (k (.nat s) h) (.no 127)) (fun _ => .no 127) (fun _ _ => .no 127) (gen2 P .mul t x y h k))
    (fun _ => gen2 P .mul t x y h k) (fun _ _ => .no 127) (gen2 P .mul t x y h k)
noncomputable def boolTo (h : Hp) (k : AK) (b : Bool) : Ans := Bool.rec (motive := fun _ => Ans) (k (.bool false) h) (k (.bool true) h) b
noncomputable def notTo (h : Hp) (k : AK) (b : Bool) : Ans := Bool.rec (motive := fun _ => Ans) (k (.bool true) h) (k (.bool false) h) b
noncomputable def cmpK (num : Nat → Nat → Bool) (str : List Nat → List Nat → (Bool → Ans) → Ans) (other : (Bool → Ans) → Ans) (x y : AV) (k : Bool → Ans) : Ans :=
  x.cas (fun a => y.cas (fun b => k (num a b)) (fun _ => .no 128) (fun _ _ => .no 128) (other k)) (fun a => y.cas (fun _ => .no 128) (fun b => k (num a b)) (fun _ _ => .no 128) (other k))
    (fun _ l => y.cas (fun _ => .no 128) (fun _ => .no 128) (fun _ r => str l r k) (.no 128)) (other k)
noncomputable def genB (op : BinOp) (t : TypeId) (x y : AV) (k : Bool → Ans) : Ans := genK P op t x y fun v => match v with
  | .bool b => k b
  | _ => .no 129
noncomputable def binC (op : BinOp) (t : TypeId) : OpC :=
  match op with
  | .add => .c2 (addK P t)
  | .sub => .c2 (subK P t)
  | .mul => .c2 (mulK P t)
  | .eql => .c2 fun x y h k => cmpK Nat.beq eqNat (fun k => eqAll P t x y k (genB P .eql t x y k)) x y (boolTo h k)
  | .neq => .c2 fun x y h k => cmpK Nat.beq eqNat (fun k => eqAll P t x y k (genB P .neq t x y fun b => fBool (!b) k)) x y (notTo h k)
  | .lss => .c2 fun x y h k => cmpK Nat.blt ltNat (genB P .lss t x y) x y (boolTo h k)
  | .geq => .c2 fun x y h k => cmpK Nat.blt ltNat (fun k => genB P .geq t x y fun b => fBool (!b) k) x y (notTo h k)
  | .gtr => .c2 fun x y h k => cmpK Nat.blt ltNat (genB P .gtr t x y) y x (boolTo h k)
  | .leq => .c2 fun x y h k => cmpK Nat.blt ltNat (fun k => genB P .leq t x y fun b => fBool (!b) k) y x (notTo h k)
  | op => .c2 (gen2 P op t)
noncomputable def unK (op : UnOp) (x : AV) (k : AV → Ans) : Ans :=
  match op, x with
  | .not, .bool b => fBool (!b) fun b => k (.bool b)
  | op, x => plainK x fun v => modelK P (Op.unary op v) k
noncomputable def inK (b off : Nat) (h : Hp) (k : TypeId → Nat → Bool → Ans) : Ans :=
  match h with
  | .mk t _ _ => t.getP (path b) (.no 197) fun bl =>
    match bl with
    | .cells e m _ ex _ => cnd (Nat.blt off m) (k e m ex) (.no 198)
    | _ => .no 199
noncomputable def convK (src dst : TypeId) (x : AV) (h : Hp) (k : AV → Hp → Ans) : Ans :=
  match P.underlying dst, x with
  | some (.int q), .nat n => cnd (knownB P src) (wrapK q (.ofNat n) fun v => k v h) (.no 127)
  | some (.int q), .u8 n => cnd (knownB P src) (wrapK q (.ofNat n) fun v => k v h) (.no 127)
  | some (.int q), .int _ n => cnd (knownB P src) (wrapK q n fun v => k v h) (.no 127)
  | some .string, .str n l => cnd (knownB P src) (k x h) (.no 34)
  | some (.slice e), .str n l =>
    match P.underlying e with
    | some (.int .u8) => cnd (knownB P src) (List.rec (motive := fun _ => (List AV → Ans) → Ans) (fun k => k []) (fun c _ ih k => ih fun r => k (.u8 c :: r)) l fun cs => newK e cs false 1 h fun b h => k (.slice b 0 n false 0) h) (.no 35)
    | _ => .no 36
  | some .string, .slice b off len _ _ =>
    match P.underlying src with
    | some (.slice e) =>
      match P.underlying e with
      | some (.int .u8) => getK b off len h fun cs =>
          List.rec (motive := fun _ => (List Nat → Ans) → Ans) (fun k => k []) (fun c _ ih k => match c with
            | .u8 m => cnd (Nat.blt m 256) (ih fun r => k (m :: r)) (.no 37)
            | _ => .no 38) cs fun l => k (.str len l) h
      | _ => .no 39
    | _ => .no 40
  | some .string, .raw (.slice none _ _) =>
    match P.underlying src with
    | some (.slice e) =>
      match P.underlying e with
      | some (.int .u8) => k (.str 0 []) h
      | _ => .no 41
    | _ => .no 42
  | some .unsafePointer, .ptr b off =>
    match P.underlying src with
    | some (.pointer t) => sizeK P t fun n => cnd (Nat.blt 0 n) (inK b off h fun _ _ _ => k (.ptr b off) h) (.no 192)
    | _ => .no 193
  | some (.pointer u), .ptr b off =>
    match P.underlying src with
    | some .unsafePointer => inK b off h fun e m ex => cnd ex (cnd (liesAt P P.depth e (Nat.div m (P.cellsOf e)) off u 1) (sizeK P u fun _ => k (.ptr b off) h) (.no 194)) (.no 195)
    | _ => .no 196
  | _, x => plainK x fun v => modelK P (convert src dst v) fun v => k v h
noncomputable def partK (t : TypeId) (l : List AV) (off : Nat) (k : AV → Ans) : Ans :=
  cnd (knownB P t) (cnd (aggB P t) (sizeK P t fun n => dropK off l fun l => takeK n l fun l => k (.agg l)) (nthK off l (.no 43) k)) (.no 44)
noncomputable def natOf (x : AV) (k : Nat → Ans) : Ans :=
  match x with
  | .nat n => k n
  | .u8 n => k n
  | .int _ (.ofNat n) => k n
  | _ => .no 45
noncomputable def optOf (x : Option AV) (d : Nat) (k : Nat → Ans) : Ans :=
  match x with
  | none => k d
  | some x => natOf x k
noncomputable def sliceK (t : TypeId) (x : AV) (lo hi mx : Option AV) (k : AV → Ans) : Ans :=
  match P.underlying t, x with
  | some .string, .str n l => match mx with
    | some _ => .no 46
    | none => optOf lo 0 fun a => optOf hi n fun b => cnd (Nat.ble b n) (cnd (Nat.ble a b) (dropK a l fun l => fNat (b - a) fun m => takeK m l fun l => k (.str m l)) (.no 47)) (.no 48)
  | some (.slice e), .raw (.slice none 0 0) => sizeK P e fun _ => optOf lo 0 fun a => optOf hi 0 fun b => optOf mx 0 fun c => cnd (Nat.beq (a + b + c) 0) (k (.raw (.slice none 0 0))) (.no 49)
  | some (.slice e), .slice b off len true c => sizeK P e fun sz => optOf mx c fun m => optOf hi len fun q => optOf lo 0 fun a =>
      cnd (Nat.ble m c) (cnd (Nat.ble q m) (cnd (Nat.ble a q) (fNat (q - a) fun n => fNat (m - a) fun c => cnd (Nat.beq m a) (k (.slice b off n true c)) (fNat (off + a * sz) fun off => k (.slice b off n true c))) (.no 50)) (.no 51)) (.no 52)
  | some (.slice e), .slice b off len false c => sizeK P e fun sz => match mx with
    | some _ => .no 53
    | none => optOf hi len fun q => optOf lo 0 fun a =>
      cnd (Nat.ble q len) (cnd (Nat.ble a q) (cnd (Nat.beq a 0) (k (.slice b off q false c)) (cnd (Nat.blt a len) (fNat (q - a) fun n => fNat (off + a * sz) fun off => fNat (c + a) fun c => k (.slice b off n false c)) (.no 54))) (.no 55)) (.no 56)
  | some (.array n e), .ptr b off => sizeK P e fun sz => optOf mx n fun m => optOf hi n fun q => optOf lo 0 fun a =>
      cnd (Nat.ble m n) (cnd (Nat.ble q m) (cnd (Nat.ble a q) (fNat (q - a) fun l => fNat (m - a) fun c => cnd (Nat.beq m a) (k (.slice b off l true c)) (fNat (off + a * sz) fun off => k (.slice b off l true c))) (.no 57)) (.no 58)) (.no 59)
  | _, _ => .no 60
noncomputable def fieldAddrK (s : TypeId) (x : AV) (f : Nat) (k : AV → Ans) : Ans :=
  match P.underlying s, x with
  | some (.struct fs), .ptr b off => Option.rec (motive := fun _ => Ans) (.no 61) (fun (g : Field) => sizeK P g.type fun n => cnd (Nat.beq n 0) (.no 62) (fNat (off + g.offset) fun off => k (.ptr b off))) fs[f]?
  | _, _ => .no 63
noncomputable def fieldK (s : TypeId) (x : AV) (f : Nat) (k : AV → Ans) : Ans :=
  match P.underlying s, x with
  | some (.struct fs), .agg l => Option.rec (motive := fun _ => Ans) (.no 64) (fun (g : Field) => partK P g.type l g.offset k) fs[f]?
  | _, _ => .no 65
noncomputable def indexAddrK (t : TypeId) (x i : AV) (k : AV → Ans) : Ans :=
  natOf i fun i => match P.underlying t, x with
  | some (.array n e), .ptr b off => sizeK P e fun sz => cnd (Nat.blt i n) (fNat (off + i * sz) fun off => k (.ptr b off)) (.no 66)
  | some (.slice e), .slice b off len _ _ => sizeK P e fun sz => cnd (Nat.blt i len) (fNat (off + i * sz) fun off => k (.ptr b off)) (.no 67)
  | _, _ => .no 68
noncomputable def indexK (t : TypeId) (x i : AV) (k : AV → Ans) : Ans :=
  natOf i fun i => match P.underlying t, x with
  | some (.array n e), .agg l => sizeK P e fun sz => cnd (Nat.blt i n) (fNat (i * sz) fun off => partK P e l off k) (.no 69)
  | some .string, .str n l => nthK i l (.no 70) fun c => k (.u8 c)
  | _, _ => .no 71
noncomputable def loadK (t : TypeId) (x : AV) (h : Hp) (k : AV → Ans) : Ans :=
  match x with
  | .ptr b off => cnd (knownB P t) (cnd (aggB P t) (sizeK P t fun n => getK b off n h fun l => k (.agg l)) (getK b off 1 h fun l => nthK 0 l (.no 72) k)) (.no 73)
  | _ => .no 74
noncomputable def storeK (t : TypeId) (x v : AV) (h : Hp) (k : Hp → Ans) : Ans :=
  match x with
  | .ptr b off => v.cells fun l => lenK l fun n => sizeK P t fun m => cnd (Nat.beq n m) (putK b off l h k) (.no 75)
  | _ => .no 76
noncomputable def fillK (place : Nat → (Nat → Nat → Ans) → Ans) (ps : List Nat) (xs : List AV) (t : Tr AV) (k : Tr AV → Ans) : Ans :=
  List.rec (motive := fun _ => List AV → Tr AV → Ans) (fun _ t => k t)
    (fun i _ ih xs t => List.rec (motive := fun _ => Ans) (.no 77) (fun x xs _ => place i fun off n => x.cells fun l => lenK l fun m => cnd (Nat.beq n m) (writeL l off t fun t => ih xs t) (.no 78)) xs) ps xs t
def fieldsOk (P : Program) (fs : Array Field) : Bool := fs.toList.all fun f => (P.info? f.type).isSome
noncomputable def buildK (t : TypeId) (ps : List Nat) (xs : List AV) (k : AV → Ans) : Ans :=
  zeroK P t fun z => z.cells fun zl => lenK zl fun n => writeL zl 0 .leaf fun c =>
  match P.underlying t with
  | some (.struct fs) => cnd (fieldsOk P fs) (fillK (fun i r => Option.rec (motive := fun _ => Ans) (.no 79) (fun (g : Field) => sizeK P g.type fun m => cnd (Nat.ble (g.offset + m) n) (r g.offset m) (.no 80)) fs[i]?) ps xs c fun c => readN c n 0 fun l => k (.agg l)) (.no 82)
  | some (.array q e) => sizeK P e fun sz => fillK (fun i r => fNat (i * sz) fun off => cnd (Nat.ble (off + sz) n) (r off sz) (.no 81)) ps xs c fun c => readN c n 0 fun l => k (.agg l)
  | _ => .no 82
noncomputable def repK (n : Nat) (zl : List AV) (k : List AV → Ans) : Ans :=
  Nat.rec (motive := fun _ => (List AV → Ans) → Ans) (fun k => k []) (fun _ ih k => ih fun r => catK zl r k) n k
noncomputable def zerosK (e : TypeId) (sz n : Nat) (k : List AV → Ans) : Ans :=
  Nat.rec (motive := fun _ => Ans) (k []) (fun _ _ => zeroK P e fun z => z.cells fun zl => lenK zl fun m => cnd (Nat.beq m sz) (cnd (Nat.blt 0 sz) (repK n zl k) (.no 118)) (.no 119)) n
noncomputable def buildSliceK (t : TypeId) (len : Nat) (ps : List Nat) (xs : List AV) (h : Hp) (k : AV → Hp → Ans) : Ans :=
  match P.underlying t with
  | some (.slice e) => sizeK P e fun sz => cnd (Nat.ble (len * sz) 65536) (zerosK P e sz len fun zl => lenK zl fun n => writeL zl 0 .leaf fun c =>
      fillK (fun i r => fNat (i * sz) fun off => cnd (Nat.ble (off + sz) n) (r off sz) (.no 83)) ps xs c fun c => readN c n 0 fun l => newK e l true sz h fun b h => k (.slice b 0 len true len) h) (.no 84)
  | _ => .no 85
noncomputable def makeSliceK (t : TypeId) (x y : AV) (h : Hp) (k : AV → Hp → Ans) : Ans :=
  match P.underlying t with
  | some (.slice e) => natOf x fun n => natOf y fun c => sizeK P e fun sz => cnd (Nat.ble n c) (cnd (Nat.ble c 65536) (cnd (smallB P e) (zerosK P e sz c fun l => newK e l true sz h fun b h => k (.slice b 0 n true c) h) (.no 86)) (.no 87)) (.no 88)
  | _ => .no 89
where
  smallB (P : Program) (e : TypeId) : Bool := match P.info? e with | some i => Nat.ble i.bytes 65536 | none => false
noncomputable def sourceK (sz : Nat) (x : AV) (h : Hp) (k : Nat → List AV → Ans) : Ans :=
  match x with
  | .str n l => cnd (Nat.beq sz 1) (List.rec (motive := fun _ => (List AV → Ans) → Ans) (fun k => k []) (fun c _ ih k => ih fun r => k (.u8 c :: r)) l fun r => k n r) (.no 90)
  | .slice b off n _ _ => fNat (n * sz) fun m => getK b off m h fun l => k n l
  | .raw (.slice none n _) => cnd (Nat.beq n 0) (k 0 []) (.no 91)
  | _ => .no 92
noncomputable def growK (e : TypeId) (sz : Nat) (old new : List AV) (need : Nat) (h : Hp) (k : AV → Hp → Ans) : Ans :=
  catK old new fun l => cnd (Nat.ble need 65536) (cnd (makeSliceK.smallB P e) (zeroK P e fun z => z.cells fun zl => lenK zl fun q => cnd (Nat.beq q sz) (newK e l false sz h fun b h => k (.slice b 0 need false 0) h) (.no 93)) (.no 93)) (.no 94)
noncomputable def movedK (b sz at_ : Nat) (new : List AV) (need : Nat) (t : Tr Blk) (nx low : Nat) (e : TypeId) (k : AV → Hp → Ans) : Ans :=
  getK b 0 at_ (.mk t nx low) fun old => natMin low b fun low => t.setP (path b) none fun t => growK P e sz old new need (.mk t nx low) k
noncomputable def srcTy (P : Program) (ts : Array TypeId) : Bool := match (ts[1]?).bind P.underlying with
  | some (.slice _) => true
  | some .string => true
  | _ => false
noncomputable def appendK (ts : Array TypeId) (s x : AV) (h : Hp) (k : AV → Hp → Ans) : Ans :=
  match (ts[0]?).bind P.underlying with
  | some (.slice e) => cnd (srcTy P ts) (sizeK P e fun sz => sourceK sz x h fun n new =>
    match s with
    | .raw (.slice none 0 0) => cnd (Nat.beq n 0) (k s h) (growK P e sz [] new n h k)
    | .slice b off len true c => fNat (len + n) fun need => cnd (Nat.ble need c) (fNat (off + len * sz) fun at_ => putK b at_ new h fun h => k (.slice b off need true c) h)
        (fNat (len * sz) fun m => getK b off m h fun old => growK P e sz old new need h k)
    | .slice b off len false c => fNat (len + n) fun need => fNat (off + len * sz) fun at_ => match h with
      | .mk t nx low => t.getP (path b) (.no 96) fun bl => match bl with
        | .cells e' m _ ex sz' => cnd (okB sz sz' off c ex) (cnd (Nat.ble (at_ + n * sz) m) (putK b at_ new (.mk t nx low) fun h => k (.slice b off need false c) h)
            (cnd (Nat.beq at_ m) (cnd (Nat.beq off 0) (cnd (Nat.beq e' e) (movedK P b sz at_ new need t nx low e k) (.no 97)) (.no 97)) (.no 97))) (.no 97)
        | _ => .no 98
    | _ => .no 99) (.no 95)
  | _ => .no 100
where
  okB (sz sz' off c : Nat) (ex : Bool) : Bool := Bool.rec (motive := fun _ => Bool) (Bool.and (Nat.beq sz' sz) (Bool.and (Nat.blt 0 sz) (Nat.beq off (Nat.mul c sz)))) false ex
noncomputable def copyK (ts : Array TypeId) (d x : AV) (h : Hp) (k : AV → Hp → Ans) : Ans :=
  match (ts[0]?).bind P.underlying with
  | some (.slice e) => sizeK P e fun sz => sourceK sz x h fun n l =>
    match d with
    | .slice b off len _ _ => natMin n len fun m => fNat (m * sz) fun q => takeK q l fun l => putK b off l h fun h => k (.nat m) h
    | .raw (.slice none 0 _) => k (.nat 0) h
    | _ => .no 103
  | _ => .no 104
noncomputable def mapEs (b : Nat) (h : Hp) (k : List (AV × AV × Nat) → Nat → Ans) : Ans :=
  match h with
  | .mk t _ _ => t.getP (path b) (.no 105) fun bl => match bl with
    | .map es c => k es c
    | _ => .no 106
noncomputable def sameKey (d : TypeDesc) (x y : AV) (k : Bool → Ans) : Ans :=
  match d, x, y with
  | .string, .str _ l, .str _ m => eqNat l m k
  | .int _, .nat a, .nat b => fBool (Nat.beq a b) k
  | .int _, .u8 a, .u8 b => fBool (Nat.beq a b) k
  | .int _, .int q a, .int q' b => cnd (decide (q = q')) (fBool (decide (a = b)) k) (.no 107)
  | _, _, _ => .no 108
noncomputable def findK (d : TypeDesc) (x : AV) (es : List (AV × AV × Nat)) (no : Ans) (k : AV → Ans) : Ans :=
  List.rec (motive := fun _ => Ans) no (fun e _ ih => sameKey d x e.1 fun b => cnd b (k e.2.1) ih) es
noncomputable def lenOfK (t : TypeId) (x : AV) (h : Hp) (k : AV → Ans) : Ans :=
  match P.underlying t, x with
  | some .string, .str n _ => k (.nat n)
  | some (.slice _), .slice _ _ n _ _ => k (.nat n)
  | some (.slice _), .raw (.slice none n _) => fNat n fun n => k (.nat n)
  | some (.array n _), _ => fNat n fun n => k (.nat n)
  | some (.map _ _), .raw (.map none) => k (.nat 0)
  | some (.map _ _), .map b => mapEs b h fun es _ => fNat es.length fun n => k (.nat n)
  | _, _ => .no 109
def keyOk (d : TypeDesc) : Bool := match d with
  | .int _ => true
  | .string => true
  | _ => false
noncomputable def lookupK (t : TypeId) (x i : AV) (ok : Bool) (h : Hp) (k : AV → Ans) : Ans :=
  match P.underlying t with
  | some (.map q e) =>
    let fin (v : AV) (b : Bool) : Ans := cnd ok (k (.tup [v, .bool b])) (k v)
    match x, P.underlying q with
    | .raw (.map none), some d => cnd (keyOk d) (zeroK P e fun z => fin z false) (.no 110)
    | .map b, some d => cnd (keyOk d) (mapEs b h fun es _ => findK d i es (zeroK P e fun z => fin z false) fun v => fin v true) (.no 110)
    | _, _ => .no 110
  | _ => .no 111
noncomputable def setEs (d : TypeDesc) (x v : AV) (es : List (AV × AV × Nat)) (no : Ans) (k : List (AV × AV × Nat) → Ans) : Ans :=
  List.rec (motive := fun _ => (List (AV × AV × Nat) → Ans) → Ans) (fun _ => no) (fun e r ih k => sameKey d x e.1 fun b => cnd b (k ((e.1, v, e.2.2) :: r)) (ih fun r => k (e :: r))) es k
noncomputable def catE (l m : List (AV × AV × Nat)) (k : List (AV × AV × Nat) → Ans) : Ans :=
  List.rec (motive := fun _ => (List (AV × AV × Nat) → Ans) → Ans) (fun k => k m) (fun x _ ih k => ih fun r => k (x :: r)) l k
noncomputable def updateK (t : TypeId) (x i v : AV) (h : Hp) (k : Hp → Ans) : Ans :=
  match P.underlying t with
  | some (.map q _) =>
    match x, P.underlying q, h with
    | .map b, some d, .mk t n low => cnd (keyOk d) (mapEs b (.mk t n low) fun es c =>
      let fin (es : List (AV × AV × Nat)) (c : Nat) : Ans := t.setP (path b) (some (.map es c)) fun t => natMin low b fun low => k (.mk t n low)
      setEs d i v es (catE es [(i, v, c)] fun es => fNat (Nat.succ c) fun c => fin es c) fun es => fin es c) (.no 112)
    | _, _, _ => .no 112
  | _ => .no 113
noncomputable def newMapK (h : Hp) (k : AV → Hp → Ans) : Ans :=
  match h with
  | .mk t n low => t.setP (path n) (some (.map [] 0)) fun t => fNat (Nat.succ n) fun n' => k (.map n) (.mk t n' low)
noncomputable def unsafeTy (P : Program) (ts : Array TypeId) (x : Ans) : Ans := cnd (Nat.beq ts.size 2) x (.no 204)
noncomputable def unsafeStrK (P : Program) (ts : Array TypeId) (b n : Nat) (h : Hp) (k : AV → Hp → Ans) : Ans :=
  cnd (Nat.beq ts.size 2) (match (ts[0]?).bind P.underlying with
    | some (.pointer e) => getK b 0 n h fun cs => List.rec (motive := fun _ => (List Nat → Ans) → Ans) (fun k => k []) (fun c _ ih k => match c with
            | .u8 m => cnd (Nat.blt m 256) (ih fun r => k (m :: r)) (.no 37)
            | _ => .no 38) cs fun l => cnd (Nat.blt 0 n) (cnd (Nat.blt n two63) (cnd (Nat.beq (P.cellsOf e) 1) (match h with
              | .mk t nx low => t.getP (path b) (.no 205) fun bl => match bl with
                | .cells e' _ _ _ _ => cnd (Nat.beq e' e) (natMin low b fun low => t.setP (path b) none fun t => k (.str n l) (.mk t nx low)) (.no 206)
                | _ => .no 207) (.no 208)) (.no 209)) (.no 210)
    | _ => .no 211) (.no 212)
noncomputable def rangeStrK (P : Program) (t : TypeId) (x : AV) (h : Hp) (k : AV → Hp → Ans) : Ans :=
  match P.underlying t, x, h with
  | some .string, .str _ l, .mk tr nx low => tr.setP (path nx) (some (.iter l 0)) fun tr => fNat (Nat.succ nx) fun n' => k (.ptr nx 0) (.mk tr n' low)
  | some (.map _ _), .map b, .mk tr nx low => tr.getP (path b) (.no 246) fun bl => match bl with
    | .map _ c => tr.setP (path nx) (some (.miter b c)) fun tr => fNat (Nat.succ nx) fun n' => k (.ptr nx 0) (.mk tr n' low)
    | _ => .no 247
  | _, _, _ => .no 220
noncomputable def nextStrK (x : AV) (h : Hp) (k : AV → Hp → Ans) : Ans :=
  match x, h with
  | .ptr b 0, .mk t n low => t.getP (path b) (.no 221) fun bl => match bl with
    | .iter l pos => dropK pos l fun r => List.rec (motive := fun _ => Ans) (k (.tup [.bool false]) (.mk t n low))
        (fun c _ _ => cnd (Nat.blt c 128) (fNat (Nat.succ pos) fun p => natMin low b fun low' => t.setP (path b) (some (.iter l p)) fun t' => k (.tup [.bool true, .nat pos, .int .i32 c]) (.mk t' n low')) (.no 222)) r
    | _ => .no 223
  | _, _ => .no 224
noncomputable def builtinK (b : Builtin) (ts : Array TypeId) (ty : TypeId) (xs : List AV) (h : Hp) (k : AV → Hp → Ans) : Ans :=
  match b, xs with
  | .len, [x] => Option.rec (motive := fun _ => Ans) (.no 114) (fun t => lenOfK P t x h fun v => k v h) ts[0]?
  | .append, [s, x] => appendK P ts s x h k
  | .copy, [d, x] => copyK P ts d x h k
  | .cap, [.slice _ _ _ true c] => match (ts[0]?).bind P.underlying with
    | some (.slice _) => k (.nat c) h
    | _ => .no 115
  | .cap, [.raw (.slice none _ c)] => match (ts[0]?).bind P.underlying with
    | some (.slice _) => fNat c fun c => k (.nat c) h
    | _ => .no 1151
  | .unsafeSliceData, [.slice b off n ex c] => cnd (Nat.blt 0 n) (cnd (Bool.or (!ex) (Nat.blt 0 c)) (k (.ptr b off) h) (.no 200)) (.no 201)
  | .unsafeSliceData, [.raw (.slice none _ _)] => k (.raw (.pointer none)) h
  | .unsafeString, [.raw (.pointer none), .nat n] => cnd (Nat.beq n 0) (unsafeTy P ts (k (.str 0 []) h)) (.no 202)
  | .unsafeString, [.ptr b off, .nat n] => cnd (Nat.beq off 0) (unsafeStrK P ts b n h k) (.no 203)
  | .max, xs => plainsK xs fun vs => modelK P (Builtin.max_ ts ty vs.toArray) fun v => k v h
  | .min, xs => plainsK xs fun vs => modelK P (Builtin.min_ ts ty vs.toArray) fun v => k v h
  | .real, xs => plainsK xs fun vs => modelK P (Builtin.real_ ts ty vs.toArray) fun v => k v h
  | .imag, xs => plainsK xs fun vs => modelK P (Builtin.imag_ ts ty vs.toArray) fun v => k v h
  | .complex, xs => plainsK xs fun vs => modelK P (Builtin.complex_ ts ty vs.toArray) fun v => k v h
  | _, _ => .no 116
where
  plainsK (xs : List AV) (k : List Value → Ans) : Ans := Option.rec (motive := fun _ => Ans) (.no 117) k (plainL xs)
end
end Go.Ev
end
namespace Go.Ev
section
inductive Rf where
  | loc (n : Nat)
  | var (p : Pa)
  | cst (v : AV)
  | bad
inductive Cls where
  | quiet
  | bar (m : Nat)
  | free (anc : Nat)
  | rd (m : Nat)
  | mk (anc : Nat)
  | spot (anc : Nat)
abbrev AF1 := AV → Hp → AK → Ans
abbrev AF2 := AV → AV → Hp → AK → Ans
abbrev AFN := List AV → Hp → AK → Ans
inductive CO where
  | mv (r : Rf) (d : Option Pa)
  | o1 (f : AF1) (r : Rf) (d : Option Pa)
  | o2 (f : AF2) (r s : Rf) (d : Option Pa)
  | on (f : AFN) (rs : List Rf) (d : Option Pa)
  | call (rs : List Rf) (d : Option Pa)
  | grd (r : Rf) (want : Bool) (o : CO) (d : Option Pa)
  | free (kd i anc : Nat) (o : CO)
  | bar (i m : Nat) (o : CO)
  | rd (i m : Nat) (o : CO)
  | bad (n : Nat)
def okConst (v : Value) : Bool :=
  match v with
  | .agg cs => cs.toList.all fun c => flat c
  | .tuple cs => cs.toList.all fun c => flat c
  | _ => true
where
  flat (v : Value) : Bool := match v with
    | .agg _ => false
    | .tuple _ => false
    | _ => true
def pureOp : Op → Bool
  | .move _ | .assign _ | .pick .. | .nilCheck _ | .binOp .. | .unOp .. | .makeInterface .. | .makeFunc .. | .slice .. | .fieldAddr .. | .field .. | .indexAddr .. | .index .. | .extract .. | .build .. => true
  | .call { callee := .builtin b, .. } => match b with
    | .max | .min | .real | .imag | .complex => true
    | _ => false
  | _ => false
section
variable (P : Program)
def convQ (P : Program) (s d : TypeId) : Bool := match P.underlying s, P.underlying d with
  | some (.int _), some (.int _) => true
  | some .string, some .string => true
  | _, _ => false
noncomputable def convQK (src dst : TypeId) (x : AV) (k : AV → Ans) : Ans :=
  match P.underlying dst, x with
  | some (.int q), .nat n => cnd (knownB P src) (wrapK q (.ofNat n) k) (.no 127)
  | some (.int q), .u8 n => cnd (knownB P src) (wrapK q (.ofNat n) k) (.no 127)
  | some (.int q), .int _ n => cnd (knownB P src) (wrapK q n k) (.no 127)
  | some .string, .str n l => cnd (knownB P src) (k x) (.no 34)
  | _, _ => .no 190
def lenQ (P : Program) (t : TypeId) : Bool := match P.underlying t with
  | some .string => true
  | some (.slice _) => true
  | some (.array ..) => true
  | _ => false
noncomputable def lenQK (t : TypeId) (x : AV) (k : AV → Ans) : Ans :=
  match P.underlying t, x with
  | some .string, .str n _ => k (.nat n)
  | some (.slice _), .slice _ _ n _ _ => k (.nat n)
  | some (.slice _), .raw (.slice none n _) => fNat n fun n => k (.nat n)
  | some (.array n _), _ => fNat n fun n => k (.nat n)
  | _, _ => .no 191
def quietOp (o : Op) : Bool :=
  match o with
  | .call { callee := .builtin .len, argTypes, .. } => match argTypes[0]? with
    | some t => lenQ P t
    | none => false
  | .convert s d _ => convQ P s d
  | o => pureOp o
def mapB (P : Program) (t : TypeId) : Bool := match P.underlying t with | some (.map _ _) => true | _ => false
noncomputable def opC (o : Op) (ty : TypeId) : OpC :=
  match o with
  | .pick .. => .cn fun xs h k => match xs with
    | [c, a, b] => onBool c (k b h) (k a h) (.no 130)
    | _ => .no 130
  | .binOp op t _ _ _ => binC P op t
  | .unOp op _ _ => .c1 fun x h k => unK P op x fun v => k v h
  | .convert s d _ => match convQ P s d with
    | true => .c1 fun x h k => convQK P s d x fun v => k v h
    | false => .c1 fun x h k => convK P s d x h k
  | .alloc e => .cn fun _ h k => zeroK P e fun z => sizeK P e fun sz => z.cells fun l => newK e l true sz h fun b h => k (.ptr b 0) h
  | .box e _ => .c1 fun x h k => sizeK P e fun sz => x.cells fun l => newK e l true sz h fun b h => k (.ptr b 0) h
  | .build t ps => .cn fun xs h k => buildK P t (ps.toList.map (·.1)) xs fun v => k v h
  | .buildSlice t n ps => .cn fun xs h k => buildSliceK P t n (ps.toList.map (·.1)) xs h k
  | .load t _ => .c1 fun x h k => loadK P t x h fun v => k v h
  | .store t _ _ => .c2 fun x v h k => storeK P t x v h fun h => k (.tup []) h
  | .nilCheck _ => .c1 fun x h k => match x with
    | .ptr .. => k x h
    | .fn (.func f) l m => k x h
    | _ => .no 131
  | .makeInterface t _ => match P.underlying t with
    | some (.interface _) => .bad 132
    | some _ => .c1 fun x h k => k (.iface t x) h
    | none => .bad 133
  | .makeFunc fn first _ => .cn fun xs h k => takeK first.size xs fun a => dropK first.size xs fun b => k (.fn fn a b) h
  | .makeMap t none => .cn fun _ h k => newMapK h k
  | .makeMap t (some _) => .c1 fun x h k => natOf x fun _ => cnd (mapB P t) (newMapK h k) (.no 134)
  | .makeSlice t _ _ => .c2 fun x y h k => makeSliceK P t x y h k
  | .slice t _ none none none => .c1 fun x h k => sliceK P t x none none none fun v => k v h
  | .slice t _ (some _) none none => .c2 fun x a h k => sliceK P t x (some a) none none fun v => k v h
  | .slice t _ none (some _) none => .c2 fun x b h k => sliceK P t x none (some b) none fun v => k v h
  | .slice t _ (some _) (some _) none => .cn fun xs h k => match xs with
      | [x, a, b] => sliceK P t x (some a) (some b) none fun v => k v h
      | _ => .no 135
  | .slice t _ none (some _) (some _) => .cn fun xs h k => match xs with
      | [x, b, c] => sliceK P t x none (some b) (some c) fun v => k v h
      | _ => .no 136
  | .slice t _ (some _) (some _) (some _) => .cn fun xs h k => match xs with
      | [x, a, b, c] => sliceK P t x (some a) (some b) (some c) fun v => k v h
      | _ => .no 136
  | .fieldAddr s _ f => .c1 fun x h k => fieldAddrK P s x f fun v => k v h
  | .field s _ f => .c1 fun x h k => fieldK P s x f fun v => k v h
  | .indexAddr t _ _ => .c2 fun x i h k => indexAddrK P t x i fun v => k v h
  | .index t _ _ => .c2 fun x i h k => indexK P t x i fun v => k v h
  | .lookup t _ _ ok => .c2 fun x i h k => lookupK P t x i ok h fun v => k v h
  | .mapUpdate t _ _ _ => .cn fun xs h k => match xs with
    | [x, i, v] => updateK P t x i v h fun h => k (.tup []) h
    | _ => .no 138
  | .insert t _ _ _ => .cn fun xs h k => match xs with
    | [x, i, v] => updateK P t x i v h fun h => k (.tup []) h
    | _ => .no 138
  | .extract _ i => .c1 fun x h k => match x with
    | .tup l => nthK i l (.no 139) fun v => k v h
    | _ => .no 140
  | .call { callee := .builtin .len, argTypes, .. } => match argTypes[0]? with
    | some t => match lenQ P t with
      | true => .c1 fun x h k => lenQK P t x fun v => k v h
      | false => .c1 fun x h k => lenOfK P t x h fun v => k v h
    | none => .bad 114
  | .call { callee := .builtin b, argTypes, .. } => .cn fun xs h k => builtinK P b argTypes ty xs h k
  | .range t _ => .c1 fun x h k => rangeStrK P t x h k
  | .next _ s => match s with
    | true => .c1 fun x h k => nextStrK x h k
    | false => .bad 1412
  | _ => .bad 141
def orMask (a : Nat) (t : Nat) : Nat := Nat.lor a (Nat.pow 2 t)
def inMask (a : Nat) (t : Nat) : Bool := Nat.beq (Nat.land (Nat.shiftRight a t) 1) 1
def befores (ops : List Oper) : List Nat :=
  (ops.foldl (fun (acc : List Nat) o => acc ++ [o.after.toList.foldl (fun s e => if Region.binds .any e then Nat.lor (orMask s e.on) (acc.getD e.on 0) else s) 0]) [])
def readsOf (ops : List Oper) (o : Oper) : List Nat :=
  (o.op.operands.toList.filterMap fun | .tmp t => some t | _ => none) ++
  (match o.guard with
   | some (g, _) => ((ops[g]?).bind (·.dst)).toList
   | none => [])
def apartB (ops : List Oper) (x y : Oper) : Bool :=
  (match x.dst with
   | some d => !(readsOf ops y).contains d && y.dst != some d
   | none => true) &&
  (match y.dst with
   | some d => !(readsOf ops x).contains d
   | none => true)
def openOk (ops : List Oper) (bf : List Nat) : Bool :=
  (ops.zipIdx.all fun (o, i) => o.after.toList.all fun e => !Region.binds .any e || Nat.blt e.on i) && (ops.zip bf).zipIdx.all fun ((y, by_), j) => (ops.take j).zipIdx.all fun (x, i) => inMask by_ i || apartB ops x y
def isLd (o : Op) : Bool := match o with
  | .load .. => true
  | .lookup .. => true
  | _ => false
def wrOp (o : Op) : Bool := match o with
  | .store .. => true
  | .mapUpdate .. => true
  | .insert .. => true
  | .next .. => true
  | .call { callee := .value _, .. } => true
  | .call { callee := .builtin b, .. } => match b with
    | .append => true
    | .copy => true
    | .unsafeString => true
    | _ => false
  | _ => false
def rdB (ops : List Oper) (bf : List Nat) (j : Nat) (y : Oper) (bj : Nat) : Bool :=
  isLd y.op && y.guard.isNone && (ops.zip bf).zipIdx.any fun ((z, bz), k) => wrOp z.op && !(k == j) && !inMask bj k && !inMask bz j
def mkOp (o : Op) : Bool := match o with
  | .alloc _ => true
  | .box .. => true
  | .buildSlice .. => true
  | .makeSlice .. => true
  | .makeMap .. => true
  | _ => false
def isStore (o : Op) : Bool := match o with
  | .store .. => true
  | _ => false
def mkB (ops : List Oper) (bf : List Nat) (i : Nat) (o : Oper) (bi : Nat) : Bool :=
  mkOp o.op && !((ops.zip bf).zipIdx.all fun ((y, by_), j) => quietOp P y.op || j == i || inMask by_ i || inMask bi j || rdB ops bf j y by_)
def barB (ops : List Oper) (bf : List Nat) (i : Nat) (bi : Nat) : Bool :=
  (ops.zip bf).zipIdx.all fun ((y, by_), j) => quietOp P y.op || j == i || inMask by_ i || inMask bi j || rdB ops bf j y by_ || mkB P ops bf j y by_
def stB (o : Oper) : Bool := isStore o.op && o.guard.isNone
def spotsB (ops : List Oper) (bf : List Nat) : Bool :=
  (ops.zip bf).zipIdx.all fun ((z, bz), k) => !stB z || barB P ops bf k bz || (ops.zip bf).zipIdx.all fun ((y, by_), j) => quietOp P y.op || j == k || inMask by_ k || inMask bz j || rdB ops bf j y by_ || mkB P ops bf j y by_ || stB y
def clsOf (ops : List Oper) (bf : List Nat) (i : Nat) (o : Oper) (bi : Nat) : Cls :=
  if quietOp P o.op then .quiet else
  if rdB ops bf i o bi then .rd bi else
  if mkB P ops bf i o bi then .mk bi else
  if barB P ops bf i bi then .bar bi else
  if stB o && spotsB P ops bf then .spot bi else .free bi
abbrev Dl := List (Nat × (Nat ⊕ Rf))
noncomputable def resolveD (D : Dl) (now : Nat) (t : Nat) : Rf :=
  List.rec (motive := fun _ => Rf) (.var (path t)) (fun e _ ih => Bool.rec (motive := fun _ => Rf) ih (Sum.rec (motive := fun _ => Rf) (fun i => .loc (Nat.sub (Nat.sub now 1) i)) (fun r => r) e.2) (Nat.beq e.1 t)) D
noncomputable def rfOp (P : Program) (D : Dl) (now : Nat) (x : Operand) : Rf :=
  match x with
  | .tmp t => resolveD D now t
  | .const v => match okConst v with
    | true => .cst (toAV v)
    | false => .bad
  | .global g => match Nat.blt g P.globals.size with
    | true => .cst (.ptr g 0)
    | false => .bad
  | .func f => .cst (.fn (.func f) [] [])
def assigned (ops : List Oper) (t : Nat) : Bool := ops.any fun o => match o.dst with | some d => Nat.beq d t | none => false
noncomputable def aliasOf (keep : Nat) (later : List Oper) (D : Dl) (o : Oper) : Option (Nat × (Nat ⊕ Rf)) :=
  match o.dst, o.guard, o.op with
  | some d, none, .move (.tmp t) => match inMask keep d, D.find? (fun e => Nat.beq e.1 t), assigned later t with
    | false, some e, _ => some (d, e.2)
    | false, none, false => some (d, .inr (.var (path t)))
    | _, _, _ => none
  | _, _, _ => none
noncomputable def dstP (keep : Nat) (o : Oper) : Option Pa := match o.dst with
  | some d => Bool.rec (motive := fun _ => Option Pa) none (some (path d)) (inMask keep d)
  | none => none
noncomputable def bareOf (c : OpC) (args : List Rf) (dst : Option Pa) : CO := match c, args with
  | .c1 f, [r] => .o1 f r dst
  | .c2 f, [r, s] => .o2 f r s dst
  | .cn f, rs => .on f rs dst
  | .bad n, _ => .bad n
  | _, _ => .bad 181
noncomputable def bareCO (keep : Nat) (o : Oper) (D : Dl) (now : Nat) : CO :=
  match o.op with
  | .move x => .mv (rfOp P D now x) (dstP keep o)
  | .assign x => .mv (rfOp P D now x) (dstP keep o)
  | .call { callee := .value f, args, .. } => .call (rfOp P D now f :: args.toList.map (rfOp P D now)) (dstP keep o)
  | op => bareOf (opC P op o.type) (op.operands.toList.map (rfOp P D now)) (dstP keep o)
noncomputable def clCO (cls : Cls) (i : Nat) (bare : CO) : CO := match cls with
  | .quiet => bare
  | .bar m => .bar i m bare
  | .free anc => .free 0 i anc bare
  | .mk anc => .free 1 i anc bare
  | .spot anc => .free 2 i anc bare
  | .rd m => .rd i m bare
noncomputable def mkCO (ops : List Oper) (keep : Nat) (o : Oper) (D : Dl) (now : Nat) (cls : Cls) (i : Nat) : CO :=
  match o.guard with
  | none => clCO cls i (bareCO P keep o D now)
  | some (g, want) => match (ops[g]?).bind (·.dst) with
    | some d => .grd (resolveD D now d) want (clCO cls i (bareCO P keep o D now)) (dstP keep o)
    | none => .bad 182
noncomputable def mkCOs (ops : List Oper) (keep : Nat) (draw : Bool) (bf : List Nat) : List CO :=
  go ops bf [] 0 0
where
  go : List Oper → List Nat → Dl → Nat → Nat → List CO
    | o :: rest, b :: bs, D, now, i => match aliasOf keep rest D o with
      | some e => go rest bs (e :: D) now (i + 1)
      | none => mkCO P ops keep o D now (match draw with | true => clsOf P ops bf i o b | false => .quiet) i :: go rest bs (match o.dst with | some d => (d, .inl now) :: D | none => D) (now + 1) (i + 1)
    | _, _, _, _, _ => []
def dstOk (N : Nat) (ops : List Oper) : Bool := ops.all fun o => match o.dst with | some d => Nat.blt d N | none => true
noncomputable def compR (N : Nat) (ops : Array Oper) (keep : Nat) (draw : Bool) : Option (List CO) :=
  match dstOk N ops.toList, draw with
  | false, _ => none
  | true, false => some (mkCOs P ops.toList keep false (ops.toList.map fun _ => 0))
  | true, true => match openOk ops.toList (befores ops.toList) with
    | true => some (mkCOs P ops.toList keep true (befores ops.toList))
    | false => none
def keepR (ops : List Oper) (acc : Nat) : Nat :=
  (ops.foldl (fun (s : Nat × Nat) o => ((o.op.operands.toList.foldl (fun a x => match x with | .tmp t => if inMask s.2 t then a else orMask a t | _ => a) s.1), match o.dst with | some d => orMask s.2 d | none => s.2)) (acc, 0)).1
def keepC : Code → Nat → Nat
  | .region _ ops _, a => keepR ops.toList a
  | .seq x y, a => keepC y (keepC x a)
  | .cond c x y, a => keepC y (keepC x (match c with | .tmp t => orMask a t | _ => a))
  | .block _ x, a => keepC x a
  | .loop x, a => keepC x a
  | .scope x, a => keepC x a
  | _, a => a
def keepF (fn : Func) : Nat :=
  match fn.body with
  | some c => (List.range (fn.params.size + fn.nfree)).foldl orMask (fn.results.toList.foldl (fun a r => match r with | .tmp t => orMask a t | .cell t _ => orMask a t) (keepC c 0))
  | none => 0
end
noncomputable def rfK (r : Rf) (L : List AV) (env : Tr AV) (k : AV → Ans) : Ans :=
  Rf.rec (motive := fun _ => Ans) (fun n => nthK n L (.no 150) k) (fun p => env.getP p (.no 151) k) (fun v => k v) (.no 152) r
noncomputable def rfsK (rs : List Rf) (L : List AV) (env : Tr AV) (k : List AV → Ans) : Ans :=
  List.rec (motive := fun _ => (List AV → Ans) → Ans) (fun k => k []) (fun r _ ih k => rfK r L env fun v => ih fun vs => k (v :: vs)) rs k
def bigN : Nat := 1000000000
def lowA1 (n : Nat) : AV → Bool
  | .nat _ => true
  | .u8 _ => true
  | .int .. => true
  | .bool _ => true
  | .str .. => true
  | .raw _ => true
  | .ptr b _ => Nat.blt b n
  | .slice b _ _ _ _ => Nat.blt b n
  | .map b => Nat.blt b n
  | .fn (.func _) [] [] => true
  | _ => false
def lowL (n : Nat) : List AV → Bool
  | [] => true
  | x :: xs => lowA1 n x && lowL n xs
def lowA (n : Nat) : AV → Bool
  | .agg l => lowL n l
  | .tup l => lowL n l
  | x => lowA1 n x
def eqNs : List Nat → List Nat → Bool
  | [], [] => true
  | x :: xs, y :: ys => Nat.beq x y && eqNs xs ys
  | _, _ => false
def eqA1 : AV → AV → Bool
  | .nat a, .nat b => Nat.beq a b
  | .u8 a, .u8 b => Nat.beq a b
  | .bool a, .bool b => a == b
  | .str n l, .str m r => Nat.beq n m && eqNs l r
  | .raw (.pointer none), .raw (.pointer none) => true
  | .raw (.map none), .raw (.map none) => true
  | .raw .nilFunc, .raw .nilFunc => true
  | .raw .nilIface, .raw .nilIface => true
  | .int k a, .int k' b => decide (k = k') && decide (a = b)
  | .fn (.func f) [] [], .fn (.func g) [] [] => Nat.beq f g
  | .raw (.slice none a b), .raw (.slice none c d) => Nat.beq a c && Nat.beq b d
  | .ptr a b, .ptr c d => Nat.beq a c && Nat.beq b d
  | .slice a b c d e, .slice a' b' c' d' e' => Nat.beq a a' && Nat.beq b b' && Nat.beq c c' && d == d' && Nat.beq e e'
  | .map a, .map b => Nat.beq a b
  | _, _ => false
def eqAL : List AV → List AV → Bool
  | [], [] => true
  | x :: xs, y :: ys => eqA1 x y && eqAL xs ys
  | _, _ => false
def eqA : AV → AV → Bool
  | .agg l, .agg m => eqAL l m
  | .tup l, .tup m => eqAL l m
  | x, y => eqA1 x y
abbrev Frees := List (Nat × List (Nat × Blk))
noncomputable def layK (d : List (Nat × Blk)) (t : Tr Blk) (k : Tr Blk → Ans) : Ans :=
  List.rec (motive := fun _ => Tr Blk → Ans) (fun t => k t) (fun e _ ih t => t.setP (path e.1) (some e.2) ih) d t
noncomputable def flushK (fs : Frees) (anc : Nat → Bool) (t : Tr Blk) (k : Tr Blk → Ans) : Ans :=
  List.rec (motive := fun _ => Tr Blk → (Tr Blk → Ans) → Ans) (fun t k => k t) (fun e _ ih t k => ih t fun t => cnd (anc e.1) (layK e.2 t k) (k t)) fs t k
noncomputable def newsK (t : Tr Blk) (n m : Nat) (k : List (Nat × Blk) → Ans) : Ans :=
  Nat.rec (motive := fun _ => Nat → (List (Nat × Blk) → Ans) → Ans) (fun _ k => k [])
    (fun _ ih n k => fNat (Nat.succ n) fun n' => ih n' fun r => t.getP (path n) (k r) fun b => k ((n, b) :: r)) (Nat.sub m n) n k
abbrev CallF := FuncId → List AV → Hp → (AV → Hp → Ans) → Ans
noncomputable def applyK (callf : CallF) (xs : List AV) (h : Hp) (k : AV → Hp → Ans) : Ans :=
  match xs with
  | .fn (.func f) first captured :: xs => catK first xs fun a => catK a captured fun a => callf f a h k
  | _ => .no 153
noncomputable def putEnv (d : Option Pa) (v : AV) (env : Tr AV) (k : Tr AV → Ans) : Ans :=
  Option.rec (motive := fun _ => Tr AV → (Tr AV → Ans) → Ans) (fun env k => k env) (fun p env k => env.setP p (some v) k) d env k
noncomputable def doCO (callf : CallF) (o : CO) (L : List AV) (env : Tr AV) (h : Hp) (fs : Frees) (k : Option Pa → AV → Hp → Frees → Ans) : Ans :=
  CO.rec (motive := fun _ => CallF → List AV → Tr AV → Hp → Frees → (Option Pa → AV → Hp → Frees → Ans) → Ans)
    (fun r d _ L env h fs k => rfK r L env fun v => k d v h fs)
    (fun f r d _ L env h fs k => rfK r L env fun x => f x h fun v h => k d v h fs)
    (fun f r s d _ L env h fs k => rfK r L env fun x => rfK s L env fun y => f x y h fun v h => k d v h fs)
    (fun f rs d _ L env h fs k => rfsK rs L env fun xs => f xs h fun v h => k d v h fs)
    (fun rs d callf L env h fs k => rfsK rs L env fun xs => applyK callf xs h fun v h => k d v h fs)
    (fun r want _ d ih callf L env h fs k => rfK r L env fun v => onGuard v want (ih callf L env h fs k) (k d (.tup []) h fs))
    (fun kd i anc _ ih callf L env h fs k => freeK kd i anc h fs fun h' kk => ih callf L env h' [] fun d v h _ => kk v h fun h fs => k d v h fs)
    (fun _ _ _ ih callf L env h fs k => ih callf L env h fs fun d v h' fs => grown h h' (k d v h' fs))
    (fun _ _ _ ih callf L env h fs k => ih callf L env (bigH h) [] fun d v h' _ => sameBig h' (lowOk v h (k d v h fs)))
    (fun n _ _ _ _ _ _ => .no n) o callf L env h fs k
where
  grown (h h' : Hp) (x : Ans) : Ans := match h with | .mk _ n _ => match h' with | .mk _ n' _ => cnd (Nat.ble n n') x (.no 157)
  onGuard (v : AV) (want : Bool) (x y : Ans) : Ans := match v with
    | .bool b => cnd (b == want) x y
    | .tup _ => y
    | _ => .no 155
  bigH (h : Hp) : Hp := match h with | .mk t _ _ => .mk t bigN bigN
  sameBig (h : Hp) (x : Ans) : Ans := match h with | .mk _ n l => cnd (Nat.beq n bigN) (cnd (Nat.beq l bigN) x (.no 231)) (.no 232)
  lowOk (v : AV) (h : Hp) (x : Ans) : Ans := match h with | .mk _ n _ => cnd (Nat.ble n bigN) (cnd (lowA n v) x (.no 233)) (.no 234)
  freeK (kd i anc : Nat) (h : Hp) (fs : Frees) (act : Hp → (AV → Hp → (Hp → Frees → Ans) → Ans) → Ans) : Ans := match h with
    | .mk t n low => Nat.rec (motive := fun _ => Ans) (flushK fs (fun j => inMask anc j) t fun t' => newK t' i t n low fs act) (fun kd _ => Nat.rec (motive := fun _ => Ans) (newK .leaf i t n low fs act)
        (fun _ _ => flushK fs (fun j => inMask anc j) t fun t' => spotK t' i anc t n low fs act) kd) kd
  newK (t' : Tr Blk) (i : Nat) (t : Tr Blk) (n low : Nat) (fs : Frees) (act : Hp → (AV → Hp → (Hp → Frees → Ans) → Ans) → Ans) : Ans :=
    act (.mk t' n n) fun v h' k => match h' with
      | .mk t'' n' low' => cnd (Nat.beq low' n) (cnd (Nat.ble n n') (newsK t'' n n' fun d => k (.mk t n' low) ((i, d) :: fs)) (.no 156)) (.no 154)
  spotK (t' : Tr Blk) (i anc : Nat) (t : Tr Blk) (n low : Nat) (fs : Frees) (act : Hp → (AV → Hp → (Hp → Frees → Ans) → Ans) → Ans) : Ans :=
    act (.mk t' n n) fun _ h1 _ => match h1 with
      | .mk _ _ b => t'.getP (path b) (.no 157) fun blk => Tr.setP (path b) (some blk) .leaf fun s => act (.mk s n n) fun v h' k => match h' with
        | .mk t'' n' low' => cnd (Nat.beq n' n) (cnd (Nat.beq low' b) (t''.getP (path b) (.no 159) fun blk' => apartK fs anc b (natMin low b fun low => k (.mk t n low) ((i, [(b, blk')]) :: fs))) (.no 158)) (.no 1561)
  apartK (fs : Frees) (anc b : Nat) (x : Ans) : Ans :=
    List.rec (motive := fun _ => Ans) x (fun e _ ih => cnd (inMask anc e.1) ih (List.rec (motive := fun _ => Ans) ih (fun d _ ih2 => cnd (Nat.beq d.1 b) (.no 1541) ih2) e.2)) fs
noncomputable def isFree (o : CO) : Bool := CO.rec (motive := fun _ => Bool) (fun _ _ => false) (fun _ _ _ => false) (fun _ _ _ _ => false) (fun _ _ _ => false) (fun _ _ => false) (fun _ _ _ _ ih => ih) (fun _ _ _ _ _ => true) (fun _ _ _ ih => ih) (fun _ _ _ _ => true) (fun _ => false) o
noncomputable def isBar (o : CO) : Bool := CO.rec (motive := fun _ => Bool) (fun _ _ => false) (fun _ _ _ => false) (fun _ _ _ _ => false) (fun _ _ _ => false) (fun _ _ => false) (fun _ _ _ _ ih => ih) (fun _ _ _ _ _ => false) (fun _ _ _ _ => true) (fun _ _ _ _ => false) (fun _ => false) o
noncomputable def barM (o : CO) : Nat := CO.rec (motive := fun _ => Nat) (fun _ _ => 0) (fun _ _ _ => 0) (fun _ _ _ _ => 0) (fun _ _ _ => 0) (fun _ _ => 0) (fun _ _ _ _ ih => ih) (fun _ _ _ _ _ => 0) (fun _ m _ _ => m) (fun _ _ _ _ => 0) (fun _ => 0) o
noncomputable def barIx (o : CO) : Nat := CO.rec (motive := fun _ => Nat) (fun _ _ => 0) (fun _ _ _ => 0) (fun _ _ _ _ => 0) (fun _ _ _ => 0) (fun _ _ => 0) (fun _ _ _ _ ih => ih) (fun _ _ _ _ _ => 0) (fun i _ _ _ => i) (fun _ _ _ _ => 0) (fun _ => 0) o
noncomputable def isRd (o : CO) : Bool := CO.rec (motive := fun _ => Bool) (fun _ _ => false) (fun _ _ _ => false) (fun _ _ _ _ => false) (fun _ _ _ => false) (fun _ _ => false) (fun _ _ _ _ _ => false) (fun _ _ _ _ _ => false) (fun _ _ _ _ => false) (fun _ _ _ _ => true) (fun _ => false) o
noncomputable def rdIx (o : CO) : Nat := CO.rec (motive := fun _ => Nat) (fun _ _ => 0) (fun _ _ _ => 0) (fun _ _ _ _ => 0) (fun _ _ _ => 0) (fun _ _ => 0) (fun _ _ _ _ _ => 0) (fun _ _ _ _ _ => 0) (fun _ _ _ _ => 0) (fun i _ _ _ => i) (fun _ => 0) o
noncomputable def rdM (o : CO) : Nat := CO.rec (motive := fun _ => Nat) (fun _ _ => 0) (fun _ _ _ => 0) (fun _ _ _ _ => 0) (fun _ _ _ => 0) (fun _ _ => 0) (fun _ _ _ _ _ => 0) (fun _ _ _ _ _ => 0) (fun _ _ _ _ => 0) (fun _ m _ _ => m) (fun _ => 0) o
noncomputable def spotQ (o : CO) : Bool := CO.rec (motive := fun _ => Bool) (fun _ _ => false) (fun _ _ _ => false) (fun _ _ _ _ => false) (fun _ _ _ => false) (fun _ _ => false) (fun _ _ _ _ _ => false) (fun kd _ _ _ _ => Nat.beq kd 2) (fun _ _ _ _ => false) (fun _ _ _ _ => false) (fun _ => false) o
noncomputable def spotM (o : CO) : Nat := CO.rec (motive := fun _ => Nat) (fun _ _ => 0) (fun _ _ _ => 0) (fun _ _ _ _ => 0) (fun _ _ _ => 0) (fun _ _ => 0) (fun _ _ _ _ _ => 0) (fun _ _ m _ _ => m) (fun _ _ _ _ => 0) (fun _ _ _ _ => 0) (fun _ => 0) o
abbrev Rds := List (Nat × (Hp → Ans → Ans))
noncomputable def allHs (m : Nat) (Hs : List (Nat × Hp)) (c : Hp → Ans → Ans) (x : Ans) : Ans := List.rec (motive := fun _ => Ans) x (fun H _ ih => c H.2 (cnd (inMask m H.1) x ih)) Hs
noncomputable def allRs (m : Nat) (Rs : Rds) (h : Hp) (k : Rds → Ans) : Ans :=
  List.rec (motive := fun _ => (Rds → Ans) → Ans) (fun k => k []) (fun e _ ih k => cnd (inMask m e.1) (ih k) (e.2 h (ih fun r => k (e :: r)))) Rs k
noncomputable def chkRd (callf : CallF) (o : CO) (L : List AV) (env : Tr AV) (v : AV) (H : Hp) (x : Ans) : Ans := doCO callf o L env H [] fun _ v' _ _ => cnd (eqA v v') x (.no 235)
noncomputable def flushAll (fs : Frees) (h : Hp) (k : Hp → Ans) : Ans :=
  List.rec (motive := fun _ => Hp → (Hp → Ans) → Ans) (fun h k => k h) (fun e fs _ h k => match h with | .mk t n low => flushK (e :: fs) (fun _ => true) t fun t => k (.mk t n low)) fs h k
noncomputable def keepFs (m : Nat) (fs : Frees) (k : Frees → Ans) : Ans :=
  List.rec (motive := fun _ => (Frees → Ans) → Ans) (fun k => k []) (fun e _ ih k => ih fun r => cnd (inMask m e.1) (k r) (k (e :: r))) fs k
noncomputable def flushBar (m : Nat) (fs : Frees) (h : Hp) (k : Hp → Frees → Ans) : Ans :=
  List.rec (motive := fun _ => Hp → (Hp → Frees → Ans) → Ans) (fun h k => k h []) (fun e fs _ h k => match h with | .mk t n low => flushK (e :: fs) (fun j => inMask m j) t fun t => keepFs m (e :: fs) fun r => k (.mk t n low) r) fs h k
noncomputable def spotH (fs : Frees) (Hs : List (Nat × Hp)) (k : Hp → List (Nat × Hp) → Ans) : Ans :=
  match fs, Hs with
  | (_, (b, _) :: _) :: _, (c, .mk t n low) :: Hs => t.setP (path b) none fun t => k (.mk t n low) ((c, .mk t n low) :: Hs)
  | _, _ => .no 1542
noncomputable def chkRs (m : Nat) (Rs : Rds) (h : Hp) (x : Ans) : Ans :=
  List.rec (motive := fun _ => Ans) x (fun e _ ih => cnd (inMask m e.1) ih (e.2 h ih)) Rs
noncomputable def runSeq (callf : CallF) (os : List CO) (L : List AV) (env : Tr AV) (h : Hp) (k : Tr AV → Hp → Ans) : Ans :=
  List.rec (motive := fun _ => CallF → List AV → Tr AV → Hp → (Tr AV → Hp → Ans) → Ans) (fun _ _ env h k => k env h)
    (fun o _ ih callf L env h k => doCO callf o L env h [] fun d v h _ => putEnv d v env fun env => ih callf (v :: L) env h k) os callf L env h k
noncomputable def runFree (callf : CallF) (os : List CO) (L : List AV) (env : Tr AV) (h : Hp) (fs : Frees) (Hs : List (Nat × Hp)) (Rs : Rds) (k : Tr AV → Hp → Ans) : Ans :=
  List.rec (motive := fun _ => CallF → List AV → Tr AV → Hp → Frees → List (Nat × Hp) → Rds → (Tr AV → Hp → Ans) → Ans) (fun _ _ env h fs _ _ k => flushAll fs h fun h => k env h)
    (fun o _ ih callf L env h fs Hs Rs k => cnd (isBar o) (flushBar (barM o) fs h fun h fs => doCO callf o L env h [] fun d v h _ => allRs (barM o) Rs h fun Rs => putEnv d v env fun env => ih callf (v :: L) env h fs ((barIx o, h) :: Hs) Rs k)
      (cnd (isRd o) (doCO callf o L env h fs fun d v h fs => allHs (rdM o) Hs (chkRd callf o L env v) (putEnv d v env fun env2 => ih callf (v :: L) env2 h fs Hs ((rdIx o, chkRd callf o L env v) :: Rs) k))
        (cnd (spotQ o) (doCO callf o L env h fs fun d v h fs => spotH fs Hs fun H Hs => chkRs (spotM o) Rs H (putEnv d v env fun env => ih callf (v :: L) env h fs Hs Rs k))
          (doCO callf o L env h fs fun d v h fs => putEnv d v env fun env => ih callf (v :: L) env h fs Hs Rs k)))) os callf L env h fs Hs Rs k
inductive CC where
  | skip
  | seqR (os : List CO)
  | freeR (os : List CO)
  | seq (a b : CC)
  | cond (r : Rf) (a b : CC)
  | block (id : Nat) (a : CC)
  | loop (a : CC)
  | exit (id : Nat)
  | scope (c : Code) (a : CC)
  | goto (l : Nat)
  | ret
  | bad (n : Nat)
noncomputable def compC (P : Program) (N keep : Nat) (c : Code) : CC :=
  Code.rec (motive := fun _ => CC) .skip
    (fun _ ops draw => match compR P N ops keep draw with
      | some os => Bool.rec (motive := fun _ => CC) (.seqR os) (.freeR os) (os.any isFree)
      | none => .bad 161)
    (fun _ _ a b => .seq a b) (fun c _ _ a b => .cond (rfOp P [] 0 c) a b) (fun id _ a => .block id a) (fun _ a => .loop a) (fun _ _ _ _ _ _ => .bad 163) (fun id => .exit id)
    (fun c a => .scope c a) (fun _ => .skip) (fun l => .goto l) .ret (fun _ => .bad 164) c
inductive Ex where
  | normal | exit (id : Nat) | goto (l : Nat) | ret
abbrev Kont := Ex → Tr AV → Hp → Ans
noncomputable def onNormal (e : Ex) (x y : Ans) : Ans := Ex.rec (motive := fun _ => Ans → Ans → Ans) (fun x _ => x) (fun _ _ y => y) (fun _ _ y => y) (fun _ y => y) e x y
noncomputable def onExit (e : Ex) (id : Nat) (x y : Ans) : Ans := Ex.rec (motive := fun _ => Nat → Ans → Ans → Ans) (fun _ _ y => y) (fun i id x y => cnd (Nat.beq i id) x y) (fun _ _ _ y => y) (fun _ _ y => y) e id x y
noncomputable def onGoto (e : Ex) (x : Nat → Ans) (y : Ans) : Ans := Ex.rec (motive := fun _ => (Nat → Ans) → Ans → Ans) (fun _ y => y) (fun _ _ y => y) (fun l x _ => x l) (fun _ y => y) e x y
noncomputable def labelC (P : Program) (N keep : Nat) (c : Code) (l : Nat) : Option CC := (findLabel c l).map (compC P N keep)
abbrev Ih := CC → Tr AV → Hp → Kont → Ans
noncomputable def scopeK (ih : Ih) (P : Program) (N keep : Nat) (c : Code) (k : Kont) (e : Ex) (env : Tr AV) (h : Hp) : Ans :=
  onGoto e (fun l => Option.rec (motive := fun _ => Ans) (k e env h) (fun a => ih (.scope c a) env h k) (labelC P N keep c l)) (k e env h)
noncomputable def run (P : Program) (callf : CallF) (N keep : Nat) (fuel : Nat) : Ih :=
  Nat.rec (motive := fun _ => Ih) (fun _ _ _ _ => .no 160)
   (fun _ ih c env h k => CC.rec (motive := fun _ => Ih → CallF → Tr AV → Hp → Kont → Ans)
     (fun _ _ env h k => k .normal env h)
     (fun os _ callf env h k => runSeq callf os [] env h (k .normal))
     (fun os _ callf env h k => runFree callf os [] env h [] [(0, h)] [] (k .normal))
     (fun a b _ _ ih _ env h k => ih a env h fun e env h => onNormal e (ih b env h k) (k e env h))
     (fun r a b _ _ ih _ env h k => rfK r [] env fun v => onBool v (ih b env h k) (ih a env h k) (.no 162))
     (fun id a _ ih _ env h k => ih a env h fun e env h => onExit e id (k .normal env h) (k e env h))
     (fun a _ ih _ env h k => ih a env h fun e env h => onNormal e (ih (.loop a) env h k) (k e env h))
     (fun id _ _ env h k => k (.exit id) env h)
     (fun c a _ ih _ env h k => ih a env h (scopeK ih P N keep c k))
     (fun l _ _ env h k => k (.goto l) env h)
     (fun _ _ env h k => k .ret env h)
     (fun n _ _ _ _ _ => .no n) c ih callf env h k) fuel
noncomputable def argsOk (xs : List AV) (keep : Nat) : Bool := List.rec (motive := fun _ => Nat → Bool) (fun _ => true) (fun _ _ ih n => Bool.rec (motive := fun _ => Bool) false (ih (Nat.succ n)) (inMask keep n)) xs 0
noncomputable def initEnv (xs : List AV) (k : Tr AV → Ans) : Ans := writeL xs 0 .leaf k
noncomputable def resOne (r : ResultVar) (env : Tr AV) (h : Hp) (P : Program) (k : AV → Ans) : Ans :=
  match r with
  | .tmp t => env.getP (path t) (.no 165) k
  | .cell t ty => env.getP (path t) (.no 166) fun p => loadK P ty p h k
noncomputable def resK (P : Program) (rs : List ResultVar) (env : Tr AV) (h : Hp) (k : AV → Ans) : Ans :=
  match rs with
  | [r] => resOne r env h P k
  | rs => List.rec (motive := fun _ => (List AV → Ans) → Ans) (fun k => k []) (fun r _ ih k => resOne r env h P fun v => ih fun vs => k (v :: vs)) rs fun vs => k (.tup vs)
noncomputable def flatB (x : AV) : Bool :=
  match x with
  | .nat _ => true
  | .u8 _ => true
  | .int .. => true
  | .bool _ => true
  | .str .. => true
  | .raw _ => true
  | .agg l => flats l
  | .tup l => flats l
  | _ => false
where
  flat1 (x : AV) : Bool :=
    match x with
    | .nat _ => true
    | .u8 _ => true
    | .int .. => true
    | .bool _ => true
    | .str .. => true
    | .raw _ => true
    | _ => false
  flats (l : List AV) : Bool := List.rec (motive := fun _ => Bool) true (fun x _ ih => Bool.rec (motive := fun _ => Bool) false ih (flat1 x)) l
noncomputable def indexN (l : List Nat) (c : Nat) (k : AV → Ans) : Ans :=
  List.rec (motive := fun _ => Nat → Ans) (fun _ => k (.int .i64 (-1))) (fun x _ ih i => cnd (Nat.beq x c) (k (.nat i)) (fNat (Nat.succ i) ih)) l 0
noncomputable def countN (l : List Nat) (c : Nat) (k : Nat → Ans) : Ans :=
  List.rec (motive := fun _ => Nat → Ans) (fun n => k n) (fun x _ ih n => cnd (Nat.beq x c) (fNat (Nat.succ n) ih) (ih n)) l 0
structure NewParts where
  r0 : Code
  a1 : Code
  r3 : Code
  l1 : Code
  r12 : Code
  rest : Code
  i13 : Nat
  i14 : Nat
  i15 : Nat
  i16 : Nat
  i17 : Nat
  b2 : Nat
  b3 : Nat
  ops13 : Array Oper
  ops14 : Array Oper
  ops15 : Array Oper
  ops16 : Array Oper
  ops17 : Array Oper
def NewParts.loopC (p : NewParts) : Code := .seq (.region p.i14 p.ops14 false) (.seq (.cond (.tmp 62) .skip (.exit p.b2)) (.block p.b3 (.seq (.region p.i15 p.ops15 false) (.region p.i16 p.ops16 true))))
def NewParts.code (p : NewParts) : Code :=
  .seq p.r0 (.seq p.a1 (.seq p.r3 (.seq p.l1 (.seq p.r12 (.seq (.seq (.region p.i13 p.ops13 false) (.block p.b2 (.loop p.loopC))) (.seq (.region p.i17 p.ops17 false) p.rest))))))
def seqOf : Code → Option (Code × Code)
  | .seq a b => some (a, b)
  | _ => none
def regOf (draw : Bool) : Code → Option (Nat × Array Oper)
  | .region i ops d => cond (d == draw) (some (i, ops)) none
  | _ => none
def blkOf : Code → Option (Nat × Code)
  | .block i c => some (i, c)
  | _ => none
def loopOf : Code → Option Code
  | .loop c => some c
  | _ => none
def exitOf (b : Nat) : Code → Option Unit
  | .cond (.tmp t) .skip (.exit i) => cond (Nat.beq t 62 && Nat.beq i b) (some ()) none
  | _ => none
def partsOf (c : Code) : Option NewParts := do
  let (r0, c) ← seqOf c
  let (a1, c) ← seqOf c
  let (r3, c) ← seqOf c
  let (l1, c) ← seqOf c
  let (r12, c) ← seqOf c
  let (x, c) ← seqOf c
  let (y, rest) ← seqOf c
  let (i17, ops17) ← regOf false y
  let (z, x) ← seqOf x
  let (i13, ops13) ← regOf false z
  let (b2, x) ← blkOf x
  let x ← loopOf x
  let (z, x) ← seqOf x
  let (i14, ops14) ← regOf false z
  let (z, x) ← seqOf x
  let _ ← exitOf b2 z
  let (b3, x) ← blkOf x
  let (z, x) ← seqOf x
  let (i15, ops15) ← regOf false z
  let (i16, ops16) ← regOf true x
  pure ⟨r0, a1, r3, l1, r12, rest, i13, i14, i15, i16, i17, b2, b3, ops13, ops14, ops15, ops16, ops17⟩
structure NT where
  p : List Nat
  a : AV
  b : AV
  c : AV
noncomputable def ntOf : AV → Option NT
  | .agg [.str n l, b, c] => cond (flatB.flat1 b && flatB.flat1 c) (some ⟨l, .str n l, b, c⟩) none
  | _ => none
noncomputable def ntL : List (AV × AV × Nat) → Option (List NT)
  | [] => some []
  | e :: es => match e.1, ntOf e.2.1, ntL es with
    | .str _ _, some x, some xs => some (x :: xs)
    | _, _, _ => none
def bornsB (clock : Nat) : List (AV × AV × Nat) → Bool
  | [] => true
  | e :: es => Nat.blt e.2.2 clock && es.all (fun x => !(Nat.beq e.2.2 x.2.2)) && bornsB clock es
def ltN : List Nat → List Nat → Bool
  | [], [] => false
  | [], _ :: _ => true
  | _ :: _, [] => false
  | x :: xs, y :: ys => Nat.blt x y || (Nat.beq x y && ltN xs ys)
def insT (x : NT) : List NT → List NT
  | [] => [x]
  | y :: l => cond (ltN x.p y.p) (x :: y :: l) (y :: insT x l)
def srtT : List NT → List NT
  | [] => []
  | x :: l => insT x (srtT l)
def riseB : List NT → Bool
  | [] => true
  | x :: l => l.all (fun y => ltN x.p y.p) && riseB l
def NT.cells (x : NT) : List AV := [x.a, x.b, x.c]
def cellsT : List NT → List AV
  | [] => []
  | x :: l => x.cells ++ cellsT l
def itS : Nat := 999999
noncomputable def noCall : CallF := fun _ _ _ _ => .no 255
noncomputable def envSK (bt : Nat) (k : Tr AV → Ans) : Ans := Tr.setP (path 4) (some (.ptr bt 0)) .leaf fun t => t.setP (path 60) (some (.sym itS)) k
noncomputable def stillK (bt : Nat) (env : Tr AV) (x : Ans) : Ans :=
  env.getP (path 4) (.no 251) fun y => cnd (eqA1 y (.ptr bt 0)) (env.getP (path 60) (.no 253) fun z => match z with
    | .sym s => cnd (Nat.beq s itS) x (.no 254)
    | _ => .no 248) (.no 252)
noncomputable def pickK (n2 bt : Nat) (h : Hp) (k : Hp → Ans) : Ans := match h with
  | .mk t n low => t.getP (path bt) (.no 310) fun bl => match bl with
    | .cells ty m c ex sz => c.getP (path 2) (.no 311) fun s => match s with
      | .slice bg _ _ _ _ => cnd (Nat.ble n2 bg && Nat.ble bt low) (t.getP (path bg) (.no 312) fun blg => Tr.setP (path bt) (some (.cells ty m c ex sz)) .leaf fun u => u.setP (path bg) (some blg) fun u => k (.mk u n low)) (.no 313)
      | _ => .no 314
    | _ => .no 315
noncomputable def roundK (P : Program) (N keep fuel : Nat) (p : NewParts) (bt n2 i : Nat) (env : Tr AV) (h : Hp) (k : Hp → Ans) : Ans :=
  runSeq noCall (mkCOs.go P p.ops15.toList keep false (p.ops15.toList.map fun _ => 0) p.ops15.toList.tail (p.ops15.toList.tail.map fun _ => 0) [(63, .inl 0)] 1 1) [.tup [.sym (4 * i), .agg [.sym (4 * i + 1), .sym (4 * i + 2), .sym (4 * i + 3)]]] env h fun env1 h1 =>
    run P noCall N keep fuel (compC P N keep (.region p.i16 p.ops16 true)) env1 h1 fun e env2 h2 => onNormal e (stillK bt env2 (pickK n2 bt h2 k)) (.no 250)
noncomputable def loopK (P : Program) (N keep fuel : Nat) (p : NewParts) (bt n2 : Nat) (m : Nat) : Nat → Hp → (Hp → Ans) → Ans :=
  Nat.rec (motive := fun _ => Nat → Hp → (Hp → Ans) → Ans) (fun _ h k => k h) (fun _ ih i h k => envSK bt fun env => roundK P N keep fuel p bt n2 i env h fun h' => fNat (Nat.succ i) fun i' => ih i' h' k) m
noncomputable def symsK (c : Tr AV) (x : Ans) (m : Nat) : Nat → Ans :=
  Nat.rec (motive := fun _ => Nat → Ans) (fun _ => x) (fun _ ih j => c.getP (path (3 * j)) (.no 257) fun a => c.getP (path (3 * j + 1)) (.no 257) fun b => c.getP (path (3 * j + 2)) (.no 257) fun d => match a, b, d with
    | .sym a, .sym b, .sym d => cnd (Nat.beq a (4 * j + 1) && Nat.beq b (4 * j + 2) && Nat.beq d (4 * j + 3)) (fNat (Nat.succ j) ih) (.no 258)
    | _, _, _ => .no 259) m
noncomputable def cellsK (n : Nat) (c : Tr AV) (m : Nat) : Nat → (List AV → Ans) → Ans :=
  Nat.rec (motive := fun _ => Nat → (List AV → Ans) → Ans) (fun _ k => k []) (fun _ ih j k => c.getP (path j) (.no 267) fun a => cnd (Nat.beq j 2 || lowA1 n a) (fNat (Nat.succ j) fun j' => ih j' fun r => k (a :: r)) (.no 268)) m
noncomputable def lowK (n : Nat) (c : Tr AV) (x : Ans) (m : Nat) : Nat → Ans :=
  Nat.rec (motive := fun _ => Nat → Ans) (fun _ => x) (fun _ ih j => c.getP (path j) (.no 318) fun a => cnd (lowA1 n a) (fNat (Nat.succ j) ih) (.no 319)) m
structure Res where
  ty : Nat
  sz : Nat
  l : List AV
  bg : Nat
  e3 : Nat
  n4 : Nat
def sameR (x y : Res) : Bool := Nat.beq x.ty y.ty && Nat.beq x.sz y.sz && eqAL x.l y.l && Nat.beq x.bg y.bg && Nat.beq x.e3 y.e3 && Nat.beq x.n4 y.n4
noncomputable def resK2 (n2 bt cnt : Nat) (h : Hp) (k : Res → Ans) : Ans := match h with
  | .mk t4 n4 low4 => t4.getP (path bt) (.no 277) fun bl => match bl with
    | .cells ty m c ex sz => cnd (ex && Nat.ble bt low4) (cellsK n2 c m 0 fun l => c.getP (path 2) (.no 278) fun s => match s with
      | .slice bg 0 len false 0 => t4.getP (path bg) (.no 279) fun blg => match blg with
        | .cells e3 m3 c3 ex3 sz3 => cnd (!ex3 && Nat.beq sz3 3 && Nat.beq len cnt && Nat.beq m3 (3 * cnt) && Nat.ble n2 bg && Nat.blt bg n4) (symsK c3 (k ⟨ty, sz, l, bg, e3, n4⟩) cnt 0) (.no 280)
        | _ => .no 281
      | _ => .no 282) (.no 283)
    | _ => .no 284
noncomputable def loopPart (P : Program) (N keep fuel : Nat) (p : NewParts) (bt n2 cnt : Nat) (h : Hp) (k : Res → Ans) : Ans := loopK P N keep fuel p bt n2 cnt 0 h fun h3 => resK2 n2 bt cnt h3 k
noncomputable def pre17 (P : Program) (keep : Nat) (p : NewParts) (bt : Nat) (x : Res) (cnt : Nat) (k : Ans) : Ans :=
  writeL x.l 0 .leaf fun c => Tr.setP (path bt) (some (.cells x.ty x.l.length c true x.sz)) .leaf fun t => envSK bt fun env =>
    runSeq noCall (mkCOs.go P p.ops17.toList (Nat.lor keep (Nat.pow 2 78)) false (p.ops17.toList.map fun _ => 0) p.ops17.toList.dropLast (p.ops17.toList.dropLast.map fun _ => 0) [] 0 0) [] env (.mk t x.n4 x.n4) fun env h =>
      match h with
      | .mk _ n low => cnd (Nat.beq n x.n4 && Nat.beq low x.n4) (env.getP (path 78) (.no 300) fun s => cnd (eqA1 s (.slice x.bg 0 cnt false 0)) (env.getP (path 4) (.no 301) fun y => cnd (eqA1 y (.ptr bt 0)) k (.no 302)) (.no 303)) (.no 304)
noncomputable def midK (P : Program) (N keep fuel : Nat) (p : NewParts) (env : Tr AV) (h : Hp) (k : Tr AV → Hp → Ans) : Ans :=
  run P noCall N keep fuel (compC P N keep (.region p.i13 p.ops13 false)) env h fun e env h2 => onNormal e
    (env.getP (path 60) (.no 270) fun y => match y, h2 with
      | .ptr ni 0, .mk t2 n2 low2 => t2.getP (path ni) (.no 271) fun bl => match bl with
        | .miter bm since => t2.getP (path bm) (.no 272) fun bl => match bl with
          | .map es clock => cnd (Nat.beq since clock && bornsB clock es) (env.getP (path 4) (.no 273) fun y => match y with
            | .ptr bt 0 => t2.getP (path bt) (.no 274) fun bl => match bl with
              | .cells ty m c ex sz => cnd (ex && Nat.blt bm bt && Nat.blt bt ni && Nat.ble P.globals.size bt && inMask keep 4 && inMask keep 60 && !inMask keep 63) (fNat (Nat.succ bt) fun bt1 => lowK bt1 c (
                  Option.rec (motive := fun _ => Ans) (.no 275) (fun nts => lenK (es.map (·.1)) fun cnt =>
                    cnd (riseB (srtT nts) && Nat.blt cnt 100000) (Tr.setP (path bt) (some (.cells ty m c ex sz)) .leaf fun ts =>
                      loopPart P N keep fuel p bt n2 cnt (.mk ts n2 n2) fun x => loopPart P N keep fuel p bt n2 cnt (.mk ts n2 n2) fun y => cnd (sameR x y) (pre17 P keep p bt x cnt (
                        writeL x.l 0 .leaf fun c1 => writeL (cellsT (srtT nts)) 0 .leaf fun c2 =>
                          t2.setP (path ni) none fun t => t.setP (path bt) (some (.cells x.ty x.l.length c1 true x.sz)) fun t => t.setP (path x.bg) (some (.cells x.e3 (3 * cnt) c2 false 3)) fun t => natMin low2 bt fun low =>
                            Tr.setP (path 4) (some (.ptr bt 0)) .leaf fun env5 => k env5 (.mk t x.n4 low))) (.no 305)) (.no 286)) (ntL es)) m 0) (.no 287)
              | _ => .no 288
            | _ => .no 289) (.no 290)
          | _ => .no 291
        | _ => .no 292
      | _, _ => .no 293) (.no 294)
noncomputable def chainK (P : Program) (callf : CallF) (N keep fuel : Nat) (cs : List Code) (env : Tr AV) (h : Hp) (k : Kont) : Ans :=
  List.rec (motive := fun _ => Tr AV → Hp → Kont → Ans) (fun env h k => k .normal env h) (fun c _ ih env h k => run P callf N keep fuel (compC P N keep c) env h fun e env h => onNormal e (ih env h k) (k e env h)) cs env h k
noncomputable def treeK (P : Program) (fuel : Nat) (ih : CallF) (f : FuncId) (xs : List AV) (h : Hp) (k : AV → Hp → Ans) : Ans :=
  Option.rec (motive := fun _ => Ans) (.no 297) (fun (fn : Func) => Option.rec (motive := fun _ => Ans) (.no 298) (fun (p : NewParts) =>
    match h with
    | .mk t n low => 
      let fin : Kont := fun e env h' => match e, h' with
        | .exit _, _ => .no 172
        | .goto _, _ => .no 173
        | _, .mk t' n' low' => resK P fn.results.toList env h' fun v => natMin low low' fun low'' => k v (.mk t' n' low'')
      cnd (argsOk xs (keepF fn)) (initEnv xs fun env => chainK P ih fn.ntmps (keepF fn) fuel [p.r0, p.a1, p.r3, p.l1, p.r12] env (.mk t n n) fun e env h1 =>
        onNormal e (midK P fn.ntmps (keepF fn) fuel p env h1 fun env h2 => run P ih fn.ntmps (keepF fn) fuel (compC P fn.ntmps (keepF fn) p.rest) env h2 fin) (fin e env h1)) (.no 174)) (fn.body.bind partsOf)) P.funcs[f]?
noncomputable def tabK (l : List AV) (c : Tr AV) (x : Ans) : Ans :=
  List.rec (motive := fun _ => Nat → Ans) (fun _ => x) (fun v _ ih i => c.getP (path i) (.no 240) fun u => cnd (eqA1 u v) (cnd (flatB v) (fNat (Nat.succ i) ih) (.no 239)) (.no 241)) l 0
noncomputable def tabsK (ts : List (Nat × List AV)) (h : Hp) (x : Ans) : Ans :=
  match h with
  | .mk t _ _ => List.rec (motive := fun _ => Ans) x (fun e _ ih => t.getP (path e.1) (.no 242) fun bl => match bl with
    | .cells _ m c ex _ => cnd ex (lenK e.2 fun n => cnd (Nat.beq m n) (tabK e.2 c ih) (.no 243)) (.no 244)
    | _ => .no 245) ts
noncomputable def mnzE (P : Program) (f : FuncId) : Option Nat := ((P.funcs[f]?).bind fun fn => fn.resultTypes[0]?).bind fun t => match P.underlying t with
  | some (.slice e) => some e
  | _ => none
noncomputable def extK [Sl] (P : Program) (fuel : Nat) (ih : CallF) (f : FuncId) (c : Nat) (xs : List AV) (h : Hp) (k : AV → Hp → Ans) : Ans :=
  match c, xs with
  | 1, [.str _ l, .u8 c] => cnd (Nat.blt c 256) (indexN l c fun v => k v h) (.no 168)
  | 2, [.str _ l, .u8 c] => cnd (Nat.blt c 256) (countN l c fun n => k (.nat n) h) (.no 168)
  | 3, [.sym i, .nat m] => match Sl.low i m with
    | some j => k (.nat j) h
    | none => .no 169
  | 4, [x] => k x h
  | 5, [.ptr b o] => getK b o 1 h fun l => nthK 0 l (.no 213) fun v => match v with
    | .nat n => k (.nat n) h
    | _ => .no 214
  | 6, [.ptr b o, .nat d] => getK b o 1 h fun l => nthK 0 l (.no 215) fun v => match v with
    | .nat n => fNat (Nat.add n d) fun m => cnd (Nat.blt m two63) (putK b o [.nat m] h fun h => k (.nat m) h) (.no 216)
    | _ => .no 217
  | 7, [] => tabsK Sl.tabs h (k (.bool true) h)
  | 8, xs => treeK P fuel ih f xs h k
  | 9, [.nat n] => match mnzE P f, h with
    | some e, .mk t nx low => cnd (Nat.ble n 281474976710656) (t.setP (path nx) (some (.cells e 0 .leaf false 1)) fun t => fNat (Nat.succ nx) fun n' => k (.slice nx 0 n false 0) (.mk t n' low)) (.no 2991)
    | _, _ => .no 2990
  | _, _ => .no 167
noncomputable def callK [Sl] (P : Program) (X : Nat → Nat) (fuel : Nat) (depth : Nat) : CallF :=
  Nat.rec (motive := fun _ => CallF) (fun _ _ _ _ => .no 170)
    (fun _ ih f xs h k => Nat.rec (motive := fun _ => Ans) (Option.rec (motive := fun _ => Ans) (.no 171) (fun (fn : Func) => Option.rec (motive := fun _ => Ans) (.no (1000 + f)) (fun c =>
      match h with
      | .mk t n low => cnd (argsOk xs (keepF fn)) (initEnv xs fun env => run P ih fn.ntmps (keepF fn) fuel (compC P fn.ntmps (keepF fn) c) env (.mk t n n) fun e env h' =>
        match e, h' with
        | .exit _, _ => .no 172
        | .goto _, _ => .no 173
        | _, .mk t' n' low' => resK P fn.results.toList env h' fun v =>
          natMin low low' fun low'' => cnd (Nat.beq low' n) (cnd (flatB v) (k v h) (k v (.mk t' n' low''))) (k v (.mk t' n' low''))) (.no 174)) fn.body) P.funcs[f]?) (fun c _ => extK P fuel ih f (Nat.succ c) xs h k) (X f)) depth
end
end Go.Ev
