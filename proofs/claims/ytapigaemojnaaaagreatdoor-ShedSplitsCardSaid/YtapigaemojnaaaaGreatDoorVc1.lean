/- The calculus by values, part 1. -/
import Derived.Calls
import Derived.Below
import Derived.WalkKit
import Derived.IntWalk
set_option linter.unusedVariables false
set_option linter.unusedSectionVars false
set_option linter.unusedSimpArgs false

/- A calculus of Go's functions by their values: values, and what operations make of them. -/
namespace Go.Vc

abbrev Bs := List UInt8
def maxLen : Nat := 1099511627776
/-- Numbers of texts, by name. -/
def lenZ {α : Type} (l : List α) : Int := (l.length : Int)
def byteZ (l : Bs) (z : Int) : Int := ((l.getD z.toNat 0).toNat : Int)
def takeZ {α : Type} (l : List α) (z : Int) : List α := l.take z.toNat
def dropZ {α : Type} (l : List α) (z : Int) : List α := l.drop z.toNat
def cutZ {α : Type} (l : List α) (a b : Int) : List α := (l.take b.toNat).drop a.toNat
def strZ (l : List Bs) (z : Int) : Bs := l.getD z.toNat []
def intZ (l : List Int) (z : Int) : Int := l.getD z.toNat 0
def setZ {α : Type} (l : List α) (z : Int) (x : α) : List α := l.set z.toNat x
/-- A byte of a number. -/
def zByte (z : Int) : UInt8 := UInt8.ofNat z.toNat
/-- Rows of bytes, of texts, of numbers. -/
inductive BRow where
  | bytes (l : Bs)
  | strs (l : List Bs)
  | ints (k : IntKind) (l : List Int)
/-- Values. A row bears a mark: 0: nobody writes it any more; another number: it is this call's own, by that name. -/
inductive PV where
  | undef
  | int (k : IntKind) (z : Int)
  | bool (b : Bool)
  | str (l : Bs)
  | raw (v : Value)
  | arr (n : Nat) (r : BRow)
  | agg (l : List PV)
  | tup (l : List PV)
  | row (nl : Bool) (r : BRow) (t : Nat)
  | vec (nl : Bool) (sz : Nat) (l : List PV) (t : Nat)
  | ep (r : BRow) (t : Nat) (i : Int)
  | epv (sz : Nat) (l : List PV) (t : Nat) (i : Int) (off : Nat)
  | ptr (n off : Nat)
  | pix (n off : Nat) (i : Int)
  | asl (n off : Nat) (lo len : Int)
  | gp (g off : Nat)
  | gix (g off : Nat) (i : Int)
  | fn (f : Fn) (a b : List PV)
instance : Inhabited PV := ⟨.undef⟩

mutual
/-- Each part of a value turned. -/
def PV.mapL (f : PV → PV) : PV → PV
  | .agg l => .agg (PV.mapLs f l)
  | .tup l => .tup (PV.mapLs f l)
  | .fn g a b => .fn g (PV.mapLs f a) (PV.mapLs f b)
  | x => f x
def PV.mapLs (f : PV → PV) : List PV → List PV
  | [] => []
  | x :: l => PV.mapL f x :: PV.mapLs f l
end
mutual
/-- What the parts of a value give, together. -/
def PV.allL {α : Type} (f : PV → List α) : PV → List α
  | .agg l => PV.allLs f l
  | .tup l => PV.allLs f l
  | .fn g a b => PV.allLs f a ++ PV.allLs f b
  | x => f x
def PV.allLs {α : Type} (f : PV → List α) : List PV → List α
  | [] => []
  | x :: l => PV.allL f x ++ PV.allLs f l
end
def PV.tok1 : PV → List Nat
  | .row _ _ (t + 1) => [t + 1]
  | .vec _ _ _ (t + 1) => [t + 1]
  | .ep _ (t + 1) _ => [t + 1]
  | .epv _ _ (t + 1) _ _ => [t + 1]
  | _ => []
def PV.nam1 : PV → List Nat
  | .ptr n _ => [n]
  | .pix n _ _ => [n]
  | .asl n _ _ _ => [n]
  | _ => []
/-- Marks turned, by what; 1: the value is not known any more. -/
def PV.mark1 (f : Nat → Option Nat) : PV → PV
  | .row nl r u => match f u with | some u => .row nl r u | none => .undef
  | .vec nl sz l u => match f u with | some u => .vec nl sz l u | none => .undef
  | .ep r u i => match f u with | some u => .ep r u i | none => .undef
  | .epv sz l u i off => match f u with | some u => .epv sz l u i off | none => .undef
  | x => x
def killF (t u : Nat) : Option Nat := bif Nat.beq u t then none else some u
def stillF (t u : Nat) : Option Nat := some (bif Nat.beq u t then 0 else u)
def stillRF (lo hi u : Nat) : Option Nat := some (bif Nat.ble lo u && Nat.blt u hi then 0 else u)
def bareF (u : Nat) : Option Nat := some 0
/-- A name is lost. -/
def PV.lose1 (n : Nat) : PV → PV
  | .ptr m off => bif Nat.beq m n then .undef else .ptr m off
  | .pix m off i => bif Nat.beq m n then .undef else .pix m off i
  | .asl m off i k => bif Nat.beq m n then .undef else .asl m off i k
  | x => x
def PV.ren1 (fn ft : Nat → Nat) : PV → PV
  | .row nl r t => .row nl r (ft t)
  | .vec nl sz l t => .vec nl sz l (ft t)
  | .ep r t i => .ep r (ft t) i
  | .epv sz l t i off => .epv sz l (ft t) i off
  | .ptr n off => .ptr (fn n) off
  | .pix n off i => .pix (fn n) off i
  | .asl n off i k => .asl (fn n) off i k
  | x => x
/-- Has it rows, or places? -/
def PV.far1 : PV → List Unit
  | .row .. => [()]
  | .vec .. => [()]
  | .ep .. => [()]
  | .epv .. => [()]
  | .ptr .. => [()]
  | .pix .. => [()]
  | .asl .. => [()]
  | _ => []

def BRow.len : BRow → Int
  | .bytes l => lenZ l
  | .strs l => lenZ l
  | .ints _ l => lenZ l
def BRow.get (r : BRow) (i : Int) : PV :=
  match r with
  | .bytes l => .int .u8 (byteZ l i)
  | .strs l => .str (strZ l i)
  | .ints k l => .int k (intZ l i)
def BRow.take (r : BRow) (n : Int) : BRow :=
  match r with
  | .bytes l => .bytes (takeZ l n)
  | .strs l => .strs (takeZ l n)
  | .ints k l => .ints k (takeZ l n)
def BRow.drop (r : BRow) (n : Int) : BRow :=
  match r with
  | .bytes l => .bytes (dropZ l n)
  | .strs l => .strs (dropZ l n)
  | .ints k l => .ints k (dropZ l n)
def BRow.cut (r : BRow) (a b : Int) : BRow :=
  match r with
  | .bytes l => .bytes (cutZ l a b)
  | .strs l => .strs (cutZ l a b)
  | .ints k l => .ints k (cutZ l a b)
def BRow.none? : BRow → Bool
  | .bytes l => l.isEmpty
  | .strs l => l.isEmpty
  | .ints _ l => l.isEmpty
def sameKind (a b : IntKind) : Bool := match a, b with
  | .i8, .i8 | .i16, .i16 | .i32, .i32 | .i64, .i64 | .u8, .u8 | .u16, .u16 | .u32, .u32 | .u64, .u64 => true
  | _, _ => false
/-- Behind one another. -/
def BRow.app (r q : BRow) : Option BRow :=
  match r, q with
  | .bytes l, .bytes m => some (.bytes (l ++ m))
  | .strs l, .strs m => some (.strs (l ++ m))
  | .ints k l, .ints j m => match sameKind k j with
    | true => some (.ints k (l ++ m))
    | false => none
  | _, _ => none
/-- One put in its place. -/
def BRow.set (r : BRow) (i : Int) (x : PV) : Option BRow :=
  match r, x with
  | .bytes l, .int .u8 z => some (.bytes (setZ l i (zByte z)))
  | .strs l, .str s => some (.strs (setZ l i s))
  | .ints k l, .int j z => match sameKind k j with
    | true => some (.ints k (setZ l i z))
    | false => none
  | _, _ => none
/-- A cell of a marked row is written, in all that is held of it. -/
def setOf (r : BRow) (i : Int) (x : PV) (k : BRow → PV) : PV := match r.set i x with
  | some r' => k r'
  | none => .undef
def laidV (t : Nat) (i : Int) (x : PV) : PV → PV
  | .row nl r u => bif Nat.beq u t then setOf r i x (fun r' => .row nl r' u) else .row nl r u
  | .ep r u j => bif Nat.beq u t then setOf r i x (fun r' => .ep r' u j) else .ep r u j
  | .vec nl sz l u => bif Nat.beq u t then .undef else .vec nl sz l u
  | .epv sz l u j off => bif Nat.beq u t then .undef else .epv sz l u j off
  | y => y
/-- So, of what is no byte. -/
def BRow.setE (r : BRow) (i : Nat) (x : PV) : Option BRow :=
  match r, x with
  | .strs l, .str s => some (.strs (l.set i s))
  | .ints k l, .int j z => match sameKind k j with
    | true => some (.ints k (l.set i z))
    | false => none
  | _, _ => none
def inU8 (z : Int) : Prop := 0 ≤ z ∧ z ≤ 255
/-- What is asked of what is laid into a row. -/
def BRow.okAt (r : BRow) (x : PV) : Prop := match r, x with
  | .bytes _, .int _ z => inU8 z
  | _, _ => True
/-- Some laid over others, from a place on. -/
def overZ {α : Type} (l : List α) (i : Int) (m : List α) : List α := l.take i.toNat ++ m ++ l.drop (i.toNat + m.length)
def BRow.over (r : BRow) (i : Int) (q : BRow) : Option BRow :=
  match r, q with
  | .bytes l, .bytes m => some (.bytes (overZ l i m))
  | .strs l, .strs m => some (.strs (overZ l i m))
  | .ints k l, .ints j m => match sameKind k j with
    | true => some (.ints k (overZ l i m))
    | false => none
  | _, _ => none

/-- What is known of a value that is looked up. -/
def PV.asInt : PV → Int | .int _ z => z | _ => 0
def PV.asBool : PV → Bool | .bool b => b | _ => false
def PV.asStr : PV → Bs | .str l => l | _ => []
def PV.asRaw : PV → Value | .raw v => v | _ => .tuple #[]
def PV.asNil : PV → Bool | .row n _ _ => n | .vec n _ _ _ => n | _ => true
def PV.asBytes : PV → Bs | .row _ (.bytes l) _ => l | .arr _ (.bytes l) => l | _ => []
def PV.asStrs : PV → List Bs | .row _ (.strs l) _ => l | .arr _ (.strs l) => l | _ => []
def PV.asInts : PV → List Int | .row _ (.ints _ l) _ => l | .arr _ (.ints _ l) => l | _ => []
def PV.asVec : PV → List PV | .vec _ _ l _ => l | _ => []
/-- One of several. -/
def pvZ (l : List PV) (z : Int) : PV := l.getD z.toNat .undef
def PV.part (x : PV) (j : Nat) : PV := match x with | .agg l => l.getD j .undef | _ => .undef
mutual
/-- How many cells it takes. -/
def PV.wid : PV → Nat
  | .agg l => PV.wids l
  | .arr n _ => n
  | _ => 1
def PV.wids : List PV → Nat
  | [] => 0
  | x :: l => PV.wid x + PV.wids l
end
mutual
/-- What lies at a place within: a whole of so many cells, or a cell. -/
def PV.getAt (whole : Bool) (sz : Nat) : PV → Nat → PV
  | .agg l, off => match whole && Nat.beq off 0 && Nat.beq (PV.wids l) sz with
    | true => .agg l
    | false => PV.getAts whole sz l off
  | .arr n r, off => match whole && Nat.beq off 0 && Nat.beq n sz with
    | true => .arr n r
    | false => match Nat.blt off n with
      | true => r.get (off : Int)
      | false => .undef
  | x, off => match Nat.beq off 0 with
    | true => x
    | false => .undef
def PV.getAts (whole : Bool) (sz : Nat) : List PV → Nat → PV
  | [], _ => .undef
  | x :: l, off => match Nat.blt off (PV.wid x) with
    | true => PV.getAt whole sz x off
    | false => PV.getAts whole sz l (off - PV.wid x)
end
mutual
/-- So, laid. -/
def PV.setAt (y : PV) : PV → Nat → Option PV
  | .agg l, off => match Nat.beq off 0 && Nat.beq (PV.wids l) (PV.wid y) && (match y with | .agg _ => true | _ => false) with
    | true => some y
    | false => (PV.setAts y l off).map .agg
  | .arr n r, off => match Nat.beq off 0 && (match y with | .arr m _ => Nat.beq m n | _ => false) with
    | true => some y
    | false => match Nat.blt off n with
      | true => (r.setE off y).map (.arr n)
      | false => none
  | x, off => match Nat.beq off 0 && Nat.beq (PV.wid y) 1 with
    | true => some y
    | false => none
def PV.setAts (y : PV) : List PV → Nat → Option (List PV)
  | [], _ => none
  | x :: l, off => match Nat.blt off (PV.wid x) with
    | true => (PV.setAt y x off).map (· :: l)
    | false => (PV.setAts y l (off - PV.wid x)).map (x :: ·)
end

mutual
/-- The array that begins at a place within. -/
def PV.arrAt : PV → Nat → Option (Nat × BRow)
  | .agg l, off => PV.arrAts l off
  | .arr n r, off => match Nat.beq off 0 with
    | true => some (n, r)
    | false => none
  | _, _ => none
def PV.arrAts : List PV → Nat → Option (Nat × BRow)
  | [], _ => none
  | x :: l, off => match Nat.blt off (PV.wid x) with
    | true => PV.arrAt x off
    | false => PV.arrAts l (off - PV.wid x)
end
mutual
/-- It, turned. -/
def PV.putArr (q : BRow) : PV → Nat → Option PV
  | .agg l, off => (PV.putArrs q l off).map .agg
  | .arr n r, off => match Nat.beq off 0 with
    | true => some (.arr n q)
    | false => none
  | _, _ => none
def PV.putArrs (q : BRow) : List PV → Nat → Option (List PV)
  | [], _ => none
  | x :: l, off => match Nat.blt off (PV.wid x) with
    | true => (PV.putArr q x off).map (· :: l)
    | false => (PV.putArrs q l (off - PV.wid x)).map (x :: ·)
end

/-- What an operation comes to: a value; a value, if; nothing. -/
inductive OpR where
  | ok (v : PV)
  | need (p : Prop) (v : PV)
  | bad (n : Nat)
/-- What is held: the temporaries of a region (with the guard beneath which they were laid), what is kept, boxes. -/
structure VS where
  loc : List (Nat × Option (Nat × Bool) × PV)
  env : List (Nat × PV)
  lh : List (Nat × PV)
/-- So, of what is held: nothing turns; or values turn, and boxes. -/
inductive OpS where
  | val (v : PV)
  | vneed (p : Prop) (v : PV)
  | ok (v : PV) (f : Option (PV → PV)) (lh : List (Nat × PV))
  | need (p : Prop) (v : PV) (f : Option (PV → PV)) (lh : List (Nat × PV))
  | bad (n : Nat)
def OpR.at (r : OpR) : OpS := match r with
  | .ok v => .val v
  | .need p v => .vneed p v
  | .bad n => .bad n
def getN {α : Type} (n : Nat) : List (Nat × α) → Option α
  | [] => none
  | e :: l => bif Nat.beq e.1 n then some e.2 else getN n l
def setN {α : Type} (n : Nat) (x : α) : List (Nat × α) → List (Nat × α)
  | [] => []
  | e :: l => bif Nat.beq e.1 n then (n, x) :: l else e :: setN n x l
/-- All values turned. -/
def VS.turn (f : Option (PV → PV)) (lh : List (Nat × PV)) (s : VS) : VS := match f with
  | none => ⟨s.loc, s.env, lh⟩
  | some f => ⟨s.loc.map fun e => (e.1, e.2.1, e.2.2.mapL f), s.env.map fun e => (e.1, e.2.mapL f), lh⟩
/-- Boxes' values turned. -/
def turnB (f : PV → PV) (lh : List (Nat × PV)) : List (Nat × PV) := lh.map fun e => (e.1, e.2.mapL f)

section
variable (P : Program)
def sizeT (t : TypeId) : Nat := match P.info? t with | some i => i.size | none => 0
def hasT (t : TypeId) : Bool := (P.underlying t).isSome
def aggT (t : TypeId) : Bool := match P.underlying t with
  | some (.struct _) => true
  | some (.array _ _) => true
  | _ => false
/-- A row's kind. -/
def rowT (e : TypeId) : Option BRow := match P.underlying e with
  | some (.int .u8) => some (.bytes [])
  | some .string => some (.strs [])
  | some (.int k) => some (.ints k [])
  | _ => none
/-- A row of nothing, of elements of a type. -/
def emptyRow (nl : Bool) (e : TypeId) (t : Nat) : PV := match rowT P e with
  | some r => .row nl r t
  | none => .vec nl (sizeT P e) [] t
/-- A nil that is a row's, if the type is one. -/
def typed (t : TypeId) (tok : Nat) (x : PV) : PV := match x with
  | .raw (.slice none 0 0) => match P.underlying t with
    | some (.slice e) => emptyRow P true e tok
    | _ => x
  | x => x
/-- A constant. -/
def ofValue (v : Value) : PV := match v with
  | .int k n => .int k n
  | .bool b => .bool b
  | .string s => .str s.data.toList
  | .agg _ => .undef
  | .tuple _ => .undef
  | v => .raw v
/-- By what a type tells. -/
def shapeV : Nat → TypeId → PV → PV
  | 0, _, _ => .undef
  | n + 1, t, c => match P.underlying t with
    | some (.int k) => .int k c.asInt
    | some .bool => .bool c.asBool
    | some .string => .str c.asStr
    | some (.slice e) => match rowT P e with
      | some (.bytes _) => .row c.asNil (.bytes c.asBytes) 0
      | some (.strs _) => .row c.asNil (.strs c.asStrs) 0
      | some (.ints k _) => .row c.asNil (.ints k c.asInts) 0
      | none => .vec c.asNil (sizeT P e) c.asVec 0
    | some (.complex _) => .raw c.asRaw
    | some (.float _) => .raw c.asRaw
    | some (.struct fs) => .agg (fs.toList.zipIdx.map fun e => shapeV n e.1.type (c.part e.2))
    | some (.array len e) => match rowT P e with
      | some (.bytes _) => .arr len (.bytes c.asBytes)
      | some (.strs _) => .arr len (.strs c.asStrs)
      | some (.ints k _) => .arr len (.ints k c.asInts)
      | none => .agg ((List.range len).map fun i => shapeV n e (c.part i))
    | _ => .undef
/-- The zero of a type; rows of nothing bear marks from tok on. -/
def zeroV : Nat → TypeId → Nat → PV
  | 0, _, _ => .undef
  | n + 1, t, tok => match P.underlying t with
    | some (.struct fs) => .agg (fs.toList.map fun f => zeroV n f.type (match tok with | 0 => 0 | k => k + f.offset))
    | some (.array len e) => match rowT P e with
      | some (.bytes _) => .arr len (.bytes (List.replicate len 0))
      | some (.strs _) => .arr len (.strs (List.replicate len []))
      | some (.ints k _) => .arr len (.ints k (List.replicate len 0))
      | none => .agg ((List.range len).map fun i => zeroV n e (match tok with | 0 => 0 | k => k + i * sizeT P e))
    | some (.int k) => .int k 0
    | some .bool => .bool false
    | some .string => .str []
    | some (.slice e) => emptyRow P true e tok
    | some (.pointer _) => .raw (.pointer none)
    | some (.map _ _) => .raw (.map none)
    | some (.func _ _ _) => .raw .nilFunc
    | some (.complex k) => .raw (.complex k 0 0)
    | some (.float k) => .raw (.float k 0)
    | some (.interface _) => .raw .nilIface
    | _ => .undef

def BRow.vals : BRow → List Value
  | .bytes l => l.map fun c => .int .u8 (c.toNat : Int)
  | .strs l => l.map fun s => .string ⟨s.toArray⟩
  | .ints k l => l.map fun z => .int k z
def PV.isAgg : PV → Bool
  | .agg _ => true
  | .arr _ _ => true
  | .tup _ => true
  | _ => false
def oneV : Value → Bool
  | .agg _ => false
  | .tuple _ => false
  | _ => true
/-- A value that may be laid. -/
def PV.fit : PV → Bool
  | .undef => false
  | .tup _ => false
  | _ => true
/-- Cells of a zero. -/
def PV.zcells : PV → Option (List Value)
  | .int k z => some [.int k z]
  | .bool b => some [.bool b]
  | .str l => some [.string ⟨l.toArray⟩]
  | .raw u => match oneV u with
    | true => some [u]
    | false => none
  | .arr n r => match Nat.beq r.vals.length n with
    | true => some r.vals
    | false => none
  | .row true r _ => match r.none? with
    | true => some [.slice none 0 0]
    | false => none
  | .vec true _ [] _ => some [.slice none 0 0]
  | .agg l => zs l
  | _ => none
where zs : List PV → Option (List Value)
  | [] => some []
  | x :: l => match PV.zcells x, zs l with
    | some a, some b => some (a ++ b)
    | _, _ => none
def eqC : Value → Value → Bool
  | .int k a, .int j b => sameKind k j && decide (a = b)
  | .bool a, .bool b => a == b
  | .string a, .string b => decide (a.data.toList = b.data.toList)
  | .pointer none, .pointer none => true
  | .slice none 0 0, .slice none 0 0 => true
  | .map none, .map none => true
  | .nilFunc, .nilFunc => true
  | .nilIface, .nilIface => true
  | .complex .f64 a b, .complex .f64 c d => Nat.beq a c && Nat.beq b d
  | .float .f64 a, .float .f64 b => Nat.beq a b
  | _, _ => false
def eqCs : List Value → List Value → Bool
  | [], [] => true
  | x :: l, y :: m => eqC x y && eqCs l m
  | _, _ => false
/-- Is a zero the one that the program tells? -/
def zeroOk (t : TypeId) (x : PV) : Bool := match P.info? t, x.zcells with
  | some i, some cs => match i.zero with
    | some z => eqCs cs z.cells.toList && Nat.beq x.wid i.size && Nat.beq cs.length i.size && (match z, x.isAgg with | .agg _, b => b | _, b => !b)
    | none => false
  | _, _ => false
/-- Is one text ahead of another one? -/
def ltB : Bs → Bs → Bool
  | _, [] => false
  | [], _ :: _ => true
  | a :: x, b :: y => decide (a.toNat < b.toNat) || (decide (a = b) && ltB x y)
def inI64 (z : Int) : Prop := -9223372036854775808 ≤ z ∧ z ≤ 9223372036854775807
/-- A sum of a kind. -/
def numR (k : IntKind) (z : Int) : OpR := match k with
  | .i64 => .need (inI64 z) (.int .i64 z)
  | k => .ok (.int k (k.wrap z))
/-- Bits of a kind. -/
def bitsZ (op : BinOp) (k : IntKind) (x y : Int) : Int :=
  let a := BitVec.ofInt k.bits x
  let b := BitVec.ofInt k.bits y
  match op with
  | .and => k.wrap (a &&& b).toNat
  | .or => k.wrap (a ||| b).toNat
  | .xor => k.wrap (a ^^^ b).toNat
  | _ => k.wrap (a &&& ~~~b).toNat
def shlZ (k : IntKind) (a b : Int) : Int := k.wrap (a * 2 ^ min b.toNat k.bits)
def shrZ (k : IntKind) (a b : Int) : Int := a.fdiv (2 ^ min b.toNat k.bits)
def intR (op : BinOp) (k : IntKind) (a b : Int) : OpR := match op with
  | .add => numR k (a + b)
  | .sub => numR k (a - b)
  | .mul => numR k (a * b)
  | .quo => match k with
    | .i64 => .need (0 ≤ a ∧ 0 < b ∧ a ≤ 9223372036854775807) (.int .i64 (a / b))
    | k => .need (0 ≤ a ∧ 0 < b) (.int k (k.wrap (a / b)))
  | .rem => .need (0 ≤ a ∧ 0 < b) (.int k (a % b))
  | .and => .ok (.int k (bitsZ .and k a b))
  | .or => .ok (.int k (bitsZ .or k a b))
  | .xor => .ok (.int k (bitsZ .xor k a b))
  | .andNot => .ok (.int k (bitsZ .andNot k a b))
  | .eql => .ok (.bool (decide (a = b)))
  | .neq => .ok (.bool (!decide (a = b)))
  | .lss => .ok (.bool (decide (a < b)))
  | .leq => .ok (.bool (decide (a ≤ b)))
  | .gtr => .ok (.bool (decide (b < a)))
  | .geq => .ok (.bool (decide (b ≤ a)))
  | _ => .bad 1
def strR (op : BinOp) (a b : Bs) : OpR := match op with
  | .add => .need (a.length + b.length ≤ maxLen) (.str (a ++ b))
  | .eql => .ok (.bool (decide (a = b)))
  | .neq => .ok (.bool (!decide (a = b)))
  | .lss => .ok (.bool (ltB a b))
  | .geq => .ok (.bool (!ltB a b))
  | .gtr => .ok (.bool (ltB b a))
  | .leq => .ok (.bool (!ltB b a))
  | _ => .bad 2
def partV (t : TypeId) (x : PV) (off : Nat) : PV :=
  let y := PV.getAt (aggT P t) (sizeT P t) x off
  match hasT P t, aggT P t, y.isAgg, Nat.beq y.wid (sizeT P t) with
  | true, true, true, true => y
  | true, false, false, _ => y
  | _, _, _, _ => .undef
/-- Is it nil: of which kind (a pointer, a row, a map, a function), and is it? -/
def nilK : PV → Option (Nat × Bool)
  | .row nl _ _ => some (1, nl)
  | .vec nl _ _ _ => some (1, nl)
  | .raw (.pointer none) => some (0, true)
  | .raw (.map none) => some (2, true)
  | .raw .nilFunc => some (3, true)
  | .raw (.slice none 0 0) => some (1, true)
  | .ptr _ _ => some (0, false)
  | .fn _ _ _ => some (3, false)
  | _ => none
def isNilC : PV → Bool
  | .raw (.pointer none) => true
  | .raw (.map none) => true
  | .raw .nilFunc => true
  | .raw (.slice none 0 0) => true
  | _ => false
/-- Are values one, part by part? -/
def eqFs (eq : TypeId → PV → PV → Option Bool) (x y : PV) : List Field → Option Bool
  | [] => some true
  | f :: fs => match f.name == "_", eq f.type (partV P f.type x f.offset) (partV P f.type y f.offset), eqFs eq x y fs with
    | false, some a, some b => some (a && b)
    | _, _, _ => none
def eqT : Nat → TypeId → PV → PV → Option Bool
  | 0, _, _, _ => none
  | n + 1, t, x, y => match P.underlying t, x, y with
    | some .bool, .bool a, .bool b => some (a == b)
    | some (.int _), .int k a, .int j b => match sameKind k j with
      | true => some (decide (a = b))
      | false => none
    | some .string, .str a, .str b => some (decide (a = b))
    | some (.array len e), .arr p (.ints k a), .arr q (.ints j b) => match sameKind k j && Nat.beq p len && Nat.beq q len && Nat.beq (sizeT P e) 1 && hasT P e, P.underlying e with
      | true, some (.int _) => some (decide (a = b))
      | _, _ => none
    | some (.struct fs), .agg l, .agg m => match P.stoodInHeld t || P.eqGuardType P.depth t with
      | false => eqFs P (eqT n) (.agg l) (.agg m) fs.toList
      | true => none
    | _, _, _ => none
def negB (neg b : Bool) : Bool := match neg with | true => !b | false => b
def guardOk (t : TypeId) (x : PV) : Bool := match x with
  | .agg _ => !P.eqGuardType P.depth t
  | .arr _ _ => !P.eqGuardType P.depth t
  | _ => true
def eqR (neg : Bool) (t : TypeId) (x y : PV) : OpR :=
  let fin (b : Bool) : OpR := .ok (.bool (negB neg b))
  match guardOk P t x, eqT P 6 t x y with
  | true, some b => fin b
  | _, _ => match P.underlying t with
    | some (.pointer _) => nilR 0 fin x y
    | some (.slice _) => nilR 1 fin x y
    | some (.map _ _) => nilR 2 fin x y
    | some (.func _ _ _) => nilR 3 fin x y
    | _ => .bad 3
where
  nilR (q : Nat) (fin : Bool → OpR) (x y : PV) : OpR := match nilK x, nilK y with
    | some (i, a), some (j, b) => match Nat.beq i q && Nat.beq j q, isNilC y, isNilC x with
      | true, true, _ => fin a
      | true, false, true => fin b
      | _, _, _ => .bad 5
    | _, _ => .bad 6
def binR (op : BinOp) (t : TypeId) (x y : PV) : OpR :=
  match x, y with
  | .int k a, .int j b => match op with
    | .shl => .need (0 ≤ b) (.int k (shlZ k a b))
    | .shr => .need (0 ≤ b) (.int k (shrZ k a b))
    | op => match sameKind k j with
      | true => intR op k a b
      | false => .bad 7
  | .str a, .str b => strR op a b
  | .raw a, .raw b => match op with
    | .eql => eqR P false t x y
    | .neq => eqR P true t x y
    | _ => .bad 8
  | x, y => match op with
    | .eql => eqR P false t x y
    | .neq => eqR P true t x y
    | _ => .bad 8
def unR (op : UnOp) (x : PV) : OpR :=
  match op, x with
  | .not, .bool b => .ok (.bool (!b))
  | .neg, .int k z => numR k (0 - z)
  | .xor, .int k z => .ok (.int k (bitsZ .xor k (match k.signed with | true => -1 | false => k.max) z))
  | _, _ => .bad 9
def convR (src dst : TypeId) (x : PV) : OpR :=
  match P.underlying src, P.underlying dst, x with
  | some (.int _), some (.int k), .int _ z => .ok (.int k (k.wrap z))
  | some .string, some .string, .str l => .ok (.str l)
  | some .string, some (.slice e), .str l => match rowT P e with
    | some (.bytes _) => .need (l.length ≤ maxLen) (.row false (.bytes l) 0)
    | _ => .bad 10
  | some (.slice e), some .string, .row _ (.bytes l) _ => match rowT P e with
    | some (.bytes _) => .ok (.str l)
    | _ => .bad 11
  | _, _, _ => .bad 12
def lenR (t : TypeId) (x : PV) : OpR :=
  match P.underlying t, x with
  | some .string, .str l => .ok (.int .i64 (lenZ l))
  | some (.slice _), .row _ r _ => .ok (.int .i64 r.len)
  | some (.slice _), .vec _ _ l _ => .ok (.int .i64 (lenZ l))
  | some (.slice _), .asl _ _ _ n => .ok (.int .i64 n)
  | some (.array n _), _ => .ok (.int .i64 (n : Int))
  | _, _ => .bad 13
def okV (x : PV) : OpR := match x with
  | .undef => .bad 33
  | x => .ok x
def within (i : Int) (n : Int) : Prop := 0 ≤ i ∧ i < n
/-- A type of one cell. -/
def cellT (e : TypeId) : Bool := hasT P e && Nat.beq (sizeT P e) 1 && !aggT P e
def indexR (t : TypeId) (x : PV) (i : PV) : OpR :=
  match P.underlying t, x, i with
  | some .string, .str l, .int _ z => .need (within z (lenZ l)) (.int .u8 (byteZ l z))
  | some (.array m e), .arr n r, .int _ z => match cellT P e && Nat.beq m n with
    | true => .need (within z n) (r.get z)
    | false => .bad 15
  | some (.array m e), .agg l, .int _ (.ofNat k) => match Nat.blt k m with
    | true => okV (partV P e (.agg l) (k * sizeT P e))
    | false => .bad 14
  | _, _, _ => .bad 16
/-- Bounds of a part. -/
def upto (a b n : Int) : Prop := 0 ≤ a ∧ a ≤ b ∧ b ≤ n
def cutR (n : Int) (lo hi : Option PV) (k : Int → Int → PV) : OpR := match lo, hi with
  | none, none => .ok (k 0 n)
  | some (.int _ a), none => .need (upto a n n) (k a n)
  | none, some (.int _ b) => .need (upto 0 b n) (k 0 b)
  | some (.int _ a), some (.int _ b) => .need (upto a b n) (k a b)
  | _, _ => .bad 17
/-- From a place to another one: the shortest word for it. -/
def cutW {α : Type} (lo hi : Option PV) (l : List α) (a b : Int) : List α := match lo, hi with
  | none, none => l
  | some _, none => dropZ l a
  | none, some _ => takeZ l b
  | some _, some _ => cutZ l a b
def cutB (lo hi : Option PV) (r : BRow) (a b : Int) : BRow := match r with
  | .bytes l => .bytes (cutW lo hi l a b)
  | .strs l => .strs (cutW lo hi l a b)
  | .ints k l => .ints k (cutW lo hi l a b)
def sliceR (t : TypeId) (x : PV) (lo hi : Option PV) : OpR :=
  match P.underlying t, x with
  | some .string, .str l => cutR (lenZ l) lo hi fun a b => .str (cutW lo hi l a b)
  | some (.slice e), .row nl r t => match hasT P e && Nat.beq (sizeT P e) 1 && (Nat.beq t 0 || lo.isNone) with
    | true => cutR r.len lo hi fun a b => .row nl (cutB lo hi r a b) t
    | false => .bad 18
  | some (.slice e), .vec nl sz l t => match hasT P e && Nat.beq (sizeT P e) sz && (Nat.beq t 0 || lo.isNone) with
    | true => cutR (lenZ l) lo hi fun a b => .vec nl sz (cutW lo hi l a b) t
    | false => .bad 19
  | _, _ => .bad 17
/-- Parts laid into a struct, or an array. -/
def fillR (place : Nat → Option (Nat × TypeId)) : List Nat → List PV → PV → Option PV
  | [], [], c => some c
  | i :: is, x :: xs, c => match place i with
    | some (off, t) => match Nat.beq (typed P t 0 x).wid (sizeT P t) && x.fit && hasT P t, PV.setAt (typed P t 0 x) c off with
      | true, some c => fillR place is xs c
      | _, _ => none
    | none => none
  | _, _, _ => none
def buildR (t : TypeId) (ps : List Nat) (xs : List PV) : OpR :=
  match zeroOk P t (zeroV P 5 t 0), P.underlying t with
  | true, some (.struct fs) => match fs.toList.all (fun f => hasT P f.type), fillR P (fun i => (fs[i]?).map fun f => (f.offset, f.type)) ps xs (zeroV P 5 t 0) with
    | true, some c => .ok c
    | _, _ => .bad 18
  | true, some (.array _ e) => match hasT P e, fillR P (fun i => some (i * sizeT P e, e)) ps xs (zeroV P 5 t 0) with
    | true, some c => .ok c
    | _, _ => .bad 19
  | _, _ => .bad 20
def isU8 : PV → Bool | .int .u8 _ => true | _ => false
def isS : PV → Bool | .str _ => true | _ => false
def isK (k : IntKind) : PV → Bool | .int j _ => sameKind k j | _ => false
def allB (f : PV → Bool) : List PV → Bool
  | [] => true
  | x :: l => f x && allB f l
def allU8 : List PV → Prop
  | [] => True
  | [x] => inU8 x.asInt
  | x :: l => inU8 x.asInt ∧ allU8 l
/-- A row of so many. -/
def rowOf (e : TypeId) (xs : List PV) : OpR := match rowT P e with
  | some (.bytes _) => match allB isU8 xs && Nat.beq (sizeT P e) 1 with
    | true => .need (allU8 xs) (.row false (.bytes (xs.map fun x => zByte x.asInt)) 0)
    | false => .bad 61
  | some (.strs _) => match allB isS xs && Nat.beq (sizeT P e) 1 with
    | true => .ok (.row false (.strs (xs.map PV.asStr)) 0)
    | false => .bad 62
  | some (.ints k _) => match allB (isK k) xs && Nat.beq (sizeT P e) 1 with
    | true => .ok (.row false (.ints k (xs.map PV.asInt)) 0)
    | false => .bad 63
  | none => .ok (.vec false (sizeT P e) (xs.map (typed P e 0)) 0)
/-- Are values as wide as a type tells? -/
def widE (e : TypeId) : List PV → Bool
  | [] => true
  | x :: l => Nat.beq (typed P e 0 x).wid (sizeT P e) && x.fit && widE e l
/-- Places that are told one behind the other. -/
def inLine : List Nat → Nat → Bool
  | [], _ => true
  | i :: is, n => Nat.beq i n && inLine is (n + 1)
/-- A row of so many, all told. -/
def buildSliceR (t : TypeId) (len : Nat) (ps : List Nat) (xs : List PV) : OpR :=
  match P.underlying t with
  | some (.slice e) => match inLine ps 0 && Nat.beq ps.length len && Nat.beq xs.length len && hasT P e && widE P e xs && Nat.ble (len * sizeT P e) 4096 && zeroOk P e (zeroV P 5 e 0) with
    | true => rowOf P e xs
    | false => .bad 64
  | _ => .bad 21
def fieldR (t : TypeId) (x : PV) (f : Nat) : OpR :=
  match P.underlying t, x with
  | some (.struct fs), .agg l => match fs[f]? with
    | some g => okV (partV P g.type (.agg l) g.offset)
    | none => .bad 22
  | _, _ => .bad 23
def indexAddrR (t : TypeId) (x i : PV) : OpR :=
  match P.underlying t, x, i with
  | some (.slice e), .row _ r t, .int _ z => match hasT P e && Nat.beq (sizeT P e) 1 with
    | true => .need (within z r.len) (.ep r t z)
    | false => .bad 20
  | some (.slice e), .vec _ sz l t, .int _ z => match hasT P e && Nat.beq (sizeT P e) sz with
    | true => .need (within z (lenZ l)) (.epv sz l t z 0)
    | false => .bad 21
  | some (.array n e), .ptr b off, .int _ z => match cellT P e with
    | true => .need (within z n) (.pix b off z)
    | false => .bad 22
  | some (.array n e), .gp b off, .int _ z => match cellT P e with
    | true => .need (within z n) (.gix b off z)
    | false => .bad 22
  | _, _, _ => .bad 24
def fieldAddrR (t : TypeId) (x : PV) (f : Nat) : OpR :=
  match P.underlying t with
  | some (.struct fs) => match fs[f]? with
    | some g => match hasT P g.type && !Nat.beq (sizeT P g.type) 0, x with
      | true, .ptr b off => .ok (.ptr b (off + g.offset))
      | true, .epv sz l t i off => .ok (.epv sz l t i (off + g.offset))
      | true, .gp b off => .ok (.gp b (off + g.offset))
      | _, _ => .bad 25
    | none => .bad 26
  | _ => .bad 28
/-- What is one of two. -/
def pickV (b : Bool) (x y : PV) : PV :=
  match x, y with
  | .bool p, .bool q => .bool (bif b then p else q)
  | .int k p, .int j q => match sameKind k j with
    | true => .int k (bif b then p else q)
    | false => bif b then .int k p else .int j q
  | .str p, .str q => .str (bif b then p else q)
  | x, y => bif b then x else y
/-- What lies in global variables that stay as they are. -/
abbrev Tabs := Nat → PV
def atRow (x : Option (Nat × BRow)) (z : Int) : OpR := match x with
  | some (n, r) => .need (within z n) (r.get z)
  | none => .bad 32
def shapedV (t : TypeId) (x : PV) : OpR := match shapeV P 5 t x with
  | .undef => .bad 34
  | y => .need (x = y) y
def loadR (T : Tabs) (lh : List (Nat × PV)) (t : TypeId) (x : PV) : OpR :=
  match hasT P t, x with
  | true, .ep r _ i => match cellT P t with
    | true => .ok (r.get i)
    | false => .bad 30
  | true, .epv sz l _ i off => shapedV P t (partV P t (pvZ l i) off)
  | true, .ptr n off => match getN n lh with
    | some c => okV (partV P t c off)
    | none => .bad 35
  | true, .pix n off z => match getN n lh, cellT P t with
    | some c, true => atRow (c.arrAt off) z
    | _, _ => .bad 36
  | true, .gp g off => match (T g).fit with
    | true => okV (partV P t (T g) off)
    | false => .bad 37
  | true, .gix g off z => match cellT P t with
    | true => atRow ((T g).arrAt off) z
    | false => .bad 31
  | _, _ => .bad 29
end
end Go.Vc


/- A calculus of Go's functions by their values: operations that turn what is held, calls, regions, code, functions. -/
namespace Go.Vc

/-- What a function is told to do: under which condition, what it answers. -/
structure CallR where
  pre : Prop
  r : PV
abbrev Tbl := FuncId → List PV → Option CallR
inductive Ex where
  | normal | exit (id : Nat) | goto (l : Nat) | ret
abbrev Kont := Ex → VS → Prop
/-- A loop: what turns in it, and what holds of that. -/
structure Lp where
  α : Type
  at_ : VS → α → VS
  get : VS → α
  inv : VS → α → Prop
  mu : VS → α → Nat
  dead : List Nat
/-- What is known of loops, and of labels that are come to again, by a number. -/
abbrev Loops := Nat → Option Lp

def maxRow : Int := 16777216
/-- The name, and the first mark, that a place gives. -/
def nameOf (d : Option Tmp) : Option Nat := d.map (· + 32)
def markOf (n : Nat) : Nat := 64 * n
def putLH (n : Nat) (x : PV) (lh : List (Nat × PV)) : List (Nat × PV) := match getN n lh with
  | some _ => setN n x lh
  | none => (n, x) :: lh
section
variable (P : Program)
def boxS (n : Nat) (x : PV) (f : PV → PV) (lh : List (Nat × PV)) : OpS := .ok (.ptr n 0) (some f) (putLH n x (turnB f lh))
/-- A name is lost, and marks are stilled. -/
def loseF (n lo hi : Nat) : PV → PV
  | .row nl r u => .row nl r (bif Nat.ble lo u && Nat.blt u hi then 0 else u)
  | .vec nl sz l u => .vec nl sz l (bif Nat.ble lo u && Nat.blt u hi then 0 else u)
  | .ep r u i => .ep r (bif Nat.ble lo u && Nat.blt u hi then 0 else u) i
  | .epv sz l u i off => .epv sz l (bif Nat.ble lo u && Nat.blt u hi then 0 else u) i off
  | x => x.lose1 n
def allocS (e : TypeId) (d : Option Tmp) (lh : List (Nat × PV)) : OpS := match nameOf d with
  | some n => match zeroOk P e (zeroV P 5 e (markOf n)) with
    | true => boxS n (zeroV P 5 e (markOf n)) (loseF n (markOf n) (markOf (n + 1))) lh
    | false => .bad 39
  | none => .bad 40
def boxR (e : TypeId) (x : PV) (d : Option Tmp) (lh : List (Nat × PV)) : OpS := match nameOf d with
  | some n => match hasT P e && x.fit, Nat.beq (typed P e 0 x).wid (sizeT P e) with
    | true, true => boxS n (typed P e 0 (x.mapL (PV.lose1 n))) (PV.lose1 n) lh
    | _, _ => .bad 39
  | none => .bad 41
def okU (x : PV) : Prop := match x with
  | .int .u8 z => inU8 z
  | _ => True
def storeS (t : TypeId) (a x : PV) (lh : List (Nat × PV)) : OpS := match a with
  | .ptr n off => match getN n lh with
    | some c => match Nat.beq (typed P t 0 x).wid (sizeT P t) && x.fit && hasT P t && c.fit, PV.setAt (typed P t 0 x) c off with
      | true, some c' => .ok (.tup []) none (setN n c' lh)
      | _, _ => .bad 42
    | none => .bad 45
  | .pix n off z => match getN n lh with
    | some c => match c.arrAt off with
      | some (m, r) => match cellT P t, r.set z x with
        | true, some r' => match c.putArr r' off with
          | some c' => .need (within z m ∧ r.okAt x) (.tup []) none (setN n c' lh)
          | none => .bad 43
        | _, _ => .bad 38
      | none => .bad 39
    | none => .bad 45
  | .ep r u z => match u, cellT P t, r.set z x with
    | u + 1, true, some _ => .need (okU x) (.tup []) (some (laidV (u + 1) z x)) (turnB (laidV (u + 1) z x) lh)
    | _, _, _ => .bad 47
  | _ => .bad 37
/-- What is appended to a row: a text's bytes, a row. -/
def srcRow (x : PV) : Option BRow := match x with
  | .str l => some (.bytes l)
  | .row _ r _ => some r
  | _ => none
def srcTy (tx : TypeId) : Bool := match P.underlying tx with
  | some (.slice _) => true
  | some .string => true
  | _ => false
def bytesT (e : TypeId) : Nat := match P.info? e with | some i => i.bytes | none => 0
/-- Elements of so many cells, of a type. -/
def elemOk (e : TypeId) (sz : Nat) : Bool := hasT P e && Nat.beq (sizeT P e) sz && zeroOk P e (zeroV P 5 e 0) && Nat.ble (bytesT P e) 65536
/-- The mark that a row goes on under: its own; a new one, if it is nil. -/
def goOn (nl : Bool) (t : Nat) (d : Option Tmp) : Option (Nat × Bool) := match t with
  | t + 1 => some (t + 1, false)
  | 0 => match nl with
    | true => (nameOf d).map fun n => (n, true)
    | false => none
def goF (new : Bool) (t : Nat) : PV → PV := PV.mark1 (match new with | true => stillF t | false => killF t)
def appendS (t tx : TypeId) (x y : PV) (d : Option Tmp) (lh : List (Nat × PV)) : OpS :=
  match P.underlying t, srcTy P tx, x, y with
  | some (.slice e), true, .vec nl sz l tk, .vec _ sz2 q _ => match elemOk P e sz && Nat.beq sz sz2, goOn nl tk d with
    | true, some (t', new) => .need (lenZ (l ++ q) ≤ maxRow) (.vec (bif q.isEmpty then nl else false) sz (l ++ q) t') (some (goF new t')) (turnB (goF new t') lh)
    | _, _ => .bad 45
  | some (.slice e), true, .row nl r tk, y => match srcRow y with
    | some q => match elemOk P e 1, r.app q, goOn nl tk d with
      | true, some r', some (t', new) => .need (r'.len ≤ maxRow) (.row (bif q.none? then nl else false) r' t') (some (goF new t')) (turnB (goF new t') lh)
      | _, _, _ => .bad 44
    | none => .bad 43
  | _, _, _, _ => .bad 46
def makeSliceS (t : TypeId) (n c : PV) (d : Option Tmp) (lh : List (Nat × PV)) : OpS :=
  match P.underlying t, n, c, nameOf d with
  | some (.slice e), .int _ a, .int _ b, some tk => match elemOk P e (sizeT P e) with
    | true =>
      let fin (v : PV) : OpS := .need (0 ≤ a ∧ a ≤ b ∧ b ≤ maxRow) v (some (PV.mark1 (stillF tk))) (turnB (PV.mark1 (stillF tk)) lh)
      match rowT P e with
      | some (.bytes _) => fin (.row false (.bytes (List.replicate a.toNat 0)) tk)
      | some (.strs _) => fin (.row false (.strs (List.replicate a.toNat [])) tk)
      | some (.ints k _) => fin (.row false (.ints k (List.replicate a.toNat 0)) tk)
      | none => fin (.vec false (sizeT P e) (List.replicate a.toNat (zeroV P 5 e 0)) tk)
    | false => .bad 47
  | _, _, _, _ => .bad 48
def memN (n : Nat) (l : List Nat) : Bool := l.any (Nat.beq n)
def addNew (ns : List Nat) : List Nat → List Nat
  | [] => ns
  | m :: ms => addNew (bif ns.any (Nat.beq m) then ns else ns ++ [m]) ms
/-- Marks that are handed on are stilled. -/
def callF (us : List Nat) (u : Nat) : Option Nat := some (bif memN u us then 0 else u)
/-- The first place of a number. -/
def posN (n : Nat) : List Nat → Nat
  | [] => 0
  | m :: l => bif Nat.beq m n then 0 else Nat.succ (posN n l)
/-- Marks, and names, told by their places in a list. -/
def inT (ms : List Nat) (t : Nat) : Option Nat := bif Nat.beq t 0 then some 0 else bif memN t ms then some (Nat.succ (posN t ms)) else none
def inN (ns : List Nat) (n : Nat) : Option Nat := bif memN n ns then some (posN n ns) else none
/-- So, back: marks from a name's first one on. -/
def outT (n0 t : Nat) : Option Nat := bif Nat.beq t 0 then some 0 else bif Nat.blt t 64 then some (64 * n0 + t) else none
def outN (ns : List Nat) (i : Nat) : Option Nat := ns[i]?
/-- Marks that are lost by a call that is lent them, or that takes their names. -/
def lendF (ms : List Nat) (n0 t : Nat) : Option Nat := bif Nat.beq t 0 then some 0 else bif memN t ms || (Nat.ble (64 * n0) t && Nat.blt t (64 * n0 + 64)) then none else some t
/-- Names and marks, turned. -/
def PV.both1 (fn ft : Nat → Option Nat) : PV → PV
  | .row nl r t => match ft t with | some u => .row nl r u | none => .undef
  | .vec nl sz l t => match ft t with | some u => .vec nl sz l u | none => .undef
  | .ep r t i => match ft t with | some u => .ep r u i | none => .undef
  | .epv sz l t i off => match ft t with | some u => .epv sz l u i off | none => .undef
  | .ptr n off => match fn n with | some m => .ptr m off | none => .undef
  | .pix n off i => match fn n with | some m => .pix m off i | none => .undef
  | .asl n off i k => match fn n with | some m => .asl m off i k | none => .undef
  | x => x
def boxesOf (lh : List (Nat × PV)) : List Nat → Option (List PV)
  | [] => some []
  | n :: ns => match getN n lh, boxesOf lh ns with
    | some c, some cs => some (c :: cs)
    | _, _ => none
def setAll : List Nat → List PV → List (Nat × PV) → List (Nat × PV)
  | n :: ns, c :: cs, lh => setN n c (setAll ns cs lh)
  | _, _, lh => lh
/-- Names that are handed on, and those in what they hold. -/
def reach (lh : List (Nat × PV)) : Nat → List Nat → List Nat
  | 0, ns => ns
  | k + 1, ns => reach lh k (addNew ns (ns.flatMap fun n => match getN n lh with | some c => PV.allL PV.nam1 c | none => []))
def nodupB : List Nat → Bool
  | [] => true
  | n :: ns => !memN n ns && nodupB ns
/-- A call that is lent boxes: its arguments name them 0, 1 ..; behind them stands what they hold; it answers a value, and what they hold then. -/
def lendC (X : Tbl) (f : FuncId) (us ns : List Nat) (xs : List PV) (lh : List (Nat × PV)) : OpS :=
  match boxesOf lh ns, ns with
  | some cs, n0 :: _ => match X f (PV.mapLs (PV.both1 (inN ns) (inT (addNew [] (PV.allLs PV.tok1 cs)))) xs ++ PV.mapLs (PV.both1 (inN ns) (inT (addNew [] (PV.allLs PV.tok1 cs)))) cs) with
    | none => .bad 50
    | some c => match c.r with
      | .tup (r :: outs) => match Nat.beq outs.length ns.length && nodupB ns && Nat.blt (addNew [] (PV.allLs PV.tok1 cs)).length 60, PV.allL PV.tok1 r, PV.allL PV.nam1 r, PV.allLs PV.nam1 (PV.mapLs (PV.both1 (inN ns) (inT (addNew [] (PV.allLs PV.tok1 cs)))) xs ++ PV.mapLs (PV.both1 (inN ns) (inT (addNew [] (PV.allLs PV.tok1 cs)))) cs) with
        | true, [], [], _ :: _ => .need c.pre r (some fun y => (y.mark1 (callF us)).mark1 (lendF (addNew [] (PV.allLs PV.tok1 cs)) n0)) (setAll ns (PV.mapLs (PV.both1 (outN ns) (outT n0)) outs) (turnB (PV.mark1 (lendF (addNew [] (PV.allLs PV.tok1 cs)) n0)) lh))
        | _, _, _, _ => .bad 53
      | _ => .bad 54
  | _, _ => .bad 51
def lendS (X : Tbl) (f : FuncId) (xs : List PV) (lh : List (Nat × PV)) : OpS :=
  lendC X f (addNew [] (PV.allLs PV.tok1 xs)) (reach (turnB (PV.mark1 (callF (addNew [] (PV.allLs PV.tok1 xs)))) lh) 3 (addNew [] (PV.allLs PV.nam1 xs))) (PV.mapLs (PV.mark1 (callF (addNew [] (PV.allLs PV.tok1 xs)))) xs) (turnB (PV.mark1 (callF (addNew [] (PV.allLs PV.tok1 xs)))) lh)
/-- A call by what is known of functions. -/
def callS (X : Tbl) (f : FuncId) (xs : List PV) (lh : List (Nat × PV)) : OpS := match PV.allLs PV.nam1 xs with
  | [] => match X f (PV.mapLs (PV.mark1 bareF) xs) with
    | none => .bad 50
    | some c => match addNew [] (PV.allLs PV.tok1 xs), PV.allL PV.tok1 c.r, PV.allL PV.nam1 c.r with
      | [], [], [] => .vneed c.pre c.r
      | us, [], [] => .need c.pre c.r (some (PV.mark1 (callF us))) (turnB (PV.mark1 (callF us)) lh)
      | _, _, _ => .bad 52
  | _ => lendS X f xs lh
/-- Is an operand a nil that is laid into a variable? -/
def nilConst (x : Operand) : Bool := match x with
  | .const (.slice none 0 0) => true
  | _ => false
def typeds : List TypeId → List PV → List PV
  | t :: ts, x :: xs => typed P t 0 x :: typeds ts xs
  | [], xs => xs
  | _, [] => []
/-- A conversion, its row under a mark. -/
def convS (s d : TypeId) (x : PV) (t : Option Tmp) (lh : List (Nat × PV)) : OpS := match convR P s d x, nameOf t with
  | .need p (.row false (.bytes l) 0), some n => .need p (.row false (.bytes l) n) (some (PV.mark1 (stillF n))) (turnB (PV.mark1 (stillF n)) lh)
  | r, _ => r.at
/-- One operation, by its operands' values. -/
def evOp0 (X : Tbl) (T : Tabs) (o : Oper) (xs : List PV) (lh : List (Nat × PV)) : OpS :=
  match o.op with
  | .move x => .val (typed P o.type 0 (xs.getD 0 .undef))
  | .assign x => match nilConst x, P.underlying o.type, nameOf o.dst with
    | true, some (.slice e), some n => .ok (emptyRow P true e n) (some (PV.mark1 (stillF n))) (turnB (PV.mark1 (stillF n)) lh)
    | _, _, _ => .val (xs.getD 0 .undef)
  | .pick .. => match xs with
    | [.bool b, x, y] => .val (pickV b x y)
    | _ => .bad 60
  | .alloc e => allocS P e o.dst lh
  | .box e _ => boxR P e (xs.getD 0 .undef) o.dst lh
  | .build t ps => (buildR P t (ps.toList.map (·.1)) xs).at
  | .buildSlice t n ps => match PV.allLs PV.tok1 xs, PV.allLs PV.nam1 xs with
    | [], [] => (buildSliceR P t n (ps.toList.map (·.1)) xs).at
    | _, _ => .bad 69
  | .load t _ => (loadR P T lh t (xs.getD 0 .undef)).at
  | .store t _ _ => storeS P t (xs.getD 0 .undef) (xs.getD 1 .undef) lh
  | .nilCheck _ => match xs with
    | [.ptr n off] => .val (.ptr n off)
    | [.fn (.func f) a b] => .val (.fn (.func f) a b)
    | _ => .bad 61
  | .binOp op t _ _ _ => (binR P op t (xs.getD 0 .undef) (xs.getD 1 .undef)).at
  | .unOp op _ _ => (unR op (xs.getD 0 .undef)).at
  | .convert a b _ => match o.guard with
    | none => convS P a b (xs.getD 0 .undef) o.dst lh
    | some _ => (convR P a b (xs.getD 0 .undef)).at
  | .makeSlice t _ _ => makeSliceS P t (xs.getD 0 .undef) (xs.getD 1 .undef) o.dst lh
  | .slice t _ none none none => (sliceR P t (xs.getD 0 .undef) none none).at
  | .slice t _ (some _) none none => (sliceR P t (xs.getD 0 .undef) (some (xs.getD 1 .undef)) none).at
  | .slice t _ none (some _) none => (sliceR P t (xs.getD 0 .undef) none (some (xs.getD 1 .undef))).at
  | .slice t _ (some _) (some _) none => (sliceR P t (xs.getD 0 .undef) (some (xs.getD 1 .undef)) (some (xs.getD 2 .undef))).at
  | .fieldAddr t _ f => (fieldAddrR P t (xs.getD 0 .undef) f).at
  | .field t _ f => (fieldR P t (xs.getD 0 .undef) f).at
  | .indexAddr t _ _ => (indexAddrR P t (xs.getD 0 .undef) (xs.getD 1 .undef)).at
  | .index t _ _ => (indexR P t (xs.getD 0 .undef) (xs.getD 1 .undef)).at
  | .extract _ i => match xs with
    | [.tup l] => (okV (l.getD i .undef)).at
    | _ => .bad 62
  | .call { callee := .builtin b, argTypes, .. } => match b, argTypes[0]? with
    | .len, some t => match xs with
      | [x] => (lenR P t (typed P t 0 x)).at
      | _ => .bad 63
    | .append, some t => match argTypes[1]? with
      | some tx => match xs with
        | [x, y] => appendS P t tx (typed P t 0 x) (typed P tx 0 y) o.dst lh
        | _ => .bad 64
      | none => .bad 68
    | .min, some _ => match xs with
      | [.int .i64 a, .int .i64 b] => .val (.int .i64 (min a b))
      | _ => .bad 61
    | .max, some _ => match xs with
      | [.int .i64 a, .int .i64 b] => .val (.int .i64 (max a b))
      | _ => .bad 62
    | _, _ => .bad 65
  | .call { callee := .value _, args, argTypes } => match xs with
    | .fn (.func f) a b :: ys => callS X f (a ++ typeds P argTypes.toList ys ++ b) lh
    | _ => .bad 66
  | _ => .bad 67

def orMask (a : Nat) (t : Nat) : Nat := Nat.lor a (Nat.pow 2 t)
def inMask (a : Nat) (t : Nat) : Bool := Nat.beq (Nat.land (Nat.shiftRight a t) 1) 1
/-- Of each operation those ahead of it by force, as bits. -/
def befores (ops : List Oper) : List Nat :=
  (ops.foldl (fun (acc : List Nat) o => acc ++ [o.after.toList.foldl (fun s e => if Region.binds .any e then Nat.lor (orMask s e.on) (acc.getD e.on 0) else s) 0]) [])
/-- Those that are read. -/
def readsOf (ops : List Oper) (o : Oper) : List Nat :=
  (o.op.operands.toList.filterMap fun | .tmp t => some t | _ => none) ++
  (match o.guard with
   | some (g, _) => ((ops[g]?).bind (·.dst)).toList
   | none => [])
def apartB (ops : List Oper) (x y : Oper) : Bool :=
  (match x.dst with
   | some d => !(readsOf ops y).contains d && y.dst != some d
   | none => true) &&
  (match y.dst with
   | some d => !(readsOf ops x).contains d
   | none => true)
/-- May the order be left open, by the temporaries? -/
def openOk (ops : List Oper) (bf : List Nat) : Bool :=
  (ops.zipIdx.all fun (o, i) => o.after.toList.all fun e => !Region.binds .any e || Nat.blt e.on i) && (ops.zip bf).zipIdx.all fun ((y, by_), j) => (ops.take j).zipIdx.all fun (x, i) => inMask by_ i || apartB ops x y
/-- What is not known beneath a guard asks that the guard does not hold. -/
def calm (g : Option (Nat × Bool)) (s : OpS) : OpS := match s with
  | .bad n => match g with
    | some _ => .vneed False .undef
    | none => .bad n
  | s => s
def evOp (X : Tbl) (T : Tabs) (o : Oper) (xs : List PV) (lh : List (Nat × PV)) : OpS := calm o.guard (evOp0 P X T o xs lh)
/-- One operation, where the order is left open: new rows stay as they are. -/
def evOpD (X : Tbl) (T : Tabs) (o : Oper) (xs : List PV) (lh : List (Nat × PV)) : OpS :=
  match o.op with
  | .convert a b _ => (convR P a b (xs.getD 0 .undef)).at
  | _ => evOp P X T o xs lh

/-- An operand's value, as it is held. -/
def lookL (t : Nat) : List (Nat × Option (Nat × Bool) × PV) → Option (Option (Nat × Bool) × PV)
  | [] => none
  | e :: l => bif Nat.beq e.1 t then some e.2 else lookL t l
/-- Does a guard hold, where another one does? -/
def guardIn (ops : List Oper) : Nat → Option (Nat × Bool) → Option (Nat × Bool) → Bool
  | 0, _, _ => false
  | k + 1, g, h => match h with
    | none => true
    | some (j, b) => match g with
      | none => false
      | some (i, a) => (Nat.beq i j && (a == b)) || guardIn ops k ((ops[i]?).bind (·.guard)) (some (j, b))
/-- The value of an operand beneath a guard. -/
def operandV (ops : List Oper) (g : Option (Nat × Bool)) (s : VS) (x : Operand) : PV := match x with
  | .tmp t => match lookL t s.loc with
    | some (h, v) => match guardIn ops 9 g h with
      | true => v
      | false => .undef
    | none => (getN t s.env).getD .undef
  | .const v => ofValue v
  | .global g => .gp g 0
  | .func f => .fn (.func f) [] []
/-- Beneath which condition is an operation carried out? -/
def underG (ops : List Oper) (s : VS) : Nat → Option (Nat × Bool) → Prop → Prop
  | 0, _, _ => False
  | k + 1, g, p => match g with
    | none => p
    | some (j, w) => match ops[j]? with
      | none => False
      | some o => match o.dst.bind fun t => lookL t s.loc with
        | some (_, .bool b) => underG ops s k o.guard (match w with | true => b = true → p | false => b = false → p)
        | _ => False
/-- Which operation laid this, in this region? -/
def pickGuard (ops : List Oper) (s : VS) (c : Operand) : Option Nat := match c with
  | .tmp t => match lookL t s.loc with
    | some _ => ops.findIdx? fun o => match o.dst with | some d => Nat.beq d t | none => false
    | none => none
  | _ => none
def operandsV (ops : List Oper) (o : Oper) (s : VS) : List PV := match o.op with
  | .pick c a b => match pickGuard ops s c with
    | some j => [operandV ops o.guard s c, operandV ops (some (j, true)) s a, operandV ops (some (j, false)) s b]
    | none => o.op.operands.toList.map (operandV ops o.guard s)
  | op => op.operands.toList.map (operandV ops o.guard s)
def pushL (o : Oper) (v : PV) (s : VS) : VS := match o.dst with
  | some d => { s with loc := (d, o.guard, v) :: s.loc }
  | none => s
/-- Values told by their heads. -/
def forceL (f : PV → (PV → Prop) → Prop) : List PV → (List PV → Prop) → Prop
  | [], k => k []
  | x :: l, k => f x fun y => forceL f l fun l => k (y :: l)
def forceB (r : BRow) (k : BRow → Prop) : Prop := match r with
  | .bytes l => k (.bytes l)
  | .strs l => k (.strs l)
  | .ints i l => k (.ints i l)
def forceV : Nat → PV → (PV → Prop) → Prop
  | 0, x, k => k x
  | n + 1, x, k => match x with
    | .undef => k .undef
    | .int i z => k (.int i z)
    | .bool b => k (.bool b)
    | .str l => k (.str l)
    | .raw v => k (.raw v)
    | .arr m r => forceB r fun r => k (.arr m r)
    | .agg l => forceL (forceV n) l fun l => k (.agg l)
    | .tup l => forceL (forceV n) l fun l => k (.tup l)
    | .row nl r t => forceB r fun r => k (.row nl r t)
    | .vec nl sz l t => k (.vec nl sz l t)
    | .ep r t i => k (.ep r t i)
    | .epv sz l t i off => k (.epv sz l t i off)
    | .ptr m off => k (.ptr m off)
    | .pix m off i => k (.pix m off i)
    | .asl m off a b => k (.asl m off a b)
    | .gp g off => k (.gp g off)
    | .gix g off i => k (.gix g off i)
    | .fn f a b => k (.fn f a b)
def forceE : List (Nat × PV) → (List (Nat × PV) → Prop) → Prop
  | [], k => k []
  | e :: l, k => forceV 4 e.2 fun x => forceE l fun l => k ((e.1, x) :: l)
/-- Operations in line. -/
def evOps (X : Tbl) (T : Tabs) (ops : List Oper) : List Oper → VS → (VS → Prop) → Prop
  | [], s, k => k s
  | o :: os, s, k => match evOp P X T o (operandsV ops o s) s.lh, o.guard with
    | .val v, _ => forceV 4 v fun v => evOps X T ops os (pushL o v s) k
    | .vneed p v, none => p ∧ forceV 4 v fun v => evOps X T ops os (pushL o v s) k
    | .vneed p v, some g => underG ops s 9 (some g) p ∧ forceV 4 v fun v => evOps X T ops os (pushL o v s) k
    | .ok v f lh, none => forceV 4 v fun v => evOps X T ops os (pushL o v (s.turn f lh)) k
    | .need p v f lh, none => p ∧ forceV 4 v fun v => evOps X T ops os (pushL o v (s.turn f lh)) k
    | _, _ => False
/-- Does an operation stand ahead of, or behind, each other one by force? -/
def barB (ops : List Oper) (bf : List Nat) (i : Nat) : Bool := (List.range ops.length).all fun j => Nat.beq j i || (bif Nat.blt j i then inMask (bf.getD i 0) j else inMask (bf.getD j 0) i)
/-- Operations in any order: those that turn what is held stand apart from all others. -/
def evD (X : Tbl) (T : Tabs) (ops : List Oper) (bf : List Nat) : List Oper → Nat → VS → (VS → Prop) → Prop
  | [], _, s, k => k s
  | o :: os, i, s, k => match barB ops bf i with
    | true => match evOp P X T o (operandsV ops o s) s.lh, o.guard with
      | .val v, _ => forceV 4 v fun v => evD X T ops bf os (i + 1) (pushL o v s) k
      | .vneed p v, none => p ∧ forceV 4 v fun v => evD X T ops bf os (i + 1) (pushL o v s) k
      | .vneed p v, some g => underG ops s 9 (some g) p ∧ forceV 4 v fun v => evD X T ops bf os (i + 1) (pushL o v s) k
      | .ok v f lh, none => forceV 4 v fun v => evD X T ops bf os (i + 1) (pushL o v (s.turn f lh)) k
      | .need p v f lh, none => p ∧ forceV 4 v fun v => evD X T ops bf os (i + 1) (pushL o v (s.turn f lh)) k
      | _, _ => False
    | false => match evOpD P X T o (operandsV ops o s) s.lh, o.guard with
      | .val v, _ => forceV 4 v fun v => evD X T ops bf os (i + 1) (pushL o v s) k
      | .vneed p v, none => p ∧ forceV 4 v fun v => evD X T ops bf os (i + 1) (pushL o v s) k
      | .vneed p v, some g => underG ops s 9 (some g) p ∧ forceV 4 v fun v => evD X T ops bf os (i + 1) (pushL o v s) k
      | _, _ => False
/-- Operations that neither read nor write memory. -/
def quietE : Op → Bool
  | .move _ | .nilCheck _ | .binOp .. | .unOp .. | .slice .. | .fieldAddr .. | .field .. | .indexAddr .. | .index .. | .extract .. | .build .. => true
  | .assign x => !nilConst x
  | .call { callee := .builtin .len, .. } => true
  | _ => false
/-- Where something is read, or written. -/
inductive Pl where
  | box (n off len : Nat)
  | mark (t : Nat)
  | still
def djPl (p q : Pl) : Bool := match p, q with
  | .box n o l, .box n' o' l' => !Nat.beq n n' || (Nat.ble (o + l) o' || Nat.ble (o' + l') o)
  | .mark t, .mark t' => !Nat.beq t t'
  | .still, .still => false
  | _, _ => true
def plL (t : TypeId) (x : PV) : Option Pl := match x with
  | .ptr n off => some (.box n off (match aggT P t with | true => sizeT P t | false => 1))
  | .ep _ 0 _ => some .still
  | _ => none
def plS (t : TypeId) (x : PV) (lh : List (Nat × PV)) : Option Pl := match x with
  | .ptr n off => some (.box n off (sizeT P t))
  | .pix n off _ => match getN n lh with
    | some c => match c.arrAt off with
      | some (m, _) => some (.box n off m)
      | none => none
    | none => none
  | .ep _ (u + 1) _ => some (.mark (u + 1))
  | _ => none
abbrev Mets := List (Nat × Bool × Pl)
def metOk (m : Nat) (st : Bool) (p : Pl) (ms : Mets) : Bool := ms.all fun e => inMask m e.1 || ((!st && !e.2.1) || djPl p e.2.2)
/-- Operations in any order, stores among them. -/
def evE (X : Tbl) (T : Tabs) (ops : List Oper) (bf : List Nat) : List Oper → Nat → Mets → VS → (VS → Prop) → Prop
  | [], _, _, s, k => k s
  | o :: os, i, ms, s, k => match barB ops bf i with
    | true => match evOp P X T o (operandsV ops o s) s.lh, o.guard with
      | .val v, _ => forceV 4 v fun v => evE X T ops bf os (i + 1) [] (pushL o v s) k
      | .vneed p v, none => p ∧ forceV 4 v fun v => evE X T ops bf os (i + 1) [] (pushL o v s) k
      | .vneed p v, some g => underG ops s 9 (some g) p ∧ forceV 4 v fun v => evE X T ops bf os (i + 1) [] (pushL o v s) k
      | .ok v f lh, none => forceV 4 v fun v => evE X T ops bf os (i + 1) [] (pushL o v (s.turn f lh)) k
      | .need p v f lh, none => p ∧ forceV 4 v fun v => evE X T ops bf os (i + 1) [] (pushL o v (s.turn f lh)) k
      | _, _ => False
    | false => match quietE o.op with
      | true => match evOp P X T o (operandsV ops o s) s.lh, o.guard with
        | .val v, _ => forceV 4 v fun v => evE X T ops bf os (i + 1) ms (pushL o v s) k
        | .vneed p v, none => p ∧ forceV 4 v fun v => evE X T ops bf os (i + 1) ms (pushL o v s) k
        | .vneed p v, some g => underG ops s 9 (some g) p ∧ forceV 4 v fun v => evE X T ops bf os (i + 1) ms (pushL o v s) k
        | _, _ => False
      | false => match o.op with
        | .load t _ => match plL P t ((operandsV ops o s).getD 0 .undef) with
          | some p => match metOk (bf.getD i 0) false p ms with
            | true => match evOp P X T o (operandsV ops o s) s.lh, o.guard with
              | .val v, _ => forceV 4 v fun v => evE X T ops bf os (i + 1) ((i, false, p) :: ms) (pushL o v s) k
              | .vneed q v, none => q ∧ forceV 4 v fun v => evE X T ops bf os (i + 1) ((i, false, p) :: ms) (pushL o v s) k
              | .vneed q v, some g => underG ops s 9 (some g) q ∧ forceV 4 v fun v => evE X T ops bf os (i + 1) ((i, false, p) :: ms) (pushL o v s) k
              | _, _ => False
            | false => False
          | none => False
        | .store t _ _ => match plS P t ((operandsV ops o s).getD 0 .undef) s.lh with
          | some p => match metOk (bf.getD i 0) true p ms with
            | true => match evOp P X T o (operandsV ops o s) s.lh, o.guard with
              | .ok v f lh, none => forceV 4 v fun v => evE X T ops bf os (i + 1) ((i, true, p) :: ms) (pushL o v (s.turn f lh)) k
              | .need q v f lh, none => q ∧ forceV 4 v fun v => evE X T ops bf os (i + 1) ((i, true, p) :: ms) (pushL o v (s.turn f lh)) k
              | _, _ => False
            | false => False
          | none => False
        | _ => False
/-- Is there a store that does not stand apart? -/
def looseB (ops : List Oper) (bf : List Nat) : Bool := ops.zipIdx.any fun (o, i) => (match o.op with | .store .. => true | _ => false) && !barB ops bf i
def evG (X : Tbl) (T : Tabs) (ops : List Oper) (bf : List Nat) (s : VS) (k : VS → Prop) : Prop := match looseB ops bf with
  | true => evE P X T ops bf ops 0 [] s k
  | false => evD P X T ops bf ops 0 s k
/-- The marks of what is handed to calls. -/
def callTs (ops : List Oper) : List Nat := ops.flatMap fun o => match o.op with
  | .call { callee := .value _, args, .. } => args.toList.filterMap fun | .tmp t => some t | _ => none
  | _ => []
def callSrc (ops : List Oper) : List Nat := let ts := callTs ops
  ts ++ ops.filterMap fun o => match o.op, o.dst with
    | .move (.tmp s), some d => bif ts.any (Nat.beq d) then some s else none
    | _, _ => none
def callMarks (ops : List Oper) (s : VS) : List Nat := addNew [] ((callSrc ops).flatMap fun t => match getN t s.env with | some x => PV.allL PV.tok1 x | none => [])
def stillS (us : List Nat) (s : VS) : VS := match us with
  | [] => s
  | us => s.turn (some (PV.mark1 (callF us))) (turnB (PV.mark1 (callF us)) s.lh)
/-- What is kept of a region. -/
def keepL (s : VS) : VS :=
  ⟨[], s.env.map fun e => (e.1, match lookL e.1 s.loc with | some (none, v) => v | some (some _, _) => .undef | none => e.2), s.lh⟩
def onBool (x : PV) (a b : Prop) : Prop := match x with
  | .bool t => (t = true → a) ∧ (t = false → b)
  | _ => False
/-- A loop's number: its first region's. -/
def firstId : Code → Nat
  | .region id _ _ => id
  | .seq a b => firstId a
  | .cond _ a _ => firstId a
  | .block _ a => firstId a
  | .loop a => firstId a
  | .scope a => firstId a
  | _ => 999999
def VS.put (s : VS) (n : Nat) (x : PV) : VS := ⟨s.loc, setN n x s.env, s.lh⟩
/-- What is in some slots is forgotten. -/
def VS.drop (s : VS) : List Nat → VS
  | [] => s
  | n :: ns => (s.put n .undef).drop ns
/-- It is come to, for the first time; and again. -/
def Lp.into (h : Lp) (s : VS) (body : h.α → VS → Prop) : Prop := s.drop h.dead = h.at_ s (h.get s) ∧ h.inv s (h.get s) ∧ ∀ x, h.inv s x → body x (h.at_ s x)
def Lp.back (h : Lp) (s : VS) (x : h.α) (s' : VS) : Prop := s'.drop h.dead = h.at_ s (h.get s') ∧ h.inv s (h.get s') ∧ h.mu s (h.get s') < h.mu s x
/-- Slots, set and looked up. -/
def VS.slot (s : VS) (n : Nat) : PV := (getN n s.env).getD .undef
def VS.int (s : VS) (n : Nat) : Int := (s.slot n).asInt
def VS.bool (s : VS) (n : Nat) : Bool := (s.slot n).asBool
def VS.str (s : VS) (n : Nat) : Bs := (s.slot n).asStr
def VS.bytes (s : VS) (n : Nat) : Bs := (s.slot n).asBytes
def VS.strs (s : VS) (n : Nat) : List Bs := (s.slot n).asStrs
def VS.ints (s : VS) (n : Nat) : List Int := (s.slot n).asInts
def VS.nil (s : VS) (n : Nat) : Bool := (s.slot n).asNil
/-- A row in its place, beneath the mark that is there. -/
def VS.row (s : VS) (e : VS) (n : Nat) (nl : Bool) (r : BRow) : VS := s.put n (match e.slot n with | .row _ _ t => .row nl r t | _ => .undef)
/-- Does each operation write elsewhere, and hang on an earlier one? -/
def dstsOk : List Oper → Bool
  | [] => true
  | o :: os => (match o.dst with | some d => os.all (fun q => match q.dst with | some e => !Nat.beq d e | none => true) | none => true) && dstsOk os
def guardsOk (ops : List Oper) : Nat → List Oper → Bool
  | _, [] => true
  | i, o :: os => (match o.guard with | none => true | some (j, _) => Nat.blt j i && (match (ops[j]?).bind (·.dst) with | some _ => true | none => false)) && guardsOk ops (i + 1) os
def regOk (N : Nat) (ops : List Oper) : Bool := dstsOk ops && guardsOk ops 0 ops && ops.all fun o => match o.dst with | some d => Nat.blt d N | none => true
/-- Code; or code that stands within a scope, with labels that are come to again. -/
def evC (X : Tbl) (T : Tabs) (H : Loops) (N : Nat) : Nat → Option (Code × (Nat → Option (VS → Prop))) → Code → VS → Kont → Prop
  | 0, _, _, _, _ => False
  | fuel + 1, some (a, C), c, s, k => evC X T H N fuel none c s fun e s => match e with
      | .goto l => match C l with
        | some J => J s
        | none => match findLabel a l with
          | none => k (.goto l) s
          | some r => match H (1000000 + l) with
            | some h => h.into s fun n s' => evC X T H N fuel (some (a, fun l' => bif Nat.beq l' l then some (h.back s n) else C l')) r s' k
            | none => evC X T H N fuel (some (a, C)) r s k
      | e => k e s
  | fuel + 1, none, c, s, k => match c with
    | .skip => k .normal s
    | .region _ ops draw => match draw, regOk N ops.toList with
      | false, true => evOps P X T ops.toList ops.toList s fun s => forceE (keepL s).env fun env => forceE s.lh fun lh => k .normal ⟨[], env, lh⟩
      | true, true => match openOk ops.toList (befores ops.toList) with
        | true => evG P X T ops.toList (befores ops.toList) (stillS (callMarks ops.toList s) s) fun s => forceE (keepL s).env fun env => forceE s.lh fun lh => k .normal ⟨[], env, lh⟩
        | false => False
      | _, _ => False
    | .seq a b => evC X T H N fuel none a s fun e s => match e with
      | .normal => evC X T H N fuel none b s k
      | e => k e s
    | .cond c a b => onBool (operandV [] none s c) (evC X T H N fuel none a s k) (evC X T H N fuel none b s k)
    | .block id a => evC X T H N fuel none a s fun e s => match e with
      | .exit i => bif Nat.beq i id then k .normal s else k (.exit i) s
      | e => k e s
    | .loop a => match H (firstId a) with
      | some h => h.into s fun n s' => evC X T H N fuel none a s' fun e s'' => match e with
        | .normal => h.back s n s''
        | e => k e s''
      | none => False
    | .exit id => k (.exit id) s
    | .scope a => evC X T H N fuel (some (a, fun _ => none)) a s k
    | .label _ => k .normal s
    | .goto l => k (.goto l) s
    | .ret => k .ret s
    | _ => False
end
def keepR (ops : List Oper) (acc : Nat) : Nat :=
  (ops.foldl (fun (s : Nat × Nat) o => ((o.op.operands.toList.foldl (fun a x => match x with | .tmp t => if inMask s.2 t then a else orMask a t | _ => a) s.1), match o.dst with | some d => orMask s.2 d | none => s.2)) (acc, 0)).1
def keepC : Code → Nat → Nat
  | .region _ ops _, a => keepR ops.toList a
  | .seq x y, a => keepC y (keepC x a)
  | .cond c x y, a => keepC y (keepC x (match c with | .tmp t => orMask a t | _ => a))
  | .block _ x, a => keepC x a
  | .loop x, a => keepC x a
  | .scope x, a => keepC x a
  | _, a => a
def keepF (fn : Func) : Nat :=
  match fn.body with
  | some c => (List.range (fn.params.size + fn.nfree)).foldl orMask (fn.results.toList.foldl (fun a r => match r with | .tmp t => orMask a t | .cell t _ => orMask a t) (keepC c 0))
  | none => 0
def slotsOf (m : Nat) : Nat → List Nat
  | 0 => []
  | n + 1 => bif inMask m n then slotsOf m n ++ [n] else slotsOf m n
section
variable (P : Program)
def resV (T : Tabs) (s : VS) (r : ResultVar) : Option PV := match r with
  | .tmp t => some ((getN t s.env).getD .undef)
  | .cell t ty => match getN t s.env with
    | some (.ptr n off) => match loadR P T s.lh ty (.ptr n off) with
      | .ok v => some v
      | _ => none
    | _ => none
def resVs (T : Tabs) (s : VS) : List ResultVar → Option (List PV)
  | [] => some []
  | r :: rs => match resV P T s r, resVs T s rs with
    | some x, some xs => some (x :: xs)
    | _, _ => none
def resultsV (T : Tabs) (s : VS) (rs : List ResultVar) : Option PV := match resVs P T s rs with
  | some [x] => some x
  | some xs => some (.tup xs)
  | none => none
/-- What is handed out of a function. -/
def outL (r : Option PV) (k : PV → Prop) : Prop := match r with
  | some r => forceV 4 r fun r => match PV.allL PV.nam1 r with
    | [] => k (r.mapL (PV.mark1 bareF))
    | _ => False
  | none => False
def withAt (xs : List PV) : List Nat → List (Nat × PV)
  | [] => []
  | t :: ts => (t, xs.getD t .undef) :: withAt xs ts
def evF (X : Tbl) (T : Tabs) (H : Loops) (fuel : Nat) (fn : Func) (xs : List PV) (k : PV → Prop) : Prop :=
  match fn.body with
  | none => False
  | some c => evC P X T H fn.ntmps fuel none c ⟨[], withAt xs (slotsOf (keepF fn) fn.ntmps), []⟩ fun e s => match e with
    | .normal => outL (resultsV P T s fn.results.toList) k
    | .ret => outL (resultsV P T s fn.results.toList) k
    | _ => False
end
end Go.Vc


/- A calculus of Go's functions by their values: what values stand for. -/
namespace Go.Vc
open Go.RowKit

/-- Where boxes lie, where marked rows lie, which cells stay as they are. -/
structure Gh where
  σ : Nat → Option Nat
  τ : Nat → Option Nat
  F : Nat → Nat → Option Value
def Gh.deep (G : Gh) : Gh := ⟨fun _ => none, fun _ => none, G.F⟩
abbrev flatV (v : Value) : Bool := v.oneCell'
theorem BRow.len_eq (r : BRow) : r.len = (r.vals.length : Int) := by
  cases r <;> simp [BRow.len, BRow.vals, lenZ]
/-- Cells from a place on, that stay, or that lie in a marked row. -/
def At (G : Gh) (w : World) (t sz b o cap : Nat) (cs : List Value) : Prop :=
  (t = 0 ∧ ∀ i c, cs[i]? = some c → G.F b (o + i) = some c) ∨
  (t ≠ 0 ∧ G.τ t = some b ∧ (∀ i c, cs[i]? = some c → w.cell? ⟨b, o + i, none⟩ = some c) ∧
    ∃ xs e fz, w.heap[b]? = some (.cells xs e fz) ∧ (o = 0 ∧ o + cap * sz ≤ xs.size) ∧ ∀ i, i < xs.size → ¬ (fz.1 ≤ i ∧ i < fz.2))
/-- A slice of so many values, each of sz cells. -/
def Sl (G : Gh) (w : World) (nl : Bool) (t sz : Nat) (us : List Value) (v : Value) : Prop :=
  (nl = true ∧ us = [] ∧ v = .slice none 0 0) ∨
  (nl = false ∧ ∃ b o cap, v = .slice (some ⟨b, o, none⟩) us.length cap ∧ us.length ≤ cap ∧ At G w t sz b o cap (us.flatMap fun u => u.cells.toList))
def wideL (sz : Nat) (us : List Value) : Prop := ∀ u ∈ us, u.cells.size = sz ∧ ∀ c ∈ u.cells.toList, flatV c = true
mutual
/-- What a value stands for. -/
def Rep : PV → Gh → World → Value → Prop
  | .undef, _, _, _ => True
  | .int k z, _, _, v => v = .int k z
  | .bool b, _, _, v => v = .bool b
  | .str l, _, _, v => v = .string ⟨l.toArray⟩
  | .raw u, _, _, v => v = u ∧ flatV u = true
  | .arr n r, _, _, v => r.vals.length = n ∧ v = .agg r.vals.toArray
  | .agg l, G, w, v => ∃ us, RepL l G w us ∧ v = .agg (us.flatMap fun u => u.cells.toList).toArray
  | .tup l, G, w, v => ∃ us, RepL' l G w us ∧ v = .tuple us.toArray
  | .row nl r t, G, w, v => Sl G w nl t 1 r.vals v
  | .vec nl sz l t, G, w, v => ∃ us, RepL' l G.deep w us ∧ wideL sz us ∧ Sl G w nl t sz us v
  | .ep r t i, G, w, v => ∃ b o cap, v = .pointer (some ⟨b, o + i.toNat, none⟩) ∧ 0 ≤ i ∧ i < r.len ∧ At G w t 1 b o cap r.vals
  | .epv sz l t i off, G, w, v => ∃ b o cap us, v = .pointer (some ⟨b, o + i.toNat * sz + off, none⟩) ∧ 0 ≤ i ∧ i < lenZ l ∧ RepL' l G.deep w us ∧ wideL sz us ∧ At G w t sz b o cap (us.flatMap fun u => u.cells.toList)
  | .ptr n off, G, _, v => ∃ b, G.σ n = some b ∧ v = .pointer (some ⟨b, off, none⟩)
  | .pix n off i, G, _, v => 0 ≤ i ∧ ∃ b, G.σ n = some b ∧ v = .pointer (some ⟨b, off + i.toNat, none⟩)
  | .asl n off lo len, G, _, v => 0 ≤ lo ∧ 0 ≤ len ∧ ∃ b o cap, G.σ n = some b ∧ v = .slice (some ⟨b, o, none⟩) len.toNat cap ∧ len.toNat ≤ cap ∧ (0 < cap → o = off + lo.toNat)
  | .gp g off, _, _, v => v = .pointer (some ⟨g, off, none⟩)
  | .gix g off i, _, _, v => 0 ≤ i ∧ v = .pointer (some ⟨g, off + i.toNat, none⟩)
  | .fn f a b, G, w, v => ∃ us vs, RepL' a G w us ∧ RepL' b G w vs ∧ v = .func f us.toArray vs.toArray
/-- Parts of a struct: as wide as is told, and of single cells. -/
def RepL : List PV → Gh → World → List Value → Prop
  | [], _, _, us => us = []
  | x :: l, G, w, us => ∃ u us', us = u :: us' ∧ Rep x G w u ∧ u.cells.size = x.wid ∧ (∀ c ∈ u.cells.toList, flatV c = true) ∧ RepL l G w us'
def RepL' : List PV → Gh → World → List Value → Prop
  | [], _, _, us => us = []
  | x :: l, G, w, us => ∃ u us', us = u :: us' ∧ Rep x G w u ∧ RepL' l G w us'
end
/-- A leaf: no value of parts. -/
def PV.leaf : PV → Bool
  | .agg _ => false
  | .tup _ => false
  | .fn _ _ _ => false
  | _ => true
theorem PV.mapL_leaf {f : PV → PV} {x : PV} (h : x.leaf = true) : x.mapL f = f x := by cases x <;> first | rfl | cases h
mutual
theorem Rep.map {f : PV → PV} {G G' : Gh} {w w' : World} (hf : ∀ y v, y.leaf = true → Rep y G w v → Rep (f y) G' w' v) (hw : ∀ y : PV, y.leaf = true → (f y).wid = y.wid) :
    ∀ {x : PV} {v : Value}, Rep x G w v → Rep (x.mapL f) G' w' v
  | .agg l, v, h => by
    obtain ⟨us, h1, h2⟩ := h
    exact ⟨us, (RepL.map hf hw h1).1, h2⟩
  | .tup l, v, h => by
    obtain ⟨us, h1, h2⟩ := h
    exact ⟨us, RepL'.map hf hw h1, h2⟩
  | .fn g a b, v, h => by
    obtain ⟨us, vs, h1, h2, h3⟩ := h
    exact ⟨us, vs, RepL'.map hf hw h1, RepL'.map hf hw h2, h3⟩
  | .undef, v, h => hf _ _ rfl h
  | .int k z, v, h => hf _ _ rfl h
  | .bool b, v, h => hf _ _ rfl h
  | .str l, v, h => hf _ _ rfl h
  | .raw u, v, h => hf _ _ rfl h
  | .arr n r, v, h => hf _ _ rfl h
  | .row nl r t, v, h => hf _ _ rfl h
  | .vec nl sz l t, v, h => hf _ _ rfl h
  | .ep r t i, v, h => hf _ _ rfl h
  | .epv sz l t i off, v, h => hf _ _ rfl h
  | .ptr n off, v, h => hf _ _ rfl h
  | .pix n off i, v, h => hf _ _ rfl h
  | .asl n off lo len, v, h => hf _ _ rfl h
  | .gp g off, v, h => hf _ _ rfl h
  | .gix g off i, v, h => hf _ _ rfl h
theorem RepL.map {f : PV → PV} {G G' : Gh} {w w' : World} (hf : ∀ y v, y.leaf = true → Rep y G w v → Rep (f y) G' w' v) (hw : ∀ y : PV, y.leaf = true → (f y).wid = y.wid) :
    ∀ {l : List PV} {us : List Value}, RepL l G w us → RepL (PV.mapLs f l) G' w' us ∧ PV.wids (PV.mapLs f l) = PV.wids l
  | [], us, h => ⟨h, rfl⟩
  | x :: l, us, h => by
    obtain ⟨u, us', rfl, h1, h2, h3, h4⟩ := h
    obtain ⟨i1, i2⟩ := RepL.map hf hw h4
    have hx := PV.wid_map hw x
    exact ⟨⟨u, us', rfl, Rep.map hf hw h1, by rw [hx]; exact h2, h3, i1⟩, by simp only [PV.mapLs, PV.wids, hx, i2]⟩
theorem RepL'.map {f : PV → PV} {G G' : Gh} {w w' : World} (hf : ∀ y v, y.leaf = true → Rep y G w v → Rep (f y) G' w' v) (hw : ∀ y : PV, y.leaf = true → (f y).wid = y.wid) :
    ∀ {l : List PV} {us : List Value}, RepL' l G w us → RepL' (PV.mapLs f l) G' w' us
  | [], us, h => h
  | x :: l, us, h => by
    obtain ⟨u, us', rfl, h1, h2⟩ := h
    exact ⟨u, us', rfl, Rep.map hf hw h1, RepL'.map hf hw h2⟩
theorem PV.wid_map {f : PV → PV} (hw : ∀ y : PV, y.leaf = true → (f y).wid = y.wid) : ∀ x : PV, (x.mapL f).wid = x.wid
  | .agg l => PV.wids_map hw l
  | .tup l => rfl
  | .fn g a b => rfl
  | .undef => hw _ rfl
  | .int k z => hw _ rfl
  | .bool b => hw _ rfl
  | .str l => hw _ rfl
  | .raw u => hw _ rfl
  | .arr n r => hw _ rfl
  | .row nl r t => hw _ rfl
  | .vec nl sz l t => hw _ rfl
  | .ep r t i => hw _ rfl
  | .epv sz l t i off => hw _ rfl
  | .ptr n off => hw _ rfl
  | .pix n off i => hw _ rfl
  | .asl n off lo len => hw _ rfl
  | .gp g off => hw _ rfl
  | .gix g off i => hw _ rfl
theorem PV.wids_map {f : PV → PV} (hw : ∀ y : PV, y.leaf = true → (f y).wid = y.wid) : ∀ l : List PV, PV.wids (PV.mapLs f l) = PV.wids l
  | [] => rfl
  | x :: l => by simp only [PV.mapLs, PV.wids, PV.wid_map hw x, PV.wids_map hw l]
end
mutual
theorem PV.mapL_id : ∀ x : PV, x.mapL id = x
  | .agg l => by simp only [PV.mapL, PV.mapLs_id l]
  | .tup l => by simp only [PV.mapL, PV.mapLs_id l]
  | .fn g a b => by simp only [PV.mapL, PV.mapLs_id a, PV.mapLs_id b]
  | .undef => rfl
  | .int k z => rfl
  | .bool b => rfl
  | .str l => rfl
  | .raw u => rfl
  | .arr n r => rfl
  | .row nl r t => rfl
  | .vec nl sz l t => rfl
  | .ep r t i => rfl
  | .epv sz l t i off => rfl
  | .ptr n off => rfl
  | .pix n off i => rfl
  | .asl n off lo len => rfl
  | .gp g off => rfl
  | .gix g off i => rfl
theorem PV.mapLs_id : ∀ l : List PV, PV.mapLs id l = l
  | [] => rfl
  | x :: l => by simp only [PV.mapLs, PV.mapL_id x, PV.mapLs_id l]
end
/-- The same, in another state. -/
theorem Rep.to {G G' : Gh} {w w' : World} (hf : ∀ y v, y.leaf = true → Rep y G w v → Rep y G' w' v) {x : PV} {v : Value} (h : Rep x G w v) : Rep x G' w' v := by
  have := Rep.map (f := id) hf (fun _ _ => rfl) h
  rwa [PV.mapL_id] at this
theorem RepL'.to {G G' : Gh} {w w' : World} (hf : ∀ y v, y.leaf = true → Rep y G w v → Rep y G' w' v) {l : List PV} {us : List Value} (h : RepL' l G w us) : RepL' l G' w' us := by
  have := RepL'.map (f := id) hf (fun _ _ => rfl) h
  rwa [PV.mapLs_id] at this
theorem RepL.to {G G' : Gh} {w w' : World} (hf : ∀ y v, y.leaf = true → Rep y G w v → Rep y G' w' v) {l : List PV} {us : List Value} (h : RepL l G w us) : RepL l G' w' us := by
  have := (RepL.map (f := id) hf (fun _ _ => rfl) h).1
  rwa [PV.mapLs_id] at this
def FLe (F F' : Nat → Nat → Option Value) : Prop := ∀ b o u, F b o = some u → F' b o = some u
theorem FLe.refl (F : Nat → Nat → Option Value) : FLe F F := fun _ _ _ h => h
theorem FLe.trans {F F' F'' : Nat → Nat → Option Value} (h : FLe F F') (h' : FLe F' F'') : FLe F F'' := fun b o u e => h' b o u (h b o u e)
theorem At.zero {G G' : Gh} {w w' : World} {sz b o cap : Nat} {cs : List Value} (hF : FLe G.F G'.F) (h : At G w 0 sz b o cap cs) : At G' w' 0 sz b o cap cs := by
  rcases h with ⟨h1, h2⟩ | ⟨h1, h2⟩
  · exact .inl ⟨rfl, fun i c hc => hF _ _ _ (h2 i c hc)⟩
  · exact absurd rfl h1
theorem Sl.zero {G G' : Gh} {w w' : World} {nl : Bool} {sz : Nat} {us : List Value} {v : Value} (hF : FLe G.F G'.F) (h : Sl G w nl 0 sz us v) : Sl G' w' nl 0 sz us v := by
  rcases h with h | ⟨h1, b, o, cap, h2, h3, h4⟩
  · exact .inl h
  · exact .inr ⟨h1, b, o, cap, h2, h3, h4.zero hF⟩
/-- What is deep hangs on cells that stay alone. -/
theorem At.deep {G : Gh} {w : World} {t sz b o cap : Nat} {cs : List Value} (h : At G.deep w t sz b o cap cs) : t = 0 := by
  rcases h with ⟨h1, -⟩ | ⟨-, h2, -⟩
  · exact h1
  · cases h2
theorem Sl.deep {G G' : Gh} {w w' : World} {nl : Bool} {t sz : Nat} {us : List Value} {v : Value} (hF : FLe G.F G'.F) (h : Sl G.deep w nl t sz us v) : Sl G'.deep w' nl t sz us v := by
  rcases h with h | ⟨h1, b, o, cap, h2, h3, h4⟩
  · exact .inl h
  · obtain rfl := h4.deep
    exact .inr ⟨h1, b, o, cap, h2, h3, At.zero (G := G.deep) (G' := G'.deep) hF h4⟩
mutual
theorem Rep.deep {G G' : Gh} {w w' : World} (hF : FLe G.F G'.F) : ∀ {x : PV} {v : Value}, Rep x G.deep w v → Rep x G'.deep w' v
  | .agg l, v, h => by
    obtain ⟨us, h1, h2⟩ := h
    exact ⟨us, RepL.deep hF h1, h2⟩
  | .tup l, v, h => by
    obtain ⟨us, h1, h2⟩ := h
    exact ⟨us, RepL'.deep hF h1, h2⟩
  | .fn g a b, v, h => by
    obtain ⟨us, vs, h1, h2, h3⟩ := h
    exact ⟨us, vs, RepL'.deep hF h1, RepL'.deep hF h2, h3⟩
  | .undef, v, h => trivial
  | .int k z, v, h => h
  | .bool b, v, h => h
  | .str l, v, h => h
  | .raw u, v, h => h
  | .arr n r, v, h => h
  | .row nl r t, v, h => Sl.deep hF h
  | .vec nl sz l t, v, h => by
    obtain ⟨us, h1, h2, h3⟩ := h
    exact ⟨us, RepL'.deep (G := G) (G' := G') hF h1, h2, h3.deep hF⟩
  | .ep r t i, v, h => by
    obtain ⟨b, o, cap, h1, h2, h3, h4⟩ := h
    obtain rfl := h4.deep
    exact ⟨b, o, cap, h1, h2, h3, At.zero (G := G.deep) (G' := G'.deep) hF h4⟩
  | .epv sz l t i off, v, h => by
    obtain ⟨b, o, cap, us, h1, h2, h3, h4, h5, h6⟩ := h
    obtain rfl := h6.deep
    exact ⟨b, o, cap, us, h1, h2, h3, RepL'.deep (G := G) (G' := G') hF h4, h5, At.zero (G := G.deep) (G' := G'.deep) hF h6⟩
  | .ptr n off, v, h => by obtain ⟨b, h, -⟩ := h; cases h
  | .pix n off i, v, h => by obtain ⟨-, b, h, -⟩ := h; cases h
  | .asl n off lo len, v, h => by obtain ⟨-, -, b, o, c, h, -⟩ := h; cases h
  | .gp g off, v, h => h
  | .gix g off i, v, h => h
theorem RepL.deep {G G' : Gh} {w w' : World} (hF : FLe G.F G'.F) : ∀ {l : List PV} {us : List Value}, RepL l G.deep w us → RepL l G'.deep w' us
  | [], us, h => h
  | x :: l, us, h => by
    obtain ⟨u, us', rfl, h1, h2, h3, h4⟩ := h
    exact ⟨u, us', rfl, Rep.deep hF h1, h2, h3, RepL.deep hF h4⟩
theorem RepL'.deep {G G' : Gh} {w w' : World} (hF : FLe G.F G'.F) : ∀ {l : List PV} {us : List Value}, RepL' l G.deep w us → RepL' l G'.deep w' us
  | [], us, h => h
  | x :: l, us, h => by
    obtain ⟨u, us', rfl, h1, h2⟩ := h
    exact ⟨u, us', rfl, Rep.deep hF h1, RepL'.deep hF h2⟩
end
/-- A leaf in another state. -/
theorem Rep.leaf_to {G G' : Gh} {w w' : World} {y : PV} {v : Value} (hl : y.leaf = true) (hF : FLe G.F G'.F) (hσ : ∀ n ∈ y.nam1, G'.σ n = G.σ n)
    (hτ : ∀ t ∈ y.tok1, G'.τ t = G.τ t ∧ ∀ b, G.τ t = some b → w'.heap[b]? = w.heap[b]?) (h : Rep y G w v) : Rep y G' w' v := by
  have at_ : ∀ {t sz b o cap : Nat} {cs : List Value}, (t ≠ 0 → G'.τ t = G.τ t ∧ ∀ b, G.τ t = some b → w'.heap[b]? = w.heap[b]?) → At G w t sz b o cap cs → At G' w' t sz b o cap cs := by
    intro t sz b o cap cs ht h
    rcases h with ⟨h1, h2⟩ | ⟨h1, h2, h3, xs, e, fz, h4, h5⟩
    · exact .inl ⟨h1, fun i c hc => hF _ _ _ (h2 i c hc)⟩
    · obtain ⟨e1, e2⟩ := ht h1
      have e3 := e2 b h2
      exact .inr ⟨h1, by rw [e1]; exact h2, fun i c hc => by rw [World.cell?_of_block (w := w) (a := ⟨b, o + i, none⟩) e3]; exact h3 i c hc, xs, e, fz, by rw [e3]; exact h4, h5⟩
  have sl_ : ∀ {nl : Bool} {t sz : Nat} {us : List Value} {v : Value}, (t ≠ 0 → G'.τ t = G.τ t ∧ ∀ b, G.τ t = some b → w'.heap[b]? = w.heap[b]?) → Sl G w nl t sz us v → Sl G' w' nl t sz us v := by
    intro nl t sz us v ht h
    rcases h with h | ⟨h1, b, o, cap, h2, h3, h4⟩
    · exact .inl h
    · exact .inr ⟨h1, b, o, cap, h2, h3, at_ ht h4⟩
  cases y with
  | undef => trivial
  | int k z => exact h
  | bool b => exact h
  | str l => exact h
  | raw u => exact h
  | arr n r => exact h
  | agg l => cases hl
  | tup l => cases hl
  | fn g a b => cases hl
  | row nl r t => exact sl_ (fun ht => by cases t with | zero => exact absurd rfl ht | succ t => exact hτ _ (List.mem_cons_self ..)) h
  | vec nl sz l t =>
    obtain ⟨us, h1, h2, h3⟩ := h
    exact ⟨us, RepL'.deep (G := G) (G' := G') hF h1, h2, sl_ (fun ht => by cases t with | zero => exact absurd rfl ht | succ t => exact hτ _ (List.mem_cons_self ..)) h3⟩
  | ep r t i =>
    obtain ⟨b, o, cap, h1, h2, h3, h4⟩ := h
    exact ⟨b, o, cap, h1, h2, h3, at_ (fun ht => by cases t with | zero => exact absurd rfl ht | succ t => exact hτ _ (List.mem_cons_self ..)) h4⟩
  | epv sz l t i off =>
    obtain ⟨b, o, cap, us, h1, h2, h3, h4, h5, h6⟩ := h
    exact ⟨b, o, cap, us, h1, h2, h3, RepL'.deep (G := G) (G' := G') hF h4, h5, at_ (fun ht => by cases t with | zero => exact absurd rfl ht | succ t => exact hτ _ (List.mem_cons_self ..)) h6⟩
  | ptr n off => obtain ⟨b, h1, h2⟩ := h; exact ⟨b, by rw [hσ n (List.mem_cons_self ..)]; exact h1, h2⟩
  | pix n off i => obtain ⟨h0, b, h1, h2⟩ := h; exact ⟨h0, b, by rw [hσ n (List.mem_cons_self ..)]; exact h1, h2⟩
  | asl n off lo len => obtain ⟨h0, h00, b, o, c, h1, h2⟩ := h; exact ⟨h0, h00, b, o, c, by rw [hσ n (List.mem_cons_self ..)]; exact h1, h2⟩
  | gp g off => exact h
  | gix g off i => exact h
/-- What becomes of a mark: it is lost; its row stays as it is from now on; it is as it was. -/
def MarkOk (G G' : Gh) (w w' : World) (f : Nat → Option Nat) : Prop :=
  ∀ t, t ≠ 0 → match f t with
    | none => True
    | some 0 => ∀ b, G.τ t = some b → ∀ o u, w.cell? ⟨b, o, none⟩ = some u → G'.F b o = some u
    | some t' => t' = t ∧ G'.τ t = G.τ t ∧ ∀ b, G.τ t = some b → w'.heap[b]? = w.heap[b]?
theorem Rep.mark_leaf {G G' : Gh} {w w' : World} {f : Nat → Option Nat} (hF : FLe G.F G'.F) (hσ : ∀ n, G'.σ n = G.σ n) (f0 : f 0 = some 0) (hm : MarkOk G G' w w' f)
    {y : PV} {v : Value} (hl : y.leaf = true) (h : Rep y G w v) : Rep (y.mark1 f) G' w' v := by
  have at_ : ∀ {t t' sz b o cap : Nat} {cs : List Value}, f t = some t' → At G w t sz b o cap cs → At G' w' t' sz b o cap cs := by
    intro t t' sz b o cap cs ht h
    rcases h with ⟨rfl, h2⟩ | ⟨h1, h2, h3, xs, e, fz, h4, h5⟩
    · rw [f0] at ht; injection ht with ht; subst ht
      exact .inl ⟨rfl, fun i c hc => hF _ _ _ (h2 i c hc)⟩
    · have hmt := hm t h1
      rw [ht] at hmt
      cases t' with
      | zero => exact .inl ⟨rfl, fun i c hc => hmt b h2 _ _ (h3 i c hc)⟩
      | succ t' =>
        obtain ⟨e0, e1, e2⟩ := hmt
        have e3 := e2 b h2
        subst e0
        exact .inr ⟨h1, by rw [e1]; exact h2, fun i c hc => by rw [World.cell?_of_block (w := w) (a := ⟨b, o + i, none⟩) e3]; exact h3 i c hc, xs, e, fz, by rw [e3]; exact h4, h5⟩
  have sl_ : ∀ {nl : Bool} {t t' sz : Nat} {us : List Value} {v : Value}, f t = some t' → Sl G w nl t sz us v → Sl G' w' nl t' sz us v := by
    intro nl t t' sz us v ht h
    rcases h with h | ⟨h1, b, o, cap, h2, h3, h4⟩
    · exact .inl h
    · exact .inr ⟨h1, b, o, cap, h2, h3, at_ ht h4⟩
  cases y with
  | undef => trivial
  | int k z => exact h
  | bool b => exact h
  | str l => exact h
  | raw u => exact h
  | arr n r => exact h
  | agg l => cases hl
  | tup l => cases hl
  | fn g a b => cases hl
  | row nl r t =>
    show Rep (match f t with | some u => .row nl r u | none => .undef) G' w' v
    cases ht : f t with
    | none => trivial
    | some t' => exact sl_ ht h
  | vec nl sz l t =>
    show Rep (match f t with | some u => .vec nl sz l u | none => .undef) G' w' v
    cases ht : f t with
    | none => trivial
    | some t' =>
      obtain ⟨us, h1, h2, h3⟩ := h
      exact ⟨us, RepL'.deep (G := G) (G' := G') hF h1, h2, sl_ ht h3⟩
  | ep r t i =>
    show Rep (match f t with | some u => .ep r u i | none => .undef) G' w' v
    cases ht : f t with
    | none => trivial
    | some t' =>
      obtain ⟨b, o, cap, h1, h2, h3, h4⟩ := h
      exact ⟨b, o, cap, h1, h2, h3, at_ ht h4⟩
  | epv sz l t i off =>
    show Rep (match f t with | some u => .epv sz l u i off | none => .undef) G' w' v
    cases ht : f t with
    | none => trivial
    | some t' =>
      obtain ⟨b, o, cap, us, h1, h2, h3, h4, h5, h6⟩ := h
      exact ⟨b, o, cap, us, h1, h2, h3, RepL'.deep (G := G) (G' := G') hF h4, h5, at_ ht h6⟩
  | ptr n off => obtain ⟨b, h1, h2⟩ := h; exact ⟨b, by rw [hσ n]; exact h1, h2⟩
  | pix n off i => obtain ⟨h0, b, h1, h2⟩ := h; exact ⟨h0, b, by rw [hσ n]; exact h1, h2⟩
  | asl n off lo len => obtain ⟨h0, h00, b, o, c, h1, h2⟩ := h; exact ⟨h0, h00, b, o, c, by rw [hσ n]; exact h1, h2⟩
  | gp g off => exact h
  | gix g off i => exact h
theorem wid_mark (f : Nat → Option Nat) (y : PV) (hl : y.leaf = true) : (y.mark1 f).wid = y.wid := by
  cases y with
  | row nl r t => show PV.wid (match f t with | some u => .row nl r u | none => .undef) = _; cases f t <;> rfl
  | vec nl sz l t => show PV.wid (match f t with | some u => .vec nl sz l u | none => .undef) = _; cases f t <;> rfl
  | ep r t i => show PV.wid (match f t with | some u => .ep r u i | none => .undef) = _; cases f t <;> rfl
  | epv sz l t i off => show PV.wid (match f t with | some u => .epv sz l u i off | none => .undef) = _; cases f t <;> rfl
  | _ => first | rfl | cases hl
end Go.Vc

