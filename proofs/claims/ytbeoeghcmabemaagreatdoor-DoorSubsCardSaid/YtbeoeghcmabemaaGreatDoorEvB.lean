/- An evaluator of closed runs: values and memory as it sees them, all in passing style, so that the kernel can run it. -/
import Derived.Calls
set_option linter.unusedVariables false
set_option linter.unusedSectionVars false
namespace Go.Ev

inductive Ans where
  | yes | no (c : Nat)
/-- A tree of values by places. -/
inductive Tr (α : Type) where
  | leaf
  | node (v : Option α) (l r : Tr α)
inductive Pa where
  | e | o (p : Pa) | z (p : Pa)
  deriving DecidableEq
noncomputable def pathF (f : Nat) : Nat → Pa :=
  Nat.rec (motive := fun _ => Nat → Pa) (fun _ => .e) (fun _ ih n => Nat.rec (motive := fun _ => Pa) .e (fun m _ => Bool.rec (motive := fun _ => Pa) (.z (ih (Nat.div m 2))) (.o (ih (Nat.div m 2))) (Nat.beq (Nat.mod m 2) 0)) n) f
noncomputable def path (n : Nat) : Pa := pathF (Nat.succ n) n
noncomputable def Tr.getP {α : Type} (p : Pa) (t : Tr α) (no : Ans) (k : α → Ans) : Ans :=
  Pa.rec (motive := fun _ => Tr α → Ans)
    (fun t => Tr.rec (motive := fun _ => Ans) no (fun v _ _ _ _ => Option.rec (motive := fun _ => Ans) no k v) t)
    (fun _ ih t => Tr.rec (motive := fun _ => Ans) no (fun _ l _ _ _ => ih l) t)
    (fun _ ih t => Tr.rec (motive := fun _ => Ans) no (fun _ _ r _ _ => ih r) t) p t
noncomputable def Tr.setP {α : Type} (p : Pa) (x : Option α) (t : Tr α) (k : Tr α → Ans) : Ans :=
  Pa.rec (motive := fun _ => Tr α → (Tr α → Ans) → Ans)
    (fun t k => Tr.rec (motive := fun _ => Ans) (k (.node x .leaf .leaf)) (fun _ l r _ _ => k (.node x l r)) t)
    (fun _ ih t k => Tr.rec (motive := fun _ => Ans) (ih .leaf (fun t => k (.node none t .leaf))) (fun v l r _ _ => ih l (fun t => k (.node v t r))) t)
    (fun _ ih t k => Tr.rec (motive := fun _ => Ans) (ih .leaf (fun t => k (.node none .leaf t))) (fun v l r _ _ => ih r (fun t => k (.node v l t))) t) p t k

/-- Numbers that stand for themselves, and what they are to a bound, where that is asked. -/
class Sg where
  val : Nat → Value
inductive AV where
  | nat (n : Nat)
  | u8 (n : Nat)
  | int (k : IntKind) (n : Int)
  | bool (b : Bool)
  | str (n : Nat) (l : List Nat)
  | raw (v : Value)
  | ptr (b off : Nat)
  | slice (b off len : Nat) (exact : Bool) (c : Nat)
  | map (b : Nat)
  | iface (t : TypeId) (v : AV)
  | agg (l : List AV)
  | tup (l : List AV)
  | fn (f : Fn) (first captured : List AV)
  | sym (i : Nat)
/-- What numbers that are not known are to a bound, where that is asked; tables that are looked at again. -/
class Sl where
  low : Nat → Nat → Option Nat
  tabs : List (Nat × List AV)
inductive Blk where
  | cells (elem : TypeId) (len : Nat) (t : Tr AV) (exact : Bool) (esz : Nat)
  | map (es : List (AV × AV × Nat)) (clock : Nat)
  | iter (l : List Nat) (pos : Nat)
  | miter (b since : Nat)
/-- Memory: blocks, the next number, the least number that was written. -/
inductive Hp where
  | mk (t : Tr Blk) (n low : Nat)

noncomputable def fNat (n : Nat) (k : Nat → Ans) : Ans := Nat.rec (motive := fun _ => Ans) (k 0) (fun m _ => k (Nat.succ m)) n
noncomputable def fInt (z : Int) (k : Int → Ans) : Ans := Int.rec (motive := fun _ => Ans) (fun n => fNat n fun m => k (.ofNat m)) (fun n => fNat n fun m => k (.negSucc m)) z
noncomputable def fBool (b : Bool) (k : Bool → Ans) : Ans := Bool.rec (motive := fun _ => Ans) (k false) (k true) b
noncomputable def fList (l : List Nat) (k : List Nat → Ans) : Ans :=
  List.rec (motive := fun _ => (List Nat → Ans) → Ans) (fun k => k []) (fun x _ ih k => fNat x fun y => ih fun ys => k (y :: ys)) l k
/-- Bytes, read and counted. -/
noncomputable def fBytes (l : List UInt8) (k : Nat → List Nat → Ans) : Ans :=
  List.rec (motive := fun _ => (Nat → List Nat → Ans) → Ans) (fun k => k 0 []) (fun x _ ih k => fNat x.toNat fun y => ih fun n ys => fNat (Nat.succ n) fun n => k n (y :: ys)) l k
noncomputable def cnd (b : Bool) (x y : Ans) : Ans := Bool.rec (motive := fun _ => Ans) y x b
noncomputable def intAV (q : IntKind) (z : Int) (k : AV → Ans) : Ans :=
  match q, z with
  | .i64, .ofNat n => fNat n fun n => k (.nat n)
  | .u8, .ofNat n => fNat n fun n => k (.u8 n)
  | q, z => fInt z fun z => k (.int q z)
/-- One cell's value. -/
noncomputable def fVal1 (v : Value) (k : AV → Ans) : Ans :=
  match v with
  | .int q n => intAV q n k
  | .bool b => fBool b fun b => k (.bool b)
  | .string s => fBytes s.data.toList fun n l => k (.str n l)
  | .complex q a b => fNat a fun a => fNat b fun b => k (.raw (.complex q a b))
  | .float q a => fNat a fun a => k (.raw (.float q a))
  | .agg _ => .no 2
  | .tuple _ => .no 2
  | v => k (.raw v)
noncomputable def fVals (l : List Value) (k : List AV → Ans) : Ans :=
  List.rec (motive := fun _ => (List AV → Ans) → Ans) (fun k => k []) (fun v _ ih k => fVal1 v fun a => ih fun as => k (a :: as)) l k
noncomputable def fVal (v : Value) (k : AV → Ans) : Ans :=
  match v with
  | .agg cs => fVals cs.toList fun l => k (.agg l)
  | .tuple cs => fVals cs.toList fun l => k (.tup l)
  | v => fVal1 v k
/-- A constant. -/
noncomputable def toAV1 (v : Value) : AV :=
  match v with
  | .int .i64 (.ofNat n) => .nat n
  | .int .u8 (.ofNat n) => .u8 n
  | .int q z => .int q z
  | .bool b => .bool b
  | .string s => .str s.data.toList.length (s.data.toList.map (·.toNat))
  | v => .raw v
noncomputable def toAV (v : Value) : AV :=
  match v with
  | .agg cs => .agg (cs.toList.map toAV1)
  | .tuple cs => .tup (cs.toList.map toAV1)
  | v => toAV1 v
/-- What runs without the world. -/
noncomputable def semPure {α : Type} (P : Program) (s : Sem α) : Option α :=
  Sem.rec (motive := fun _ => Option α) (fun a => some a) (fun _ _ _ _ => none) (fun _ _ _ _ _ => none) (fun _ _ _ => none) (fun _ _ _ => none) (fun _ _ _ _ => none) (fun _ _ _ => none) (fun _ _ _ => none) (fun _ _ _ _ => none) (fun _ _ _ => none) (fun _ _ _ => none) (fun _ ih => ih P) (fun _ _ ih => ih) (fun _ => none) s
/-- A value without memory, as the model has it. -/
def bytesOf (l : List Nat) : ByteArray := ⟨(l.map UInt8.ofNat).toArray⟩
def AV.plain1 : AV → Option Value
  | .nat n => some (.int .i64 n)
  | .u8 n => some (.int .u8 n)
  | .int k n => some (.int k n)
  | .bool b => some (.bool b)
  | .str _ l => some (.string (bytesOf l))
  | .raw v => some v
  | _ => none
def plainL : List AV → Option (List Value)
  | [] => some []
  | x :: xs => match x.plain1, plainL xs with
    | some v, some vs => some (v :: vs)
    | _, _ => none
def AV.plain : AV → Option Value
  | .agg l => (plainL l).map fun vs => .agg vs.toArray
  | x => x.plain1
/-- The cells that a value takes up. -/
noncomputable def AV.cells (x : AV) (k : List AV → Ans) : Ans :=
  match x with
  | .agg l => k l
  | .tup _ => .no 1
  | x => k [x]
end Go.Ev
namespace Go.Ev

/-- So many cells from a place on. -/
noncomputable def readN (t : Tr AV) (n : Nat) (off : Nat) (k : List AV → Ans) : Ans :=
  Nat.rec (motive := fun _ => Nat → (List AV → Ans) → Ans) (fun _ k => k [])
    (fun _ ih off k => t.getP (path off) (.no 10) fun v => fNat (Nat.succ off) fun off => ih off fun l => k (v :: l)) n off k
noncomputable def writeL (l : List AV) (off : Nat) (t : Tr AV) (k : Tr AV → Ans) : Ans :=
  List.rec (motive := fun _ => Nat → Tr AV → (Tr AV → Ans) → Ans) (fun _ t k => k t)
    (fun v _ ih off t k => t.setP (path off) (some v) fun t => fNat (Nat.succ off) fun off => ih off t k) l off t k
noncomputable def lenK (l : List AV) (k : Nat → Ans) : Ans :=
  List.rec (motive := fun _ => (Nat → Ans) → Ans) (fun k => k 0) (fun _ _ ih k => ih fun n => fNat (Nat.succ n) k) l k
noncomputable def catK (l m : List AV) (k : List AV → Ans) : Ans :=
  List.rec (motive := fun _ => (List AV → Ans) → Ans) (fun k => k m) (fun x _ ih k => ih fun r => k (x :: r)) l k
noncomputable def catN (l m : List Nat) (k : List Nat → Ans) : Ans :=
  List.rec (motive := fun _ => (List Nat → Ans) → Ans) (fun k => k m) (fun x _ ih k => ih fun r => k (x :: r)) l k
noncomputable def takeK {α : Type} (n : Nat) (l : List α) (k : List α → Ans) : Ans :=
  Nat.rec (motive := fun _ => List α → (List α → Ans) → Ans) (fun _ k => k [])
    (fun _ ih l k => List.rec (motive := fun _ => Ans) (k []) (fun x xs _ => ih xs fun r => k (x :: r)) l) n l k
noncomputable def dropK {α : Type} (n : Nat) (l : List α) (k : List α → Ans) : Ans :=
  Nat.rec (motive := fun _ => List α → Ans) (fun l => k l) (fun _ ih l => List.rec (motive := fun _ => Ans) (k []) (fun _ xs _ => ih xs) l) n l
noncomputable def nthK {α : Type} (n : Nat) (l : List α) (no : Ans) (k : α → Ans) : Ans :=
  Nat.rec (motive := fun _ => List α → Ans) (fun l => List.rec (motive := fun _ => Ans) no (fun x _ _ => k x) l)
    (fun _ ih l => List.rec (motive := fun _ => Ans) no (fun _ xs _ => ih xs) l) n l
/-- New memory. -/
noncomputable def newK (e : TypeId) (l : List AV) (exact : Bool) (esz : Nat) (h : Hp) (k : Nat → Hp → Ans) : Ans :=
  match h with
  | .mk t n low => lenK l fun m => writeL l 0 .leaf fun c => t.setP (path n) (some (.cells e m c exact esz)) fun t => fNat (Nat.succ n) fun n' => k n (.mk t n' low)
noncomputable def natMin (a b : Nat) (k : Nat → Ans) : Ans := cnd (Nat.ble a b) (k a) (k b)
/-- Cells of a block are written. -/
noncomputable def putK (b off : Nat) (l : List AV) (h : Hp) (k : Hp → Ans) : Ans :=
  match h with
  | .mk t n low => t.getP (path b) (.no 11) fun bl =>
    match bl with
    | .cells e m c ex sz => lenK l fun q => cnd (Nat.ble (Nat.add off q) m) (writeL l off c fun c => t.setP (path b) (some (.cells e m c ex sz)) fun t => natMin low b fun low => k (.mk t n low)) (.no 12)
    | _ => .no 13
noncomputable def getK (b off n : Nat) (h : Hp) (k : List AV → Ans) : Ans :=
  match h with
  | .mk t _ _ => t.getP (path b) (.no (1400000 + b)) fun bl =>
    match bl with
    | .cells _ m c _ _ => cnd (Nat.ble (Nat.add off n) m) (readN c n off k) (.no 15)
    | _ => .no 16

section
variable (P : Program)
/-- Facts of types, as the program tells them. -/
noncomputable def sizeK (t : TypeId) (k : Nat → Ans) : Ans := Option.rec (motive := fun _ => Ans) (.no 20) (fun (i : TypeInfo) => fNat i.size k) (P.info? t)
def aggB (P : Program) (t : TypeId) : Bool :=
  match P.underlying t with
  | some (.struct _) => true
  | some (.array _ _) => true
  | _ => false
def knownB (P : Program) (t : TypeId) : Bool := (P.underlying t).isSome
noncomputable def zeroK (t : TypeId) (k : AV → Ans) : Ans :=
  Option.rec (motive := fun _ => Ans) (.no 21) (fun (i : TypeInfo) => Option.rec (motive := fun _ => Ans) (.no 22) (fun v => fVal v k) i.zero) (P.info? t)

noncomputable def plainK (x : AV) (k : Value → Ans) : Ans := Option.rec (motive := fun _ => Ans) (.no 23) k x.plain
/-- By the model itself. -/
noncomputable def modelK (s : Sem Value) (k : AV → Ans) : Ans := Option.rec (motive := fun _ => Ans) (.no 24) (fun v => fVal v k) (semPure P s)

/-- Of which kind it is (a pointer, a slice, a map, a function), and whether it is nil. -/
noncomputable def isNil (x : AV) (k : Nat → Bool → Ans) : Ans :=
  match x with
  | .raw (.pointer none) => k 0 true
  | .raw (.slice none _ _) => k 1 true
  | .raw (.map none) => k 2 true
  | .raw .nilFunc => k 3 true
  | .ptr _ _ => k 0 false
  | .slice _ _ _ _ _ => k 1 false
  | .map _ => k 2 false
  | .fn _ _ _ => k 3 false
  | _ => .no 25
/-- Is it nil, of the one side; the other one is the nil. -/
noncomputable def nilOf (q : Nat) (x y : AV) (k : Bool → Ans) : Ans :=
  isNil x fun i a => isNil y fun j b => cnd (Nat.beq i q) (cnd (Nat.beq j q) (cnd a (k b) (cnd b (k false) (.no 27))) (.no 27)) (.no 27)
noncomputable def nilEq (t : TypeId) (x y : AV) (k : Bool → Ans) : Ans :=
  match P.underlying t with
  | some (.pointer _) => nilOf 0 x y k
  | some (.slice _) => nilOf 1 x y k
  | some (.map _ _) => nilOf 2 x y k
  | some (.func _ _ _) => nilOf 3 x y k
  | _ => .no 26
noncomputable def wrapK (q : IntKind) (z : Int) (k : AV → Ans) : Ans := fInt (q.wrap z) fun z => intAV q z k
noncomputable def two63 : Nat := 9223372036854775808
noncomputable def eqNat (l m : List Nat) (k : Bool → Ans) : Ans :=
  List.rec (motive := fun _ => List Nat → Ans) (fun m => List.rec (motive := fun _ => Ans) (k true) (fun _ _ _ => k false) m)
    (fun x _ ih m => List.rec (motive := fun _ => Ans) (k false) (fun y ys _ => cnd (Nat.beq x y) (ih ys) (k false)) m) l m
noncomputable def ltNat (l m : List Nat) (k : Bool → Ans) : Ans :=
  List.rec (motive := fun _ => List Nat → Ans) (fun m => List.rec (motive := fun _ => Ans) (k false) (fun _ _ _ => k true) m)
    (fun x _ ih m => List.rec (motive := fun _ => Ans) (k false) (fun y ys _ => cnd (Nat.blt x y) (k true) (cnd (Nat.beq x y) (ih ys) (k false))) m) l m
noncomputable def strK (op : BinOp) (n : Nat) (l : List Nat) (m : Nat) (r : List Nat) (k : AV → Ans) : Ans :=
  match op with
  | .add => fNat (n + m) fun s => cnd (Nat.blt s 9223372036854775808) (catN l r fun t => k (.str s t)) (.no 28)
  | .eql => eqNat l r fun b => k (.bool b)
  | .neq => eqNat l r fun b => fBool (!b) fun b => k (.bool b)
  | .lss => ltNat l r fun b => k (.bool b)
  | .gtr => ltNat r l fun b => k (.bool b)
  | .leq => ltNat r l fun b => fBool (!b) fun b => k (.bool b)
  | .geq => ltNat l r fun b => fBool (!b) fun b => k (.bool b)
  | _ => .no 29
noncomputable def genK (op : BinOp) (t : TypeId) (x y : AV) (k : AV → Ans) : Ans :=
  plainK x fun a => plainK y fun b => modelK P (do eqGuard op t (.tmp 0) (.tmp 0) a b; Go.binOp op t a b) k
/-- An operation, made ready. -/
inductive OpC where
  | c1 (f : AV → Hp → (AV → Hp → Ans) → Ans)
  | c2 (f : AV → AV → Hp → (AV → Hp → Ans) → Ans)
  | cn (f : List AV → Hp → (AV → Hp → Ans) → Ans)
  | bad (n : Nat)
/-- By what a value is: a number of 64 bits, a byte, a text, another one. -/
noncomputable def AV.cas (x : AV) (a b : Nat → Ans) (c : Nat → List Nat → Ans) (o : Ans) : Ans :=
  AV.rec (motive_1 := fun _ => (Nat → Ans) → (Nat → Ans) → (Nat → List Nat → Ans) → Ans → Ans) (motive_2 := fun _ => Unit)
    (fun n a _ _ _ => a n) (fun n _ b _ _ => b n) (fun _ _ _ _ _ o => o) (fun _ _ _ _ o => o) (fun n l _ _ c _ => c n l) (fun _ _ _ _ o => o) (fun _ _ _ _ _ o => o) (fun _ _ _ _ _ _ _ _ o => o) (fun _ _ _ _ o => o) (fun _ _ _ _ _ _ o => o) (fun _ _ _ _ _ o => o) (fun _ _ _ _ _ o => o) (fun _ _ _ _ _ _ _ _ o => o) (fun _ _ _ _ o => o) () (fun _ _ _ _ => ()) x a b c o
noncomputable def AV.memo (x : AV) (p : Nat → Nat → Ans) (s : Nat → Nat → Nat → Bool → Nat → Ans) (o : Ans) : Ans :=
  AV.rec (motive_1 := fun _ => (Nat → Nat → Ans) → (Nat → Nat → Nat → Bool → Nat → Ans) → Ans → Ans) (motive_2 := fun _ => Unit)
    (fun _ _ _ o => o) (fun _ _ _ o => o) (fun _ _ _ _ o => o) (fun _ _ _ o => o) (fun _ _ _ _ o => o) (fun _ _ _ o => o) (fun b n p _ _ => p b n) (fun b n m e c _ s _ => s b n m e c) (fun _ _ _ o => o) (fun _ _ _ _ _ o => o) (fun _ _ _ _ o => o) (fun _ _ _ _ o => o) (fun _ _ _ _ _ _ _ o => o) (fun _ _ _ o => o) () (fun _ _ _ _ => ()) x p s o
noncomputable def onBool (x : AV) (f t : Ans) (o : Ans) : Ans :=
  AV.rec (motive_1 := fun _ => Ans → Ans → Ans → Ans) (motive_2 := fun _ => Unit)
    (fun _ _ _ o => o) (fun _ _ _ o => o) (fun _ _ _ _ o => o) (fun b f t _ => Bool.rec (motive := fun _ => Ans) f t b) (fun _ _ _ _ o => o) (fun _ _ _ o => o) (fun _ _ _ _ o => o) (fun _ _ _ _ _ _ _ o => o) (fun _ _ _ o => o) (fun _ _ _ _ _ o => o) (fun _ _ _ _ o => o) (fun _ _ _ _ o => o) (fun _ _ _ _ _ _ _ o => o) (fun _ _ _ o => o) () (fun _ _ _ _ => ()) x f t o
/-- A type of pointers to something that is known. -/
def ptrB (P : Program) (t : TypeId) : Bool := match P.underlying t with
  | some (.pointer e) => (P.info? e).isSome
  | _ => false
noncomputable def eqAll (t : TypeId) (x y : AV) (k : Bool → Ans) (gen : Ans) : Ans :=
  match x, y with
  | .bool a, .bool b => cnd (knownBool P t) (fBool (a == b) k) (.no 31)
  | .int .., _ => gen
  | _, .int .. => gen
  | .raw (.complex ..), .raw (.complex ..) => gen
  | .raw (.float ..), .raw (.float ..) => gen
  | .agg _, .agg _ => gen
  | .ptr b o, .ptr b' o' => cnd (Nat.beq b b') (cnd (Nat.beq o o') (cnd (ptrB P t) (k true) (.no 186)) (.no 187)) (.no 188)
  | x, y => nilEq P t x y k
where
  knownBool (P : Program) (t : TypeId) : Bool := match P.underlying t with | some .bool => true | _ => false
abbrev AK := AV → Hp → Ans
noncomputable def gen2 (op : BinOp) (t : TypeId) (x y : AV) (h : Hp) (k : AK) : Ans := genK P op t x y fun v => k v h
noncomputable def addK (t : TypeId) (x y : AV) (h : Hp) (k : AK) : Ans :=
  x.cas (fun a => y.cas (fun b => fNat (Nat.add a b) fun s => cnd (Nat.blt s two63) (k (.nat s) h) (.no 125)) (fun _ => .no 125) (fun _ _ => .no 125) (gen2 P .add t x y h k))
    (fun _ => gen2 P .add t x y h k) (fun n l => y.cas (fun _ => .no 125) (fun _ => .no 125) (fun m r => strK .add n l m r fun v => k v h) (.no 125)) (gen2 P .add t x y h k)
noncomputable def subK (t : TypeId) (x y : AV) (h : Hp) (k : AK) : Ans :=
  x.cas (fun a => y.cas (fun b => cnd (Nat.ble b a) (fNat (Nat.sub a b) fun s => cnd (Nat.blt s two63) (k (.nat s) h) (.no 126)) (gen2 P .sub t x y h k)) (fun _ => .no 126) (fun _ _ => .no 126) (gen2 P .sub t x y h k))
    (fun _ => gen2 P .sub t x y h k) (fun _ _ => .no 126) (gen2 P .sub t x y h k)
noncomputable def mulK (t : TypeId) (x y : AV) (h : Hp) (k : AK) : Ans :=
  x.cas (fun a => y.cas (fun b => fNat (Nat.mul a b) fun s => cnd (Nat.blt s two63) (k (.nat s) h) (.no 127)) (fun _ => .no 127) (fun _ _ => .no 127) (gen2 P .mul t x y h k))
    (fun _ => gen2 P .mul t x y h k) (fun _ _ => .no 127) (gen2 P .mul t x y h k)
noncomputable def boolTo (h : Hp) (k : AK) (b : Bool) : Ans := Bool.rec (motive := fun _ => Ans) (k (.bool false) h) (k (.bool true) h) b
noncomputable def notTo (h : Hp) (k : AK) (b : Bool) : Ans := Bool.rec (motive := fun _ => Ans) (k (.bool true) h) (k (.bool false) h) b
/-- A comparison: of numbers, of texts, of others. -/
noncomputable def cmpK (num : Nat → Nat → Bool) (str : List Nat → List Nat → (Bool → Ans) → Ans) (other : (Bool → Ans) → Ans) (x y : AV) (k : Bool → Ans) : Ans :=
  x.cas (fun a => y.cas (fun b => k (num a b)) (fun _ => .no 128) (fun _ _ => .no 128) (other k)) (fun a => y.cas (fun _ => .no 128) (fun b => k (num a b)) (fun _ _ => .no 128) (other k))
    (fun _ l => y.cas (fun _ => .no 128) (fun _ => .no 128) (fun _ r => str l r k) (.no 128)) (other k)
noncomputable def genB (op : BinOp) (t : TypeId) (x y : AV) (k : Bool → Ans) : Ans := genK P op t x y fun v => match v with
  | .bool b => k b
  | _ => .no 129
noncomputable def binC (op : BinOp) (t : TypeId) : OpC :=
  match op with
  | .add => .c2 (addK P t)
  | .sub => .c2 (subK P t)
  | .mul => .c2 (mulK P t)
  | .eql => .c2 fun x y h k => cmpK Nat.beq eqNat (fun k => eqAll P t x y k (genB P .eql t x y k)) x y (boolTo h k)
  | .neq => .c2 fun x y h k => cmpK Nat.beq eqNat (fun k => eqAll P t x y k (genB P .neq t x y fun b => fBool (!b) k)) x y (notTo h k)
  | .lss => .c2 fun x y h k => cmpK Nat.blt ltNat (genB P .lss t x y) x y (boolTo h k)
  | .geq => .c2 fun x y h k => cmpK Nat.blt ltNat (fun k => genB P .geq t x y fun b => fBool (!b) k) x y (notTo h k)
  | .gtr => .c2 fun x y h k => cmpK Nat.blt ltNat (genB P .gtr t x y) y x (boolTo h k)
  | .leq => .c2 fun x y h k => cmpK Nat.blt ltNat (fun k => genB P .leq t x y fun b => fBool (!b) k) y x (notTo h k)
  | op => .c2 (gen2 P op t)
noncomputable def unK (op : UnOp) (x : AV) (k : AV → Ans) : Ans :=
  match op, x with
  | .not, .bool b => fBool (!b) fun b => k (.bool b)
  | op, x => plainK x fun v => modelK P (Op.unary op v) k
/-- A place within a block of cells: their type, how many, whether all are known. -/
noncomputable def inK (b off : Nat) (h : Hp) (k : TypeId → Nat → Bool → Ans) : Ans :=
  match h with
  | .mk t _ _ => t.getP (path b) (.no 197) fun bl =>
    match bl with
    | .cells e m _ ex _ => cnd (Nat.blt off m) (k e m ex) (.no 198)
    | _ => .no 199
noncomputable def convK (src dst : TypeId) (x : AV) (h : Hp) (k : AV → Hp → Ans) : Ans :=
  match P.underlying dst, x with
  | some (.int q), .nat n => cnd (knownB P src) (wrapK q (.ofNat n) fun v => k v h) (.no 127)
  | some (.int q), .u8 n => cnd (knownB P src) (wrapK q (.ofNat n) fun v => k v h) (.no 127)
  | some (.int q), .int _ n => cnd (knownB P src) (wrapK q n fun v => k v h) (.no 127)
  | some .string, .str n l => cnd (knownB P src) (k x h) (.no 34)
  | some (.slice e), .str n l =>
    match P.underlying e with
    | some (.int .u8) => cnd (knownB P src) (List.rec (motive := fun _ => (List AV → Ans) → Ans) (fun k => k []) (fun c _ ih k => ih fun r => k (.u8 c :: r)) l fun cs => newK e cs false 1 h fun b h => k (.slice b 0 n false 0) h) (.no 35)
    | _ => .no 36
  | some .string, .slice b off len _ _ =>
    match P.underlying src with
    | some (.slice e) =>
      match P.underlying e with
      | some (.int .u8) => getK b off len h fun cs =>
          List.rec (motive := fun _ => (List Nat → Ans) → Ans) (fun k => k []) (fun c _ ih k => match c with
            | .u8 m => cnd (Nat.blt m 256) (ih fun r => k (m :: r)) (.no 37)
            | _ => .no 38) cs fun l => k (.str len l) h
      | _ => .no 39
    | _ => .no 40
  | some .string, .raw (.slice none _ _) =>
    match P.underlying src with
    | some (.slice e) =>
      match P.underlying e with
      | some (.int .u8) => k (.str 0 []) h
      | _ => .no 41
    | _ => .no 42
  | some .unsafePointer, .ptr b off =>
    match P.underlying src with
    | some (.pointer t) => sizeK P t fun n => cnd (Nat.blt 0 n) (inK b off h fun _ _ _ => k (.ptr b off) h) (.no 192)
    | _ => .no 193
  | some (.pointer u), .ptr b off =>
    match P.underlying src with
    | some .unsafePointer => inK b off h fun e m ex => cnd ex (cnd (liesAt P P.depth e (Nat.div m (P.cellsOf e)) off u 1) (sizeK P u fun _ => k (.ptr b off) h) (.no 194)) (.no 195)
    | _ => .no 196
  | _, x => plainK x fun v => modelK P (convert src dst v) fun v => k v h
/-- A part of a value that takes up several cells. -/
noncomputable def partK (t : TypeId) (l : List AV) (off : Nat) (k : AV → Ans) : Ans :=
  cnd (knownB P t) (cnd (aggB P t) (sizeK P t fun n => dropK off l fun l => takeK n l fun l => k (.agg l)) (nthK off l (.no 43) k)) (.no 44)
noncomputable def natOf (x : AV) (k : Nat → Ans) : Ans :=
  match x with
  | .nat n => k n
  | .u8 n => k n
  | .int _ (.ofNat n) => k n
  | _ => .no 45
noncomputable def optOf (x : Option AV) (d : Nat) (k : Nat → Ans) : Ans :=
  match x with
  | none => k d
  | some x => natOf x k
noncomputable def sliceK (t : TypeId) (x : AV) (lo hi mx : Option AV) (k : AV → Ans) : Ans :=
  match P.underlying t, x with
  | some .string, .str n l => match mx with
    | some _ => .no 46
    | none => optOf lo 0 fun a => optOf hi n fun b => cnd (Nat.ble b n) (cnd (Nat.ble a b) (dropK a l fun l => fNat (b - a) fun m => takeK m l fun l => k (.str m l)) (.no 47)) (.no 48)
  | some (.slice e), .raw (.slice none 0 0) => sizeK P e fun _ => optOf lo 0 fun a => optOf hi 0 fun b => optOf mx 0 fun c => cnd (Nat.beq (a + b + c) 0) (k (.raw (.slice none 0 0))) (.no 49)
  | some (.slice e), .slice b off len true c => sizeK P e fun sz => optOf mx c fun m => optOf hi len fun q => optOf lo 0 fun a =>
      cnd (Nat.ble m c) (cnd (Nat.ble q m) (cnd (Nat.ble a q) (fNat (q - a) fun n => fNat (m - a) fun c => cnd (Nat.beq m a) (k (.slice b off n true c)) (fNat (off + a * sz) fun off => k (.slice b off n true c))) (.no 50)) (.no 51)) (.no 52)
  | some (.slice e), .slice b off len false c => sizeK P e fun sz => match mx with
    | some _ => .no 53
    | none => optOf hi len fun q => optOf lo 0 fun a =>
      cnd (Nat.ble q len) (cnd (Nat.ble a q) (cnd (Nat.beq a 0) (k (.slice b off q false c)) (cnd (Nat.blt a len) (fNat (q - a) fun n => fNat (off + a * sz) fun off => fNat (c + a) fun c => k (.slice b off n false c)) (.no 54))) (.no 55)) (.no 56)
  | some (.array n e), .ptr b off => sizeK P e fun sz => optOf mx n fun m => optOf hi n fun q => optOf lo 0 fun a =>
      cnd (Nat.ble m n) (cnd (Nat.ble q m) (cnd (Nat.ble a q) (fNat (q - a) fun l => fNat (m - a) fun c => cnd (Nat.beq m a) (k (.slice b off l true c)) (fNat (off + a * sz) fun off => k (.slice b off l true c))) (.no 57)) (.no 58)) (.no 59)
  | _, _ => .no 60
noncomputable def fieldAddrK (s : TypeId) (x : AV) (f : Nat) (k : AV → Ans) : Ans :=
  match P.underlying s, x with
  | some (.struct fs), .ptr b off => Option.rec (motive := fun _ => Ans) (.no 61) (fun (g : Field) => sizeK P g.type fun n => cnd (Nat.beq n 0) (.no 62) (fNat (off + g.offset) fun off => k (.ptr b off))) fs[f]?
  | _, _ => .no 63
noncomputable def fieldK (s : TypeId) (x : AV) (f : Nat) (k : AV → Ans) : Ans :=
  match P.underlying s, x with
  | some (.struct fs), .agg l => Option.rec (motive := fun _ => Ans) (.no 64) (fun (g : Field) => partK P g.type l g.offset k) fs[f]?
  | _, _ => .no 65
noncomputable def indexAddrK (t : TypeId) (x i : AV) (k : AV → Ans) : Ans :=
  natOf i fun i => match P.underlying t, x with
  | some (.array n e), .ptr b off => sizeK P e fun sz => cnd (Nat.blt i n) (fNat (off + i * sz) fun off => k (.ptr b off)) (.no 66)
  | some (.slice e), .slice b off len _ _ => sizeK P e fun sz => cnd (Nat.blt i len) (fNat (off + i * sz) fun off => k (.ptr b off)) (.no 67)
  | _, _ => .no 68
noncomputable def indexK (t : TypeId) (x i : AV) (k : AV → Ans) : Ans :=
  natOf i fun i => match P.underlying t, x with
  | some (.array n e), .agg l => sizeK P e fun sz => cnd (Nat.blt i n) (fNat (i * sz) fun off => partK P e l off k) (.no 69)
  | some .string, .str n l => nthK i l (.no 70) fun c => k (.u8 c)
  | _, _ => .no 71
noncomputable def loadK (t : TypeId) (x : AV) (h : Hp) (k : AV → Ans) : Ans :=
  match x with
  | .ptr b off => cnd (knownB P t) (cnd (aggB P t) (sizeK P t fun n => getK b off n h fun l => k (.agg l)) (getK b off 1 h fun l => nthK 0 l (.no 72) k)) (.no 73)
  | _ => .no 74
noncomputable def storeK (t : TypeId) (x v : AV) (h : Hp) (k : Hp → Ans) : Ans :=
  match x with
  | .ptr b off => v.cells fun l => lenK l fun n => sizeK P t fun m => cnd (Nat.beq n m) (putK b off l h k) (.no 75)
  | _ => .no 76
/-- Parts, laid into cells. -/
noncomputable def fillK (place : Nat → (Nat → Nat → Ans) → Ans) (ps : List Nat) (xs : List AV) (t : Tr AV) (k : Tr AV → Ans) : Ans :=
  List.rec (motive := fun _ => List AV → Tr AV → Ans) (fun _ t => k t)
    (fun i _ ih xs t => List.rec (motive := fun _ => Ans) (.no 77) (fun x xs _ => place i fun off n => x.cells fun l => lenK l fun m => cnd (Nat.beq n m) (writeL l off t fun t => ih xs t) (.no 78)) xs) ps xs t
def fieldsOk (P : Program) (fs : Array Field) : Bool := fs.toList.all fun f => (P.info? f.type).isSome
noncomputable def buildK (t : TypeId) (ps : List Nat) (xs : List AV) (k : AV → Ans) : Ans :=
  zeroK P t fun z => z.cells fun zl => lenK zl fun n => writeL zl 0 .leaf fun c =>
  match P.underlying t with
  | some (.struct fs) => cnd (fieldsOk P fs) (fillK (fun i r => Option.rec (motive := fun _ => Ans) (.no 79) (fun (g : Field) => sizeK P g.type fun m => cnd (Nat.ble (g.offset + m) n) (r g.offset m) (.no 80)) fs[i]?) ps xs c fun c => readN c n 0 fun l => k (.agg l)) (.no 82)
  | some (.array q e) => sizeK P e fun sz => fillK (fun i r => fNat (i * sz) fun off => cnd (Nat.ble (off + sz) n) (r off sz) (.no 81)) ps xs c fun c => readN c n 0 fun l => k (.agg l)
  | _ => .no 82
/-- So many times the zero. -/
noncomputable def repK (n : Nat) (zl : List AV) (k : List AV → Ans) : Ans :=
  Nat.rec (motive := fun _ => (List AV → Ans) → Ans) (fun k => k []) (fun _ ih k => ih fun r => catK zl r k) n k
noncomputable def zerosK (e : TypeId) (sz n : Nat) (k : List AV → Ans) : Ans :=
  Nat.rec (motive := fun _ => Ans) (k []) (fun _ _ => zeroK P e fun z => z.cells fun zl => lenK zl fun m => cnd (Nat.beq m sz) (cnd (Nat.blt 0 sz) (repK n zl k) (.no 118)) (.no 119)) n
noncomputable def buildSliceK (t : TypeId) (len : Nat) (ps : List Nat) (xs : List AV) (h : Hp) (k : AV → Hp → Ans) : Ans :=
  match P.underlying t with
  | some (.slice e) => sizeK P e fun sz => cnd (Nat.ble (len * sz) 65536) (zerosK P e sz len fun zl => lenK zl fun n => writeL zl 0 .leaf fun c =>
      fillK (fun i r => fNat (i * sz) fun off => cnd (Nat.ble (off + sz) n) (r off sz) (.no 83)) ps xs c fun c => readN c n 0 fun l => newK e l true sz h fun b h => k (.slice b 0 len true len) h) (.no 84)
  | _ => .no 85
noncomputable def makeSliceK (t : TypeId) (x y : AV) (h : Hp) (k : AV → Hp → Ans) : Ans :=
  match P.underlying t with
  | some (.slice e) => natOf x fun n => natOf y fun c => sizeK P e fun sz => cnd (Nat.ble n c) (cnd (Nat.ble c 65536) (cnd (smallB P e) (zerosK P e sz c fun l => newK e l true sz h fun b h => k (.slice b 0 n true c) h) (.no 86)) (.no 87)) (.no 88)
  | _ => .no 89
where
  smallB (P : Program) (e : TypeId) : Bool := match P.info? e with | some i => Nat.ble i.bytes 65536 | none => false
/-- What is appended. -/
noncomputable def sourceK (sz : Nat) (x : AV) (h : Hp) (k : Nat → List AV → Ans) : Ans :=
  match x with
  | .str n l => cnd (Nat.beq sz 1) (List.rec (motive := fun _ => (List AV → Ans) → Ans) (fun k => k []) (fun c _ ih k => ih fun r => k (.u8 c :: r)) l fun r => k n r) (.no 90)
  | .slice b off n _ _ => fNat (n * sz) fun m => getK b off m h fun l => k n l
  | .raw (.slice none n _) => cnd (Nat.beq n 0) (k 0 []) (.no 91)
  | _ => .no 92
noncomputable def growK (e : TypeId) (sz : Nat) (old new : List AV) (need : Nat) (h : Hp) (k : AV → Hp → Ans) : Ans :=
  catK old new fun l => cnd (Nat.ble need 65536) (cnd (makeSliceK.smallB P e) (zeroK P e fun z => z.cells fun zl => lenK zl fun q => cnd (Nat.beq q sz) (newK e l false sz h fun b h => k (.slice b 0 need false 0) h) (.no 93)) (.no 93)) (.no 94)
/-- The array goes on, in its place or in another one: the elder is not looked at any more. -/
noncomputable def movedK (b sz at_ : Nat) (new : List AV) (need : Nat) (t : Tr Blk) (nx low : Nat) (e : TypeId) (k : AV → Hp → Ans) : Ans :=
  getK b 0 at_ (.mk t nx low) fun old => natMin low b fun low => t.setP (path b) none fun t => growK P e sz old new need (.mk t nx low) k
noncomputable def srcTy (P : Program) (ts : Array TypeId) : Bool := match (ts[1]?).bind P.underlying with
  | some (.slice _) => true
  | some .string => true
  | _ => false
noncomputable def appendK (ts : Array TypeId) (s x : AV) (h : Hp) (k : AV → Hp → Ans) : Ans :=
  match (ts[0]?).bind P.underlying with
  | some (.slice e) => cnd (srcTy P ts) (sizeK P e fun sz => sourceK sz x h fun n new =>
    match s with
    | .raw (.slice none 0 0) => cnd (Nat.beq n 0) (k s h) (growK P e sz [] new n h k)
    | .slice b off len true c => fNat (len + n) fun need => cnd (Nat.ble need c) (fNat (off + len * sz) fun at_ => putK b at_ new h fun h => k (.slice b off need true c) h)
        (fNat (len * sz) fun m => getK b off m h fun old => growK P e sz old new need h k)
    | .slice b off len false c => fNat (len + n) fun need => fNat (off + len * sz) fun at_ => match h with
      | .mk t nx low => t.getP (path b) (.no 96) fun bl => match bl with
        | .cells e' m _ ex sz' => cnd (okB sz sz' off c ex) (cnd (Nat.ble (at_ + n * sz) m) (putK b at_ new (.mk t nx low) fun h => k (.slice b off need false c) h)
            (cnd (Nat.beq at_ m) (cnd (Nat.beq off 0) (cnd (Nat.beq e' e) (movedK P b sz at_ new need t nx low e k) (.no 97)) (.no 97)) (.no 97))) (.no 97)
        | _ => .no 98
    | _ => .no 99) (.no 95)
  | _ => .no 100
where
  okB (sz sz' off c : Nat) (ex : Bool) : Bool := Bool.rec (motive := fun _ => Bool) (Bool.and (Nat.beq sz' sz) (Bool.and (Nat.blt 0 sz) (Nat.beq off (Nat.mul c sz)))) false ex
noncomputable def copyK (ts : Array TypeId) (d x : AV) (h : Hp) (k : AV → Hp → Ans) : Ans :=
  match (ts[0]?).bind P.underlying with
  | some (.slice e) => sizeK P e fun sz => sourceK sz x h fun n l =>
    match d with
    | .slice b off len _ _ => natMin n len fun m => fNat (m * sz) fun q => takeK q l fun l => putK b off l h fun h => k (.nat m) h
    | .raw (.slice none 0 _) => k (.nat 0) h
    | _ => .no 103
  | _ => .no 104
noncomputable def mapEs (b : Nat) (h : Hp) (k : List (AV × AV × Nat) → Nat → Ans) : Ans :=
  match h with
  | .mk t _ _ => t.getP (path b) (.no 105) fun bl => match bl with
    | .map es c => k es c
    | _ => .no 106
noncomputable def sameKey (d : TypeDesc) (x y : AV) (k : Bool → Ans) : Ans :=
  match d, x, y with
  | .string, .str _ l, .str _ m => eqNat l m k
  | .int _, .nat a, .nat b => fBool (Nat.beq a b) k
  | .int _, .u8 a, .u8 b => fBool (Nat.beq a b) k
  | .int _, .int q a, .int q' b => cnd (decide (q = q')) (fBool (decide (a = b)) k) (.no 107)
  | _, _, _ => .no 108
noncomputable def findK (d : TypeDesc) (x : AV) (es : List (AV × AV × Nat)) (no : Ans) (k : AV → Ans) : Ans :=
  List.rec (motive := fun _ => Ans) no (fun e _ ih => sameKey d x e.1 fun b => cnd b (k e.2.1) ih) es
noncomputable def lenOfK (t : TypeId) (x : AV) (h : Hp) (k : AV → Ans) : Ans :=
  match P.underlying t, x with
  | some .string, .str n _ => k (.nat n)
  | some (.slice _), .slice _ _ n _ _ => k (.nat n)
  | some (.slice _), .raw (.slice none n _) => fNat n fun n => k (.nat n)
  | some (.array n _), _ => fNat n fun n => k (.nat n)
  | some (.map _ _), .raw (.map none) => k (.nat 0)
  | some (.map _ _), .map b => mapEs b h fun es _ => fNat es.length fun n => k (.nat n)
  | _, _ => .no 109
def keyOk (d : TypeDesc) : Bool := match d with
  | .int _ => true
  | .string => true
  | _ => false
noncomputable def lookupK (t : TypeId) (x i : AV) (ok : Bool) (h : Hp) (k : AV → Ans) : Ans :=
  match P.underlying t with
  | some (.map q e) =>
    let fin (v : AV) (b : Bool) : Ans := cnd ok (k (.tup [v, .bool b])) (k v)
    match x, P.underlying q with
    | .raw (.map none), some d => cnd (keyOk d) (zeroK P e fun z => fin z false) (.no 110)
    | .map b, some d => cnd (keyOk d) (mapEs b h fun es _ => findK d i es (zeroK P e fun z => fin z false) fun v => fin v true) (.no 110)
    | _, _ => .no 110
  | _ => .no 111
noncomputable def setEs (d : TypeDesc) (x v : AV) (es : List (AV × AV × Nat)) (no : Ans) (k : List (AV × AV × Nat) → Ans) : Ans :=
  List.rec (motive := fun _ => (List (AV × AV × Nat) → Ans) → Ans) (fun _ => no) (fun e r ih k => sameKey d x e.1 fun b => cnd b (k ((e.1, v, e.2.2) :: r)) (ih fun r => k (e :: r))) es k
noncomputable def catE (l m : List (AV × AV × Nat)) (k : List (AV × AV × Nat) → Ans) : Ans :=
  List.rec (motive := fun _ => (List (AV × AV × Nat) → Ans) → Ans) (fun k => k m) (fun x _ ih k => ih fun r => k (x :: r)) l k
noncomputable def updateK (t : TypeId) (x i v : AV) (h : Hp) (k : Hp → Ans) : Ans :=
  match P.underlying t with
  | some (.map q _) =>
    match x, P.underlying q, h with
    | .map b, some d, .mk t n low => cnd (keyOk d) (mapEs b (.mk t n low) fun es c =>
      let fin (es : List (AV × AV × Nat)) (c : Nat) : Ans := t.setP (path b) (some (.map es c)) fun t => natMin low b fun low => k (.mk t n low)
      setEs d i v es (catE es [(i, v, c)] fun es => fNat (Nat.succ c) fun c => fin es c) fun es => fin es c) (.no 112)
    | _, _, _ => .no 112
  | _ => .no 113
noncomputable def newMapK (h : Hp) (k : AV → Hp → Ans) : Ans :=
  match h with
  | .mk t n low => t.setP (path n) (some (.map [] 0)) fun t => fNat (Nat.succ n) fun n' => k (.map n) (.mk t n' low)
/-- A string of the bytes of a block, which is not looked at any more. -/
noncomputable def unsafeTy (P : Program) (ts : Array TypeId) (x : Ans) : Ans := cnd (Nat.beq ts.size 2) x (.no 204)
noncomputable def unsafeStrK (P : Program) (ts : Array TypeId) (b n : Nat) (h : Hp) (k : AV → Hp → Ans) : Ans :=
  cnd (Nat.beq ts.size 2) (match (ts[0]?).bind P.underlying with
    | some (.pointer e) => getK b 0 n h fun cs => List.rec (motive := fun _ => (List Nat → Ans) → Ans) (fun k => k []) (fun c _ ih k => match c with
            | .u8 m => cnd (Nat.blt m 256) (ih fun r => k (m :: r)) (.no 37)
            | _ => .no 38) cs fun l => cnd (Nat.blt 0 n) (cnd (Nat.blt n two63) (cnd (Nat.beq (P.cellsOf e) 1) (match h with
              | .mk t nx low => t.getP (path b) (.no 205) fun bl => match bl with
                | .cells e' _ _ _ _ => cnd (Nat.beq e' e) (natMin low b fun low => t.setP (path b) none fun t => k (.str n l) (.mk t nx low)) (.no 206)
                | _ => .no 207) (.no 208)) (.no 209)) (.no 210)
    | _ => .no 211) (.no 212)
/-- A string, byte by byte. -/
noncomputable def rangeStrK (P : Program) (t : TypeId) (x : AV) (h : Hp) (k : AV → Hp → Ans) : Ans :=
  match P.underlying t, x, h with
  | some .string, .str _ l, .mk tr nx low => tr.setP (path nx) (some (.iter l 0)) fun tr => fNat (Nat.succ nx) fun n' => k (.ptr nx 0) (.mk tr n' low)
  | some (.map _ _), .map b, .mk tr nx low => tr.getP (path b) (.no 246) fun bl => match bl with
    | .map _ c => tr.setP (path nx) (some (.miter b c)) fun tr => fNat (Nat.succ nx) fun n' => k (.ptr nx 0) (.mk tr n' low)
    | _ => .no 247
  | _, _, _ => .no 220
noncomputable def nextStrK (x : AV) (h : Hp) (k : AV → Hp → Ans) : Ans :=
  match x, h with
  | .ptr b 0, .mk t n low => t.getP (path b) (.no 221) fun bl => match bl with
    | .iter l pos => dropK pos l fun r => List.rec (motive := fun _ => Ans) (k (.tup [.bool false]) (.mk t n low))
        (fun c _ _ => cnd (Nat.blt c 128) (fNat (Nat.succ pos) fun p => natMin low b fun low' => t.setP (path b) (some (.iter l p)) fun t' => k (.tup [.bool true, .nat pos, .int .i32 c]) (.mk t' n low')) (.no 222)) r
    | _ => .no 223
  | _, _ => .no 224
noncomputable def builtinK (b : Builtin) (ts : Array TypeId) (ty : TypeId) (xs : List AV) (h : Hp) (k : AV → Hp → Ans) : Ans :=
  match b, xs with
  | .len, [x] => Option.rec (motive := fun _ => Ans) (.no 114) (fun t => lenOfK P t x h fun v => k v h) ts[0]?
  | .append, [s, x] => appendK P ts s x h k
  | .copy, [d, x] => copyK P ts d x h k
  | .cap, [.slice _ _ _ true c] => match (ts[0]?).bind P.underlying with
    | some (.slice _) => k (.nat c) h
    | _ => .no 115
  | .cap, [.raw (.slice none _ c)] => match (ts[0]?).bind P.underlying with
    | some (.slice _) => fNat c fun c => k (.nat c) h
    | _ => .no 1151
  | .unsafeSliceData, [.slice b off n ex c] => cnd (Nat.blt 0 n) (cnd (Bool.or (!ex) (Nat.blt 0 c)) (k (.ptr b off) h) (.no 200)) (.no 201)
  | .unsafeSliceData, [.raw (.slice none _ _)] => k (.raw (.pointer none)) h
  | .unsafeString, [.raw (.pointer none), .nat n] => cnd (Nat.beq n 0) (unsafeTy P ts (k (.str 0 []) h)) (.no 202)
  | .unsafeString, [.ptr b off, .nat n] => cnd (Nat.beq off 0) (unsafeStrK P ts b n h k) (.no 203)
  | .max, xs => plainsK xs fun vs => modelK P (Builtin.max_ ts ty vs.toArray) fun v => k v h
  | .min, xs => plainsK xs fun vs => modelK P (Builtin.min_ ts ty vs.toArray) fun v => k v h
  | .real, xs => plainsK xs fun vs => modelK P (Builtin.real_ ts ty vs.toArray) fun v => k v h
  | .imag, xs => plainsK xs fun vs => modelK P (Builtin.imag_ ts ty vs.toArray) fun v => k v h
  | .complex, xs => plainsK xs fun vs => modelK P (Builtin.complex_ ts ty vs.toArray) fun v => k v h
  | _, _ => .no 116
where
  plainsK (xs : List AV) (k : List Value → Ans) : Ans := Option.rec (motive := fun _ => Ans) (.no 117) k (plainL xs)
end
end Go.Ev
