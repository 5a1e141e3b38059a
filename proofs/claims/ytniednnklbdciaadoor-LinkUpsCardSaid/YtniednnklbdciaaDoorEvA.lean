/- An evaluator of closed runs: values and memory as it sees them, all in passing style, so that the kernel can run it. -/
import Derived.Calls
set_option linter.unusedVariables false
set_option linter.unusedSectionVars false
namespace Go.Ev

inductive Ans where
  | yes | no (c : Nat)
/-- A tree of values by places. -/
inductive Tr (α : Type) where
  | leaf
  | node (v : Option α) (l r : Tr α)
inductive Pa where
  | e | o (p : Pa) | z (p : Pa)
  deriving DecidableEq
noncomputable def pathF (f : Nat) : Nat → Pa :=
  Nat.rec (motive := fun _ => Nat → Pa) (fun _ => .e) (fun _ ih n => Nat.rec (motive := fun _ => Pa) .e (fun m _ => Bool.rec (motive := fun _ => Pa) (.z (ih (Nat.div m 2))) (.o (ih (Nat.div m 2))) (Nat.beq (Nat.mod m 2) 0)) n) f
noncomputable def path (n : Nat) : Pa := pathF (Nat.succ n) n
noncomputable def Tr.getP {α : Type} (p : Pa) (t : Tr α) (no : Ans) (k : α → Ans) : Ans :=
  Pa.rec (motive := fun _ => Tr α → Ans)
    (fun t => Tr.rec (motive := fun _ => Ans) no (fun v _ _ _ _ => Option.rec (motive := fun _ => Ans) no k v) t)
    (fun _ ih t => Tr.rec (motive := fun _ => Ans) no (fun _ l _ _ _ => ih l) t)
    (fun _ ih t => Tr.rec (motive := fun _ => Ans) no (fun _ _ r _ _ => ih r) t) p t
noncomputable def Tr.setP {α : Type} (p : Pa) (x : Option α) (t : Tr α) (k : Tr α → Ans) : Ans :=
  Pa.rec (motive := fun _ => Tr α → (Tr α → Ans) → Ans)
    (fun t k => Tr.rec (motive := fun _ => Ans) (k (.node x .leaf .leaf)) (fun _ l r _ _ => k (.node x l r)) t)
    (fun _ ih t k => Tr.rec (motive := fun _ => Ans) (ih .leaf (fun t => k (.node none t .leaf))) (fun v l r _ _ => ih l (fun t => k (.node v t r))) t)
    (fun _ ih t k => Tr.rec (motive := fun _ => Ans) (ih .leaf (fun t => k (.node none .leaf t))) (fun v l r _ _ => ih r (fun t => k (.node v l t))) t) p t k

/-- Numbers that stand for themselves, and what they are to a bound, where that is asked. -/
class Sg where
  val : Nat → Value
inductive AV where
  | nat (n : Nat)
  | u8 (n : Nat)
  | int (k : IntKind) (n : Int)
  | bool (b : Bool)
  | str (n : Nat) (l : List Nat)
  | raw (v : Value)
  | ptr (b off : Nat)
  | slice (b off len : Nat) (exact : Bool) (c : Nat)
  | map (b : Nat)
  | iface (t : TypeId) (v : AV)
  | agg (l : List AV)
  | tup (l : List AV)
  | fn (f : Fn) (first captured : List AV)
  | sym (i : Nat)
/-- What numbers that are not known are to a bound, where that is asked; tables that are looked at again. -/
class Sl where
  low : Nat → Nat → Option Nat
  tabs : List (Nat × List AV)
inductive Blk where
  | cells (elem : TypeId) (len : Nat) (t : Tr AV) (exact : Bool) (esz : Nat)
  | map (es : List (AV × AV × Nat)) (clock : Nat)
  | iter (l : List Nat) (pos : Nat)
  | miter (b since : Nat)
/-- Memory: blocks, the next number, the least number that was written. -/
inductive Hp where
  | mk (t : Tr Blk) (n low : Nat)

noncomputable def fNat (n : Nat) (k : Nat → Ans) : Ans := Nat.rec (motive := fun _ => Ans) (k 0) (fun m _ => k (Nat.succ m)) n
noncomputable def fInt (z : Int) (k : Int → Ans) : Ans := Int.rec (motive := fun _ => Ans) (fun n => fNat n fun m => k (.ofNat m)) (fun n => fNat n fun m => k (.negSucc m)) z
noncomputable def fBool (b : Bool) (k : Bool → Ans) : Ans := Bool.rec (motive := fun _ => Ans) (k false) (k true) b
noncomputable def fList (l : List Nat) (k : List Nat → Ans) : Ans :=
  List.rec (motive := fun _ => (List Nat → Ans) → Ans) (fun k => k []) (fun x _ ih k => fNat x fun y => ih fun ys => k (y :: ys)) l k
/-- Bytes, read and counted. -/
noncomputable def fBytes (l : List UInt8) (k : Nat → List Nat → Ans) : Ans :=
  List.rec (motive := fun _ => (Nat → List Nat → Ans) → Ans) (fun k => k 0 []) (fun x _ ih k => fNat x.toNat fun y => ih fun n ys => fNat (Nat.succ n) fun n => k n (y :: ys)) l k
noncomputable def cnd (b : Bool) (x y : Ans) : Ans := Bool.rec (motive := fun _ => Ans) y x b
noncomputable def intAV (q : IntKind) (z : Int) (k : AV → Ans) : Ans :=
  match q, z with
  | .i64, .ofNat n => fNat n fun n => k (.nat n)
  | .u8, .ofNat n => fNat n fun n => k (.u8 n)
  | q, z => fInt z fun z => k (.int q z)
/-- One cell's value. -/
noncomputable def fVal1 (v : Value) (k : AV → Ans) : Ans :=
  match v with
  | .int q n => intAV q n k
  | .bool b => fBool b fun b => k (.bool b)
  | .string s => fBytes s.data.toList fun n l => k (.str n l)
  | .complex q a b => fNat a fun a => fNat b fun b => k (.raw (.complex q a b))
  | .float q a => fNat a fun a => k (.raw (.float q a))
  | .agg _ => .no 2
  | .tuple _ => .no 2
  | v => k (.raw v)
noncomputable def fVals (l : List Value) (k : List AV → Ans) : Ans :=
  List.rec (motive := fun _ => (List AV → Ans) → Ans) (fun k => k []) (fun v _ ih k => fVal1 v fun a => ih fun as => k (a :: as)) l k
noncomputable def fVal (v : Value) (k : AV → Ans) : Ans :=
  match v with
  | .agg cs => fVals cs.toList fun l => k (.agg l)
  | .tuple cs => fVals cs.toList fun l => k (.tup l)
  | v => fVal1 v k
/-- A constant. -/
noncomputable def toAV1 (v : Value) : AV :=
  match v with
  | .int .i64 (.ofNat n) => .nat n
  | .int .u8 (.ofNat n) => .u8 n
  | .int q z => .int q z
  | .bool b => .bool b
  | .string s => .str s.data.toList.length (s.data.toList.map (·.toNat))
  | v => .raw v
noncomputable def toAV (v : Value) : AV :=
  match v with
  | .agg cs => .agg (cs.toList.map toAV1)
  | .tuple cs => .tup (cs.toList.map toAV1)
  | v => toAV1 v
/-- What runs without the world. -/
noncomputable def semPure {α : Type} (P : Program) (s : Sem α) : Option α :=
  Sem.rec (motive := fun _ => Option α) (fun a => some a) (fun _ _ _ _ => none) (fun _ _ _ _ _ => none) (fun _ _ _ => none) (fun _ _ _ => none) (fun _ _ _ _ => none) (fun _ _ _ => none) (fun _ _ _ => none) (fun _ _ _ _ => none) (fun _ _ _ => none) (fun _ _ _ => none) (fun _ ih => ih P) (fun _ _ ih => ih) (fun _ => none) s
/-- A value without memory, as the model has it. -/
def bytesOf (l : List Nat) : ByteArray := ⟨(l.map UInt8.ofNat).toArray⟩
def AV.plain1 : AV → Option Value
  | .nat n => some (.int .i64 n)
  | .u8 n => some (.int .u8 n)
  | .int k n => some (.int k n)
  | .bool b => some (.bool b)
  | .str _ l => some (.string (bytesOf l))
  | .raw v => some v
  | _ => none
def plainL : List AV → Option (List Value)
  | [] => some []
  | x :: xs => match x.plain1, plainL xs with
    | some v, some vs => some (v :: vs)
    | _, _ => none
def AV.plain : AV → Option Value
  | .agg l => (plainL l).map fun vs => .agg vs.toArray
  | x => x.plain1
/-- The cells that a value takes up. -/
noncomputable def AV.cells (x : AV) (k : List AV → Ans) : Ans :=
  match x with
  | .agg l => k l
  | .tup _ => .no 1
  | x => k [x]
end Go.Ev
