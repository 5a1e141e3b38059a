/- The evaluator's code: regions made ready, statements, calls. -/
import Derived.Test.YtbeoeghcmabemaaGreatDoorEvB
set_option linter.unusedVariables false
set_option linter.unusedSectionVars false
namespace Go.Ev

/-- Where an operand's value is. -/
inductive Rf where
  | loc (n : Nat)
  | var (p : Pa)
  | cst (v : AV)
  | bad
/-- How an operation stands to the others: in line, or free, behind those of a set. -/
inductive Cls where
  | quiet
  | bar (m : Nat)
  | free (anc : Nat)
  | rd (m : Nat)
  | mk (anc : Nat)
  | spot (anc : Nat)
abbrev AF1 := AV → Hp → AK → Ans
abbrev AF2 := AV → AV → Hp → AK → Ans
abbrev AFN := List AV → Hp → AK → Ans
/-- An operation of a region: what it does, with what, and where its value goes. -/
inductive CO where
  | mv (r : Rf) (d : Option Pa)
  | o1 (f : AF1) (r : Rf) (d : Option Pa)
  | o2 (f : AF2) (r s : Rf) (d : Option Pa)
  | on (f : AFN) (rs : List Rf) (d : Option Pa)
  | call (rs : List Rf) (d : Option Pa)
  | grd (r : Rf) (want : Bool) (o : CO) (d : Option Pa)
  | free (kd i anc : Nat) (o : CO)
  | bar (i m : Nat) (o : CO)
  | rd (i m : Nat) (o : CO)
  | bad (n : Nat)

def okConst (v : Value) : Bool :=
  match v with
  | .agg cs => cs.toList.all fun c => flat c
  | .tuple cs => cs.toList.all fun c => flat c
  | _ => true
where
  flat (v : Value) : Bool := match v with
    | .agg _ => false
    | .tuple _ => false
    | _ => true
/-- Does it neither read nor write memory? -/
def pureOp : Op → Bool
  | .move _ | .assign _ | .pick .. | .nilCheck _ | .binOp .. | .unOp .. | .makeInterface .. | .makeFunc .. | .slice .. | .fieldAddr .. | .field .. | .indexAddr .. | .index .. | .extract .. | .build .. => true
  | .call { callee := .builtin b, .. } => match b with
    | .max | .min | .real | .imag | .complex => true
    | _ => false
  | _ => false
section
variable (P : Program)
/-- Conversions, and lengths, that ask no memory. -/
def convQ (P : Program) (s d : TypeId) : Bool := match P.underlying s, P.underlying d with
  | some (.int _), some (.int _) => true
  | some .string, some .string => true
  | _, _ => false
noncomputable def convQK (src dst : TypeId) (x : AV) (k : AV → Ans) : Ans :=
  match P.underlying dst, x with
  | some (.int q), .nat n => cnd (knownB P src) (wrapK q (.ofNat n) k) (.no 127)
  | some (.int q), .u8 n => cnd (knownB P src) (wrapK q (.ofNat n) k) (.no 127)
  | some (.int q), .int _ n => cnd (knownB P src) (wrapK q n k) (.no 127)
  | some .string, .str n l => cnd (knownB P src) (k x) (.no 34)
  | _, _ => .no 190
def lenQ (P : Program) (t : TypeId) : Bool := match P.underlying t with
  | some .string => true
  | some (.slice _) => true
  | some (.array ..) => true
  | _ => false
noncomputable def lenQK (t : TypeId) (x : AV) (k : AV → Ans) : Ans :=
  match P.underlying t, x with
  | some .string, .str n _ => k (.nat n)
  | some (.slice _), .slice _ _ n _ _ => k (.nat n)
  | some (.slice _), .raw (.slice none n _) => fNat n fun n => k (.nat n)
  | some (.array n _), _ => fNat n fun n => k (.nat n)
  | _, _ => .no 191
/-- Operations that neither read nor write memory. -/
def quietOp (o : Op) : Bool :=
  match o with
  | .call { callee := .builtin .len, argTypes, .. } => match argTypes[0]? with
    | some t => lenQ P t
    | none => false
  | .convert s d _ => convQ P s d
  | o => pureOp o
def mapB (P : Program) (t : TypeId) : Bool := match P.underlying t with | some (.map _ _) => true | _ => false
noncomputable def opC (o : Op) (ty : TypeId) : OpC :=
  match o with
  | .pick .. => .cn fun xs h k => match xs with
    | [c, a, b] => onBool c (k b h) (k a h) (.no 130)
    | _ => .no 130
  | .binOp op t _ _ _ => binC P op t
  | .unOp op _ _ => .c1 fun x h k => unK P op x fun v => k v h
  | .convert s d _ => match convQ P s d with
    | true => .c1 fun x h k => convQK P s d x fun v => k v h
    | false => .c1 fun x h k => convK P s d x h k
  | .alloc e => .cn fun _ h k => zeroK P e fun z => sizeK P e fun sz => z.cells fun l => newK e l true sz h fun b h => k (.ptr b 0) h
  | .box e _ => .c1 fun x h k => sizeK P e fun sz => x.cells fun l => newK e l true sz h fun b h => k (.ptr b 0) h
  | .build t ps => .cn fun xs h k => buildK P t (ps.toList.map (·.1)) xs fun v => k v h
  | .buildSlice t n ps => .cn fun xs h k => buildSliceK P t n (ps.toList.map (·.1)) xs h k
  | .load t _ => .c1 fun x h k => loadK P t x h fun v => k v h
  | .store t _ _ => .c2 fun x v h k => storeK P t x v h fun h => k (.tup []) h
  | .nilCheck _ => .c1 fun x h k => match x with
    | .ptr .. => k x h
    | .fn (.func f) l m => k x h
    | _ => .no 131
  | .makeInterface t _ => match P.underlying t with
    | some (.interface _) => .bad 132
    | some _ => .c1 fun x h k => k (.iface t x) h
    | none => .bad 133
  | .makeFunc fn first _ => .cn fun xs h k => takeK first.size xs fun a => dropK first.size xs fun b => k (.fn fn a b) h
  | .makeMap t none => .cn fun _ h k => newMapK h k
  | .makeMap t (some _) => .c1 fun x h k => natOf x fun _ => cnd (mapB P t) (newMapK h k) (.no 134)
  | .makeSlice t _ _ => .c2 fun x y h k => makeSliceK P t x y h k
  | .slice t _ none none none => .c1 fun x h k => sliceK P t x none none none fun v => k v h
  | .slice t _ (some _) none none => .c2 fun x a h k => sliceK P t x (some a) none none fun v => k v h
  | .slice t _ none (some _) none => .c2 fun x b h k => sliceK P t x none (some b) none fun v => k v h
  | .slice t _ (some _) (some _) none => .cn fun xs h k => match xs with
      | [x, a, b] => sliceK P t x (some a) (some b) none fun v => k v h
      | _ => .no 135
  | .slice t _ none (some _) (some _) => .cn fun xs h k => match xs with
      | [x, b, c] => sliceK P t x none (some b) (some c) fun v => k v h
      | _ => .no 136
  | .slice t _ (some _) (some _) (some _) => .cn fun xs h k => match xs with
      | [x, a, b, c] => sliceK P t x (some a) (some b) (some c) fun v => k v h
      | _ => .no 136
  | .fieldAddr s _ f => .c1 fun x h k => fieldAddrK P s x f fun v => k v h
  | .field s _ f => .c1 fun x h k => fieldK P s x f fun v => k v h
  | .indexAddr t _ _ => .c2 fun x i h k => indexAddrK P t x i fun v => k v h
  | .index t _ _ => .c2 fun x i h k => indexK P t x i fun v => k v h
  | .lookup t _ _ ok => .c2 fun x i h k => lookupK P t x i ok h fun v => k v h
  | .mapUpdate t _ _ _ => .cn fun xs h k => match xs with
    | [x, i, v] => updateK P t x i v h fun h => k (.tup []) h
    | _ => .no 138
  | .insert t _ _ _ => .cn fun xs h k => match xs with
    | [x, i, v] => updateK P t x i v h fun h => k (.tup []) h
    | _ => .no 138
  | .extract _ i => .c1 fun x h k => match x with
    | .tup l => nthK i l (.no 139) fun v => k v h
    | _ => .no 140
  | .call { callee := .builtin .len, argTypes, .. } => match argTypes[0]? with
    | some t => match lenQ P t with
      | true => .c1 fun x h k => lenQK P t x fun v => k v h
      | false => .c1 fun x h k => lenOfK P t x h fun v => k v h
    | none => .bad 114
  | .call { callee := .builtin b, argTypes, .. } => .cn fun xs h k => builtinK P b argTypes ty xs h k
  | .range t _ => .c1 fun x h k => rangeStrK P t x h k
  | .next _ s => match s with
    | true => .c1 fun x h k => nextStrK x h k
    | false => .bad 1412
  | _ => .bad 141

def orMask (a : Nat) (t : Nat) : Nat := Nat.lor a (Nat.pow 2 t)
def inMask (a : Nat) (t : Nat) : Bool := Nat.beq (Nat.land (Nat.shiftRight a t) 1) 1
/-- Of each operation those ahead of it by force, as bits. -/
def befores (ops : List Oper) : List Nat :=
  (ops.foldl (fun (acc : List Nat) o => acc ++ [o.after.toList.foldl (fun s e => if Region.binds .any e then Nat.lor (orMask s e.on) (acc.getD e.on 0) else s) 0]) [])
/-- Those that are read. -/
def readsOf (ops : List Oper) (o : Oper) : List Nat :=
  (o.op.operands.toList.filterMap fun | .tmp t => some t | _ => none) ++
  (match o.guard with
   | some (g, _) => ((ops[g]?).bind (·.dst)).toList
   | none => [])
def apartB (ops : List Oper) (x y : Oper) : Bool :=
  (match x.dst with
   | some d => !(readsOf ops y).contains d && y.dst != some d
   | none => true) &&
  (match y.dst with
   | some d => !(readsOf ops x).contains d
   | none => true)
/-- May the order be left open, by the temporaries? -/
def openOk (ops : List Oper) (bf : List Nat) : Bool :=
  (ops.zipIdx.all fun (o, i) => o.after.toList.all fun e => !Region.binds .any e || Nat.blt e.on i) && (ops.zip bf).zipIdx.all fun ((y, by_), j) => (ops.take j).zipIdx.all fun (x, i) => inMask by_ i || apartB ops x y
/-- Does it read memory, and nothing else? -/
def isLd (o : Op) : Bool := match o with
  | .load .. => true
  | .lookup .. => true
  | _ => false
/-- May it write what was there? -/
def wrOp (o : Op) : Bool := match o with
  | .store .. => true
  | .mapUpdate .. => true
  | .insert .. => true
  | .next .. => true
  | .call { callee := .value _, .. } => true
  | .call { callee := .builtin b, .. } => match b with
    | .append => true
    | .copy => true
    | .unsafeString => true
    | _ => false
  | _ => false
/-- Does it read beside one that may write, in whatever order? -/
def rdB (ops : List Oper) (bf : List Nat) (j : Nat) (y : Oper) (bj : Nat) : Bool :=
  isLd y.op && y.guard.isNone && (ops.zip bf).zipIdx.any fun ((z, bz), k) => wrOp z.op && !(k == j) && !inMask bj k && !inMask bz j
/-- Does it make memory, and look at none? -/
def mkOp (o : Op) : Bool := match o with
  | .alloc _ => true
  | .box .. => true
  | .buildSlice .. => true
  | .makeSlice .. => true
  | .makeMap .. => true
  | _ => false
def isStore (o : Op) : Bool := match o with
  | .store .. => true
  | _ => false
/-- One that makes memory, and is not held against all others. -/
def mkB (ops : List Oper) (bf : List Nat) (i : Nat) (o : Oper) (bi : Nat) : Bool :=
  mkOp o.op && !((ops.zip bf).zipIdx.all fun ((y, by_), j) => quietOp P y.op || j == i || inMask by_ i || inMask bi j || rdB ops bf j y by_)
/-- One that all others are held against, but those that make memory. -/
def barB (ops : List Oper) (bf : List Nat) (i : Nat) (bi : Nat) : Bool :=
  (ops.zip bf).zipIdx.all fun ((y, by_), j) => quietOp P y.op || j == i || inMask by_ i || inMask bi j || rdB ops bf j y by_ || mkB P ops bf j y by_
def stB (o : Oper) : Bool := isStore o.op && o.guard.isNone
/-- Is each store held against all but stores, or against all? -/
def spotsB (ops : List Oper) (bf : List Nat) : Bool :=
  (ops.zip bf).zipIdx.all fun ((z, bz), k) => !stB z || barB P ops bf k bz || (ops.zip bf).zipIdx.all fun ((y, by_), j) => quietOp P y.op || j == k || inMask by_ k || inMask bz j || rdB ops bf j y by_ || mkB P ops bf j y by_ || stB y
def clsOf (ops : List Oper) (bf : List Nat) (i : Nat) (o : Oper) (bi : Nat) : Cls :=
  if quietOp P o.op then .quiet else
  if rdB ops bf i o bi then .rd bi else
  if mkB P ops bf i o bi then .mk bi else
  if barB P ops bf i bi then .bar bi else
  if stB o && spotsB P ops bf then .spot bi else .free bi
/-- Places of temporaries in a region: how many values were laid ahead of this one, or where else it is. -/
abbrev Dl := List (Nat × (Nat ⊕ Rf))
noncomputable def resolveD (D : Dl) (now : Nat) (t : Nat) : Rf :=
  List.rec (motive := fun _ => Rf) (.var (path t)) (fun e _ ih => Bool.rec (motive := fun _ => Rf) ih (Sum.rec (motive := fun _ => Rf) (fun i => .loc (Nat.sub (Nat.sub now 1) i)) (fun r => r) e.2) (Nat.beq e.1 t)) D
/-- A value that stays where it is is not laid once more. -/
noncomputable def rfOp (P : Program) (D : Dl) (now : Nat) (x : Operand) : Rf :=
  match x with
  | .tmp t => resolveD D now t
  | .const v => match okConst v with
    | true => .cst (toAV v)
    | false => .bad
  | .global g => match Nat.blt g P.globals.size with
    | true => .cst (.ptr g 0)
    | false => .bad
  | .func f => .cst (.fn (.func f) [] [])
def assigned (ops : List Oper) (t : Nat) : Bool := ops.any fun o => match o.dst with | some d => Nat.beq d t | none => false
/-- May this move be left out? Then where its value is. -/
noncomputable def aliasOf (keep : Nat) (later : List Oper) (D : Dl) (o : Oper) : Option (Nat × (Nat ⊕ Rf)) :=
  match o.dst, o.guard, o.op with
  | some d, none, .move (.tmp t) => match inMask keep d, D.find? (fun e => Nat.beq e.1 t), assigned later t with
    | false, some e, _ => some (d, e.2)
    | false, none, false => some (d, .inr (.var (path t)))
    | _, _, _ => none
  | _, _, _ => none
/-- Where its value goes, if it is looked at beyond the region. -/
noncomputable def dstP (keep : Nat) (o : Oper) : Option Pa := match o.dst with
  | some d => Bool.rec (motive := fun _ => Option Pa) none (some (path d)) (inMask keep d)
  | none => none
noncomputable def bareOf (c : OpC) (args : List Rf) (dst : Option Pa) : CO := match c, args with
  | .c1 f, [r] => .o1 f r dst
  | .c2 f, [r, s] => .o2 f r s dst
  | .cn f, rs => .on f rs dst
  | .bad n, _ => .bad n
  | _, _ => .bad 181
noncomputable def bareCO (keep : Nat) (o : Oper) (D : Dl) (now : Nat) : CO :=
  match o.op with
  | .move x => .mv (rfOp P D now x) (dstP keep o)
  | .assign x => .mv (rfOp P D now x) (dstP keep o)
  | .call { callee := .value f, args, .. } => .call (rfOp P D now f :: args.toList.map (rfOp P D now)) (dstP keep o)
  | op => bareOf (opC P op o.type) (op.operands.toList.map (rfOp P D now)) (dstP keep o)
noncomputable def clCO (cls : Cls) (i : Nat) (bare : CO) : CO := match cls with
  | .quiet => bare
  | .bar m => .bar i m bare
  | .free anc => .free 0 i anc bare
  | .mk anc => .free 1 i anc bare
  | .spot anc => .free 2 i anc bare
  | .rd m => .rd i m bare
noncomputable def mkCO (ops : List Oper) (keep : Nat) (o : Oper) (D : Dl) (now : Nat) (cls : Cls) (i : Nat) : CO :=
  match o.guard with
  | none => clCO cls i (bareCO P keep o D now)
  | some (g, want) => match (ops[g]?).bind (·.dst) with
    | some d => .grd (resolveD D now d) want (clCO cls i (bareCO P keep o D now)) (dstP keep o)
    | none => .bad 182
noncomputable def mkCOs (ops : List Oper) (keep : Nat) (draw : Bool) (bf : List Nat) : List CO :=
  go ops bf [] 0 0
where
  go : List Oper → List Nat → Dl → Nat → Nat → List CO
    | o :: rest, b :: bs, D, now, i => match aliasOf keep rest D o with
      | some e => go rest bs (e :: D) now (i + 1)
      | none => mkCO P ops keep o D now (match draw with | true => clsOf P ops bf i o b | false => .quiet) i :: go rest bs (match o.dst with | some d => (d, .inl now) :: D | none => D) (now + 1) (i + 1)
    | _, _, _, _, _ => []
/-- Do all values go to places that there are? -/
def dstOk (N : Nat) (ops : List Oper) : Bool := ops.all fun o => match o.dst with | some d => Nat.blt d N | none => true
noncomputable def compR (N : Nat) (ops : Array Oper) (keep : Nat) (draw : Bool) : Option (List CO) :=
  match dstOk N ops.toList, draw with
  | false, _ => none
  | true, false => some (mkCOs P ops.toList keep false (ops.toList.map fun _ => 0))
  | true, true => match openOk ops.toList (befores ops.toList) with
    | true => some (mkCOs P ops.toList keep true (befores ops.toList))
    | false => none
/-- What is read in another region than that in which it is laid. -/
def keepR (ops : List Oper) (acc : Nat) : Nat :=
  (ops.foldl (fun (s : Nat × Nat) o => ((o.op.operands.toList.foldl (fun a x => match x with | .tmp t => if inMask s.2 t then a else orMask a t | _ => a) s.1), match o.dst with | some d => orMask s.2 d | none => s.2)) (acc, 0)).1
def keepC : Code → Nat → Nat
  | .region _ ops _, a => keepR ops.toList a
  | .seq x y, a => keepC y (keepC x a)
  | .cond c x y, a => keepC y (keepC x (match c with | .tmp t => orMask a t | _ => a))
  | .block _ x, a => keepC x a
  | .loop x, a => keepC x a
  | .scope x, a => keepC x a
  | _, a => a
def keepF (fn : Func) : Nat :=
  match fn.body with
  | some c => (List.range (fn.params.size + fn.nfree)).foldl orMask (fn.results.toList.foldl (fun a r => match r with | .tmp t => orMask a t | .cell t _ => orMask a t) (keepC c 0))
  | none => 0
end

noncomputable def rfK (r : Rf) (L : List AV) (env : Tr AV) (k : AV → Ans) : Ans :=
  Rf.rec (motive := fun _ => Ans) (fun n => nthK n L (.no 150) k) (fun p => env.getP p (.no 151) k) (fun v => k v) (.no 152) r
noncomputable def rfsK (rs : List Rf) (L : List AV) (env : Tr AV) (k : List AV → Ans) : Ans :=
  List.rec (motive := fun _ => (List AV → Ans) → Ans) (fun k => k []) (fun r _ ih k => rfK r L env fun v => ih fun vs => k (v :: vs)) rs k
def bigN : Nat := 1000000000
/-- Does a value tell of no block from a number on? -/
def lowA1 (n : Nat) : AV → Bool
  | .nat _ => true
  | .u8 _ => true
  | .int .. => true
  | .bool _ => true
  | .str .. => true
  | .raw _ => true
  | .ptr b _ => Nat.blt b n
  | .slice b _ _ _ _ => Nat.blt b n
  | .map b => Nat.blt b n
  | .fn (.func _) [] [] => true
  | _ => false
def lowL (n : Nat) : List AV → Bool
  | [] => true
  | x :: xs => lowA1 n x && lowL n xs
def lowA (n : Nat) : AV → Bool
  | .agg l => lowL n l
  | .tup l => lowL n l
  | x => lowA1 n x
/-- Are two values one? -/
def eqNs : List Nat → List Nat → Bool
  | [], [] => true
  | x :: xs, y :: ys => Nat.beq x y && eqNs xs ys
  | _, _ => false
def eqA1 : AV → AV → Bool
  | .nat a, .nat b => Nat.beq a b
  | .u8 a, .u8 b => Nat.beq a b
  | .bool a, .bool b => a == b
  | .str n l, .str m r => Nat.beq n m && eqNs l r
  | .raw (.pointer none), .raw (.pointer none) => true
  | .raw (.map none), .raw (.map none) => true
  | .raw .nilFunc, .raw .nilFunc => true
  | .raw .nilIface, .raw .nilIface => true
  | .int k a, .int k' b => decide (k = k') && decide (a = b)
  | .fn (.func f) [] [], .fn (.func g) [] [] => Nat.beq f g
  | .raw (.slice none a b), .raw (.slice none c d) => Nat.beq a c && Nat.beq b d
  | .ptr a b, .ptr c d => Nat.beq a c && Nat.beq b d
  | .slice a b c d e, .slice a' b' c' d' e' => Nat.beq a a' && Nat.beq b b' && Nat.beq c c' && d == d' && Nat.beq e e'
  | .map a, .map b => Nat.beq a b
  | _, _ => false
def eqAL : List AV → List AV → Bool
  | [], [] => true
  | x :: xs, y :: ys => eqA1 x y && eqAL xs ys
  | _, _ => false
def eqA : AV → AV → Bool
  | .agg l, .agg m => eqAL l m
  | .tup l, .tup m => eqAL l m
  | x, y => eqA1 x y
/-- What free operations have laid. -/
abbrev Frees := List (Nat × List (Nat × Blk))
noncomputable def layK (d : List (Nat × Blk)) (t : Tr Blk) (k : Tr Blk → Ans) : Ans :=
  List.rec (motive := fun _ => Tr Blk → Ans) (fun t => k t) (fun e _ ih t => t.setP (path e.1) (some e.2) ih) d t
noncomputable def flushK (fs : Frees) (anc : Nat → Bool) (t : Tr Blk) (k : Tr Blk → Ans) : Ans :=
  List.rec (motive := fun _ => Tr Blk → (Tr Blk → Ans) → Ans) (fun t k => k t) (fun e _ ih t k => ih t fun t => cnd (anc e.1) (layK e.2 t k) (k t)) fs t k
/-- The blocks from a number on. -/
noncomputable def newsK (t : Tr Blk) (n m : Nat) (k : List (Nat × Blk) → Ans) : Ans :=
  Nat.rec (motive := fun _ => Nat → (List (Nat × Blk) → Ans) → Ans) (fun _ k => k [])
    (fun _ ih n k => fNat (Nat.succ n) fun n' => ih n' fun r => t.getP (path n) (k r) fun b => k ((n, b) :: r)) (Nat.sub m n) n k
abbrev CallF := FuncId → List AV → Hp → (AV → Hp → Ans) → Ans
noncomputable def applyK (callf : CallF) (xs : List AV) (h : Hp) (k : AV → Hp → Ans) : Ans :=
  match xs with
  | .fn (.func f) first captured :: xs => catK first xs fun a => catK a captured fun a => callf f a h k
  | _ => .no 153
noncomputable def putEnv (d : Option Pa) (v : AV) (env : Tr AV) (k : Tr AV → Ans) : Ans :=
  Option.rec (motive := fun _ => Tr AV → (Tr AV → Ans) → Ans) (fun env k => k env) (fun p env k => env.setP p (some v) k) d env k
/-- What goes on behind an operation: its value, memory, what is free. -/
abbrev OK := AV → Hp → Frees → Ans
/-- One operation. -/
noncomputable def doCO (callf : CallF) (o : CO) (L : List AV) (env : Tr AV) (h : Hp) (fs : Frees) (k : Option Pa → AV → Hp → Frees → Ans) : Ans :=
  CO.rec (motive := fun _ => CallF → List AV → Tr AV → Hp → Frees → (Option Pa → AV → Hp → Frees → Ans) → Ans)
    (fun r d _ L env h fs k => rfK r L env fun v => k d v h fs)
    (fun f r d _ L env h fs k => rfK r L env fun x => f x h fun v h => k d v h fs)
    (fun f r s d _ L env h fs k => rfK r L env fun x => rfK s L env fun y => f x y h fun v h => k d v h fs)
    (fun f rs d _ L env h fs k => rfsK rs L env fun xs => f xs h fun v h => k d v h fs)
    (fun rs d callf L env h fs k => rfsK rs L env fun xs => applyK callf xs h fun v h => k d v h fs)
    (fun r want _ d ih callf L env h fs k => rfK r L env fun v => onGuard v want (ih callf L env h fs k) (k d (.tup []) h fs))
    (fun kd i anc _ ih callf L env h fs k => freeK kd i anc h fs fun h' kk => ih callf L env h' [] fun d v h _ => kk v h fun h fs => k d v h fs)
    (fun _ _ _ ih callf L env h fs k => ih callf L env h fs fun d v h' fs => grown h h' (k d v h' fs))
    (fun _ _ _ ih callf L env h fs k => ih callf L env (bigH h) [] fun d v h' _ => sameBig h' (lowOk v h (k d v h fs)))
    (fun n _ _ _ _ _ _ => .no n) o callf L env h fs k
where
  grown (h h' : Hp) (x : Ans) : Ans := match h with | .mk _ n _ => match h' with | .mk _ n' _ => cnd (Nat.ble n n') x (.no 157)
  onGuard (v : AV) (want : Bool) (x y : Ans) : Ans := match v with
    | .bool b => cnd (b == want) x y
    | .tup _ => y
    | _ => .no 155
  bigH (h : Hp) : Hp := match h with | .mk t _ _ => .mk t bigN bigN
  sameBig (h : Hp) (x : Ans) : Ans := match h with | .mk _ n l => cnd (Nat.beq n bigN) (cnd (Nat.beq l bigN) x (.no 231)) (.no 232)
  lowOk (v : AV) (h : Hp) (x : Ans) : Ans := match h with | .mk _ n _ => cnd (Nat.ble n bigN) (cnd (lowA n v) x (.no 233)) (.no 234)
  /-- A free operation works behind those that must be ahead of it, and its blocks are laid aside. -/
  freeK (kd i anc : Nat) (h : Hp) (fs : Frees) (act : Hp → (AV → Hp → (Hp → Frees → Ans) → Ans) → Ans) : Ans := match h with
    | .mk t n low => Nat.rec (motive := fun _ => Ans) (flushK fs (fun j => inMask anc j) t fun t' => newK t' i t n low fs act) (fun kd _ => Nat.rec (motive := fun _ => Ans) (newK .leaf i t n low fs act)
        (fun _ _ => flushK fs (fun j => inMask anc j) t fun t' => spotK t' i anc t n low fs act) kd) kd
  newK (t' : Tr Blk) (i : Nat) (t : Tr Blk) (n low : Nat) (fs : Frees) (act : Hp → (AV → Hp → (Hp → Frees → Ans) → Ans) → Ans) : Ans :=
    act (.mk t' n n) fun v h' k => match h' with
      | .mk t'' n' low' => cnd (Nat.beq low' n) (cnd (Nat.ble n n') (newsK t'' n n' fun d => k (.mk t n' low) ((i, d) :: fs)) (.no 156)) (.no 154)
  /-- One block is written, and no other one is looked at. -/
  spotK (t' : Tr Blk) (i anc : Nat) (t : Tr Blk) (n low : Nat) (fs : Frees) (act : Hp → (AV → Hp → (Hp → Frees → Ans) → Ans) → Ans) : Ans :=
    act (.mk t' n n) fun _ h1 _ => match h1 with
      | .mk _ _ b => t'.getP (path b) (.no 157) fun blk => Tr.setP (path b) (some blk) .leaf fun s => act (.mk s n n) fun v h' k => match h' with
        | .mk t'' n' low' => cnd (Nat.beq n' n) (cnd (Nat.beq low' b) (t''.getP (path b) (.no 159) fun blk' => apartK fs anc b (natMin low b fun low => k (.mk t n low) ((i, [(b, blk')]) :: fs))) (.no 158)) (.no 1561)
  apartK (fs : Frees) (anc b : Nat) (x : Ans) : Ans :=
    List.rec (motive := fun _ => Ans) x (fun e _ ih => cnd (inMask anc e.1) ih (List.rec (motive := fun _ => Ans) ih (fun d _ ih2 => cnd (Nat.beq d.1 b) (.no 1541) ih2) e.2)) fs
/-- Is it free (or so beneath a guard)? -/
noncomputable def isFree (o : CO) : Bool := CO.rec (motive := fun _ => Bool) (fun _ _ => false) (fun _ _ _ => false) (fun _ _ _ _ => false) (fun _ _ _ => false) (fun _ _ => false) (fun _ _ _ _ ih => ih) (fun _ _ _ _ _ => true) (fun _ _ _ ih => ih) (fun _ _ _ _ => true) (fun _ => false) o
/-- Is it one that all others are held against? -/
noncomputable def isBar (o : CO) : Bool := CO.rec (motive := fun _ => Bool) (fun _ _ => false) (fun _ _ _ => false) (fun _ _ _ _ => false) (fun _ _ _ => false) (fun _ _ => false) (fun _ _ _ _ ih => ih) (fun _ _ _ _ _ => false) (fun _ _ _ _ => true) (fun _ _ _ _ => false) (fun _ => false) o
/-- Those ahead of it. -/
noncomputable def barM (o : CO) : Nat := CO.rec (motive := fun _ => Nat) (fun _ _ => 0) (fun _ _ _ => 0) (fun _ _ _ _ => 0) (fun _ _ _ => 0) (fun _ _ => 0) (fun _ _ _ _ ih => ih) (fun _ _ _ _ _ => 0) (fun _ m _ _ => m) (fun _ _ _ _ => 0) (fun _ => 0) o
noncomputable def barIx (o : CO) : Nat := CO.rec (motive := fun _ => Nat) (fun _ _ => 0) (fun _ _ _ => 0) (fun _ _ _ _ => 0) (fun _ _ _ => 0) (fun _ _ => 0) (fun _ _ _ _ ih => ih) (fun _ _ _ _ _ => 0) (fun i _ _ _ => i) (fun _ _ _ _ => 0) (fun _ => 0) o
noncomputable def isRd (o : CO) : Bool := CO.rec (motive := fun _ => Bool) (fun _ _ => false) (fun _ _ _ => false) (fun _ _ _ _ => false) (fun _ _ _ => false) (fun _ _ => false) (fun _ _ _ _ _ => false) (fun _ _ _ _ _ => false) (fun _ _ _ _ => false) (fun _ _ _ _ => true) (fun _ => false) o
noncomputable def rdIx (o : CO) : Nat := CO.rec (motive := fun _ => Nat) (fun _ _ => 0) (fun _ _ _ => 0) (fun _ _ _ _ => 0) (fun _ _ _ => 0) (fun _ _ => 0) (fun _ _ _ _ _ => 0) (fun _ _ _ _ _ => 0) (fun _ _ _ _ => 0) (fun i _ _ _ => i) (fun _ => 0) o
noncomputable def rdM (o : CO) : Nat := CO.rec (motive := fun _ => Nat) (fun _ _ => 0) (fun _ _ _ => 0) (fun _ _ _ _ => 0) (fun _ _ _ => 0) (fun _ _ => 0) (fun _ _ _ _ _ => 0) (fun _ _ _ _ _ => 0) (fun _ _ _ _ => 0) (fun _ m _ _ => m) (fun _ => 0) o
/-- Is it one that writes one block? -/
noncomputable def spotQ (o : CO) : Bool := CO.rec (motive := fun _ => Bool) (fun _ _ => false) (fun _ _ _ => false) (fun _ _ _ _ => false) (fun _ _ _ => false) (fun _ _ => false) (fun _ _ _ _ _ => false) (fun kd _ _ _ _ => Nat.beq kd 2) (fun _ _ _ _ => false) (fun _ _ _ _ => false) (fun _ => false) o
noncomputable def spotM (o : CO) : Nat := CO.rec (motive := fun _ => Nat) (fun _ _ => 0) (fun _ _ _ => 0) (fun _ _ _ _ => 0) (fun _ _ _ => 0) (fun _ _ => 0) (fun _ _ _ _ _ => 0) (fun _ _ m _ _ => m) (fun _ _ _ _ => 0) (fun _ _ _ _ => 0) (fun _ => 0) o
/-- Reads, each by what it must find in another memory. -/
abbrev Rds := List (Nat × (Hp → Ans → Ans))
noncomputable def allHs (m : Nat) (Hs : List (Nat × Hp)) (c : Hp → Ans → Ans) (x : Ans) : Ans := List.rec (motive := fun _ => Ans) x (fun H _ ih => c H.2 (cnd (inMask m H.1) x ih)) Hs
noncomputable def allRs (m : Nat) (Rs : Rds) (h : Hp) (k : Rds → Ans) : Ans :=
  List.rec (motive := fun _ => (Rds → Ans) → Ans) (fun k => k []) (fun e _ ih k => cnd (inMask m e.1) (ih k) (e.2 h (ih fun r => k (e :: r)))) Rs k
noncomputable def chkRd (callf : CallF) (o : CO) (L : List AV) (env : Tr AV) (v : AV) (H : Hp) (x : Ans) : Ans := doCO callf o L env H [] fun _ v' _ _ => cnd (eqA v v') x (.no 235)
noncomputable def flushAll (fs : Frees) (h : Hp) (k : Hp → Ans) : Ans :=
  List.rec (motive := fun _ => Hp → (Hp → Ans) → Ans) (fun h k => k h) (fun e fs _ h k => match h with | .mk t n low => flushK (e :: fs) (fun _ => true) t fun t => k (.mk t n low)) fs h k
/-- Those ahead of a bar are laid, the others wait. -/
noncomputable def keepFs (m : Nat) (fs : Frees) (k : Frees → Ans) : Ans :=
  List.rec (motive := fun _ => (Frees → Ans) → Ans) (fun k => k []) (fun e _ ih k => ih fun r => cnd (inMask m e.1) (k r) (k (e :: r))) fs k
noncomputable def flushBar (m : Nat) (fs : Frees) (h : Hp) (k : Hp → Frees → Ans) : Ans :=
  List.rec (motive := fun _ => Hp → (Hp → Frees → Ans) → Ans) (fun h k => k h []) (fun e fs _ h k => match h with | .mk t n low => flushK (e :: fs) (fun j => inMask m j) t fun t => keepFs m (e :: fs) fun r => k (.mk t n low) r) fs h k
/-- A block that was written by one of whom others are not told is not looked at any more. -/
noncomputable def spotH (fs : Frees) (Hs : List (Nat × Hp)) (k : Hp → List (Nat × Hp) → Ans) : Ans :=
  match fs, Hs with
  | (_, (b, _) :: _) :: _, (c, .mk t n low) :: Hs => t.setP (path b) none fun t => k (.mk t n low) ((c, .mk t n low) :: Hs)
  | _, _ => .no 1542
noncomputable def chkRs (m : Nat) (Rs : Rds) (h : Hp) (x : Ans) : Ans :=
  List.rec (motive := fun _ => Ans) x (fun e _ ih => cnd (inMask m e.1) ih (e.2 h ih)) Rs
/-- A region whose operations go on in line. -/
noncomputable def runSeq (callf : CallF) (os : List CO) (L : List AV) (env : Tr AV) (h : Hp) (k : Tr AV → Hp → Ans) : Ans :=
  List.rec (motive := fun _ => CallF → List AV → Tr AV → Hp → (Tr AV → Hp → Ans) → Ans) (fun _ _ env h k => k env h)
    (fun o _ ih callf L env h k => doCO callf o L env h [] fun d v h _ => putEnv d v env fun env => ih callf (v :: L) env h k) os callf L env h k
/-- A region with free operations. -/
noncomputable def runFree (callf : CallF) (os : List CO) (L : List AV) (env : Tr AV) (h : Hp) (fs : Frees) (Hs : List (Nat × Hp)) (Rs : Rds) (k : Tr AV → Hp → Ans) : Ans :=
  List.rec (motive := fun _ => CallF → List AV → Tr AV → Hp → Frees → List (Nat × Hp) → Rds → (Tr AV → Hp → Ans) → Ans) (fun _ _ env h fs _ _ k => flushAll fs h fun h => k env h)
    (fun o _ ih callf L env h fs Hs Rs k => cnd (isBar o) (flushBar (barM o) fs h fun h fs => doCO callf o L env h [] fun d v h _ => allRs (barM o) Rs h fun Rs => putEnv d v env fun env => ih callf (v :: L) env h fs ((barIx o, h) :: Hs) Rs k)
      (cnd (isRd o) (doCO callf o L env h fs fun d v h fs => allHs (rdM o) Hs (chkRd callf o L env v) (putEnv d v env fun env2 => ih callf (v :: L) env2 h fs Hs ((rdIx o, chkRd callf o L env v) :: Rs) k))
        (cnd (spotQ o) (doCO callf o L env h fs fun d v h fs => spotH fs Hs fun H Hs => chkRs (spotM o) Rs H (putEnv d v env fun env => ih callf (v :: L) env h fs Hs Rs k))
          (doCO callf o L env h fs fun d v h fs => putEnv d v env fun env => ih callf (v :: L) env h fs Hs Rs k)))) os callf L env h fs Hs Rs k
/-- Code, made ready. -/
inductive CC where
  | skip
  | seqR (os : List CO)
  | freeR (os : List CO)
  | seq (a b : CC)
  | cond (r : Rf) (a b : CC)
  | block (id : Nat) (a : CC)
  | loop (a : CC)
  | exit (id : Nat)
  | scope (c : Code) (a : CC)
  | goto (l : Nat)
  | ret
  | bad (n : Nat)
noncomputable def compC (P : Program) (N keep : Nat) (c : Code) : CC :=
  Code.rec (motive := fun _ => CC) .skip
    (fun _ ops draw => match compR P N ops keep draw with
      | some os => Bool.rec (motive := fun _ => CC) (.seqR os) (.freeR os) (os.any isFree)
      | none => .bad 161)
    (fun _ _ a b => .seq a b) (fun c _ _ a b => .cond (rfOp P [] 0 c) a b) (fun id _ a => .block id a) (fun _ a => .loop a) (fun _ _ _ _ _ _ => .bad 163) (fun id => .exit id)
    (fun c a => .scope c a) (fun _ => .skip) (fun l => .goto l) .ret (fun _ => .bad 164) c
inductive Ex where
  | normal | exit (id : Nat) | goto (l : Nat) | ret
abbrev Kont := Ex → Tr AV → Hp → Ans
noncomputable def onNormal (e : Ex) (x y : Ans) : Ans := Ex.rec (motive := fun _ => Ans → Ans → Ans) (fun x _ => x) (fun _ _ y => y) (fun _ _ y => y) (fun _ y => y) e x y
noncomputable def onExit (e : Ex) (id : Nat) (x y : Ans) : Ans := Ex.rec (motive := fun _ => Nat → Ans → Ans → Ans) (fun _ _ y => y) (fun i id x y => cnd (Nat.beq i id) x y) (fun _ _ _ y => y) (fun _ _ y => y) e id x y
noncomputable def onGoto (e : Ex) (x : Nat → Ans) (y : Ans) : Ans := Ex.rec (motive := fun _ => (Nat → Ans) → Ans → Ans) (fun _ y => y) (fun _ _ y => y) (fun l x _ => x l) (fun _ y => y) e x y
/-- Where a label stands, made ready. -/
noncomputable def labelC (P : Program) (N keep : Nat) (c : Code) (l : Nat) : Option CC := (findLabel c l).map (compC P N keep)
/-- What runs with what is left. -/
abbrev Ih := CC → Tr AV → Hp → Kont → Ans
noncomputable def scopeK (ih : Ih) (P : Program) (N keep : Nat) (c : Code) (k : Kont) (e : Ex) (env : Tr AV) (h : Hp) : Ans :=
  onGoto e (fun l => Option.rec (motive := fun _ => Ans) (k e env h) (fun a => ih (.scope c a) env h k) (labelC P N keep c l)) (k e env h)
noncomputable def run (P : Program) (callf : CallF) (N keep : Nat) (fuel : Nat) : Ih :=
  Nat.rec (motive := fun _ => Ih) (fun _ _ _ _ => .no 160)
   (fun _ ih c env h k => CC.rec (motive := fun _ => Ih → CallF → Tr AV → Hp → Kont → Ans)
     (fun _ _ env h k => k .normal env h)
     (fun os _ callf env h k => runSeq callf os [] env h (k .normal))
     (fun os _ callf env h k => runFree callf os [] env h [] [(0, h)] [] (k .normal))
     (fun a b _ _ ih _ env h k => ih a env h fun e env h => onNormal e (ih b env h k) (k e env h))
     (fun r a b _ _ ih _ env h k => rfK r [] env fun v => onBool v (ih b env h k) (ih a env h k) (.no 162))
     (fun id a _ ih _ env h k => ih a env h fun e env h => onExit e id (k .normal env h) (k e env h))
     (fun a _ ih _ env h k => ih a env h fun e env h => onNormal e (ih (.loop a) env h k) (k e env h))
     (fun id _ _ env h k => k (.exit id) env h)
     (fun c a _ ih _ env h k => ih a env h (scopeK ih P N keep c k))
     (fun l _ _ env h k => k (.goto l) env h)
     (fun _ _ env h k => k .ret env h)
     (fun n _ _ _ _ _ => .no n) c ih callf env h k) fuel
/-- Are all parameters kept? -/
noncomputable def argsOk (xs : List AV) (keep : Nat) : Bool := List.rec (motive := fun _ => Nat → Bool) (fun _ => true) (fun _ _ ih n => Bool.rec (motive := fun _ => Bool) false (ih (Nat.succ n)) (inMask keep n)) xs 0
noncomputable def initEnv (xs : List AV) (k : Tr AV → Ans) : Ans := writeL xs 0 .leaf k
noncomputable def resOne (r : ResultVar) (env : Tr AV) (h : Hp) (P : Program) (k : AV → Ans) : Ans :=
  match r with
  | .tmp t => env.getP (path t) (.no 165) k
  | .cell t ty => env.getP (path t) (.no 166) fun p => loadK P ty p h k
noncomputable def resK (P : Program) (rs : List ResultVar) (env : Tr AV) (h : Hp) (k : AV → Ans) : Ans :=
  match rs with
  | [r] => resOne r env h P k
  | rs => List.rec (motive := fun _ => (List AV → Ans) → Ans) (fun k => k []) (fun r _ ih k => resOne r env h P fun v => ih fun vs => k (v :: vs)) rs fun vs => k (.tup vs)
/-- Has it no place in memory? -/
noncomputable def flatB (x : AV) : Bool :=
  match x with
  | .nat _ => true
  | .u8 _ => true
  | .int .. => true
  | .bool _ => true
  | .str .. => true
  | .raw _ => true
  | .agg l => flats l
  | .tup l => flats l
  | _ => false
where
  flat1 (x : AV) : Bool :=
    match x with
    | .nat _ => true
    | .u8 _ => true
    | .int .. => true
    | .bool _ => true
    | .str .. => true
    | .raw _ => true
    | _ => false
  flats (l : List AV) : Bool := List.rec (motive := fun _ => Bool) true (fun x _ ih => Bool.rec (motive := fun _ => Bool) false ih (flat1 x)) l
/-- Where a byte stands first. -/
noncomputable def indexN (l : List Nat) (c : Nat) (k : AV → Ans) : Ans :=
  List.rec (motive := fun _ => Nat → Ans) (fun _ => k (.int .i64 (-1))) (fun x _ ih i => cnd (Nat.beq x c) (k (.nat i)) (fNat (Nat.succ i) ih)) l 0
noncomputable def countN (l : List Nat) (c : Nat) (k : Nat → Ans) : Ans :=
  List.rec (motive := fun _ => Nat → Ans) (fun n => k n) (fun x _ ih n => cnd (Nat.beq x c) (fNat (Nat.succ n) ih) (ih n)) l 0
/-- The parts of a function that makes a tree: up to a range over a map of nodes, which appends each to a slice; the slice sorted; what follows. -/
structure NewParts where
  r0 : Code
  a1 : Code
  r3 : Code
  l1 : Code
  r12 : Code
  rest : Code
  i13 : Nat
  i14 : Nat
  i15 : Nat
  i16 : Nat
  i17 : Nat
  b2 : Nat
  b3 : Nat
  ops13 : Array Oper
  ops14 : Array Oper
  ops15 : Array Oper
  ops16 : Array Oper
  ops17 : Array Oper
def NewParts.loopC (p : NewParts) : Code := .seq (.region p.i14 p.ops14 false) (.seq (.cond (.tmp 62) .skip (.exit p.b2)) (.block p.b3 (.seq (.region p.i15 p.ops15 false) (.region p.i16 p.ops16 true))))
def NewParts.code (p : NewParts) : Code :=
  .seq p.r0 (.seq p.a1 (.seq p.r3 (.seq p.l1 (.seq p.r12 (.seq (.seq (.region p.i13 p.ops13 false) (.block p.b2 (.loop p.loopC))) (.seq (.region p.i17 p.ops17 false) p.rest))))))
def seqOf : Code → Option (Code × Code)
  | .seq a b => some (a, b)
  | _ => none
def regOf (draw : Bool) : Code → Option (Nat × Array Oper)
  | .region i ops d => cond (d == draw) (some (i, ops)) none
  | _ => none
def blkOf : Code → Option (Nat × Code)
  | .block i c => some (i, c)
  | _ => none
def loopOf : Code → Option Code
  | .loop c => some c
  | _ => none
def exitOf (b : Nat) : Code → Option Unit
  | .cond (.tmp t) .skip (.exit i) => cond (Nat.beq t 62 && Nat.beq i b) (some ()) none
  | _ => none
def partsOf (c : Code) : Option NewParts := do
  let (r0, c) ← seqOf c
  let (a1, c) ← seqOf c
  let (r3, c) ← seqOf c
  let (l1, c) ← seqOf c
  let (r12, c) ← seqOf c
  let (x, c) ← seqOf c
  let (y, rest) ← seqOf c
  let (i17, ops17) ← regOf false y
  let (z, x) ← seqOf x
  let (i13, ops13) ← regOf false z
  let (b2, x) ← blkOf x
  let x ← loopOf x
  let (z, x) ← seqOf x
  let (i14, ops14) ← regOf false z
  let (z, x) ← seqOf x
  let _ ← exitOf b2 z
  let (b3, x) ← blkOf x
  let (z, x) ← seqOf x
  let (i15, ops15) ← regOf false z
  let (i16, ops16) ← regOf true x
  pure ⟨r0, a1, r3, l1, r12, rest, i13, i14, i15, i16, i17, b2, b3, ops13, ops14, ops15, ops16, ops17⟩
/-- A node: its path's bytes, and its cells. -/
structure NT where
  p : List Nat
  a : AV
  b : AV
  c : AV
noncomputable def ntOf : AV → Option NT
  | .agg [.str n l, b, c] => cond (flatB.flat1 b && flatB.flat1 c) (some ⟨l, .str n l, b, c⟩) none
  | _ => none
noncomputable def ntL : List (AV × AV × Nat) → Option (List NT)
  | [] => some []
  | e :: es => match e.1, ntOf e.2.1, ntL es with
    | .str _ _, some x, some xs => some (x :: xs)
    | _, _, _ => none
def bornsB (clock : Nat) : List (AV × AV × Nat) → Bool
  | [] => true
  | e :: es => Nat.blt e.2.2 clock && es.all (fun x => !(Nat.beq e.2.2 x.2.2)) && bornsB clock es
def ltN : List Nat → List Nat → Bool
  | [], [] => false
  | [], _ :: _ => true
  | _ :: _, [] => false
  | x :: xs, y :: ys => Nat.blt x y || (Nat.beq x y && ltN xs ys)
def insT (x : NT) : List NT → List NT
  | [] => [x]
  | y :: l => cond (ltN x.p y.p) (x :: y :: l) (y :: insT x l)
def srtT : List NT → List NT
  | [] => []
  | x :: l => insT x (srtT l)
def riseB : List NT → Bool
  | [] => true
  | x :: l => l.all (fun y => ltN x.p y.p) && riseB l
def NT.cells (x : NT) : List AV := [x.a, x.b, x.c]
def cellsT : List NT → List AV
  | [] => []
  | x :: l => x.cells ++ cellsT l
def itS : Nat := 999999
noncomputable def noCall : CallF := fun _ _ _ _ => .no 255
noncomputable def envSK (bt : Nat) (k : Tr AV → Ans) : Ans := Tr.setP (path 4) (some (.ptr bt 0)) .leaf fun t => t.setP (path 60) (some (.sym itS)) k
/-- Is this there yet? -/
noncomputable def stillK (bt : Nat) (env : Tr AV) (x : Ans) : Ans :=
  env.getP (path 4) (.no 251) fun y => cnd (eqA1 y (.ptr bt 0)) (env.getP (path 60) (.no 253) fun z => match z with
    | .sym s => cnd (Nat.beq s itS) x (.no 254)
    | _ => .no 248) (.no 252)
/-- What is looked at further: the tree, and its slice. -/
noncomputable def pickK (n2 bt : Nat) (h : Hp) (k : Hp → Ans) : Ans := match h with
  | .mk t n low => t.getP (path bt) (.no 310) fun bl => match bl with
    | .cells ty m c ex sz => c.getP (path 2) (.no 311) fun s => match s with
      | .slice bg _ _ _ _ => cnd (Nat.ble n2 bg && Nat.ble bt low) (t.getP (path bg) (.no 312) fun blg => Tr.setP (path bt) (some (.cells ty m c ex sz)) .leaf fun u => u.setP (path bg) (some blg) fun u => k (.mk u n low)) (.no 313)
      | _ => .no 314
    | _ => .no 315
noncomputable def roundK (P : Program) (N keep fuel : Nat) (p : NewParts) (bt n2 i : Nat) (env : Tr AV) (h : Hp) (k : Hp → Ans) : Ans :=
  runSeq noCall (mkCOs.go P p.ops15.toList keep false (p.ops15.toList.map fun _ => 0) p.ops15.toList.tail (p.ops15.toList.tail.map fun _ => 0) [(63, .inl 0)] 1 1) [.tup [.sym (4 * i), .agg [.sym (4 * i + 1), .sym (4 * i + 2), .sym (4 * i + 3)]]] env h fun env1 h1 =>
    run P noCall N keep fuel (compC P N keep (.region p.i16 p.ops16 true)) env1 h1 fun e env2 h2 => onNormal e (stillK bt env2 (pickK n2 bt h2 k)) (.no 250)
noncomputable def loopK (P : Program) (N keep fuel : Nat) (p : NewParts) (bt n2 : Nat) (m : Nat) : Nat → Hp → (Hp → Ans) → Ans :=
  Nat.rec (motive := fun _ => Nat → Hp → (Hp → Ans) → Ans) (fun _ h k => k h) (fun _ ih i h k => envSK bt fun env => roundK P N keep fuel p bt n2 i env h fun h' => fNat (Nat.succ i) fun i' => ih i' h' k) m
/-- Are the cells those that stand for themselves, one behind the other? -/
noncomputable def symsK (c : Tr AV) (x : Ans) (m : Nat) : Nat → Ans :=
  Nat.rec (motive := fun _ => Nat → Ans) (fun _ => x) (fun _ ih j => c.getP (path (3 * j)) (.no 257) fun a => c.getP (path (3 * j + 1)) (.no 257) fun b => c.getP (path (3 * j + 2)) (.no 257) fun d => match a, b, d with
    | .sym a, .sym b, .sym d => cnd (Nat.beq a (4 * j + 1) && Nat.beq b (4 * j + 2) && Nat.beq d (4 * j + 3)) (fNat (Nat.succ j) ih) (.no 258)
    | _, _, _ => .no 259) m
def sortFs (p : NewParts) : Option (Nat × Nat) := match p.ops17.toList.getLast? with
  | some ⟨_, .call ⟨.value (.func fs), args, _⟩, _, _, _, _⟩ => match args.toList with
    | [.tmp t, .func fc] => cond (Nat.beq t 78) (some (fs, fc)) none
    | _ => none
  | _ => none
/-- Cells, one behind the other, that tell of nothing from a number on (but the third). -/
noncomputable def cellsK (n : Nat) (c : Tr AV) (m : Nat) : Nat → (List AV → Ans) → Ans :=
  Nat.rec (motive := fun _ => Nat → (List AV → Ans) → Ans) (fun _ k => k []) (fun _ ih j k => c.getP (path j) (.no 267) fun a => cnd (Nat.beq j 2 || lowA1 n a) (fNat (Nat.succ j) fun j' => ih j' fun r => k (a :: r)) (.no 268)) m
/-- Cells, one behind the other, that tell of nothing from a number on. -/
noncomputable def lowK (n : Nat) (c : Tr AV) (x : Ans) (m : Nat) : Nat → Ans :=
  Nat.rec (motive := fun _ => Nat → Ans) (fun _ => x) (fun _ ih j => c.getP (path j) (.no 318) fun a => cnd (lowA1 n a) (fNat (Nat.succ j) ih) (.no 319)) m
/-- What a loop over nodes leaves: the tree's cells, the slice's block, its type, the next number. -/
structure Res where
  ty : Nat
  sz : Nat
  l : List AV
  bg : Nat
  e3 : Nat
  n4 : Nat
def sameR (x y : Res) : Bool := Nat.beq x.ty y.ty && Nat.beq x.sz y.sz && eqAL x.l y.l && Nat.beq x.bg y.bg && Nat.beq x.e3 y.e3 && Nat.beq x.n4 y.n4
noncomputable def resK2 (n2 bt cnt : Nat) (h : Hp) (k : Res → Ans) : Ans := match h with
  | .mk t4 n4 low4 => t4.getP (path bt) (.no 277) fun bl => match bl with
    | .cells ty m c ex sz => cnd (ex && Nat.ble bt low4) (cellsK n2 c m 0 fun l => c.getP (path 2) (.no 278) fun s => match s with
      | .slice bg 0 len false 0 => t4.getP (path bg) (.no 279) fun blg => match blg with
        | .cells e3 m3 c3 ex3 sz3 => cnd (!ex3 && Nat.beq sz3 3 && Nat.beq len cnt && Nat.beq m3 (3 * cnt) && Nat.ble n2 bg && Nat.blt bg n4) (symsK c3 (k ⟨ty, sz, l, bg, e3, n4⟩) cnt 0) (.no 280)
        | _ => .no 281
      | _ => .no 282) (.no 283)
    | _ => .no 284
noncomputable def loopPart (P : Program) (N keep fuel : Nat) (p : NewParts) (bt n2 cnt : Nat) (h : Hp) (k : Res → Ans) : Ans := loopK P N keep fuel p bt n2 cnt 0 h fun h3 => resK2 n2 bt cnt h3 k
noncomputable def pre17 (P : Program) (keep : Nat) (p : NewParts) (bt : Nat) (x : Res) (cnt : Nat) (k : Ans) : Ans :=
  writeL x.l 0 .leaf fun c => Tr.setP (path bt) (some (.cells x.ty x.l.length c true x.sz)) .leaf fun t => envSK bt fun env =>
    runSeq noCall (mkCOs.go P p.ops17.toList (Nat.lor keep (Nat.pow 2 78)) false (p.ops17.toList.map fun _ => 0) p.ops17.toList.dropLast (p.ops17.toList.dropLast.map fun _ => 0) [] 0 0) [] env (.mk t x.n4 x.n4) fun env h =>
      match h with
      | .mk _ n low => cnd (Nat.beq n x.n4 && Nat.beq low x.n4) (env.getP (path 78) (.no 300) fun s => cnd (eqA1 s (.slice x.bg 0 cnt false 0)) (env.getP (path 4) (.no 301) fun y => cnd (eqA1 y (.ptr bt 0)) k (.no 302)) (.no 303)) (.no 304)
noncomputable def midK (P : Program) (N keep fuel : Nat) (p : NewParts) (env : Tr AV) (h : Hp) (k : Tr AV → Hp → Ans) : Ans :=
  run P noCall N keep fuel (compC P N keep (.region p.i13 p.ops13 false)) env h fun e env h2 => onNormal e
    (env.getP (path 60) (.no 270) fun y => match y, h2 with
      | .ptr ni 0, .mk t2 n2 low2 => t2.getP (path ni) (.no 271) fun bl => match bl with
        | .miter bm since => t2.getP (path bm) (.no 272) fun bl => match bl with
          | .map es clock => cnd (Nat.beq since clock && bornsB clock es) (env.getP (path 4) (.no 273) fun y => match y with
            | .ptr bt 0 => t2.getP (path bt) (.no 274) fun bl => match bl with
              | .cells ty m c ex sz => cnd (ex && Nat.blt bm bt && Nat.blt bt ni && Nat.ble P.globals.size bt && inMask keep 4 && inMask keep 60 && !inMask keep 63) (fNat (Nat.succ bt) fun bt1 => lowK bt1 c (
                  Option.rec (motive := fun _ => Ans) (.no 275) (fun nts => lenK (es.map (·.1)) fun cnt =>
                    cnd (riseB (srtT nts) && Nat.blt cnt 100000) (Tr.setP (path bt) (some (.cells ty m c ex sz)) .leaf fun ts =>
                      loopPart P N keep fuel p bt n2 cnt (.mk ts n2 n2) fun x => loopPart P N keep fuel p bt n2 cnt (.mk ts n2 n2) fun y => cnd (sameR x y) (pre17 P keep p bt x cnt (
                        writeL x.l 0 .leaf fun c1 => writeL (cellsT (srtT nts)) 0 .leaf fun c2 =>
                          t2.setP (path ni) none fun t => t.setP (path bt) (some (.cells x.ty x.l.length c1 true x.sz)) fun t => t.setP (path x.bg) (some (.cells x.e3 (3 * cnt) c2 false 3)) fun t => natMin low2 bt fun low =>
                            Tr.setP (path 4) (some (.ptr bt 0)) .leaf fun env5 => k env5 (.mk t x.n4 low))) (.no 305)) (.no 286)) (ntL es)) m 0) (.no 287)
              | _ => .no 288
            | _ => .no 289) (.no 290)
          | _ => .no 291
        | _ => .no 292
      | _, _ => .no 293) (.no 294)
/-- Codes, one behind the other. -/
noncomputable def chainK (P : Program) (callf : CallF) (N keep fuel : Nat) (cs : List Code) (env : Tr AV) (h : Hp) (k : Kont) : Ans :=
  List.rec (motive := fun _ => Tr AV → Hp → Kont → Ans) (fun env h k => k .normal env h) (fun c _ ih env h k => run P callf N keep fuel (compC P N keep c) env h fun e env h => onNormal e (ih env h k) (k e env h)) cs env h k
noncomputable def treeK (P : Program) (fuel : Nat) (ih : CallF) (f : FuncId) (xs : List AV) (h : Hp) (k : AV → Hp → Ans) : Ans :=
  Option.rec (motive := fun _ => Ans) (.no 297) (fun (fn : Func) => Option.rec (motive := fun _ => Ans) (.no 298) (fun (p : NewParts) =>
    match h with
    | .mk t n low => 
      let fin : Kont := fun e env h' => match e, h' with
        | .exit _, _ => .no 172
        | .goto _, _ => .no 173
        | _, .mk t' n' low' => resK P fn.results.toList env h' fun v => natMin low low' fun low'' => k v (.mk t' n' low'')
      cnd (argsOk xs (keepF fn)) (initEnv xs fun env => chainK P ih fn.ntmps (keepF fn) fuel [p.r0, p.a1, p.r3, p.l1, p.r12] env (.mk t n n) fun e env h1 =>
        onNormal e (midK P fn.ntmps (keepF fn) fuel p env h1 fun env h2 => run P ih fn.ntmps (keepF fn) fuel (compC P fn.ntmps (keepF fn) p.rest) env h2 fin) (fin e env h1)) (.no 174)) (fn.body.bind partsOf)) P.funcs[f]?
/-- Tables that lie as they lay. -/
noncomputable def tabK (l : List AV) (c : Tr AV) (x : Ans) : Ans :=
  List.rec (motive := fun _ => Nat → Ans) (fun _ => x) (fun v _ ih i => c.getP (path i) (.no 240) fun u => cnd (eqA1 u v) (cnd (flatB v) (fNat (Nat.succ i) ih) (.no 239)) (.no 241)) l 0
noncomputable def tabsK (ts : List (Nat × List AV)) (h : Hp) (x : Ans) : Ans :=
  match h with
  | .mk t _ _ => List.rec (motive := fun _ => Ans) x (fun e _ ih => t.getP (path e.1) (.no 242) fun bl => match bl with
    | .cells _ m c ex _ => cnd ex (lenK e.2 fun n => cnd (Nat.beq m n) (tabK e.2 c ih) (.no 243)) (.no 244)
    | _ => .no 245) ts
/-- The bytes' type of one that makes a row of them. -/
noncomputable def mnzE (P : Program) (f : FuncId) : Option Nat := ((P.funcs[f]?).bind fun fn => fn.resultTypes[0]?).bind fun t => match P.underlying t with
  | some (.slice e) => some e
  | _ => none
/-- What has no Go text, by a number. -/
noncomputable def extK [Sl] (P : Program) (fuel : Nat) (ih : CallF) (f : FuncId) (c : Nat) (xs : List AV) (h : Hp) (k : AV → Hp → Ans) : Ans :=
  match c, xs with
  | 1, [.str _ l, .u8 c] => cnd (Nat.blt c 256) (indexN l c fun v => k v h) (.no 168)
  | 2, [.str _ l, .u8 c] => cnd (Nat.blt c 256) (countN l c fun n => k (.nat n) h) (.no 168)
  | 3, [.sym i, .nat m] => match Sl.low i m with
    | some j => k (.nat j) h
    | none => .no 169
  | 4, [x] => k x h
  | 5, [.ptr b o] => getK b o 1 h fun l => nthK 0 l (.no 213) fun v => match v with
    | .nat n => k (.nat n) h
    | _ => .no 214
  | 6, [.ptr b o, .nat d] => getK b o 1 h fun l => nthK 0 l (.no 215) fun v => match v with
    | .nat n => fNat (Nat.add n d) fun m => cnd (Nat.blt m two63) (putK b o [.nat m] h fun h => k (.nat m) h) (.no 216)
    | _ => .no 217
  | 7, [] => tabsK Sl.tabs h (k (.bool true) h)
  | 8, xs => treeK P fuel ih f xs h k
  | 9, [.nat n] => match mnzE P f, h with
    | some e, .mk t nx low => cnd (Nat.ble n 281474976710656) (t.setP (path nx) (some (.cells e 0 .leaf false 1)) fun t => fNat (Nat.succ nx) fun n' => k (.slice nx 0 n false 0) (.mk t n' low)) (.no 2991)
    | _, _ => .no 2990
  | _, _ => .no 167
noncomputable def callK [Sl] (P : Program) (X : Nat → Nat) (fuel : Nat) (depth : Nat) : CallF :=
  Nat.rec (motive := fun _ => CallF) (fun _ _ _ _ => .no 170)
    (fun _ ih f xs h k => Nat.rec (motive := fun _ => Ans) (Option.rec (motive := fun _ => Ans) (.no 171) (fun (fn : Func) => Option.rec (motive := fun _ => Ans) (.no (1000 + f)) (fun c =>
      match h with
      | .mk t n low => cnd (argsOk xs (keepF fn)) (initEnv xs fun env => run P ih fn.ntmps (keepF fn) fuel (compC P fn.ntmps (keepF fn) c) env (.mk t n n) fun e env h' =>
        match e, h' with
        | .exit _, _ => .no 172
        | .goto _, _ => .no 173
        | _, .mk t' n' low' => resK P fn.results.toList env h' fun v =>
          natMin low low' fun low'' => cnd (Nat.beq low' n) (cnd (flatB v) (k v h) (k v (.mk t' n' low''))) (k v (.mk t' n' low''))) (.no 174)) fn.body) P.funcs[f]?) (fun c _ => extK P fuel ih f (Nat.succ c) xs h k) (X f)) depth
end Go.Ev
