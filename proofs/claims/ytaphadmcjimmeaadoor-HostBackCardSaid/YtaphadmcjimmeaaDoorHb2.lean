import Derived.Orders
import Derived.Test.YtaphadmcjimmeaaDoorHb1
set_option linter.unusedVariables false
set_option linter.unusedSectionVars false
namespace Go.Vc
structure CallR where
  pre : Prop
  r : PV
abbrev Tbl := FuncId → List PV → Option CallR
inductive Ex where
  | normal | exit (id : Nat) | goto (l : Nat) | ret
abbrev Kont := Ex → VS → Prop
structure Lp where
  α : Type
  at_ : VS → α → VS
  get : VS → α
  inv : VS → α → Prop
  mu : VS → α → Nat
  dead : List Nat
abbrev Loops := Nat → Option Lp
def maxRow : Int := 16777216
def nameOf (d : Option Tmp) : Option Nat := d.map (· + 32)
def markOf (n : Nat) : Nat := 64 * n
def putLH (n : Nat) (x : PV) (lh : List (Nat × PV)) : List (Nat × PV) := match getN n lh with
  | some _ => setN n x lh
  | none => (n, x) :: lh
section
variable (P : Program)
def boxS (n : Nat) (x : PV) (f : PV → PV) (lh : List (Nat × PV)) : OpS := .ok (.ptr n 0) (some f) (putLH n x (turnB f lh))
def loseF (n lo hi : Nat) : PV → PV
  | .row nl r u => .row nl r (bif Nat.ble lo u && Nat.blt u hi then 0 else u)
  | .vec nl sz l u => .vec nl sz l (bif Nat.ble lo u && Nat.blt u hi then 0 else u)
  | .ep r u i => .ep r (bif Nat.ble lo u && Nat.blt u hi then 0 else u) i
  | .epv sz l u i off => .epv sz l (bif Nat.ble lo u && Nat.blt u hi then 0 else u) i off
  | x => x.lose1 n
def allocS (e : TypeId) (d : Option Tmp) (lh : List (Nat × PV)) : OpS := match nameOf d with
  | some n => match zeroOk P e (zeroV P 5 e (markOf n)) with
    | true => boxS n (zeroV P 5 e (markOf n)) (loseF n (markOf n) (markOf (n + 1))) lh
    | false => .bad 39
  | none => .bad 40
def boxR (e : TypeId) (x : PV) (d : Option Tmp) (lh : List (Nat × PV)) : OpS := match nameOf d with
  | some n => match hasT P e && x.fit, Nat.beq (typed P e 0 x).wid (sizeT P e) with
    | true, true => boxS n (typed P e 0 (x.mapL (PV.lose1 n))) (PV.lose1 n) lh
    | _, _ => .bad 39
  | none => .bad 41
def okU (x : PV) : Prop := match x with
  | .int .u8 z => inU8 z
  | _ => True
def storeS (t : TypeId) (a x : PV) (lh : List (Nat × PV)) : OpS := match a with
  | .ptr n off => match getN n lh with
    | some c => match Nat.beq (typed P t 0 x).wid (sizeT P t) && x.fit && hasT P t && c.fit, PV.setAt (typed P t 0 x) c off with
      | true, some c' => .ok (.tup []) none (setN n c' lh)
      | _, _ => .bad 42
    | none => .bad 45
  | .pix n off z => match getN n lh with
    | some c => match c.arrAt off with
      | some (m, r) => match cellT P t, r.set z x with
        | true, some r' => match c.putArr r' off with
          | some c' => .need (within z m ∧ r.okAt x) (.tup []) none (setN n c' lh)
          | none => .bad 43
        | _, _ => .bad 38
      | none => .bad 39
    | none => .bad 45
  | .ep r u z => match u, cellT P t, r.set z x with
    | u + 1, true, some _ => .need (okU x) (.tup []) (some (laidV (u + 1) z x)) (turnB (laidV (u + 1) z x) lh)
    | _, _, _ => .bad 47
  | _ => .bad 37
def srcRow (x : PV) : Option BRow := match x with
  | .str l => some (.bytes l)
  | .row _ r _ => some r
  | _ => none
def srcTy (tx : TypeId) : Bool := match P.underlying tx with
  | some (.slice _) => true
  | some .string => true
  | _ => false
def bytesT (e : TypeId) : Nat := match P.info? e with | some i => i.bytes | none => 0
def elemOk (e : TypeId) (sz : Nat) : Bool := hasT P e && Nat.beq (sizeT P e) sz && zeroOk P e (zeroV P 5 e 0) && Nat.ble (bytesT P e) 65536
def goOn (nl : Bool) (t : Nat) (d : Option Tmp) : Option (Nat × Bool) := match t with
  | t + 1 => some (t + 1, false)
  | 0 => match nl with
    | true => (nameOf d).map fun n => (n, true)
    | false => none
def goF (new : Bool) (t : Nat) : PV → PV := PV.mark1 (match new with | true => stillF t | false => killF t)
def appendS (t tx : TypeId) (x y : PV) (d : Option Tmp) (lh : List (Nat × PV)) : OpS :=
  match P.underlying t, srcTy P tx, x, y with
  | some (.slice e), true, .vec nl sz l tk, .vec _ sz2 q _ => match elemOk P e sz && Nat.beq sz sz2, goOn nl tk d with
    | true, some (t', new) => .need (lenZ (l ++ q) ≤ maxRow) (.vec (bif q.isEmpty then nl else false) sz (l ++ q) t') (some (goF new t')) (turnB (goF new t') lh)
    | _, _ => .bad 45
  | some (.slice e), true, .row nl r tk, .asl n 0 lo len => match getN n lh with
    | some (.arr _ q) => match elemOk P e 1, r.app (cutB (some .undef) (some .undef) q lo (lo + len)), goOn nl tk d with
      | true, some r', some (t', new) => .need (lo + len ≤ q.len ∧ r'.len ≤ maxRow) (.row (bif (cutB (some .undef) (some .undef) q lo (lo + len)).none? then nl else false) r' t') (some (goF new t')) (turnB (goF new t') lh)
      | _, _, _ => .bad 44
    | _ => .bad 43
  | some (.slice e), true, .row nl r tk, y => match srcRow y with
    | some q => match elemOk P e 1, r.app q, goOn nl tk d with
      | true, some r', some (t', new) => .need (r'.len ≤ maxRow) (.row (bif q.none? then nl else false) r' t') (some (goF new t')) (turnB (goF new t') lh)
      | _, _, _ => .bad 44
    | none => .bad 43
  | _, _, _, _ => .bad 46
def makeSliceS (t : TypeId) (n c : PV) (d : Option Tmp) (lh : List (Nat × PV)) : OpS :=
  match P.underlying t, n, c, nameOf d with
  | some (.slice e), .int _ a, .int _ b, some tk => match elemOk P e (sizeT P e) with
    | true =>
      let fin (v : PV) : OpS := .need (0 ≤ a ∧ a ≤ b ∧ b ≤ maxRow) v (some (PV.mark1 (stillF tk))) (turnB (PV.mark1 (stillF tk)) lh)
      match rowT P e with
      | some (.bytes _) => fin (.row false (.bytes (List.replicate a.toNat 0)) tk)
      | some (.strs _) => fin (.row false (.strs (List.replicate a.toNat [])) tk)
      | some (.ints k _) => fin (.row false (.ints k (List.replicate a.toNat 0)) tk)
      | none => fin (.vec false (sizeT P e) (List.replicate a.toNat (zeroV P 5 e 0)) tk)
    | false => .bad 47
  | _, _, _, _ => .bad 48
def memN (n : Nat) (l : List Nat) : Bool := l.any (Nat.beq n)
def addNew (ns : List Nat) : List Nat → List Nat
  | [] => ns
  | m :: ms => addNew (bif ns.any (Nat.beq m) then ns else ns ++ [m]) ms
def callF (us : List Nat) (u : Nat) : Option Nat := some (bif memN u us then 0 else u)
def posN (n : Nat) : List Nat → Nat
  | [] => 0
  | m :: l => bif Nat.beq m n then 0 else Nat.succ (posN n l)
def inT (ms : List Nat) (t : Nat) : Option Nat := bif Nat.beq t 0 then some 0 else bif memN t ms then some (Nat.succ (posN t ms)) else none
def inN (ns : List Nat) (n : Nat) : Option Nat := bif memN n ns then some (posN n ns) else none
def outT (n0 t : Nat) : Option Nat := bif Nat.beq t 0 then some 0 else bif Nat.blt t 64 then some (64 * n0 + t) else none
def outN (ns : List Nat) (i : Nat) : Option Nat := ns[i]?
def lendF (ms : List Nat) (n0 t : Nat) : Option Nat := bif Nat.beq t 0 then some 0 else bif memN t ms || (Nat.ble (64 * n0) t && Nat.blt t (64 * n0 + 64)) then none else some t
def PV.both1 (fn ft : Nat → Option Nat) : PV → PV
  | .row nl r t => match ft t with | some u => .row nl r u | none => .undef
  | .vec nl sz l t => match ft t with | some u => .vec nl sz l u | none => .undef
  | .ep r t i => match ft t with | some u => .ep r u i | none => .undef
  | .epv sz l t i off => match ft t with | some u => .epv sz l u i off | none => .undef
  | .ptr n off => match fn n with | some m => .ptr m off | none => .undef
  | .pix n off i => match fn n with | some m => .pix m off i | none => .undef
  | .asl n off i k => match fn n with | some m => .asl m off i k | none => .undef
  | x => x
def boxesOf (lh : List (Nat × PV)) : List Nat → Option (List PV)
  | [] => some []
  | n :: ns => match getN n lh, boxesOf lh ns with
    | some c, some cs => some (c :: cs)
    | _, _ => none
def setAll : List Nat → List PV → List (Nat × PV) → List (Nat × PV)
  | n :: ns, c :: cs, lh => setN n c (setAll ns cs lh)
  | _, _, lh => lh
def reach (lh : List (Nat × PV)) : Nat → List Nat → List Nat
  | 0, ns => ns
  | k + 1, ns => reach lh k (addNew ns (ns.flatMap fun n => match getN n lh with | some c => PV.allL PV.nam1 c | none => []))
def nodupB : List Nat → Bool
  | [] => true
  | n :: ns => !memN n ns && nodupB ns
def lendC (X : Tbl) (f : FuncId) (us ns : List Nat) (xs : List PV) (lh : List (Nat × PV)) : OpS :=
  match boxesOf lh ns, ns with
  | some cs, n0 :: _ => match X f (PV.mapLs (PV.both1 (inN ns) (inT (addNew [] (PV.allLs PV.tok1 cs)))) xs ++ PV.mapLs (PV.both1 (inN ns) (inT (addNew [] (PV.allLs PV.tok1 cs)))) cs) with
    | none => .bad 50
    | some c => match c.r with
      | .tup (r :: outs) => match Nat.beq outs.length ns.length && nodupB ns && Nat.blt (addNew [] (PV.allLs PV.tok1 cs)).length 60, PV.allL PV.tok1 r, PV.allL PV.nam1 r, PV.allLs PV.nam1 (PV.mapLs (PV.both1 (inN ns) (inT (addNew [] (PV.allLs PV.tok1 cs)))) xs ++ PV.mapLs (PV.both1 (inN ns) (inT (addNew [] (PV.allLs PV.tok1 cs)))) cs) with
        | true, [], [], _ :: _ => .need c.pre r (some fun y => (y.mark1 (callF us)).mark1 (lendF (addNew [] (PV.allLs PV.tok1 cs)) n0)) (setAll ns (PV.mapLs (PV.both1 (outN ns) (outT n0)) outs) (turnB (PV.mark1 (lendF (addNew [] (PV.allLs PV.tok1 cs)) n0)) lh))
        | _, _, _, _ => .bad 53
      | _ => .bad 54
  | _, _ => .bad 51
def lendS (X : Tbl) (f : FuncId) (xs : List PV) (lh : List (Nat × PV)) : OpS :=
  lendC X f (addNew [] (PV.allLs PV.tok1 xs)) (reach (turnB (PV.mark1 (callF (addNew [] (PV.allLs PV.tok1 xs)))) lh) 3 (addNew [] (PV.allLs PV.nam1 xs))) (PV.mapLs (PV.mark1 (callF (addNew [] (PV.allLs PV.tok1 xs)))) xs) (turnB (PV.mark1 (callF (addNew [] (PV.allLs PV.tok1 xs)))) lh)
def newK : Nat := 64000193
def newT (t : Nat) : Option Nat := bif Nat.beq t 0 then some 0 else bif Nat.beq t 1 then some newK else none
def noN (_ : Nat) : Option Nat := none
def outH (ms : List Nat) (t : Nat) : Option Nat := match t with
  | 0 => some 0
  | t + 1 => ms[t]?
def handF (ms : List Nat) (t : Nat) : Option Nat := bif memN t ms then none else some t
def handC (X : Tbl) (f : FuncId) (xs : List PV) (lh : List (Nat × PV)) : Option OpS := match PV.allLs PV.tok1 xs with
  | [] => none
  | m0 :: mr => match X f (PV.mapLs (PV.both1 noN (inT (addNew [] (m0 :: mr)))) xs) with
    | none => none
    | some c => match PV.allLs PV.tok1 (PV.mapLs (PV.both1 noN (inT (addNew [] (m0 :: mr)))) xs), Nat.blt (addNew [] (m0 :: mr)).length 60 && !memN 0 (addNew [] (m0 :: mr)), PV.allL PV.nam1 c.r with
      | _ :: _, true, [] => some (.need c.pre (c.r.mapL (PV.both1 noN (outH (addNew [] (m0 :: mr))))) (some (PV.mark1 (handF (addNew [] (m0 :: mr))))) (turnB (PV.mark1 (handF (addNew [] (m0 :: mr)))) lh))
      | _, _, _ => none
def callS0 (X : Tbl) (f : FuncId) (xs : List PV) (lh : List (Nat × PV)) : OpS := match PV.allLs PV.nam1 xs with
  | [] => match X f (PV.mapLs (PV.mark1 bareF) xs) with
    | none => .bad 50
    | some c => match addNew [] (PV.allLs PV.tok1 xs), PV.allL PV.tok1 c.r, PV.allL PV.nam1 c.r with
      | [], [], [] => .vneed c.pre c.r
      | us, [], [] => .need c.pre c.r (some (PV.mark1 (callF us))) (turnB (PV.mark1 (callF us)) lh)
      | us, [1], [] => .need c.pre (c.r.mapL (PV.both1 noN newT)) (some fun y => (y.mark1 (callF us)).mark1 (stillF newK)) (turnB (PV.mark1 (stillF newK)) (turnB (PV.mark1 (callF us)) lh))
      | _, _, _ => .bad 52
  | _ => lendS X f xs lh
def callS (X : Tbl) (f : FuncId) (xs : List PV) (lh : List (Nat × PV)) : OpS := match PV.allLs PV.nam1 xs, handC X f xs lh with
  | [], some o => o
  | _, _ => callS0 X f xs lh
def nilConst (x : Operand) : Bool := match x with
  | .const (.slice none 0 0) => true
  | _ => false
def typeds : List TypeId → List PV → List PV
  | t :: ts, x :: xs => typed P t 0 x :: typeds ts xs
  | [], xs => xs
  | _, [] => []
def convS0 (s d : TypeId) (x : PV) (t : Option Tmp) (lh : List (Nat × PV)) : OpS := match convR P s d x, nameOf t with
  | .need p (.row false (.bytes l) 0), some n => .need p (.row false (.bytes l) n) (some (PV.mark1 (stillF n))) (turnB (PV.mark1 (stillF n)) lh)
  | r, _ => r.at
def convS (s d : TypeId) (x : PV) (t : Option Tmp) (lh : List (Nat × PV)) : OpS := match Nat.beq s d with
  | false => convS0 P s d x t lh
  | true => match x, P.underlying s with
    | .row false (.bytes l) (m + 1), some (.slice e) => match rowT P e with
      | some (.bytes _) => .ok (.row false (.bytes l) 0) (some fun y => (y.mark1 (killF (m + 1))).mark1 (stillF (m + 1))) (turnB (PV.mark1 (stillF (m + 1))) (turnB (PV.mark1 (killF (m + 1))) lh))
      | _ => .bad 12
    | x, _ => convS0 P s d x t lh
def ownK : Nat := 99999999
def buildSliceS (X : Tbl) (t : TypeId) (n : Nat) (ps : List Nat) (xs : List PV) (d : Option Tmp) (lh : List (Nat × PV)) : OpS := match X ownK [] with
  | none => (buildSliceR P t n ps xs).at
  | some _ => match buildSliceR P t n ps xs, nameOf d with
    | .ok (.row false (.strs l) 0), some m => .ok (.row false (.strs l) m) (some (PV.mark1 (stillF m))) (turnB (PV.mark1 (stillF m)) lh)
    | .need p (.row false (.bytes l) 0), some m => .need p (.row false (.bytes l) m) (some (PV.mark1 (stillF m))) (turnB (PV.mark1 (stillF m)) lh)
    | r, _ => r.at
def evOp0 (X : Tbl) (T : Tabs) (o : Oper) (xs : List PV) (lh : List (Nat × PV)) : OpS :=
  match o.op with
  | .move x => .val (typed P o.type 0 (xs.getD 0 .undef))
  | .assign x => match nilConst x, P.underlying o.type, nameOf o.dst with
    | true, some (.slice e), some n => .ok (emptyRow P true e n) (some (PV.mark1 (stillF n))) (turnB (PV.mark1 (stillF n)) lh)
    | _, _, _ => .val (xs.getD 0 .undef)
  | .pick .. => match xs with
    | [.bool b, x, y] => .val (pickV b x y)
    | _ => .bad 60
  | .alloc e => allocS P e o.dst lh
  | .box e _ => boxR P e (xs.getD 0 .undef) o.dst lh
  | .build t ps => (buildR P t (ps.toList.map (·.1)) xs).at
  | .buildSlice t n ps => match PV.allLs PV.tok1 xs, PV.allLs PV.nam1 xs with
    | [], [] => match o.guard with
      | none => buildSliceS P X t n (ps.toList.map (·.1)) xs o.dst lh
      | some _ => (buildSliceR P t n (ps.toList.map (·.1)) xs).at
    | _, _ => .bad 69
  | .load t _ => (loadR P T lh t (xs.getD 0 .undef)).at
  | .store t _ _ => storeS P t (xs.getD 0 .undef) (xs.getD 1 .undef) lh
  | .nilCheck _ => match xs with
    | [.ptr n off] => .val (.ptr n off)
    | [.fn (.func f) a b] => .val (.fn (.func f) a b)
    | _ => .bad 61
  | .binOp op t _ _ _ => (binR P op t (xs.getD 0 .undef) (xs.getD 1 .undef)).at
  | .unOp op _ _ => (unR op (xs.getD 0 .undef)).at
  | .convert a b _ => match o.guard with
    | none => convS P a b (xs.getD 0 .undef) o.dst lh
    | some _ => (convR P a b (xs.getD 0 .undef)).at
  | .makeSlice t _ _ => makeSliceS P t (xs.getD 0 .undef) (xs.getD 1 .undef) o.dst lh
  | .slice t _ none none none => (sliceR P t (xs.getD 0 .undef) none none).at
  | .slice t _ (some _) none none => (sliceR P t (xs.getD 0 .undef) (some (xs.getD 1 .undef)) none).at
  | .slice t _ none (some _) none => (sliceR P t (xs.getD 0 .undef) none (some (xs.getD 1 .undef))).at
  | .slice t _ (some _) (some _) none => (sliceR P t (xs.getD 0 .undef) (some (xs.getD 1 .undef)) (some (xs.getD 2 .undef))).at
  | .fieldAddr t _ f => (fieldAddrR P t (xs.getD 0 .undef) f).at
  | .field t _ f => (fieldR P t (xs.getD 0 .undef) f).at
  | .indexAddr t _ _ => (indexAddrR P t (xs.getD 0 .undef) (xs.getD 1 .undef)).at
  | .index t _ _ => (indexR P t (xs.getD 0 .undef) (xs.getD 1 .undef)).at
  | .extract _ i => match xs with
    | [.tup l] => (okV (l.getD i .undef)).at
    | _ => .bad 62
  | .call { callee := .builtin b, argTypes, .. } => match b, argTypes[0]? with
    | .len, some t => match xs with
      | [x] => (lenR P t (typed P t 0 x)).at
      | _ => .bad 63
    | .append, some t => match argTypes[1]? with
      | some tx => match xs with
        | [x, y] => appendS P t tx (typed P t 0 x) (typed P tx 0 y) o.dst lh
        | _ => .bad 64
      | none => .bad 68
    | .min, some _ => match xs with
      | [.int .i64 a, .int .i64 b] => .val (.int .i64 (min a b))
      | _ => .bad 61
    | .max, some _ => match xs with
      | [.int .i64 a, .int .i64 b] => .val (.int .i64 (max a b))
      | _ => .bad 62
    | _, _ => .bad 65
  | .call { callee := .value _, args, argTypes } => match xs with
    | .fn (.func f) a b :: ys => callS X f (a ++ typeds P argTypes.toList ys ++ b) lh
    | _ => .bad 66
  | _ => .bad 67
def orMask (a : Nat) (t : Nat) : Nat := Nat.lor a (Nat.pow 2 t)
def inMask (a : Nat) (t : Nat) : Bool := Nat.beq (Nat.land (Nat.shiftRight a t) 1) 1
def befores (ops : List Oper) : List Nat :=
  (ops.foldl (fun (acc : List Nat) o => acc ++ [o.after.toList.foldl (fun s e => if Region.binds .any e then Nat.lor (orMask s e.on) (acc.getD e.on 0) else s) 0]) [])
def readsOf (ops : List Oper) (o : Oper) : List Nat :=
  (o.op.operands.toList.filterMap fun | .tmp t => some t | _ => none) ++
  (match o.guard with
   | some (g, _) => ((ops[g]?).bind (·.dst)).toList
   | none => [])
def apartB (ops : List Oper) (x y : Oper) : Bool :=
  (match x.dst with
   | some d => !(readsOf ops y).contains d && y.dst != some d
   | none => true) &&
  (match y.dst with
   | some d => !(readsOf ops x).contains d
   | none => true)
def openOk (ops : List Oper) (bf : List Nat) : Bool :=
  (ops.zipIdx.all fun (o, i) => o.after.toList.all fun e => !Region.binds .any e || Nat.blt e.on i) && (ops.zip bf).zipIdx.all fun ((y, by_), j) => (ops.take j).zipIdx.all fun (x, i) => inMask by_ i || apartB ops x y
def calm (g : Option (Nat × Bool)) (s : OpS) : OpS := match s with
  | .bad n => match g with
    | some _ => .vneed False .undef
    | none => .bad n
  | s => s
def evOp (X : Tbl) (T : Tabs) (o : Oper) (xs : List PV) (lh : List (Nat × PV)) : OpS := calm o.guard (evOp0 P X T o xs lh)
def evOpD (X : Tbl) (T : Tabs) (o : Oper) (xs : List PV) (lh : List (Nat × PV)) : OpS :=
  match o.op with
  | .convert a b _ => (convR P a b (xs.getD 0 .undef)).at
  | _ => evOp P X T o xs lh
def lookL (t : Nat) : List (Nat × Option (Nat × Bool) × PV) → Option (Option (Nat × Bool) × PV)
  | [] => none
  | e :: l => bif Nat.beq e.1 t then some e.2 else lookL t l
def guardIn (ops : List Oper) : Nat → Option (Nat × Bool) → Option (Nat × Bool) → Bool
  | 0, _, _ => false
  | k + 1, g, h => match h with
    | none => true
    | some (j, b) => match g with
      | none => false
      | some (i, a) => (Nat.beq i j && (a == b)) || guardIn ops k ((ops[i]?).bind (·.guard)) (some (j, b))
def operandV (ops : List Oper) (g : Option (Nat × Bool)) (s : VS) (x : Operand) : PV := match x with
  | .tmp t => match lookL t s.loc with
    | some (h, v) => match guardIn ops 9 g h with
      | true => v
      | false => .undef
    | none => (getN t s.env).getD .undef
  | .const v => ofValue v
  | .global g => .gp g 0
  | .func f => .fn (.func f) [] []
def underG (ops : List Oper) (s : VS) : Nat → Option (Nat × Bool) → Prop → Prop
  | 0, _, _ => False
  | k + 1, g, p => match g with
    | none => p
    | some (j, w) => match ops[j]? with
      | none => False
      | some o => match o.dst.bind fun t => lookL t s.loc with
        | some (_, .bool b) => underG ops s k o.guard (match w with | true => b = true → p | false => b = false → p)
        | _ => False
def pickGuard (ops : List Oper) (s : VS) (c : Operand) : Option Nat := match c with
  | .tmp t => match lookL t s.loc with
    | some _ => ops.findIdx? fun o => match o.dst with | some d => Nat.beq d t | none => false
    | none => none
  | _ => none
def operandsV (ops : List Oper) (o : Oper) (s : VS) : List PV := match o.op with
  | .pick c a b => match pickGuard ops s c with
    | some j => [operandV ops o.guard s c, operandV ops (some (j, true)) s a, operandV ops (some (j, false)) s b]
    | none => o.op.operands.toList.map (operandV ops o.guard s)
  | op => op.operands.toList.map (operandV ops o.guard s)
def pushL (o : Oper) (v : PV) (s : VS) : VS := match o.dst with
  | some d => { s with loc := (d, o.guard, v) :: s.loc }
  | none => s
def forceL (f : PV → (PV → Prop) → Prop) : List PV → (List PV → Prop) → Prop
  | [], k => k []
  | x :: l, k => f x fun y => forceL f l fun l => k (y :: l)
def forceB (r : BRow) (k : BRow → Prop) : Prop := match r with
  | .bytes l => k (.bytes l)
  | .strs l => k (.strs l)
  | .ints i l => k (.ints i l)
def forceV : Nat → PV → (PV → Prop) → Prop
  | 0, x, k => k x
  | n + 1, x, k => match x with
    | .undef => k .undef
    | .int i z => k (.int i z)
    | .bool b => k (.bool b)
    | .str l => k (.str l)
    | .raw v => k (.raw v)
    | .arr m r => forceB r fun r => k (.arr m r)
    | .agg l => forceL (forceV n) l fun l => k (.agg l)
    | .tup l => forceL (forceV n) l fun l => k (.tup l)
    | .row nl r t => forceB r fun r => k (.row nl r t)
    | .vec nl sz l t => k (.vec nl sz l t)
    | .ep r t i => k (.ep r t i)
    | .epv sz l t i off => k (.epv sz l t i off)
    | .ptr m off => k (.ptr m off)
    | .pix m off i => k (.pix m off i)
    | .asl m off a b => k (.asl m off a b)
    | .gp g off => k (.gp g off)
    | .gix g off i => k (.gix g off i)
    | .fn f a b => k (.fn f a b)
def forceE : List (Nat × PV) → (List (Nat × PV) → Prop) → Prop
  | [], k => k []
  | e :: l, k => forceV 4 e.2 fun x => forceE l fun l => k ((e.1, x) :: l)
def litG (t : Nat) (want : Bool) (s : VS) (A B : VS → Prop) : Prop := match lookL t s.loc with
  | some (q, .bool b) => (b = want → A { s with loc := (t, q, .bool want) :: s.loc }) ∧ (b = !want → B { s with loc := (t, q, .bool (!want)) :: s.loc })
  | _ => False
def splitG (ops : List Oper) : Nat → VS → Nat × Bool → (VS → Prop) → (VS → Prop) → Prop
  | 0, _, _, _, _ => False
  | n + 1, s, g, A, B => match ops[g.1]? with
    | some o => match o.dst with
      | some t => match o.guard with
        | none => litG t g.2 s A B
        | some g' => splitG ops n s g' (fun s => litG t g.2 s A B) fun s => B { s with loc := (t, some g', .bool (!g.2)) :: s.loc }
      | none => False
    | none => False
def evOps (X : Tbl) (T : Tabs) (ops : List Oper) : List Oper → VS → (VS → Prop) → Prop
  | [], s, k => k s
  | o :: os, s, k => match evOp P X T o (operandsV ops o s) s.lh, o.guard with
    | .val v, _ => forceV 4 v fun v => evOps X T ops os (pushL o v s) k
    | .vneed p v, none => p ∧ forceV 4 v fun v => evOps X T ops os (pushL o v s) k
    | .vneed p v, some g => underG ops s 9 (some g) p ∧ forceV 4 v fun v => evOps X T ops os (pushL o v s) k
    | .ok v f lh, none => forceV 4 v fun v => evOps X T ops os (pushL o v (s.turn f lh)) k
    | .need p v f lh, none => p ∧ forceV 4 v fun v => evOps X T ops os (pushL o v (s.turn f lh)) k
    | .ok v f lh, some g => splitG ops 4 s g (fun s => forceV 4 v fun v => evOps X T ops os (pushL o v (s.turn f lh)) k) (fun s => evOps X T ops os (pushL o .undef s) k)
    | .need p v f lh, some g => splitG ops 4 s g (fun s => p ∧ forceV 4 v fun v => evOps X T ops os (pushL o v (s.turn f lh)) k) (fun s => evOps X T ops os (pushL o .undef s) k)
    | _, _ => False
def barB (ops : List Oper) (bf : List Nat) (i : Nat) : Bool := (List.range ops.length).all fun j => Nat.beq j i || (bif Nat.blt j i then inMask (bf.getD i 0) j else inMask (bf.getD j 0) i)
def evD (X : Tbl) (T : Tabs) (ops : List Oper) (bf : List Nat) : List Oper → Nat → VS → (VS → Prop) → Prop
  | [], _, s, k => k s
  | o :: os, i, s, k => match barB ops bf i with
    | true => match evOp P X T o (operandsV ops o s) s.lh, o.guard with
      | .val v, _ => forceV 4 v fun v => evD X T ops bf os (i + 1) (pushL o v s) k
      | .vneed p v, none => p ∧ forceV 4 v fun v => evD X T ops bf os (i + 1) (pushL o v s) k
      | .vneed p v, some g => underG ops s 9 (some g) p ∧ forceV 4 v fun v => evD X T ops bf os (i + 1) (pushL o v s) k
      | .ok v f lh, none => forceV 4 v fun v => evD X T ops bf os (i + 1) (pushL o v (s.turn f lh)) k
      | .need p v f lh, none => p ∧ forceV 4 v fun v => evD X T ops bf os (i + 1) (pushL o v (s.turn f lh)) k
      | _, _ => False
    | false => match evOpD P X T o (operandsV ops o s) s.lh, o.guard with
      | .val v, _ => forceV 4 v fun v => evD X T ops bf os (i + 1) (pushL o v s) k
      | .vneed p v, none => p ∧ forceV 4 v fun v => evD X T ops bf os (i + 1) (pushL o v s) k
      | .vneed p v, some g => underG ops s 9 (some g) p ∧ forceV 4 v fun v => evD X T ops bf os (i + 1) (pushL o v s) k
      | _, _ => False
def quietE : Op → Bool
  | .move _ | .nilCheck _ | .binOp .. | .unOp .. | .slice .. | .fieldAddr .. | .field .. | .indexAddr .. | .index .. | .extract .. | .build .. => true
  | .assign x => !nilConst x
  | .call { callee := .builtin .len, .. } => true
  | _ => false
inductive Pl where
  | box (n off len : Nat)
  | mark (t : Nat)
  | still
def looseB (ops : List Oper) (bf : List Nat) : Bool := ops.zipIdx.any fun (o, i) => (match o.op with | .store .. => true | _ => false) && !barB ops bf i
def rdyL (ops : List Oper) (S : List Bool) : List Nat := (List.range ops.length).filter fun i => !(S.getD i true) && (match ops[i]? with | some o => o.after.toList.all (fun e => !Region.binds .any e || S.getD e.on false) | none => false)
def guardless (ops : List Oper) : Bool := ops.all fun o => (match o.guard with | none => true | some _ => false) && (match o.op with | .pick .. => false | .select .. => false | _ => true)
def eagerB (ops : List Oper) (S : List Bool) (i : Nat) : Bool := match ops[i]? with
  | some o => quietE o.op && (List.range ops.length).all fun j => Nat.beq j i || (S.getD j true || (match ops[j]? with | some q => q.after.toList.any (fun e => Region.binds .any e && Nat.beq e.on i) || Oper.apart ops.toArray o q | none => true))
  | none => false
def stepA (X : Tbl) (T : Tabs) (ops : List Oper) (i : Nat) (s : VS) (K : VS → Prop) : Prop := match ops[i]? with
  | none => False
  | some o => match evOp P X T o (operandsV ops o s) s.lh with
    | .val v => forceV 4 v fun v => K (pushL o v s)
    | .vneed p v => p ∧ forceV 4 v fun v => K (pushL o v s)
    | .ok v f lh => forceV 4 v fun v => K (pushL o v (s.turn f lh))
    | .need p v f lh => p ∧ forceV 4 v fun v => K (pushL o v (s.turn f lh))
    | _ => False
def allA : List Nat → (Nat → Prop) → Prop
  | [], _ => True
  | i :: is, F => match is with
    | [] => F i
    | _ => F i ∧ allA is F
def evA (X : Tbl) (T : Tabs) (ops : List Oper) : Nat → List Bool → VS → (VS → Prop) → Prop
  | 0, _, _, _ => False
  | n + 1, S, s, k => match rdyL ops S with
    | [] => k s
    | r => match r.find? (eagerB ops S) with
      | some i => stepA P X T ops i s fun s => evA X T ops n (S.set i true) s k
      | none => allA r fun i => stepA P X T ops i s fun s => evA X T ops n (S.set i true) s k
def bareB (x : PV) : Bool := List.isEmpty (PV.allL PV.tok1 x)
def noBox (ops : List Oper) : Bool := ops.all fun o => match o.op with
  | .alloc .. => false
  | .box .. => false
  | _ => true
def eagK (X : Tbl) (o : Op) (xs : List PV) : Bool := match o with
  | .move _ | .nilCheck _ | .binOp .. | .unOp .. | .fieldAddr .. | .field .. | .indexAddr .. | .index .. | .extract .. | .build .. | .convert .. => true
  | .load .. => match xs.getD 0 .undef with
    | .ep .. => true
    | .epv .. => true
    | _ => false
  | .buildSlice .. => match X ownK [] with
    | none => true
    | some _ => false
  | .call { callee := .value _, argTypes, .. } => match xs with
    | .fn (.func _) a b :: ys => List.isEmpty (PV.allLs PV.tok1 (a ++ typeds P argTypes.toList ys ++ b)) && List.isEmpty (PV.allLs PV.nam1 (a ++ typeds P argTypes.toList ys ++ b))
    | _ => false
  | _ => false
def eagB (X : Tbl) (T : Tabs) (ops : List Oper) (S : List Bool) (s : VS) (i : Nat) : Bool := match ops[i]? with
  | some o => ((List.range ops.length).all fun j => Nat.beq j i || (S.getD j true || (match ops[j]? with | some q => q.after.toList.any (fun e => Region.binds .any e && Nat.beq e.on i) || Oper.apart ops.toArray o q | none => true))) &&
      o.op.operands.toList.all (fun x => bareB (operandV ops o.guard s x)) && eagK P X o.op (operandsV ops o s) &&
      (match evOp P X T o (operandsV ops o s) [] with
       | .val v => bareB v
       | .vneed _ v => bareB v
       | _ => false)
  | none => false
def evB (X : Tbl) (T : Tabs) (ops : List Oper) : Nat → List Bool → VS → (VS → Prop) → Prop
  | 0, _, _, _ => False
  | n + 1, S, s, k => match rdyL ops S with
    | [] => k s
    | r => match r.find? (eagB P X T ops S s) with
      | some i => stepA P X T ops i s fun s => evB X T ops n (S.set i true) s k
      | none => allA r fun i => stepA P X T ops i s fun s => evB X T ops n (S.set i true) s k
def callTs (ops : List Oper) : List Nat := ops.flatMap fun o => match o.op with
  | .call { callee := .value _, args, .. } => args.toList.filterMap fun | .tmp t => some t | _ => none
  | _ => []
def callSrc (ops : List Oper) : List Nat := let ts := callTs ops
  ts ++ ops.filterMap fun o => match o.op, o.dst with
    | .move (.tmp s), some d => bif ts.any (Nat.beq d) then some s else none
    | _, _ => none
def turnOp (o : Op) : Bool := match o with
  | .call { callee := .builtin .append, .. } => true
  | .alloc .. => true
  | .makeSlice .. => true
  | _ => false
def eagKey : Nat := 99999998
def noOwn (X : Tbl) : Tbl := fun f xs => bif Nat.beq f ownK then none else X f xs
def needA (ops : List Oper) (bf : List Nat) (s : VS) : Bool := guardless ops &&
  ((ops.zipIdx.any fun (o, i) => turnOp o.op && !barB ops bf i) ||
   ((ops.zipIdx.any fun (o, i) => (match o.op with | .call { callee := .value _, .. } => true | _ => false) && !barB ops bf i) && (callSrc ops).any fun t => match getN t s.env with | some x => !(PV.allL PV.nam1 x).isEmpty | none => false) ||
   looseB ops bf)
def evG (X : Tbl) (T : Tabs) (ops : List Oper) (bf : List Nat) (s : VS) (k : VS → Prop) : Prop := match needA ops bf s with
  | true => match X eagKey [] with
    | none => evA P (noOwn X) T ops (Nat.succ ops.length) (ops.map fun _ => false) s k
    | some _ => match noBox ops with
      | true => evB P (noOwn X) T ops (Nat.succ ops.length) (ops.map fun _ => false) s k
      | false => evA P (noOwn X) T ops (Nat.succ ops.length) (ops.map fun _ => false) s k
  | false => evD P (noOwn X) T ops bf ops 0 s k
def callMarks (ops : List Oper) (s : VS) : List Nat := addNew [] ((callSrc ops).flatMap fun t => match getN t s.env with | some x => PV.allL PV.tok1 x | none => [])
def stillS (us : List Nat) (s : VS) : VS := match us with
  | [] => s
  | us => s.turn (some (PV.mark1 (callF us))) (turnB (PV.mark1 (callF us)) s.lh)
def keepL (s : VS) : VS :=
  ⟨[], s.env.map fun e => (e.1, match lookL e.1 s.loc with | some (none, v) => v | some (some _, _) => .undef | none => e.2), s.lh⟩
def onBool (x : PV) (a b : Prop) : Prop := match x with
  | .bool t => (t = true → a) ∧ (t = false → b)
  | _ => False
def firstId : Code → Nat
  | .region id _ _ => id
  | .seq a b => firstId a
  | .cond _ a _ => firstId a
  | .block _ a => firstId a
  | .loop a => firstId a
  | .scope a => firstId a
  | _ => 999999
def VS.put (s : VS) (n : Nat) (x : PV) : VS := ⟨s.loc, setN n x s.env, s.lh⟩
def nilM (m : Nat) (x : PV) : PV := match x with
  | .row true r _ => match r.none? with
    | true => .row true r m
    | false => .undef
  | _ => .undef
def VS.drop (s : VS) : List Nat → VS
  | [] => s
  | n :: ns => match Nat.ble 1000000 n with
    | true => (s.put (n % 1000000) (nilM (n / 1000000) ((getN (n % 1000000) s.env).getD .undef))).drop ns
    | false => (s.put n .undef).drop ns
def Lp.into (h : Lp) (s : VS) (body : h.α → VS → Prop) : Prop := s.drop h.dead = h.at_ s (h.get s) ∧ h.inv s (h.get s) ∧ ∀ x, h.inv s x → body x (h.at_ s x)
abbrev uZ (n : Nat) : Nat × PV := (n, .undef)
abbrev EqS (s : VS) : Prop := s = s
def Lp.cut (h : Lp) (s s' : VS) : Prop := s'.drop h.dead = h.at_ s (h.get s') ∧ h.inv s (h.get s')
def Lp.back (h : Lp) (s : VS) (x : h.α) (s' : VS) : Prop := s'.drop h.dead = h.at_ s (h.get s') ∧ h.inv s (h.get s') ∧ h.mu s (h.get s') < h.mu s x
def VS.slot (s : VS) (n : Nat) : PV := (getN n s.env).getD .undef
def VS.int (s : VS) (n : Nat) : Int := (s.slot n).asInt
def VS.bytes (s : VS) (n : Nat) : Bs := (s.slot n).asBytes
def VS.ints (s : VS) (n : Nat) : List Int := (s.slot n).asInts
def VS.nil (s : VS) (n : Nat) : Bool := (s.slot n).asNil
def VS.row (s : VS) (e : VS) (n : Nat) (nl : Bool) (r : BRow) : VS := s.put n (match e.slot n with | .row _ _ t => .row nl r t | _ => .undef)
def dstsOk : List Oper → Bool
  | [] => true
  | o :: os => (match o.dst with | some d => os.all (fun q => match q.dst with | some e => !Nat.beq d e | none => true) | none => true) && dstsOk os
def guardsOk (ops : List Oper) : Nat → List Oper → Bool
  | _, [] => true
  | i, o :: os => (match o.guard with | none => true | some (j, _) => Nat.blt j i && (match (ops[j]?).bind (·.dst) with | some _ => true | none => false)) && guardsOk ops (i + 1) os
def regOk (N : Nat) (ops : List Oper) : Bool := dstsOk ops && guardsOk ops 0 ops && ops.all fun o => match o.dst with | some d => Nat.blt d N | none => true
def evC (X : Tbl) (T : Tabs) (H : Loops) (N : Nat) : Nat → Option (Code × (Nat → Option (VS → Prop))) → Code → VS → Kont → Prop
  | 0, _, _, _, _ => False
  | fuel + 1, some (a, C), c, s, k => evC X T H N fuel none c s fun e s => match e with
      | .goto l => match C l with
        | some J => J s
        | none => match findLabel a l with
          | none => k (.goto l) s
          | some r => match H (1000000 + l) with
            | some h => h.into s fun n s' => evC X T H N fuel (some (a, fun l' => bif Nat.beq l' l then some (h.back s n) else C l')) r s' k
            | none => evC X T H N fuel (some (a, C)) r s k
      | e => k e s
  | fuel + 1, none, c, s, k => match c with
    | .skip => k .normal s
    | .region id ops draw => match draw, regOk N ops.toList with
      | false, true => evOps P X T ops.toList ops.toList s fun s => forceE (keepL s).env fun env => forceE s.lh fun lh => k .normal ⟨[], env, lh⟩
      | true, true => match openOk ops.toList (befores ops.toList) with
        | true => match H (2000000 + id) with
          | some h => (evG P X T ops.toList (befores ops.toList) (stillS (callMarks ops.toList s) s) fun s' => forceE (keepL s').env fun env => forceE s'.lh fun lh => h.cut s ⟨[], env, lh⟩) ∧ ∀ x, h.inv s x → k .normal (h.at_ s x)
          | none => evG P X T ops.toList (befores ops.toList) (stillS (callMarks ops.toList s) s) fun s => forceE (keepL s).env fun env => forceE s.lh fun lh => k .normal ⟨[], env, lh⟩
        | false => False
      | _, _ => False
    | .seq a b => evC X T H N fuel none a s fun e s => match e with
      | .normal => evC X T H N fuel none b s k
      | e => k e s
    | .cond c a b => onBool (operandV [] none s c) (evC X T H N fuel none a s k) (evC X T H N fuel none b s k)
    | .block id a => evC X T H N fuel none a s fun e s => match e with
      | .exit i => bif Nat.beq i id then k .normal s else k (.exit i) s
      | e => k e s
    | .loop a => match H (firstId a) with
      | some h => h.into s fun n s' => evC X T H N fuel none a s' fun e s'' => match e with
        | .normal => h.back s n s''
        | e => k e s''
      | none => False
    | .exit id => k (.exit id) s
    | .scope a => evC X T H N fuel (some (a, fun _ => none)) a s k
    | .label _ => k .normal s
    | .goto l => k (.goto l) s
    | .ret => k .ret s
    | _ => False
end
def keepR (ops : List Oper) (acc : Nat) : Nat :=
  (ops.foldl (fun (s : Nat × Nat) o => ((o.op.operands.toList.foldl (fun a x => match x with | .tmp t => if inMask s.2 t then a else orMask a t | _ => a) s.1), match o.dst with | some d => orMask s.2 d | none => s.2)) (acc, 0)).1
def keepC : Code → Nat → Nat
  | .region _ ops _, a => keepR ops.toList a
  | .seq x y, a => keepC y (keepC x a)
  | .cond c x y, a => keepC y (keepC x (match c with | .tmp t => orMask a t | _ => a))
  | .block _ x, a => keepC x a
  | .loop x, a => keepC x a
  | .scope x, a => keepC x a
  | _, a => a
def keepF (fn : Func) : Nat :=
  match fn.body with
  | some c => (List.range (fn.params.size + fn.nfree)).foldl orMask (fn.results.toList.foldl (fun a r => match r with | .tmp t => orMask a t | .cell t _ => orMask a t) (keepC c 0))
  | none => 0
def slotsOf (m : Nat) : Nat → List Nat
  | 0 => []
  | n + 1 => bif inMask m n then slotsOf m n ++ [n] else slotsOf m n
section
variable (P : Program)
def resV (T : Tabs) (s : VS) (r : ResultVar) : Option PV := match r with
  | .tmp t => some ((getN t s.env).getD .undef)
  | .cell t ty => match getN t s.env with
    | some (.ptr n off) => match loadR P T s.lh ty (.ptr n off) with
      | .ok v => some v
      | _ => none
    | _ => none
def resVs (T : Tabs) (s : VS) : List ResultVar → Option (List PV)
  | [] => some []
  | r :: rs => match resV P T s r, resVs T s rs with
    | some x, some xs => some (x :: xs)
    | _, _ => none
def resultsV (T : Tabs) (s : VS) (rs : List ResultVar) : Option PV := match resVs P T s rs with
  | some [x] => some x
  | some xs => some (.tup xs)
  | none => none
def outL (r : Option PV) (k : PV → Prop) : Prop := match r with
  | some r => forceV 4 r fun r => match PV.allL PV.nam1 r with
    | [] => k (r.mapL (PV.mark1 bareF))
    | _ => False
  | none => False
def withAt (xs : List PV) : List Nat → List (Nat × PV)
  | [] => []
  | t :: ts => (t, xs.getD t .undef) :: withAt xs ts
def evF (X : Tbl) (T : Tabs) (H : Loops) (fuel : Nat) (fn : Func) (xs : List PV) (k : PV → Prop) : Prop :=
  match fn.body with
  | none => False
  | some c => evC P X T H fn.ntmps fuel none c ⟨[], withAt xs (slotsOf (keepF fn) fn.ntmps), []⟩ fun e s => match e with
    | .normal => outL (resultsV P T s fn.results.toList) k
    | .ret => outL (resultsV P T s fn.results.toList) k
    | _ => False
end
end Go.Vc
