/- The evaluator: rows of three cells, sorted by the library. -/
import Derived.Test.YtapigaemojnaaaaGreatDoorEvTF
import Derived.Shelf.SlSortCmp.WholeK
import Derived.Test.YtapigaemojnaaaaGreatDoorEvTI
set_option linter.unusedVariables false
set_option linter.unusedSectionVars false
set_option linter.unusedSimpArgs false
namespace Go.Ev
open Go.Proofs Go.RowKit Go.Shelf Go.Lib Go.Sort

abbrev RowT := {x : Row3 // x.1.all (· < 256) = true ∧ flatV x.2.1 = true ∧ flatV x.2.2 = true}
instance : Inhabited RowT := ⟨⟨([], .bool false, .bool false), rfl, rfl, rfl⟩⟩
def encT (x : RowT) : List Value := [.string (bytesOf x.1.1), x.1.2.1, x.1.2.2]
/-- What cmp.Compare says of two strings. -/
def cmpS (a b : ByteArray) : Int := if Op.bytesLess a.toList b.toList = true then -1 else if (Op.bytesLess a.toList b.toList || a.toList == b.toList) = true then 0 else 1
def cfT (x y : RowT) : Int := cmpS (bytesOf x.1.1) (bytesOf y.1.1)
theorem bytesLess_ltN : ∀ {l m : List Nat}, l.all (· < 256) = true → m.all (· < 256) = true → Op.bytesLess (l.map UInt8.ofNat) (m.map UInt8.ofNat) = ltN l m
  | [], [], _, _ => rfl
  | [], _ :: _, _, _ => rfl
  | _ :: _, [], _, _ => rfl
  | x :: xs, y :: ys, hl, hm => by
    simp only [List.all_cons, Bool.and_eq_true, decide_eq_true_eq] at hl hm
    have ih := bytesLess_ltN (l := xs) (m := ys) hl.2 hm.2
    show (decide (UInt8.ofNat x < UInt8.ofNat y) || (UInt8.ofNat x == UInt8.ofNat y && Op.bytesLess (xs.map UInt8.ofNat) (ys.map UInt8.ofNat))) = (Nat.blt x y || (Nat.beq x y && ltN xs ys))
    rw [ih]
    have e1 : decide (UInt8.ofNat x < UInt8.ofNat y) = Nat.blt x y := by
      have hi : UInt8.ofNat x < UInt8.ofNat y ↔ x < y := by
        rw [UInt8.lt_iff_toNat_lt, UInt8.toNat_ofNat', UInt8.toNat_ofNat', Nat.mod_eq_of_lt hl.1, Nat.mod_eq_of_lt hm.1]
      by_cases h : x < y
      · rw [decide_eq_true (hi.2 h)]; exact (Nat.ble_eq_true_of_le h).symm
      · rw [decide_eq_false (fun g => h (hi.1 g)), blt_not h]
    have e2 : (UInt8.ofNat x == UInt8.ofNat y) = Nat.beq x y := by
      by_cases h : x = y
      · subst h; simp
      · have h2 : Nat.beq x y = false := by rw [Bool.eq_false_iff]; exact fun hb => h (Nat.eq_of_beq_eq_true hb)
        rw [h2]
        have : UInt8.ofNat x ≠ UInt8.ofNat y := fun e => h (by
          have := congrArg UInt8.toNat e
          rw [UInt8.toNat_ofNat', UInt8.toNat_ofNat', Nat.mod_eq_of_lt hl.1, Nat.mod_eq_of_lt hm.1] at this
          exact this)
        simpa using this
    rw [e1, e2]
theorem ltOf_cfT (x y : RowT) : ltOf cfT x y = ltN x.1.1 y.1.1 := by
  letI : Sg := ⟨fun _ => .bool false⟩
  letI : Sl := ⟨fun _ _ => none, []⟩
  unfold ltOf cfT cmpS
  rw [bytesOf_toList, bytesOf_toList, bytesLess_ltN x.2.1 y.2.1]
  cases ltN x.1.1 y.1.1 with
  | true => rfl
  | false =>
    simp only [Bool.false_eq_true, if_false]
    split <;> rfl
theorem ltN_irrefl : ∀ l : List Nat, ltN l l = false
  | [] => rfl
  | x :: l => by
    show (Nat.blt x x || (Nat.beq x x && ltN l l)) = false
    rw [blt_not (Nat.lt_irrefl x), ltN_irrefl l]; simp
theorem ltN_cons {x y : Nat} {l m : List Nat} : ltN (x :: l) (y :: m) = true ↔ x < y ∨ (x = y ∧ ltN l m = true) := by
  show (Nat.blt x y || (Nat.beq x y && ltN l m)) = true ↔ _
  rw [Bool.or_eq_true, Bool.and_eq_true]
  constructor
  · rintro (h | ⟨h1, h2⟩)
    · exact .inl (blt_of h)
    · exact .inr ⟨Nat.eq_of_beq_eq_true h1, h2⟩
  · rintro (h | ⟨h1, h2⟩)
    · exact .inl (Nat.ble_eq_true_of_le h)
    · exact .inr ⟨by rw [h1]; exact Nat.beq_refl y, h2⟩
theorem ltN_trans : ∀ {x y z : List Nat}, ltN x y = true → ltN y z = true → ltN x z = true
  | [], [], _, h, _ => by cases h
  | [], _ :: _, [], _, h => by cases h
  | [], _ :: _, _ :: _, _, _ => rfl
  | _ :: _, [], _, h, _ => by cases h
  | _ :: _, _ :: _, [], _, h => by cases h
  | x :: l, y :: m, z :: n, h1, h2 => by
    rw [ltN_cons] at h1 h2 ⊢
    rcases h1 with h1 | ⟨h1, h3⟩ <;> rcases h2 with h2 | ⟨h2, h4⟩
    · exact .inl (by omega)
    · exact .inl (by omega)
    · exact .inl (by omega)
    · exact .inr ⟨by omega, ltN_trans h3 h4⟩
theorem ltN_total : ∀ {x y : List Nat}, ltN x y = false → ltN y x = false → x = y
  | [], [], _, _ => rfl
  | [], _ :: _, h, _ => by cases h
  | _ :: _, [], _, h => by cases h
  | x :: l, y :: m, h1, h2 => by
    rw [← Bool.not_eq_true, ltN_cons] at h1 h2
    have e : x = y := by omega
    subst e
    rw [ltN_total (x := l) (y := m) (by rw [← Bool.not_eq_true]; exact fun h => h1 (.inr ⟨rfl, h⟩)) (by rw [← Bool.not_eq_true]; exact fun h => h2 (.inr ⟨rfl, h⟩))]
theorem swoT : SWO (ltOf cfT) where
  irrefl x := by rw [ltOf_cfT]; exact ltN_irrefl _
  trans x y z h1 h2 := by rw [ltOf_cfT] at *; exact ltN_trans h1 h2
  ntrans x y z h1 h2 := by
    rw [ltOf_cfT] at *
    cases h : ltN x.1.1 z.1.1 with
    | false => rfl
    | true =>
      exfalso
      cases h3 : ltN z.1.1 y.1.1 with
      | true => have := ltN_trans h h3; rw [this] at h1; cases h1
      | false =>
        have e := ltN_total h2 h3
        rw [e] at h1
        rw [h1] at h; cases h
/-- The library sorts rows. -/
theorem sortAt_of {P : Program} {ρ : Ren} (L : SlLaysF0.n6 P ρ) (aE : ∀ w, (isAgg (ρ.t 24)).run P w = .ok true w) (zE : ∀ w, (Go.sizeOf (ρ.t 24)).run P w = .ok 3 w) {fc : Nat}
    (efs : ∀ args w, (callFunc (ρ.f 6) args).run P w = .ok (.enter (ρ.f 6) args) w) (eg : ∀ args w, (callFunc fc args).run P w = .ok (.enter fc args) w)
    (hc : ∀ (a b : ByteArray) (x1 x2 y1 y2 : Value), x1.oneCell' = true → x2.oneCell' = true → y1.oneCell' = true → y2.oneCell' = true → ∀ W, Calls P fc #[.agg #[.string a, x1, x2], .agg #[.string b, y1, y2]] W fun e w' => e = .returned (.int .i64 (cmpS a b)) ∧ ∃ q os', w' = grow (W.drewN q) os') : SortAt P (ρ.f 6) fc := by
  intro w blk cap d cs e fz hb hfz hlen hcap hsz hd hcell
  refine ⟨efs _ _, ?_⟩
  have hblk : blk < w.heap.size := (Array.getElem?_eq_some_iff.1 hb).1
  obtain ⟨dT, hdT⟩ : ∃ dT : List RowT, dT.map (·.1) = d := ⟨d.pmap Subtype.mk hd, by rw [List.map_pmap]; simp⟩
  have hdl : dT.length = d.length := by rw [← hdT, List.length_map]
  have hH : HoldsK encT 3 w blk 0 dT.toArray := by
    intro j hj
    have hj' : j < dT.length * 3 := by simpa using hj
    have hq : j / 3 < dT.length := by omega
    have hge : dT.toArray[j / 3]! = dT[j / 3] := by rw [getElem!_pos dT.toArray (j / 3) (by simpa using hq)]; simp
    rw [get_flatK encT 3 dT.toArray j (by simpa using hj'), hge]
    have hc1 := hcell (j / 3) dT[j / 3].1 (by rw [← hdT, List.getElem?_map, List.getElem?_eq_getElem hq]; rfl)
    have hjc : j < cs.size := by omega
    constructor
    · unfold World.cell?
      dsimp only
      rw [hb]
      show (if (none : Option Nat).isSome = true then none else cs[0 + j]?) = _
      rw [Nat.zero_add]
      have h3 : j = 3 * (j / 3) ∨ j = 3 * (j / 3) + 1 ∨ j = 3 * (j / 3) + 2 := by omega
      have hm : j % 3 = j - 3 * (j / 3) := by omega
      rw [hm]
      generalize hq2 : dT[j / 3] = y at hc1
      generalize j / 3 = q at *
      rcases h3 with h3 | h3 | h3
      · rw [h3, Nat.sub_self]; exact hc1.1
      · rw [h3, show 3 * q + 1 - 3 * q = 1 by omega]; exact hc1.2.1
      · rw [h3, show 3 * q + 2 - 3 * q = 2 by omega]; exact hc1.2.2
    · unfold World.frozen?
      dsimp only
      rw [hb]
      have := hfz j hjc
      rw [Nat.zero_add]
      simp only [Bool.and_eq_false_iff, decide_eq_false_iff_not]
      by_cases h1 : fz.1 ≤ j
      · right; exact fun h2 => this ⟨h1, h2⟩
      · left; exact h1
  have hcmp : CmpLays P fc #[] encT 3 cfT blk 0 dT.toArray.size w := fun m os dk hs x y => hc _ _ _ _ _ _ x.2.2.1 x.2.2.2 y.2.2.1 y.2.2.2 _
  have key := AnyQ.slices_SortFunc L 3 aE zE encT (fun _ => rfl) (fun x v hv => by
    unfold encT at hv
    simp only [List.mem_cons, List.not_mem_nil, or_false] at hv
    rcases hv with rfl | rfl | rfl
    · rfl
    · exact x.2.2.1
    · exact x.2.2.2) cfT swoT fc #[] blk 0 cap dT.toArray w eg hcmp hH hblk (by simp; omega)
  have hsize : dT.toArray.size = d.length := by simpa using hdl
  rw [hsize] at key
  refine key.mono fun ee w' ⟨he, d', n, os, hp, hs, hw⟩ => ?_
  subst hw
  obtain ⟨hp1, -, hp3⟩ := hp
  have hd's : d'.size = d.length := by rw [hp1, hsize]
  have hpm : d'.toList.Perm dT := by
    have e1 : d'.extract 0 d.length = d' := by rw [← hd's]; simp
    have e2 : dT.toArray.extract 0 d.length = dT.toArray := by rw [← hsize]; simp
    rw [e1, e2] at hp3
    simpa using hp3
  have hheap : (sortWorldK encT 3 w blk 0 n d' os).heap = (w.heap.modify blk (onCells (putCells id 0 (flatK encT 3 d')))) ++ os := rfl
  have hms : (w.heap.modify blk (onCells (putCells id 0 (flatK encT 3 d')))).size = w.heap.size := Array.size_modify ..
  refine ⟨he, d'.toList.map (·.1), putCells id 0 (flatK encT 3 d') cs, by rw [← hdT]; exact hpm.map _, ?_, rfl, rfl, rfl, ?_, fun c hc1 hc2 => ?_, ?_, by unfold putCells; simp, fun q x hx => ?_⟩
  · rw [List.pairwise_map, List.pairwise_iff_getElem]
    intro i j hi hj hij
    have hi' : i < d'.size := by simpa using hi
    have hj' : j < d'.size := by simpa using hj
    have := hs i j (Nat.zero_le _) hij (by omega)
    rw [ltOf_cfT, getElem!_pos d' i hi', getElem!_pos d' j hj'] at this
    simpa using this
  · rw [hheap, Array.size_append, hms]; omega
  · rw [hheap, Array.getElem?_append_left (by rw [hms]; exact hc1), Array.getElem?_modify, if_neg (fun h => hc2 h.symm)]
  · rw [hheap, Array.getElem?_append_left (by rw [hms]; exact hblk), Array.getElem?_modify, if_pos rfl, hb]; rfl
  · rw [List.getElem?_map, Option.map_eq_some_iff] at hx
    obtain ⟨y, hy, rfl⟩ := hx
    have hq : q < d'.size := by
      have := (List.getElem?_eq_some_iff.1 hy).1
      simpa using this
    have hge : d'[q]! = y := by
      rw [getElem!_pos d' q hq]
      have := (List.getElem?_eq_some_iff.1 hy).2
      simpa using this
    have cell : ∀ t, t < 3 → (putCells id 0 (flatK encT 3 d') cs)[3 * q + t]? = some (encT y)[t]! := fun t ht => by
      unfold putCells
      rw [Array.getElem?_mapIdx, Array.getElem?_eq_getElem (by omega : 3 * q + t < cs.size)]
      rw [Option.map_some]
      rw [if_pos ⟨Nat.zero_le _, by rw [size_flatK]; omega⟩, Nat.sub_zero]
      show some ((flatK encT 3 d')[3 * q + t]!) = _
      rw [get_flatK encT 3 d' _ (by omega), show (3 * q + t) / 3 = q by omega, show (3 * q + t) % 3 = t by omega, hge]
    exact ⟨cell 0 (by omega), cell 1 (by omega), cell 2 (by omega)⟩
end Go.Ev
namespace Go.Ev
open Go.RowKit

def dstB (N : Nat) (l : List Oper) : Bool := l.all fun o => match o.dst with
  | some d => decide (d < N)
  | none => true
theorem dstB_lt {N : Nat} {l : List Oper} (h : dstB N l = true) : ∀ o ∈ l, ∀ d, o.dst = some d → d < N := fun o ho d hd => by
  have := List.all_eq_true.1 h o ho
  rw [hd] at this
  simpa using this
def b14 : List Oper → Bool
  | [⟨_, .next (.tmp t) false, _, _, _, _⟩, ⟨_, .extract (.tmp u) 0, _, _, _, _⟩] => t == 60 && u == 61
  | _ => false
def d14 : List Oper → Bool
  | [x, y] => x.dst == some 61 && x.guard == none && y.dst == some 62 && y.guard == none
  | _ => false
def b15 : List Oper → Bool
  | ⟨_, .entry (.tmp t), _, _, _, _⟩ :: _ => t == 60
  | _ => false
def d15 : List Oper → Bool
  | x :: _ => x.dst == some 63 && x.guard == none
  | _ => false
def b17 (fs fc : Nat) : List Oper → Bool
  | [⟨_, .call ⟨.value (.func f), args, _⟩, _, _, _, _⟩] => f == fs && (match args.toList with
    | [.tmp t, .func g] => t == 78 && g == fc
    | _ => false)
  | _ => false
def d17 : List Oper → Bool
  | [o] => o.guard == none && o.dst != some 4
  | _ => false
/-- The test. -/
def partsB (N : Nat) (p : NewParts) (fs fc : Nat) : Bool :=
  b14 p.ops14.toList && d14 p.ops14.toList && b15 p.ops15.toList && d15 p.ops15.toList && Nat.ble 64 N && dstB N p.ops15.toList && dstB N p.ops17.toList.dropLast && b17 fs fc (p.ops17.toList.drop (p.ops17.toList.length - 1)) && d17 (p.ops17.toList.drop (p.ops17.toList.length - 1))
theorem parts_of {P : Program} {N keep : Nat} {p : NewParts} {fs fc : Nat} (hm : P.follows .mixedOrders = true) (hs : SortAt P fs fc) (h : partsB N p fs fc = true) : Cy P N keep p ∧ Cz P N keep p fs fc := by
  unfold partsB at h
  simp only [Bool.and_eq_true] at h
  obtain ⟨⟨⟨⟨⟨⟨⟨⟨h1, h2⟩, h3⟩, h4⟩, h5⟩, h6⟩, h7⟩, h8⟩, h9⟩ := h
  refine ⟨⟨hm, ?_, ?_, Nat.le_of_ble_eq_true h5, dstB_lt h6⟩, ⟨dstB_lt h7, ?_, hs⟩⟩
  · unfold b14 at h1
    split at h1
    · rename_i e
      rw [e] at h2 ⊢
      simp only [d14, Bool.and_eq_true, beq_iff_eq] at h1 h2
      obtain ⟨rfl, rfl⟩ := h1
      exact ⟨_, _, rfl, rfl, h2.1.1.1, h2.1.1.2, rfl, h2.1.2, h2.2⟩
    · cases h1
  · unfold b15 at h3
    split at h3
    · rename_i e
      rw [e] at h4 ⊢
      simp only [d15, Bool.and_eq_true, beq_iff_eq] at h3 h4
      obtain rfl := h3
      exact ⟨_, _, rfl, rfl, h4.1, h4.2⟩
    · cases h3
  · have hl : p.ops17.toList = p.ops17.toList.dropLast ++ p.ops17.toList.drop (p.ops17.toList.length - 1) := by
      rw [List.dropLast_eq_take]; exact (List.take_append_drop _ _).symm
    unfold b17 at h8
    split at h8
    · rename_i e
      rw [e] at h9 hl
      simp only [d17, Bool.and_eq_true, beq_iff_eq, bne_iff_ne, ne_eq] at h8 h9
      obtain ⟨rfl, h8⟩ := h8
      split at h8
      · rename_i e2
        simp only [Bool.and_eq_true, beq_iff_eq] at h8
        obtain ⟨rfl, rfl⟩ := h8
        exact ⟨_, _, _, hl, rfl, e2, h9.1, h9.2⟩
      · cases h8
    · cases h8
theorem treeAt_of {P : Program} {f fs fc : Nat} {fn : Func} {p : NewParts} (hm : P.follows .mixedOrders = true) (hs : SortAt P fs fc) (hf : P.funcs[f]? = some fn) (hn : (fn.name == "runtime.NumGoroutine") = false) (hb : fn.body = some p.code) (h : partsB fn.ntmps p fs fc = true) : TreeAt P f :=
  let ⟨h1, h2⟩ := parts_of (keep := keepF fn) hm hs h
  ⟨⟨fn, p, fs, fc, hf, hn, hb, h1, h2⟩⟩
end Go.Ev
