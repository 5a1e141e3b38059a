/- Nodes, sorted by their paths. -/
import Derived.Test.YtedfgikikjggaaaDoorNds
import Derived.Test.YtedfgikikjggaaaDoorSrt
import Derived.Shelf.SlSortCmp.WholeK
import Derived.ProofKit
set_option linter.unusedVariables false
set_option linter.unusedSimpArgs false
set_option maxRecDepth 100000
namespace Go.Proofs.YtedfgikikjggaaaDoor
open Go Go.Proofs Go.Shelf Go.RowKit Go.Lib Go.Sort

def cmpB (a b : Bts) : Int := if ltS a b = true then -1 else if (ltS a b || a == b) = true then 0 else 1
theorem nan_at (a : Bts) (w : World) : Calls Tryd.prog 42 #[.string ⟨a.toArray⟩] w fun e w' => e = .returned (.bool false) ∧ w' = w := by
  go_enter Tryd.func42, Tryd.ntmps42
  go_wp2
  go_ret
  exact ⟨by simp, rfl⟩
theorem cmp_at (a b : Bts) (w : World) : Calls Tryd.prog 22 #[.string ⟨a.toArray⟩, .string ⟨b.toArray⟩] w fun e w' => e = .returned (.int .i64 (cmpB a b)) ∧ w' = w := by
  have hl : ∀ w, Sem.run Tryd.prog (binOp BinOp.lss 9 (.string ⟨a.toArray⟩) (.string ⟨b.toArray⟩)) w = .ok (.bool (ltS a b)) w := fun w => by
    have : Sem.run Tryd.prog (binOp BinOp.lss 9 (.string ⟨a.toArray⟩) (.string ⟨b.toArray⟩)) w = .ok (.bool (Op.bytesLess (⟨a.toArray⟩ : ByteArray).toList (⟨b.toArray⟩ : ByteArray).toList)) w := by rfl
    rw [str_toList, str_toList] at this; exact this
  have hg : ∀ w, Sem.run Tryd.prog (binOp BinOp.gtr 9 (.string ⟨a.toArray⟩) (.string ⟨b.toArray⟩)) w = .ok (.bool !(ltS a b || a == b)) w := fun w => by
    have : Sem.run Tryd.prog (binOp BinOp.gtr 9 (.string ⟨a.toArray⟩) (.string ⟨b.toArray⟩)) w = .ok (.bool !(Op.bytesLess (⟨a.toArray⟩ : ByteArray).toList (⟨b.toArray⟩ : ByteArray).toList || (⟨a.toArray⟩ : ByteArray).toList == (⟨b.toArray⟩ : ByteArray).toList)) w := by rfl
    rw [str_toList, str_toList] at this; exact this
  unfold cmpB
  cases h1 : ltS a b with
  | true =>
    have h1' : Op.bytesLess a b = true := h1
    clear hl hg
    go_enter Tryd.func22, Tryd.ntmps22
    go_wp2_with (go_at_call 42; refine (nan_at _ _).mono ?_; rintro e w' ⟨rfl, rfl⟩)
    go_ret
    exact ⟨rfl, rfl⟩
  | false =>
    rw [h1] at hl hg
    have h1' : Op.bytesLess a b = false := h1
    cases h2 : (a == b) with
    | true =>
      rw [h2] at hg
      have hg2 : ∀ w, Sem.run Tryd.prog (binOp BinOp.gtr 9 (.string ⟨a.toArray⟩) (.string ⟨b.toArray⟩)) w = .ok (.bool false) w := hg
      clear hg hl
      go_enter Tryd.func22, Tryd.ntmps22
      go_wp2_with (go_at_call 42; refine (nan_at _ _).mono ?_; rintro e w' ⟨rfl, rfl⟩)
      go_ret
      exact ⟨rfl, rfl⟩
    | false =>
      rw [h2] at hg
      have hg2 : ∀ w, Sem.run Tryd.prog (binOp BinOp.gtr 9 (.string ⟨a.toArray⟩) (.string ⟨b.toArray⟩)) w = .ok (.bool true) w := hg
      clear hg hl
      go_enter Tryd.func22, Tryd.ntmps22
      go_wp2_with (go_at_call 42; refine (nan_at _ _).mono ?_; rintro e w' ⟨rfl, rfl⟩)
      go_ret
      exact ⟨rfl, rfl⟩
theorem clo_at (x y : Nd) (W : World) : Calls Tryd.prog 21 #[.agg #[.string ⟨x.p.toArray⟩, .int .i64 x.k, .string ⟨x.d.toArray⟩], .agg #[.string ⟨y.p.toArray⟩, .int .i64 y.k, .string ⟨y.d.toArray⟩]] W fun e w' => e = .returned (.int .i64 (cmpB x.p y.p)) ∧ ∃ q os', w' = grow (W.drewN q) os' := by
  have hcon := fun W' => cmp_at x.p y.p W'
  generalize cmpB x.p y.p = r at hcon ⊢
  go_enter Tryd.func21, Tryd.ntmps21
  go_wp2_with (go_at_call 22; refine (hcon _).mono ?_; rintro e w' ⟨rfl, rfl⟩)
  go_ret
  exact ⟨rfl, 0, _, by rw [alloc_eq_grow, alloc_eq_grow, grow_grow]; rfl⟩
def cfN (x y : Nd) : Int := cmpB x.p y.p
theorem ltOf_cfN (x y : Nd) : ltOf cfN x y = ltS x.p y.p := by
  unfold ltOf cfN cmpB
  cases ltS x.p y.p with
  | true => rfl
  | false =>
    simp only [Bool.false_eq_true, if_false]
    split <;> rfl
theorem swoN : SWO (ltOf cfN) where
  irrefl x := by rw [ltOf_cfN]; exact ltS_irrefl _
  trans x y z h1 h2 := by rw [ltOf_cfN] at *; exact ltS_trans h1 h2
  ntrans x y z h1 h2 := by
    rw [ltOf_cfN] at *
    cases h : ltS x.p z.p with
    | false => rfl
    | true =>
      exfalso
      cases h3 : ltS z.p y.p with
      | true => have := ltS_trans h h3; rw [this] at h1; cases h1
      | false =>
        have e := ltS_total h2 h3
        rw [e] at h1
        rw [h1] at h; cases h
/-- The library sorts nodes. -/
theorem sortN_any (v : Value) (ns : List Nd) (B : Nat) (w : World) (ho : OwnN w B v ns) (hne : ns ≠ []) (hlen : ns.length ≤ 1000000) :
    Calls Tryd.prog 20 #[v, .func (.func 21) #[] #[]] w fun e w' => e = .returned (.tuple #[]) ∧ ∃ ms, ms.Perm ns ∧ ms.Pairwise (fun a b => ltS b.p a.p = false) ∧ OwnN w' B v ms ∧ w.grownBy w' v.ownBlock := by
  have eg : ∀ args w, (callFunc 21 args).run Tryd.prog w = .ok (.enter 21 args) w := enters_of Tryd.func21 (by kernel_rfl) rfl
  have hh := ho
  obtain ⟨hx0, h2⟩ := ho
  rcases h2 with ⟨hv, hn⟩ | ⟨g, cap, cur, hv, hg, hb, hnc, hcm, hcs, ht⟩
  · exact absurd (List.eq_nil_of_length_eq_zero hn) hne
  subst hv
  have hblk : g < w.heap.size := (Array.getElem?_eq_some_iff.1 hb).1
  have hnd : ns.toArray.size = ns.length := by simp
  have hH : HoldsK ndC 3 w g 0 ns.toArray := by
    intro j hj
    have hj' : j < ns.length * 3 := by simpa [HoldsK] using hj
    have hq : j / 3 < ns.length := by omega
    constructor
    · have hc := hh.isNds
      obtain ⟨a, cp, e1, -, -, -, h3⟩ := hc
      obtain ⟨g', off, e2, h4⟩ := h3 (by omega)
      have hcells := World.ownsRow.cells hh (g := g) rfl j
      rw [get_flatK ndC 3 ns.toArray j (by simpa using hj')]
      have e : (ns.flatMap ndC)[j]? = some ((ndC ns.toArray[j / 3]!)[j % 3]!) := by
        obtain ⟨f0, f1, f2⟩ := ndsflat_at ns (j / 3) hq
        have hge : ns.toArray[j / 3]! = ndAt ns (j / 3) := by
          rw [getElem!_pos ns.toArray (j / 3) (by simpa using hq)]
          unfold ndAt
          rw [List.getD_eq_getElem?_getD, List.getElem?_eq_getElem hq]; simp
        rw [hge]
        have h5 : j = j / 3 * 3 + j % 3 := by omega
        have h6 : j % 3 = 0 ∨ j % 3 = 1 ∨ j % 3 = 2 := by omega
        generalize j / 3 = q at *
        generalize j % 3 = r at *
        subst h5
        rcases h6 with rfl | rfl | rfl
        · exact f0
        · exact f1
        · exact f2
      have := hcells _ e
      rw [addr_add] at this
      rw [Nat.zero_add]; exact this
    · rw [Nat.zero_add]
      unfold World.frozen?
      dsimp only
      rw [hb]
      simp
  have hcmp : CmpLays Tryd.prog 21 #[] ndC 3 cfN g 0 ns.toArray.size w := fun m os dk hs x y => clo_at x y _
  have key := AnyQ.slices_SortFunc Tryd.sortN 3 Tryd.isAgg35 Tryd.sizeOf35 ndC (fun _ => rfl) (fun x v hv => by
    unfold ndC at hv
    simp only [List.mem_cons, List.not_mem_nil, or_false] at hv
    rcases hv with rfl | rfl | rfl <;> rfl) cfN swoN 21 #[] g 0 cap ns.toArray w eg hcmp hH hblk (by simp; omega)
  rw [hnd] at key
  refine key.mono fun ee w' ⟨he, d', n, os, hp, hs, hw⟩ => ?_
  subst hw
  obtain ⟨hp1, -, hp3⟩ := hp
  have hd's : d'.size = ns.length := by rw [hp1, hnd]
  have hpm : d'.toList.Perm ns := by
    have e1 : d'.extract 0 ns.length = d' := by rw [← hd's]; simp
    have e2 : ns.toArray.extract 0 ns.length = ns.toArray := by rw [← hnd]; simp
    rw [e1, e2] at hp3
    simpa using hp3
  have hheap : (sortWorldK ndC 3 w g 0 n d' os).heap = (w.heap.modify g (onCells (putCells id 0 (flatK ndC 3 d')))) ++ os := rfl
  have hms : (w.heap.modify g (onCells (putCells id 0 (flatK ndC 3 d')))).size = w.heap.size := Array.size_modify ..
  have hl2 : d'.toList.length = ns.length := by simpa using hd's
  refine ⟨he, d'.toList, hpm, ?_, ?_, ⟨rfl, rfl, rfl, by rw [hheap, Array.size_append, hms]; omega, fun c hc1 hc2 => ?_⟩⟩
  · rw [List.pairwise_iff_getElem]
    intro i j hi hj hij
    have hi' : i < d'.size := by simpa using hi
    have hj' : j < d'.size := by simpa using hj
    have := hs i j (Nat.zero_le _) hij (by omega)
    rw [ltOf_cfN, getElem!_pos d' i hi', getElem!_pos d' j hj'] at this
    simpa using this
  · refine ⟨ndsflat_len _, .inr ⟨g, cap, putCells id 0 (flatK ndC 3 d') cur, by rw [hl2], hg, ?_, by rw [hl2]; exact hnc, hcm, by unfold putCells; simpa using hcs, ?_⟩⟩
    · rw [hheap, Array.getElem?_append_left (by rw [hms]; exact hblk), Array.getElem?_modify, if_pos rfl, hb]; rfl
    · apply List.ext_getElem?
      intro j
      rw [hl2]
      by_cases hj : j < ns.length * 3
      · have hq : j / 3 < d'.toList.length := by omega
        have hq' : j / 3 < d'.size := by simpa using hq
        rw [List.getElem?_take, if_pos hj]
        have e1 : (putCells id 0 (flatK ndC 3 d') cur).toList[j]? = some ((ndC d'[j / 3]!)[j % 3]!) := by
          unfold putCells
          rw [Array.getElem?_toList, Array.getElem?_mapIdx, Array.getElem?_eq_getElem (by omega : j < cur.size), Option.map_some]
          rw [if_pos ⟨Nat.zero_le _, by rw [size_flatK]; omega⟩, Nat.sub_zero]
          show some ((flatK ndC 3 d')[j]!) = _
          rw [get_flatK ndC 3 d' j (by omega)]
        rw [e1]
        obtain ⟨f0, f1, f2⟩ := ndsflat_at d'.toList (j / 3) hq
        have hge : d'[j / 3]! = ndAt d'.toList (j / 3) := by
          rw [getElem!_pos d' (j / 3) hq']
          unfold ndAt
          rw [List.getD_eq_getElem?_getD, List.getElem?_eq_getElem hq]; simp
        rw [hge]
        have h5 : j = j / 3 * 3 + j % 3 := by omega
        have h6 : j % 3 = 0 ∨ j % 3 = 1 ∨ j % 3 = 2 := by omega
        generalize j / 3 = q at *
        generalize j % 3 = r at *
        subst h5
        rcases h6 with rfl | rfl | rfl
        · exact f0.symm
        · exact f1.symm
        · exact f2.symm
      · rw [List.getElem?_take, if_neg hj, List.getElem?_eq_none (by rw [ndsflat_len]; omega)]
  · rw [hheap, Array.getElem?_append_left (by rw [hms]; exact hc1), Array.getElem?_modify, if_neg (fun h => hc2 (by rw [← h]; rfl))]
end Go.Proofs.YtedfgikikjggaaaDoor
