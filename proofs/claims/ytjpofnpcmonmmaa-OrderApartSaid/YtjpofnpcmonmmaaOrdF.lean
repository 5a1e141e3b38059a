/- The contract of order.Falling, for few texts. -/
import Derived.Test.YtjpofnpcmonmmaaOrdC
import Derived.Test.YtjpofnpcmonmmaaStrs
import Derived.Test.YtjpofnpcmonmmaaShelf
import Derived.Sort.LotA
set_option linter.unusedVariables false
set_option linter.unusedSimpArgs false
namespace Go.Proofs.Ytjpofnpcmonmmaa
open Go.RowKit

abbrev Txts := List UInt8
/-- How a text stands in a cell (texts of a thousand bytes at most). -/
def encS (l : Txts) : Value := .string ⟨(l.take 1000).toArray⟩
def cfS (a b : Txts) : Int := cmpS (b.take 1000) (a.take 1000)
theorem cfS_lt (a b : Txts) : Go.Proofs.ltOf cfS a b = decide (cmpS (b.take 1000) (a.take 1000) < 0) := rfl
theorem cmpS_swap (a b : Txts) : cmpS a b = -cmpS b a := cmpL_swap _ _
theorem cmpS_trans (a b c : Txts) : cmpS a b ≤ 0 → cmpS b c ≤ 0 → cmpS a c ≤ 0 := cmpL_trans _ _ _
theorem cmpS_lt_trans (a b c : Txts) (h : cmpS a b < 0) (k : cmpS b c < 0) : cmpS a c < 0 := by
  have h1 := cmpS_trans a b c (by omega) (by omega)
  rcases Int.lt_or_eq_of_le h1 with h2 | h2
  · exact h2
  · have h3 := cmpL_zero h2
    have h4 : cmpS b c = cmpS b a := by unfold cmpS; rw [h3]
    have := cmpS_swap a b
    omega
theorem swoS : Go.Sort.SWO (Go.Proofs.ltOf cfS) where
  irrefl x := by rw [cfS_lt, decide_eq_false_iff_not]; unfold cmpS; rw [cmpL_self]; omega
  trans x y z h k := by
    rw [cfS_lt, decide_eq_true_eq] at h k ⊢
    exact cmpS_lt_trans _ _ _ k h
  ntrans x y z h k := by
    rw [cfS_lt, decide_eq_false_iff_not] at h k ⊢
    have h1 := cmpS_swap (x.take 1000) (y.take 1000)
    have h2 := cmpS_swap (y.take 1000) (z.take 1000)
    have h3 := cmpS_swap (x.take 1000) (z.take 1000)
    have := cmpS_trans (x.take 1000) (y.take 1000) (z.take 1000) (by omega) (by omega)
    omega
theorem oneS : OneCell encS := fun _ => rfl
set_option maxHeartbeats 1000000 in
theorem less_any (a b : List UInt8) (w : World) (hma : a.length ≤ 1000000) (hmb : b.length ≤ 1000000) :
    Calls Try.prog 35 #[.string ⟨a.toArray⟩, .string ⟨b.toArray⟩] w fun e w' => e = .returned (.int .i64 (cmpS b a)) ∧ Laid w w' := by
  have HC := Lib.hid (Compare_any b a · hmb hma)
  go_enter Try.func35, Try.ntmps35
  go_wp2_with fail
  refine (HC.out _).mono ?_
  rintro e w1 ⟨rfl, hl⟩
  go_wp2
  go_ret
  exact ⟨rfl, hl⟩
theorem cmpLays (blk off size : Nat) (w : World) : CmpLays1 Try.prog 35 #[] encS cfS blk off size w := fun m os dk hs x y =>
  (less_any (x.take 1000) (y.take 1000) _ (by rw [List.length_take]; omega) (by rw [List.length_take]; omega)).mono fun _ _ ⟨he, hl⟩ => ⟨he, hl.grow⟩
set_option maxHeartbeats 1000000 in
theorem stable_any (g cap : Nat) (d : Array Txts) (w : World) (hH : Go.Sort.Holds encS w g 0 d) (hblk : g < w.heap.size) (h19 : d.size ≤ 19) :
    Calls Try.prog 42 #[.slice (some ⟨g, 0, none⟩) d.size cap, .int .i64 d.size, .func (.func 35) #[] #[]] w fun e w' => e = .returned (.tuple #[]) ∧ SW encS w g 0 (Go.Sort.insertionSort (ltOf cfS) d 0 d.size) w' := by
  have eg : ∀ args w, (callFunc 35 args).run Try.prog w = .ok (.enter 35 args) w := enters_of Try.func35 (by kernel_rfl) rfl
  have HI := Lib.hid (Any.insertionSortCmpFunc_s Try.laysSort encS cfS 35 #[] g 0 cap 0 d.size d d w w eg (cmpLays g 0 d.size w) ⟨oneS, hH, hblk⟩ rfl (SW.start hH) (Nat.zero_le _) (Nat.le_refl _) (by omega))
  go_enter Try.func42, Try.ntmps42
  go_wp2_with fail
  go_loopw [7, 8] (fun ta tb wr => ta = .int .i64 0 ∧ tb = .int .i64 20 ∧ wr = w) (fun _ _ _ => 0)
  case atStart => exact ⟨rfl, rfl, rfl⟩
  case round =>
    obtain ⟨rfl, rfl, rfl⟩ := hrel
    go_wp2_with fail
    refine (HI.out).mono ?_
    rintro e w1 ⟨rfl, hsw⟩
    have HS := Lib.hid hsw
    clear hsw
    go_wp2_with fail
    go_loopw [6, 7, 8, 9] (fun t6 t7 t8 t9 wr => t6 = .int .i64 20 ∧ wr = w1) (fun _ _ _ _ _ => 0)
    case atStart => exact ⟨rfl, rfl⟩
    case round =>
      obtain ⟨rfl, rfl⟩ := hrel
      go_wp2_with fail
      go_end0
      exact ⟨rfl, HS.out⟩
set_option maxHeartbeats 1000000 in
theorem sortS_any (g cap : Nat) (d : Array Txts) (w : World) (hH : Go.Sort.Holds encS w g 0 d) (hblk : g < w.heap.size) (h19 : d.size ≤ 19) :
    Calls Try.prog 34 #[.slice (some ⟨g, 0, none⟩) d.size cap, .func (.func 35) #[] #[]] w fun e w' => e = .returned (.tuple #[]) ∧ SW encS w g 0 (Go.Sort.insertionSort (ltOf cfS) d 0 d.size) w' := by
  have HI := Lib.hid (stable_any g cap d w hH hblk h19)
  go_enter Try.func34, Try.ntmps34
  go_wp2_with fail
  refine (HI.out).mono ?_
  rintro e w1 ⟨rfl, hsw⟩
  go_wp2_with fail
  go_end0
  exact ⟨rfl, hsw⟩
theorem sw_below {g B : Nat} {d : Array Txts} {w W : World} (h : SW encS w g 0 d W) (hB : B ≤ g) (hg : g < w.heap.size) : Below B w W := by
  obtain ⟨n, os, rfl⟩ := h
  refine ⟨rfl, rfl, rfl, ?_, fun k hk => ?_⟩
  · unfold sortWorld
    rw [Go.Sort.size_grow, size_putRow]
    show w.heap.size ≤ w.heap.size + _
    omega
  · show ((Go.Sort.putRow encS (Go.Sort.ahead w n) g 0 d).heap ++ os)[k]? = _
    rw [Array.getElem?_append, if_pos (by rw [size_putRow]; show k < w.heap.size; omega)]
    show (w.heap.modify g _)[k]? = _
    rw [Array.getElem?_modify, if_neg (by omega)]
def fallL (ls : List Txts) : List Txts := (Go.Sort.insertionSort (ltOf cfS) ls.toArray 0 ls.length).toList
theorem fallL_perm (ls : List Txts) : (fallL ls).Perm ls := by
  have h := (Go.Sort.insertionSort_holds (lt := ltOf cfS) swoS ls.toArray 0 ls.length (Nat.zero_le _) (by simp)).1
  obtain ⟨h1, h2, h3⟩ := h
  unfold fallL
  generalize Go.Sort.insertionSort (ltOf cfS) ls.toArray 0 ls.length = d at *
  have e : d.extract 0 ls.length = d := by
    have : ls.length = d.size := by simpa using h1.symm
    rw [this, Array.extract_size]
  rw [e] at h3
  have e2 : ls.toArray.extract 0 ls.length = ls.toArray := by
    have : ls.length = ls.toArray.size := by simp
    rw [this, Array.extract_size]
  rw [e2] at h3
  simpa using h3
theorem fallL_len (ls : List Txts) : (fallL ls).length = ls.length := (fallL_perm ls).length_eq
set_option maxHeartbeats 1000000 in
theorem falling_any (v : Value) (ls : List Txts) (w : World) (hv : IsStr w v ls) (h1 : 1 ≤ ls.length) (h19 : ls.length ≤ 19) (hk : ∀ l ∈ ls, l.length ≤ 1000) :
    Calls Try.prog 20 #[v] w fun e w' => ∃ v', e = .returned v' ∧ IsStr w' v' (fallL ls) ∧ Below w.heap.size w w' := by
  obtain ⟨a, cap, rfl, hc1, hc2, -, hs⟩ := hv
  obtain ⟨b, off, rfl, hc⟩ := hs (by omega)
  have HCl := Lib.hid (Try.slices_Clone_string b off ls.length cap (ls.map fun l => ⟨l.toArray⟩) w (by simp) (by omega) (fun j hj => by
    have := hc.at j (by simpa using hj)
    rw [this]
    simp at hj
    simp [strAt, List.getD, hj]
    rfl))
  have HLE := Lib.hid (fallL_len ls)
  have HPE := Lib.hid (fallL_perm ls)
  clear hs hc
  go_enter Try.func20, Try.ntmps20
  go_wp2_with fail
  refine (HCl.out).mono ?_
  rintro e w1 ⟨v', rfl, hown, hne, hb1⟩
  obtain ⟨ho1, ho2⟩ := hown
  rcases ho2 with ⟨rfl, -⟩ | ⟨g, cap', cur, rfl, hg, hblk, hn, hcm, hcs, hct⟩
  · exact absurd rfl hne
  have HB1 := Lib.hid hb1
  have HCM := Lib.hid hcm
  have hgl : g < w1.heap.size := (Array.getElem?_eq_some_iff.1 hblk).1
  have HH : Hid (Go.Sort.Holds encS w1 g 0 ls.toArray) := Lib.hid (fun j hj => by
    have hj' : j < ls.length := by simpa using hj
    constructor
    · rw [Nat.zero_add]
      unfold World.cell?
      rw [hblk]
      have h2 : (cur.toList.take (ls.length * 1))[j]? = some (.string ⟨(ls[j]).toArray⟩) := by rw [hct]; simp [hj']; try rfl
      rw [Nat.mul_one, List.getElem?_take, if_pos hj'] at h2
      have h3 : cur[j]? = some (.string ⟨(ls[j]).toArray⟩) := by simpa using h2
      show (if (none : Option _).isSome then none else cur[j]?) = _
      rw [if_neg (by simp), h3]
      have h4 := hk _ (List.getElem_mem (l := ls) hj')
      have h5 : ls.toArray[j]! = ls[j] := by simp [hj']
      rw [h5]
      unfold encS
      rw [List.take_of_length_le h4]
    · unfold World.frozen?
      rw [hblk]
      show (decide (0 ≤ 0 + j) && decide (0 + j < 0)) = false
      simp)
  clear hne hb1 hcm hblk hct hcs ho1
  have HSo : Hid (Calls Try.prog 34 #[.slice (some ⟨g, 0, none⟩) ls.length cap', .func (.func 35) #[] #[]] w1 fun e w' => e = .returned (.tuple #[]) ∧ SW encS w1 g 0 (Go.Sort.insertionSort (ltOf cfS) ls.toArray 0 ls.length) w') := Lib.hid (by
    have := sortS_any g cap' ls.toArray w1 HH.out hgl (by simpa using h19)
    simpa only [List.size_toArray] using this)
  go_wp2_with fail
  refine (HSo.out).mono ?_
  rintro e w2 ⟨rfl, hsw⟩
  have hb2 : Below w.heap.size w1 w2 := sw_below hsw hg hgl
  have hsz : (Go.Sort.insertionSort (ltOf cfS) ls.toArray 0 ls.length).size = ls.toArray.size := by
    have := HLE.out
    unfold fallL at this
    simpa using this
  have hh := hsw.holds hgl HH.out hsz
  have HR : Hid (IsStr w2 (.slice (some ⟨g, 0, none⟩) ls.length cap') (fallL ls)) := Lib.hid (by
    refine ⟨_, _, by rw [HLE.out], by rw [HLE.out]; exact hn, HCM.out, (fun h => by cases h), fun _ => ⟨g, 0, rfl, fun i hi => ?_⟩⟩
    have hi' : i < (Go.Sort.insertionSort (ltOf cfS) ls.toArray 0 ls.length).size := by unfold fallL at hi; simpa using hi
    have h2 := (hh i hi').1
    rw [h2]
    have hmem : (fallL ls).getD i [] ∈ ls := by
      refine HPE.out.mem_iff.1 ?_
      rw [List.getD_eq_getElem?_getD, List.getElem?_eq_getElem hi]
      exact List.getElem_mem _
    have h4 := hk _ hmem
    have h5 : (Go.Sort.insertionSort (ltOf cfS) ls.toArray 0 ls.length)[i]! = (fallL ls).getD i [] := by
      unfold fallL
      simp [hi']
    rw [h5]
    unfold encS strAt strV
    rw [List.take_of_length_le h4])
  clear hsw hh
  go_wp2_with fail
  go_ret
  exact ⟨_, rfl, HR.out, HB1.out.trans hb2⟩
end Go.Proofs.Ytjpofnpcmonmmaa
