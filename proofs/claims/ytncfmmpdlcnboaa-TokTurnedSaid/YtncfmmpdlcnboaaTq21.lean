import Derived.SliceStrings
import Derived.ChangeArms
import Derived.OpenShut
import Derived.Test.YtncfmmpdlcnboaaTq7
set_option linter.unusedVariables false
set_option maxRecDepth 100000
namespace Go.Proofs.Ytncfmmpdlcnboaa
open Go Go.Proofs Go.RowKit Go.Vc Go.Proofs.Jv
open Go.ChangeShapes (open_strings)
def allW (w : World) : Nat → Nat → Option Value := fun b o => w.cell? ⟨b, o, none⟩
theorem fits_all (w : World) : Fits (allW w) w := fun b o u h => h
theorem cells_at {w : World} {base n : Nat} {a : Addr} {cs : List Value} (h : w.cells? base a n = some cs) : cs.length = n ∧ ∀ i, i < n → w.cell? (a.add i) = cs[i]? := by
  unfold World.cells? at h
  split at h
  · have hl := mapM_some_length h
    rw [List.length_range] at hl
    refine ⟨hl, fun i hi => ?_⟩
    have := mapM_some_get h i i (by rw [List.getElem?_range hi])
    exact this
  · cases h
theorem spot_cell {w : World} {a : Addr} {v : Value} (h : w.cell? a = some v) : a.spot = none := by
  unfold World.cell? at h
  split at h
  · split at h
    · cases h
    · rename_i hs; cases hp : a.spot with
      | none => rfl
      | some x => rw [hp] at hs; exact absurd rfl hs
  · cases h
variable {H : Type} {enc : TypeId × Value → H} {w : World}
noncomputable abbrev trodV (enc : TypeId × Value → H) (w : World) := DataW.trod enc Try.prog w 0 (fun _ => true) true
theorem okWide_struct {P : Program} {w : World} {r : Reach} {base : Nat} {t : TypeId} {fs : Array Field} {v : Value} (ht : P.underlying t = some (.struct fs)) (h : Value.okWide P w r base t v) : ∃ cs, v = .agg cs := by
  unfold Value.okWide at h
  rw [ht] at h
  obtain ⟨cs, h, -⟩ := h
  exact ⟨cs, h⟩
def wOK (t : TypeId) (d : DataW H) : Prop := ∀ q ∈ d.weights Try.prog t, q ≤ reachBytes
theorem mem_weightsAll {e : TypeId} : ∀ {l : List (DataW H)} {d : DataW H} {q : Nat}, d ∈ l → q ∈ d.weights Try.prog e → q ∈ DataW.weightsAll Try.prog e l
  | a :: l, d, q, hd, hq => by
    rw [DataW.weightsAll]
    rcases List.mem_cons.1 hd with h | h
    · subst h; exact List.mem_append_left _ hq
    · exact List.mem_append_right _ (mem_weightsAll h hq)
theorem wOK_slice {t e : TypeId} (ht : Try.prog.underlying t = some (.slice e)) {l r : List (DataW H)} (h : wOK t (.slice l r)) : (l.length + r.length) * Try.prog.bytesOf e ≤ reachBytes ∧ ∀ d ∈ l, wOK e d := by
  unfold wOK at h
  rw [DataW.weights, ht] at h
  exact ⟨h _ (List.mem_cons_self ..), fun d hd q hq => h q (List.mem_cons_of_mem _ (List.mem_append_left _ (mem_weightsAll hd hq)))⟩
theorem jv_strs {n : Nat} {c : Value} {x : DataW H × List MemPlace} (h : trodV enc w n 22 [c] = some x) (hw : wOK 22 x.1) : ∃ (nk : Bool) (ks : List Bs), Rep (.row nk (.strs ks) 0) (bareG (allW w)) w c ∧ ks.length ≤ bigJ ∧ (∀ s ∈ ks, s.length ≤ bigJ) ∧ flatV c = true := by
  rcases open_strings Try.underlying22 Try.underlying9 (by kernel_rfl) h with ⟨hc, -⟩ | ⟨a, len, cap, ss, hc, -, hl, hm, hlen, hx, hcell, hsz⟩
  · injection hc with hc _; subst hc
    exact ⟨true, [], .nil0 rfl rfl, Nat.zero_le _, (fun s hs => by cases hs), rfl⟩
  · injection hc with hc _; subst hc
    simp only [if_true] at hlen
    by_cases h0 : cap = 0
    · obtain rfl : len = 0 := by omega
      subst h0
      exact ⟨false, [], .inl ⟨rfl, some a, rfl, rfl, .inr rfl⟩, Nat.zero_le _, (fun s hs => by cases hs), rfl⟩
    · have hsp : a.spot = none := by
        have := hcell 0 (by omega)
        rw [show a.add 0 = a from rfl] at this
        exact spot_cell this
      obtain ⟨b, o, sp⟩ := a
      subst hsp
      refine ⟨false, (ss.take len).map fun t => t.data.toList, .inr ⟨rfl, b, o, cap, ?_, ?_, .inl ⟨rfl, fun i c hi => ?_⟩⟩, ?_, ?_, rfl⟩
      · show Value.slice _ len cap = Value.slice _ (BRow.strs _).vals.length cap
        congr 1
        simp [BRow.vals]; omega
      · refine ⟨by simp [BRow.vals]; omega, ?_⟩
        have : cap ≤ Go.maxLen := hm
        exact this
      · show w.cell? ⟨b, o + i, none⟩ = some c
        have hfl : ∀ l : List Value, (∀ u ∈ l, flatV u = true) → (l.flatMap fun u => u.cells.toList) = l := by
          intro l hl
          induction l with
          | nil => rfl
          | cons u l ih => rw [List.flatMap_cons, ih (fun v hv => hl v (List.mem_cons_of_mem _ hv)), cells_one (hl u (List.mem_cons_self ..))]; rfl
        rw [hfl _ (vals_flat _)] at hi
        have hi2 : i < len := by
          have := (List.getElem?_eq_some_iff.1 hi).1
          simp [BRow.vals] at this; omega
        have := hcell i (by omega)
        rw [Addr.add_lit] at this
        rw [this, ← hi]
        simp only [BRow.vals, List.map_map, List.getElem?_map, List.getElem?_take_of_lt hi2]
        rw [List.getElem?_eq_getElem (by omega), List.getD_eq_getElem?_getD, List.getElem?_eq_getElem (by omega)]
        rfl
      · rw [hx] at hw
        obtain ⟨w1, -⟩ := wOK_slice Try.underlying22 hw
        rw [show Try.prog.bytesOf 9 = 16 by kernel_rfl] at w1
        unfold Go.ChangeShapes.strs at w1
        rw [List.length_map, List.length_map] at w1
        rw [List.length_map]
        have e1 : reachBytes = 140737488351232 := rfl
        have e2 : bigJ = 140737488355328 := rfl
        omega
      · intro s hs
        obtain ⟨t, ht, rfl⟩ := List.mem_map.1 hs
        rw [hx] at hw
        obtain ⟨-, w1⟩ := wOK_slice Try.underlying22 hw
        have := w1 (.lit (.string t.data.toList)) (List.mem_map.2 ⟨t, ht, rfl⟩) t.data.toList.length (by rw [DataW.weights]; exact List.mem_cons_self ..)
        have e1 : reachBytes = 140737488351232 := rfl
        have e2 : bigJ = 140737488355328 := rfl
        omega
theorem repL_map {f : Nat → JV} {u : Nat → Value} {G : Gh} : ∀ L : List Nat, (∀ i ∈ L, Rep (f i).pv G w (u i)) → RepL' (JV.pvs (L.map f)) G w (L.map u)
  | [], _ => rfl
  | i :: L, h => ⟨_, _, rfl, h i (List.mem_cons_self ..), repL_map L fun j hj => h j (List.mem_cons_of_mem _ hj)⟩
theorem flat5 : ∀ (L : List (List Value)) (_ : ∀ l ∈ L, l.length = 5) (i : Nat), (L.flatMap id)[i]? = (L[i / 5]?).bind (·[i % 5]?)
  | [], _, i => by simp
  | l :: L, h, i => by
    have hl := h l (List.mem_cons_self ..)
    rw [List.flatMap_cons]
    show (l ++ L.flatMap id)[i]? = _
    by_cases hi : i < 5
    · rw [List.getElem?_append_left (by omega), show i / 5 = 0 by omega, show i % 5 = i by omega]; rfl
    · rw [List.getElem?_append_right (by omega), flat5 L (fun l hl => h l (List.mem_cons_of_mem _ hl)), hl, show (i - 5) / 5 = i / 5 - 1 by omega, show (i - 5) % 5 = i % 5 by omega, show i / 5 = (i / 5 - 1) + 1 by omega, List.getElem?_cons_succ]
      simp
theorem jv_list {n : Nat} {c : Value} {x : DataW H × List MemPlace} (ih : ∀ m, m < n → ∀ (cs : List Value) (x : DataW H × List MemPlace), trodV enc w m 25 cs = some x → wOK 25 x.1 → ∃ y : JV, okJ m y ∧ Rep y.pv (bareG (allW w)) w (.agg cs.toArray) ∧ cs.length = 5 ∧ ∀ c ∈ cs, flatV c = true)
    (h : trodV enc w n 23 [c] = some x) (hw : wOK 23 x.1) : ∃ (nl : Bool) (ls : List JV), Rep (.vec nl 5 (JV.pvs ls) 0) (bareG (allW w)) w c ∧ ls.length ≤ bigJ ∧ (∀ y ∈ ls, okJ n y) ∧ flatV c = true := by
  have hce : Try.prog.cellsOf 25 = 5 := by kernel_rfl
  rcases DataW.trod_slice Try.underlying23 h with ⟨hc, -⟩ | ⟨a, len, cap, elems, rest, m, hn, hc, hx, -, hl, hm, hlen, hel, hsp, -⟩
  · injection hc with hc _; subst hc
    exact ⟨true, [], ⟨[], rfl, (fun u hu => by cases hu), .nil0 rfl rfl⟩, Nat.zero_le _, (fun s hs => by cases hs), rfl⟩
  injection hc with hc _; subst hc
  rw [hce] at hel hsp
  rw [hx] at hw
  obtain ⟨w1, w2⟩ := wOK_slice Try.underlying23 hw
  rw [show Try.prog.bytesOf 25 = 80 by kernel_rfl, List.length_map, List.length_map] at w1
  have e1 : reachBytes = 140737488351232 := rfl
  have e2 : bigJ = 140737488355328 := rfl
  by_cases h0 : cap = 0
  · obtain rfl : len = 0 := by omega
    subst h0
    exact ⟨false, [], ⟨[], rfl, (fun u hu => by cases hu), .inl ⟨rfl, some a, rfl, rfl, .inr rfl⟩⟩, Nat.zero_le _, (fun s hs => by cases hs), rfl⟩
  have first : ∃ cs, w.cells? 0 (a.add (0 * 5)) 5 = some cs := by
    by_cases hle : 0 < len
    · have := hel 0 hle
      rw [List.getElem?_eq_getElem (by omega), Option.bind_eq_some_iff] at this
      obtain ⟨cs, h1, -⟩ := this
      exact ⟨cs, h1⟩
    · obtain ⟨h1, h2⟩ := hsp rfl
      have := h2 0 (by omega)
      rw [List.getElem?_eq_getElem (by omega), Option.bind_eq_some_iff] at this
      obtain ⟨cs, h1, -⟩ := this
      rw [show len + 0 = 0 by omega] at h1
      exact ⟨cs, h1⟩
  have hspot : a.spot = none := by
    obtain ⟨cs, h1⟩ := first
    obtain ⟨h2, h3⟩ := cells_at h1
    have := h3 0 (by omega)
    rw [List.getElem?_eq_getElem (by omega), show (a.add (0 * 5)).add 0 = a from rfl] at this
    exact spot_cell this
  obtain ⟨b, o, sp⟩ := a
  subst hspot
  have each : ∀ i, ∃ (y : JV) (cs : List Value), i < len → w.cells? 0 ((⟨b, o, none⟩ : Addr).add (i * 5)) 5 = some cs ∧ okJ m y ∧ Rep y.pv (bareG (allW w)) w (.agg cs.toArray) ∧ cs.length = 5 ∧ ∀ c ∈ cs, flatV c = true := fun i => by
    by_cases hi : i < len
    · have := hel i hi
      rw [List.getElem?_eq_getElem (by omega), Option.bind_eq_some_iff] at this
      obtain ⟨cs, h1, h2⟩ := this
      obtain ⟨y, h3⟩ := ih m (by omega) cs _ h2 (w2 _ (List.mem_map.2 ⟨_, List.getElem_mem (by omega), rfl⟩))
      exact ⟨y, cs, fun _ => ⟨h1, h3⟩⟩
    · exact ⟨.mk 0 false [] true [] true [], [], fun h => absurd h hi⟩
  obtain ⟨f, each⟩ := Classical.axiomOfChoice each
  obtain ⟨g, hfg⟩ := Classical.axiomOfChoice each
  refine ⟨false, (List.range len).map f, ⟨(List.range len).map fun i => .agg (g i).toArray, repL_map _ fun i hi => (hfg i (List.mem_range.1 hi)).2.2.1, ?_, .inr ⟨rfl, b, o, cap, ?_, ?_, .inl ⟨rfl, ?_⟩⟩⟩, ?_, ?_, rfl⟩
  · intro u hu
    obtain ⟨i, hi, rfl⟩ := List.mem_map.1 hu
    obtain ⟨-, -, -, h4, h5⟩ := hfg i (List.mem_range.1 hi)
    exact ⟨by show (g i).toArray.size = 5; simpa using h4, fun c hc => h5 c (by simpa [Value.cells] using hc)⟩
  · rw [List.length_map, List.length_range]
  · refine ⟨by rw [List.length_map, List.length_range]; exact hl, ?_⟩
    have : cap ≤ Go.maxLen := hm
    exact this
  · intro i c hi
    have e : (((List.range len).map fun i => Value.agg (g i).toArray).flatMap fun u => u.cells.toList) = ((List.range len).map g).flatMap id := by
      rw [List.flatMap_map, List.flatMap_map]
      rfl
    rw [e, flat5 _ (fun l hl => by
      obtain ⟨j, hj, rfl⟩ := List.mem_map.1 hl
      exact (hfg j (List.mem_range.1 hj)).2.2.2.1), Option.bind_eq_some_iff] at hi
    obtain ⟨l, h1, h2⟩ := hi
    rw [List.getElem?_map, Option.map_eq_some_iff] at h1
    obtain ⟨q, h3, rfl⟩ := h1
    have hq : i / 5 < len := by
      have := (List.getElem?_eq_some_iff.1 h3).1
      rwa [List.length_range] at this
    rw [List.getElem?_range hq] at h3
    injection h3 with h3
    subst h3
    obtain ⟨k1, -, -, -, -⟩ := hfg (i / 5) hq
    have := (cells_at k1).2 (i % 5) (by omega)
    rw [h2, Addr.add_lit, Addr.add_lit] at this
    show w.cell? ⟨b, o + i, none⟩ = some c
    rw [← this]
    congr 2
    omega
  · rw [List.length_map, List.length_range]; omega
  · intro y hy
    obtain ⟨i, hi, rfl⟩ := List.mem_map.1 hy
    exact okJ.up (by omega) (hfg i (List.mem_range.1 hi)).2.1
theorem jv_open : ∀ (n : Nat) (cs : List Value) (x : DataW H × List MemPlace), trodV enc w n 25 cs = some x → wOK 25 x.1 → ∃ y : JV, okJ n y ∧ Rep y.pv (bareG (allW w)) w (.agg cs.toArray) ∧ cs.length = 5 ∧ ∀ c ∈ cs, flatV c = true
  | 0, cs, x, h, _ => by unfold trodV at h; simp [DataW.trod] at h
  | n + 1, cs, x, h, hw => by
    obtain ⟨xs, n', hn, hx, hl, hlen, hf⟩ := DataW.trod_struct Try.underlying25 h
    obtain rfl : n = n' := by omega
    rw [show Try.prog.cellsOf 25 = 5 by kernel_rfl] at hl
    have hlen5 : xs.length = 5 := hlen
    rw [hx] at hw
    unfold wOK at hw
    rw [DataW.weights, Try.underlying25] at hw
    match xs, hlen5 with
    | [x0, x1, x2, x3, x4], _ =>
    replace hw : ∀ q ∈ DataW.weightsEach Try.prog [3, 4, 9, 22, 23] [x0.1, x1.1, x2.1, x3.1, x4.1], q ≤ reachBytes := hw
    simp only [DataW.weightsEach, List.append_nil] at hw
    have hw2 : wOK 9 x2.1 := fun q hq => hw q (by simp [hq])
    have hw3 : wOK 22 x3.1 := fun q hq => hw q (by simp [hq])
    have hw4 : wOK 23 x4.1 := fun q hq => hw q (by simp [hq])
    match cs, hl with
    | [c0, c1, c2, c3, c4], _ =>
    have e1 : Try.prog.cellsOf 3 = 1 := by kernel_rfl
    have e2 : Try.prog.cellsOf 4 = 1 := by kernel_rfl
    have e3 : Try.prog.cellsOf 9 = 1 := by kernel_rfl
    have e4 : Try.prog.cellsOf 22 = 1 := by kernel_rfl
    have e5 : Try.prog.cellsOf 23 = 1 := by kernel_rfl
    have f0 : trodV enc w n 3 (([c0, c1, c2, c3, c4].drop 0).take (Try.prog.cellsOf 3)) = some x0 := hf 0 _ rfl
    have f1 : trodV enc w n 4 (([c0, c1, c2, c3, c4].drop 1).take (Try.prog.cellsOf 4)) = some x1 := hf 1 _ rfl
    have f2 : trodV enc w n 9 (([c0, c1, c2, c3, c4].drop 2).take (Try.prog.cellsOf 9)) = some x2 := hf 2 _ rfl
    have f3 : trodV enc w n 22 (([c0, c1, c2, c3, c4].drop 3).take (Try.prog.cellsOf 22)) = some x3 := hf 3 _ rfl
    have f4 : trodV enc w n 23 (([c0, c1, c2, c3, c4].drop 4).take (Try.prog.cellsOf 23)) = some x4 := hf 4 _ rfl
    rw [e1] at f0
    rw [e2] at f1
    rw [e3] at f2
    rw [e4] at f3
    rw [e5] at f4
    replace f0 : trodV enc w n 3 [c0] = some x0 := f0
    replace f1 : trodV enc w n 4 [c1] = some x1 := f1
    replace f2 : trodV enc w n 9 [c2] = some x2 := f2
    replace f3 : trodV enc w n 22 [c3] = some x3 := f3
    replace f4 : trodV enc w n 23 [c4] = some x4 := f4
    obtain ⟨k, hk, -, hkw⟩ := DataW.trod_int Try.underlying3 f0
    obtain ⟨b, hb, -⟩ := DataW.trod_bool Try.underlying4 f1
    obtain ⟨s, hs, hsx, -⟩ := DataW.trod_string Try.underlying9 f2
    obtain ⟨nk, ks, hks, hk1, hk2, hk3⟩ := jv_strs f3 hw3
    obtain ⟨nl, ls, hls, hl1, hl2, hl3⟩ := jv_list (fun m hm cs x hx => jv_open m cs x hx) f4 hw4
    injection hk with hk _
    injection hb with hb _
    injection hs with hs _
    subst hk hb hs
    have hwf : -9223372036854775808 ≤ k ∧ k ≤ 9223372036854775807 := by
      simp [Lit.wf, IntKind.min, IntKind.max, IntKind.signed, IntKind.bits] at hkw; omega
    refine ⟨.mk k b s.data.toList nk ks nl ls, ⟨hwf, ?_, hk1, hk2, hl1, hl2⟩, ?_, rfl, ?_⟩
    · show s.data.toList.length ≤ _
      rw [hsx] at hw2
      have := hw2 s.data.toList.length (by rw [DataW.weights]; exact List.mem_cons_self ..)
      have e1 : reachBytes = 140737488351232 := rfl
      have e2 : bigJ = 140737488355328 := rfl
      omega
    · unfold JV.pv
      refine ⟨[.int .i64 k, .bool b, .string s, c3, c4], ⟨_, _, rfl, rfl, rfl, ?_, _, _, rfl, rfl, rfl, ?_, _, _, rfl, rfl, rfl, ?_, _, _, rfl, hks, ?_, ?_, _, _, rfl, hls, ?_, ?_, rfl⟩, ?_⟩
      · intro c hc; simp [Value.cells] at hc; subst hc; rfl
      · intro c hc; simp [Value.cells] at hc; subst hc; rfl
      · intro c hc; simp [Value.cells] at hc; subst hc; rfl
      · rw [cells_one hk3]; rfl
      · rw [cells_one hk3]; intro c hc; simp at hc; subst hc; exact hk3
      · rw [cells_one hl3]; rfl
      · rw [cells_one hl3]; intro c hc; simp at hc; subst hc; exact hl3
      · simp only [List.flatMap_cons, List.flatMap_nil, cells_one hk3, cells_one hl3]
        rfl
    · intro c hc
      simp only [List.mem_cons, List.not_mem_nil, or_false] at hc
      rcases hc with rfl | rfl | rfl | rfl | rfl
      · rfl
      · rfl
      · rfl
      · exact hk3
      · exact hl3
end Go.Proofs.Ytncfmmpdlcnboaa
