/- The contract of tree.New: its first loop. -/
import Derived.Test.YtedfgikikjggaaaDoorTreeE
import Derived.Test.YtedfgikikjggaaaDoorTreeF
import Derived.Test.YtedfgikikjggaaaDoorTreeC
import Derived.Test.YtedfgikikjggaaaDoorTreeL
set_option linter.unusedVariables false
set_option linter.unusedSimpArgs false
namespace Go.Proofs.YtedfgikikjggaaaDoor
open Go.RowKit

def stateOk (ns : List Nd) (i : Nat) : Prop := (∀ n ∈ ns.take i, fitN n = true) ∧ ((ns.take i).map (·.p)).Nodup
theorem take_succ' {ns : List Nd} {i : Nat} (h : i < ns.length) : ns.take (i + 1) = ns.take i ++ [ndAt ns i] := by
  rw [List.take_add_one, ndAt_get h]; rfl
theorem lookN_snoc (l : List Nd) (n : Nd) (p : Bts) : lookN (l ++ [n]) p = match lookN l p with | some m => some m | none => if n.p = p then some n else none := by
  unfold lookN
  rw [List.find?_append]
  cases List.find? (fun n => n.p == p) l with
  | some m => rfl
  | none =>
    rw [Option.none_or]
    show _ = if n.p = p then some n else none
    by_cases h : n.p = p
    · rw [if_pos h]; simp [List.find?, h]
    · rw [if_neg h]
      have : (n.p == p) = false := by rw [beq_eq_false_iff_ne]; exact h
      simp [List.find?, this]
theorem nodeG_snoc {l : List Nd} {n : Nd} (h : lookN l n.p = none) : updG (nodeG l) n.p (ndV n) = nodeG (l ++ [n]) := by
  funext s
  unfold updG nodeG
  rw [lookN_snoc]
  by_cases hs : s = n.p
  · subst hs; rw [if_pos rfl, h]; simp
  · rw [if_neg hs]
    cases lookN l s with
    | some m => rfl
    | none => simp [Ne.symm hs]
theorem stateOk_succ {ns : List Nd} {i : Nat} (h : i < ns.length) (hs : stateOk ns i) (hf : fitN (ndAt ns i) = true) (hl : lookN (ns.take i) (ndAt ns i).p = none) : stateOk ns (i + 1) := by
  unfold stateOk
  rw [take_succ' h]
  refine ⟨fun n hn => ?_, ?_⟩
  · rcases List.mem_append.1 hn with h1 | h1
    · exact hs.1 n h1
    · rw [List.mem_singleton.1 h1]; exact hf
  · rw [List.map_append, List.nodup_append]
    refine ⟨hs.2, by simp, fun a ha b hb => ?_⟩
    obtain ⟨m, hm, rfl⟩ := List.mem_map.1 ha
    simp at hb; subst hb
    exact lookN_none hl m hm
theorem not_good_fit {ns : List Nd} {i : Nat} (h : i < ns.length) (hf : fitN (ndAt ns i) = false) : ¬ Good ns := fun hg => by
  have := hg.1 _ (ndAt_mem h); rw [hf] at this; cases this
theorem not_good_twice {ns : List Nd} {i : Nat} {m : Nd} (h : i < ns.length) (hl : lookN (ns.take i) (ndAt ns i).p = some m) : ¬ Good ns := fun hg => by
  obtain ⟨h1, h2⟩ := lookN_some hl
  have h3 := hg.2.1
  have h4 : (ns.take (i + 1)).map (·.p) |>.Nodup := by
    have : ((ns.take (i + 1) ++ ns.drop (i + 1)).map (·.p)).Nodup := by rw [List.take_append_drop]; exact h3
    rw [List.map_append, List.nodup_append] at this
    exact this.1
  rw [take_succ' h, List.map_append, List.nodup_append] at h4
  exact h4.2.2 m.p (List.mem_map_of_mem h1) (ndAt ns i).p (by simp) h2
set_option maxRecDepth 100000 in
set_option maxHeartbeats 16000000 in
theorem New_any (v : Value) (ns : List Nd) (w : World) (hv : IsNds w v ns) (hM : MaxAt w) (hb : ∀ n ∈ ns, n.p.length ≤ 1000000 ∧ n.d.length ≤ 1000000) (hl : ns.length ≤ 4096) :
    Calls Tryd.prog 9 #[v] w fun e w' => ((¬ Good ns ∧ e = .returned (.tuple #[.pointer none, .int .i64 21])) ∨ (Good ns ∧ ∃ t all, e = .returned (.tuple #[.pointer (some ⟨t, 0, none⟩), .int .i64 0]) ∧ TreeIs w' t all 0 ∧ Whole ns all ∧ w.heap.size ≤ t)) ∧ Below w.heap.size w w' := by
  have hmm := run_makeMapN (P := Tryd.prog) Tryd.underlying51
  have hm0 := run_makeMap0 (P := Tryd.prog) Tryd.underlying52
  have HV := Lib.hid hv
  have HM := Lib.hid hM
  have HB := Lib.hid hb
  obtain ⟨a, cap, rfl, a1, a2, -, a3⟩ := hv
  unfold maxLen at a2
  have hI : (ns.length : Int) ≤ 4096 := by omega
  have hI2 : (ns.length : Int) + 1 ≤ 4097 := by omega
  clear hb hM
  go_enter Tryd.func9, Tryd.ntmps9
  go_wp2_with fail
  go_loopw [23] (fun ti wr => ∃ i : Nat, i ≤ ns.length ∧ ti = .int .i64 i ∧ Hid (stateOk ns i) ∧ Hid (Box wr (w.heap.size + 1 + 1) 59 [.map (some w.heap.size), .map (some (w.heap.size + 1)), .slice none 0 0, .int .i64 0]) ∧ Hid (MapS isNdV wr w.heap.size i (nodeG (ns.take i))) ∧ Hid (MapS isSlV wr (w.heap.size + 1) 0 (fun _ => none)) ∧ Hid (Below w.heap.size w wr)) (fun ti _ => ns.length - (intOf ti).toNat)
  case atStart =>
    have b1 : Below w.heap.size w (w.alloc (.map #[] 0)) := ext_alloc w _
    have b2 := ext_trans b1 (ext_alloc (w.alloc (.map #[] 0)) (.map #[] 0))
    have b3 := ext_trans b2 (ext_alloc ((w.alloc (.map #[] 0)).alloc (.map #[] 0)) (.cells #[.map (some w.heap.size), .map (some (w.heap.size + 1)), .slice none 0 0, .int .i64 0] 59))
    refine ⟨0, Nat.zero_le _, rfl, Lib.hid (show stateOk ns 0 from And.intro (fun n hn => by simp at hn) List.nodup_nil), Lib.hid ?_, Lib.hid ?_, Lib.hid ?_, Lib.hid ?_⟩
    · have := Box.new ((w.alloc (.map #[] 0)).alloc (.map #[] 0)) 59 [.map (some w.heap.size), .map (some (w.heap.size + 1)), .slice none 0 0, .int .i64 0]
      simpa using this
    · exact ((MapS.made isNdV w).alloc _).alloc _
    · have := (MapS.made isSlV (w.alloc (.map #[] 0))).alloc (.cells #[.map (some w.heap.size), .map (some (w.heap.size + 1)), .slice none 0 0, .int .i64 0] 59)
      simpa using this
    · exact b3
  case round =>
    obtain ⟨i, hi, rfl, HS, HBX, HM1, HM2, HBL⟩ := hrel
    by_cases hlt : i < ns.length
    · have hltI : (i : Int) < (ns.length : Int) := by omega
      obtain ⟨b, off, rfl, hc⟩ := a3 (by omega)
      obtain ⟨c0, c1, c2⟩ := (hc.below HBL.out) i hlt
      have hsz := HBL.out.size
      have HMW := Lib.hid (HM.out.below HBL.out)
      have HGF := Lib.hid (fun h => not_good_fit hlt h)
      have HGT := Lib.hid (fun m h => not_good_twice (m := m) hlt h)
      have HSS := Lib.hid (fun h1 h2 => stateOk_succ hlt HS.out h1 h2)
      have HTK := Lib.hid (take_succ' hlt)
      obtain ⟨hpl, hdl⟩ := HB.out _ (ndAt_mem hlt)
      generalize ndAt ns i = nd at *
      obtain ⟨p, k, d⟩ := nd
      have k0 : ∀ o, (wr.alloc o).cell? ⟨w.heap.size + 1 + 1, 0, none⟩ = some (.map (some w.heap.size)) := fun o => by rw [(HBX.out.alloc o).cell]; rfl
      have k1 : ∀ o o2, ((wr.alloc o).alloc o2).cell? ⟨w.heap.size + 1 + 1, 0, none⟩ = some (.map (some w.heap.size)) := fun o o2 => by rw [((HBX.out.alloc o).alloc o2).cell]; rfl
      have k2 : ∀ o o2, (((wr.alloc o).alloc o2).drew).cell? ⟨w.heap.size + 1 + 1, 0, none⟩ = some (.map (some w.heap.size)) := k1
      cases hlk : lookN (ns.take i) p with
      | some m =>
        have HG : Hid (¬ Good ns) := Lib.hid (HGT.out m hlk)
        have HLK : Hid (∀ W, MapS isNdV W w.heap.size i (nodeG (ns.take i)) → (Instr.lookup 51 (.map (some w.heap.size)) (.string ⟨p.toArray⟩) true).run Tryd.prog W = .ok (.tuple #[.agg #[.string ⟨m.p.toArray⟩, .int .i64 m.k, .string ⟨m.d.toArray⟩], .bool true]) W) := Lib.hid (fun W hW => by
          have := hW.look_ok Tryd.underlying51 (zeroNd _) ⟨nd0, rfl⟩ hpl
          unfold nodeG at this
          rw [hlk] at this
          exact this)
        have hl0 : ∀ o, (Instr.lookup 51 (.map (some w.heap.size)) (.string ⟨p.toArray⟩) true).run Tryd.prog (wr.alloc o).drew = .ok (.tuple #[.agg #[.string ⟨m.p.toArray⟩, .int .i64 m.k, .string ⟨m.d.toArray⟩], .bool true]) (wr.alloc o).drew := fun o => HLK.out _ ((HM1.out.alloc o).drew 1)
        have hl1 : ∀ o o2, (Instr.lookup 51 (.map (some w.heap.size)) (.string ⟨p.toArray⟩) true).run Tryd.prog ((wr.alloc o).alloc o2).drew = .ok (.tuple #[.agg #[.string ⟨m.p.toArray⟩, .int .i64 m.k, .string ⟨m.d.toArray⟩], .bool true]) ((wr.alloc o).alloc o2).drew := fun o o2 => HLK.out _ (((HM1.out.alloc o).alloc o2).drew 1)
        clear HGF HGT HSS HTK HLK hlk
        go_wp2_with fail
        go_region
        go_wp2_with fail
        go_ret2
        exact ⟨.inl ⟨HG.out, rfl⟩, below_dr (ext_trans (ext_trans HBL.out (ext_alloc _ _)) (ext_alloc _ _)) 1⟩
      | none =>
        have HLK : Hid (∀ W, MapS isNdV W w.heap.size i (nodeG (ns.take i)) → (Instr.lookup 51 (.map (some w.heap.size)) (.string ⟨p.toArray⟩) true).run Tryd.prog W = .ok (.tuple #[.agg #[.string ⟨#[]⟩, .int .i64 0, .string ⟨#[]⟩], .bool false]) W) := Lib.hid (fun W hW => by
          have := hW.look_ok Tryd.underlying51 (zeroNd _) ⟨nd0, rfl⟩ hpl
          unfold nodeG at this
          rw [hlk] at this
          exact this)
        have hl0 : ∀ o, (Instr.lookup 51 (.map (some w.heap.size)) (.string ⟨p.toArray⟩) true).run Tryd.prog (wr.alloc o).drew = .ok (.tuple #[.agg #[.string ⟨#[]⟩, .int .i64 0, .string ⟨#[]⟩], .bool false]) (wr.alloc o).drew := fun o => HLK.out _ ((HM1.out.alloc o).drew 1)
        have hl1 : ∀ o o2, (Instr.lookup 51 (.map (some w.heap.size)) (.string ⟨p.toArray⟩) true).run Tryd.prog ((wr.alloc o).alloc o2).drew = .ok (.tuple #[.agg #[.string ⟨#[]⟩, .int .i64 0, .string ⟨#[]⟩], .bool false]) ((wr.alloc o).alloc o2).drew := fun o o2 => HLK.out _ (((HM1.out.alloc o).alloc o2).drew 1)
        have HW : Hid (∀ o, Below wr.heap.size wr (((wr.alloc (.cells #[.string ⟨p.toArray⟩, .int .i64 k, .string ⟨d.toArray⟩] 35)).alloc o).drewN 1)) := Lib.hid (fun o => below_dr (ext_trans (ext_alloc _ _) (ext_alloc _ _)) 1)
        have HFT := Lib.hid (fun W hM => fit_any ⟨p, k, d⟩ W hM hpl hdl)
        have HG2 : Hid (updG (nodeG (ns.take i)) p (ndV ⟨p, k, d⟩) = nodeG (ns.take (i + 1))) := Lib.hid (by
          rw [HTK.out]
          exact nodeG_snoc (n := ⟨p, k, d⟩) hlk)
        have HS2 : Hid (fitN ⟨p, k, d⟩ = true → stateOk ns (i + 1)) := Lib.hid (fun h => HSS.out h hlk)
        cases hf : fitN ⟨p, k, d⟩ with
        | false =>
          have HG := Lib.hid (HGF.out hf)
          rw [hf] at HFT
          clear HGF HGT HSS HTK HLK hlk HG2 HS2 hf
          go_wp2_with fail
          go_region
          go_wp2_with fail
          refine (HFT.out _ (HMW.out.below (HW.out _))).mono ?_
          rintro e w2 ⟨rfl, hb⟩
          have HB2 := Lib.hid (ext_trans (ext_trans HBL.out (HW.out _)) hb)
          clear hb
          go_wp2_with fail
          go_ret2
          exact ⟨.inl ⟨HG.out, rfl⟩, HB2.out⟩
        | true =>
          have HS3 := Lib.hid (HS2.out hf)
          rw [hf] at HFT
          clear HGF HGT HSS HTK HLK hlk HS2 hf
          go_wp2_with fail
          go_region
          go_wp2_with fail
          refine (HFT.out _ (HMW.out.below (HW.out _))).mono ?_
          rintro e w2 ⟨rfl, hb⟩
          have HB2 := Lib.hid (ext_trans (HW.out _) hb)
          have hbx : Box w2 wr.heap.size 35 (ndC ⟨p, k, d⟩) := ((((Box.new wr 35 (ndC ⟨p, k, d⟩)).alloc _).drew 1)).below hb (by show wr.heap.size < ((wr.alloc _).alloc _).heap.size; simp; omega)
          clear hb
          have hbt := HBX.out.below HB2.out HBX.out.lt
          obtain ⟨w3, hrun, hm3, hg3⟩ := (((HM1.out.below HB2.out).drew 1)).update Tryd.underlying51 (by omega) hpl (v := ndV ⟨p, k, d⟩) ⟨_, rfl⟩
          have q0 : w2.cell? ⟨wr.heap.size, 0, none⟩ = some (.string ⟨p.toArray⟩) := by rw [hbx.cell]; rfl
          have q1 : w2.cell? ⟨wr.heap.size, 1, none⟩ = some (.int .i64 k) := by rw [hbx.cell]; rfl
          have q2 : w2.cell? ⟨wr.heap.size, 2, none⟩ = some (.string ⟨d.toArray⟩) := by rw [hbx.cell]; rfl
          have q3 : w2.cell? ⟨w.heap.size + 1 + 1, 0, none⟩ = some (.map (some w.heap.size)) := by rw [hbt.cell]; rfl
          have hrun2 : (Instr.mapUpdate 51 (.map (some w.heap.size)) (.string ⟨p.toArray⟩) (.agg #[.string ⟨p.toArray⟩, .int .i64 k, .string ⟨d.toArray⟩])).run Tryd.prog w2.drew = .ok () w3 := hrun
          have HM3 : Hid (MapS isNdV w3 w.heap.size (i + 1) (nodeG (ns.take (i + 1)))) := Lib.hid (by rw [← HG2.out]; exact hm3)
          have HG3 := Lib.hid hg3
          have HBT := Lib.hid hbt
          have HM2' := Lib.hid (HM2.out.below HB2.out)
          clear hrun hm3 hg3 hbx hbt HFT HG2
          go_wp2_with fail
          go_region
          go_wp2_with fail
          refine ⟨⟨i + 1, by omega, by go_num, HS3, Lib.hid (Box.grown (Box.drew HBT.out 1) HG3.out (by simp; omega)), HM3, Lib.hid (((HM2'.out).drew 1).kept HG3.out (by simp)), Lib.hid ?_⟩, by simp [intOf]; omega⟩
          exact (below_dr (ext_trans HBL.out HB2.out) 1).grown HG3.out (by have := (ext_trans HBL.out HB2.out).size; exact this) (fun j hj => by cases hj; exact Nat.le_refl _)
    · obtain rfl : i = ns.length := by omega
      have HS2 : Hid ((∀ n ∈ ns, fitN n = true) ∧ (ns.map (·.p)).Nodup) := Lib.hid (by have := HS.out; unfold stateOk at this; rw [List.take_length] at this; exact this)
      have HM1' : Hid (MapS isNdV wr w.heap.size ns.length (nodeG ns)) := Lib.hid (by have := HM1.out; rw [List.take_length] at this; exact this)
      obtain ⟨w3, hrun, hm3, hg3⟩ := HM1'.out.update Tryd.underlying51 (by omega) (s := [47]) (by decide) (v := ndV rootN) ⟨_, rfl⟩
      have hrun2 : (Instr.mapUpdate 51 (.map (some w.heap.size)) (.string ⟨#[47]⟩) (.agg #[.string ⟨#[47]⟩, .int .i64 2, .string ⟨#[]⟩])).run Tryd.prog wr = .ok () w3 := hrun
      have q0 : wr.cell? ⟨w.heap.size + 1 + 1, 0, none⟩ = some (.map (some w.heap.size)) := by rw [HBX.out.cell]; rfl
      have hbt3 := HBX.out.grown hg3 (by simp; omega)
      have q1 : w3.cell? ⟨w.heap.size + 1 + 1, 0, none⟩ = some (.map (some w.heap.size)) := by rw [hbt3.cell]; rfl
      have HB3 : Hid (Below w.heap.size w w3) := Lib.hid (HBL.out.grown hg3 HBL.out.size (fun j hj => by cases hj; exact Nat.le_refl _))
      have HM2' := Lib.hid (HM2.out.kept hg3 (by simp))
      have HBT3 := Lib.hid hbt3
      obtain ⟨D, hown, hG, hD⟩ := hm3
      have HDM := Lib.hid hD
      have HGV : Hid (Gives D (rootG ns)) := Lib.hid hG
      have HSZ : Hid (Maps.size D ≤ ns.length + 1) := Lib.hid hown.size_le
      clear hrun hg3 hbt3 hG hD HV HS HBX HM1 HM2 HM1' HBL hlt hI hI2 a3 hmm hm0
      go_wp2_with (first | (at_range; refine wpList_range_own _ rfl _ 51 rfl 9 35 lawStr Tryd.underlying51 _ w.heap.size (ns.length + 1) D rfl hown ?_; intro w4 hrg4 hg4 hs4) | go_in)
      go_frame
      obtain ⟨r, hr⟩ : ∃ r, w3.heap.size = r := ⟨_, rfl⟩
      rw [hr] at hrg4
      have hrbt : w.heap.size + 1 + 1 < r := by rw [← hr]; exact HBT3.out.lt
      have HRG := Lib.hid hrg4
      have hbt4 := HBT3.out.grown hg4 (by simp)
      have HBT4 := Lib.hid hbt4
      have HM24 := Lib.hid (HM2'.out.kept hg4 (by simp))
      have HB4 : Hid (Below w.heap.size w w4) := Lib.hid (HB3.out.grown hg4 HB3.out.size (fun j hj => by cases hj))
      obtain ⟨wo, rfl⟩ : ∃ x, x = wr := ⟨_, rfl⟩
      clear hrg4 hg4 hs4 hbt4 hrun2 q0 q1 HB3 HBT3 HM2' hown
      rw [hr]
      clear hr
      go_loopw [61] (fun _ wr => ∃ (left : Lit → Bool) (cnt : Nat) (ms : List Nd) (sl : Value), Hid (wr.ranges Tryd.prog 9 (heldR isNdV) w.heap.size r (ns.length + 1) D left cnt) ∧ Hid (Box wr (w.heap.size + 1 + 1) 59 [.map (some w.heap.size), .map (some (w.heap.size + 1)), sl, .int .i64 0]) ∧ Hid (OwnN wr w.heap.size sl ms) ∧ Hid (Coll (rootG ns) left ms) ∧ ms.length + cnt ≤ ns.length + 1 ∧ Hid (MapS isSlV wr (w.heap.size + 1) 0 (fun _ => none)) ∧ Hid (Below w.heap.size w wr)) (fun _ wr => wr.rangeLeft w.heap.size r)
      case atStart => exact ⟨_, _, [], _, HRG, HBT4, Lib.hid (OwnN.nil _ _), Lib.hid (Coll.start HGV.out), by simpa using HSZ.out, HM24, HB4⟩
      case round =>
        obtain ⟨left, cnt, ms, sl, HR, HBX, HO, HC, hcnt, HM2, HBL⟩ := hrel
        have hsl := HO.out.slice
        obtain ⟨sa, sc, rfl⟩ := hsl
        go_wp2_with (at_next; refine wpList_next_ranges _ rfl _ rfl 9 lawStr (heldR isNdV) encStr ndV (fun key kl hk => by obtain ⟨x, hx, _⟩ := Maps.keyOf_str Tryd.underlying9 hk; exact ⟨x, hx⟩) (fun v y hv => (heldR_some hv).1) w.heap.size r (ns.length + 1) D left cnt rfl HR.out ?_ ?_)
        · intro hc0 hl0
          have hmne : ms ≠ [] := fun e => by
            have := (HC.out.2 rootN).2 ⟨(by unfold rootG updG; exact if_pos rfl), hl0 _⟩
            rw [e] at this; cases this
          have k2 : wr.cell? ⟨w.heap.size + 1 + 1, 2, none⟩ = some (.slice sa ms.length sc) := by rw [HBX.out.cell]; rfl
          have HSO := Lib.hid (sortN_any (.slice sa ms.length sc) ms w.heap.size wr HO.out hmne (by omega))
          have HWH : Hid (∀ ms', ms'.Perm ms → ms'.Pairwise (fun a b => ltS b.p a.p = false) → Whole ns ms') := Lib.hid (fun ms' h1 h2 => HC.out.whole hl0 HS2.out.1 HS2.out.2 h1 h2)
          have HMW : Hid (MapS isNdV wr w.heap.size (ns.length + 1) (rootG ns)) := Lib.hid ⟨D, HR.out.owns, HGV.out, HDM.out⟩
          clear hl0 hmne
          go_wp2_with fail
          refine HSO.out.mono ?_
          rintro e w6 ⟨rfl, ms', hpm, hst, ho6, hg6⟩
          have hW := HWH.out ms' hpm hst
          have hl6 : ms'.length = ms.length := hpm.length_eq
          have hb6 := HBX.out.grown hg6 (HO.out.ne HBX.out)
          have hm16 := HMW.out.kept hg6 (HO.out.ne_map HMW.out)
          have hm26 := HM2.out.kept hg6 (HO.out.ne_map HM2.out)
          rw [whole_root hW HS2.out.1] at hm16
          have HB6 : Hid (Below w.heap.size w w6) := Lib.hid (HBL.out.grown hg6 HBL.out.size (fun k hk => (HO.out.row k hk).1))
          have hnb : ∀ n ∈ ms', n.p.length ≤ 1000000 ∧ n.d.length ≤ 1000000 := fun n hn => by
            rcases (hW.2 n).1 hn with h1 | h1
            · exact HB.out n h1
            · rw [h1]; decide
          have q4 : w6.cell? ⟨w.heap.size + 1 + 1, 2, none⟩ = some (.slice sa ms.length sc) := by rw [hb6.cell]; rfl
          have HLY := Lib.hid (lay_any (w.heap.size + 1 + 1) w.heap.size (w.heap.size + 1) (ns.length + 1) (.slice sa ms.length sc) ms' w6 hb6 hm16 hm26 (by omega) ho6.isNds hnb (by omega))
          have HLG := Lib.hid (laysOk_good hW HS2.out.1 HS2.out.2)
          have HWW := Lib.hid hW
          have HBX6 := Lib.hid hb6
          have HM16 := Lib.hid hm16
          have HM26 := Lib.hid hm26
          have HO6 := Lib.hid ho6
          clear hW hb6 hm16 hm26 ho6 hg6 hpm hst hnb HWH HMW HSO
          go_wp2_with fail
          refine HLY.out.mono ?_
          rintro e w7 ⟨b, rfl, hbi, hg7, hna⟩
          have HB7 : Hid (Below w.heap.size w w7) := Lib.hid (HB6.out.grown hg7 HB6.out.size (fun j hj => by cases hj; omega))
          cases b with
          | false =>
            have HG : Hid (¬ Good ns) := Lib.hid (fun h => by have := hbi.2 (HLG.out.2 h); cases this)
            clear hbi hg7 hna
            go_wp2_with fail
            go_ret2
            exact ⟨.inl ⟨HG.out, rfl⟩, HB7.out⟩
          | true =>
            have HG : Hid (Good ns) := Lib.hid (HLG.out.1 (hbi.1 rfl))
            have HT : Hid (TreeIs w7 (w.heap.size + 1 + 1) ms' 0) := Lib.hid ⟨w.heap.size, w.heap.size + 1, _, _, HBX6.out.grown hg7 (fun e => by injection e with e; omega), HM16.out.kept hg7 (fun e => by injection e with e; omega), hna rfl, (HO6.out.kept hg7 (.inr (Ne.symm (HO6.out.ne_map HM26.out)))).isNds⟩
            clear hbi hg7 hna
            go_wp2_with fail
            go_ret2
            exact ⟨.inr ⟨HG.out, _, ms', rfl, HT.out, HWW.out, by omega⟩, HB7.out⟩
        · intro x c kl yd yp w5 cnt2 hkey hlk hv hat hrg2 hlt hg2 hs2 hen
          obtain rfl := keyStr hkey
          obtain ⟨-, hy⟩ := heldR_some hv
          have hgx : rootG ns x = some (ndV c) := HGV.out.of_at (fun zd => (hat zd).trans (congrArg Prod.fst hy))
          have hcp := rootG_p hgx
          have HC2 := Lib.hid (HC.out.step hgx hcp hlk)
          have HMS := Lib.hid (show wr.rangeLeft w.heap.size r = cnt from HR.out.left_eq)
          have hcnt2 : (ms ++ [c]).length + cnt2 ≤ ns.length + 1 := by rw [List.length_append]; simp; omega
          have hml : ms.length ≤ 10000000 := by omega
          have hO5 := HO.out.kept hg2 (.inr (Ne.symm (HO.out.ne_ranges HR.out).2))
          have hB5 := HBX.out.grown hg2 (fun e => (ranges_ne HR.out HBX.out).2 (by injection e))
          have hM5 := HM2.out.kept hg2 (fun e => by
            obtain ⟨D', ⟨es, clock, hb, -⟩, -⟩ := HM2.out
            obtain ⟨es', clock', since, seen, c0, -, -, -, -, h2, -⟩ := HR.out
            injection e with e
            rw [e] at hb; rw [h2] at hb; cases hb)
          have hBL5 : Below w.heap.size w w5 := HBL.out.grown hg2 HBL.out.size (fun j hj => by injection hj with hj; omega)
          have hen2 : (Instr.entry (.pointer (some ⟨r, 0, none⟩))).run Tryd.prog w5 = .ok (.tuple #[.string ⟨x.toArray⟩, .agg #[.string ⟨c.p.toArray⟩, .int .i64 c.k, .string ⟨c.d.toArray⟩]]) w5 := hen
          have HRG5 := Lib.hid hrg2
          have HB5 := Lib.hid hB5
          have HM5 := Lib.hid hM5
          have HBL5 := Lib.hid hBL5
          have HBW : Hid (Below w5.heap.size w5 ((w5.alloc (.cells (ndC c).toArray 35)).drew)) := Lib.hid (below_dr (ext_alloc _ _) 1)
          have hown := hO5.below HBW.out
          have hsz : w.heap.size ≤ (w5.alloc (.cells (ndC c).toArray 35)).drew.heap.size := Nat.le_trans HBL5.out.size HBW.out.size
          have hbw := HB5.out.below HBW.out HB5.out.lt
          have HBWT := Lib.hid hbw
          have hne := hown.ne hbw
          have HCELL : Hid (∀ w6, ((w5.alloc (.cells (ndC c).toArray 35)).drew).grownBy w6 (Value.slice sa ms.length sc).ownBlock → w6.cell? ⟨w.heap.size + 1 + 1, 2, none⟩ = some (.slice sa ms.length sc) ∧ w6.frozen? ⟨w.heap.size + 1 + 1, 2, none⟩ = false) := Lib.hid (fun w6 hg => by
            have h1 := HBWT.out.grown hg hne
            exact ⟨by rw [h1.cell]; rfl, h1.frozen 2⟩)
          have k0 : ∀ o, (w5.alloc o).cell? ⟨w.heap.size + 1 + 1, 2, none⟩ = some (.slice sa ms.length sc) := fun o => by rw [(HB5.out.alloc o).cell]; rfl
          have k1 : ∀ o o2, ((w5.alloc o).alloc o2).cell? ⟨w.heap.size + 1 + 1, 2, none⟩ = some (.slice sa ms.length sc) := fun o o2 => by rw [((HB5.out.alloc o).alloc o2).cell]; rfl
          have k2 : ∀ o o2, ((w5.alloc o).alloc o2).drew.cell? ⟨w.heap.size + 1 + 1, 2, none⟩ = some (.slice sa ms.length sc) := k1
          have k3 : ∀ o, (w5.alloc o).drew.cell? ⟨w.heap.size + 1 + 1, 2, none⟩ = some (.slice sa ms.length sc) := k0
          have HFIN : Hid (∀ va vc w6, OwnN w6 w.heap.size (.slice va (ms.length + 1) vc) (ms ++ [c]) → ((w5.alloc (.cells (ndC c).toArray 35)).drew).grownBy w6 (Value.slice sa ms.length sc).ownBlock →
              let w7 := w6.setCell ⟨w.heap.size + 1 + 1, 2, none⟩ (.slice va (ms.length + 1) vc)
              w7.ranges Tryd.prog 9 (heldR isNdV) w.heap.size r (ns.length + 1) D (fun z => left z && !z.sameKey (.string x)) cnt2 ∧ Box w7 (w.heap.size + 1 + 1) 59 [.map (some w.heap.size), .map (some (w.heap.size + 1)), .slice va (ms.length + 1) vc, .int .i64 0] ∧ OwnN w7 w.heap.size (.slice va (ms.length + 1) vc) (ms ++ [c]) ∧ MapS isSlV w7 (w.heap.size + 1) 0 (fun _ => none) ∧ Below w.heap.size w w7) := Lib.hid (fun va vc w6 ho hg => by
            have hrgw := HRG5.out.kept (grownBy_below HBW.out none) (by simp) (by simp)
            have hrn := hown.ne_ranges hrgw
            have hrg6 := hrgw.kept hg hrn.1 hrn.2
            have hb6 := HBWT.out.grown hg hne
            have hrb := ranges_ne hrg6 hb6
            have hm6 := (HM5.out.below HBW.out).kept hg (hown.ne_map (HM5.out.below HBW.out))
            have hgs := grownBy_set w6 (w.heap.size + 1 + 1) 2 (.slice va (ms.length + 1) vc)
            refine ⟨hrg6.kept hgs (fun e => hrb.1 (by injection e)) (fun e => hrb.2 (by injection e)), ?_, ho.kept hgs (.inr (ho.ne hb6)), ?_, ?_⟩
            · exact hb6.set 2 (by simp) _
            · exact hm6.kept hgs (by simp)
            · have h1 : Below w.heap.size w w6 := (HBL5.out.trans (HBW.out.mono HBL5.out.size)).grown hg hsz (fun k hk => (hown.row k hk).1)
              exact h1.setCell (by show w.heap.size ≤ w.heap.size + 1 + 1; omega) _)
          clear hkey hv hat hrg2 hg2 hs2 hen hO5 hB5 hM5 hBL5 hbw hne hy hgx hcp hlk hrbt
          go_wp2_with fail
          go_region_law (refine step_appN _ rfl _ _ rfl w.heap.size (.slice sa ms.length sc) ms (by simp [Act.eval, Act.put]) hown c (w5.heap.size + 1) (by simp [Act.eval, Act.put]) (by simp) hml hsz ?_; intro v' w6 hown2 hgr2; obtain ⟨va, vc, hv'⟩ := hown2.slice; subst hv'; obtain ⟨kc, kf⟩ := HCELL.out w6 hgr2)
          all_goals
            have hown3 : OwnN w6 w.heap.size (.slice va (ms.length + 1) vc) (ms ++ [c]) := by
              have h := hown2
              rw [show (ms ++ [c]).length = ms.length + 1 by simp] at h
              exact h
            obtain ⟨f1, f2, f3, f4, f5⟩ := HFIN.out va vc w6 hown3 hgr2
            clear hown3
            have F1 := Lib.hid f1
            have F2 := Lib.hid f2
            have F3 := Lib.hid f3
            have F4 := Lib.hid f4
            have F5 := Lib.hid f5
            clear f1 f2 f3 f4 f5 hown2 hgr2 kc kf HCELL HFIN
            go_wp2_with fail
            exact ⟨⟨_, cnt2, ms ++ [c], _, F1, F2, F3, HC2, hcnt2, F4, F5⟩, by rw [F1.out.left_eq, HMS.out]; exact hlt⟩
end Go.Proofs.YtedfgikikjggaaaDoor
