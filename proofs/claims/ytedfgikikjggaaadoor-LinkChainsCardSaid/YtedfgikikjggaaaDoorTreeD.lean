/- Contracts of strings.Split by one sign, file.Clean. -/
import Derived.Test.YtedfgikikjggaaaDoorTreeA
import Derived.Test.YtedfgikikjggaaaDoorCut
import Derived.Lib.SplitLaws
import Derived.Lib.CountLaws
import Derived.Lib.IndexBytes
import Derived.Shelf.Strings.Split
set_option linter.unusedVariables false
set_option linter.unusedSimpArgs false
namespace Go.Proofs.YtedfgikikjggaaaDoor
open Go.RowKit

theorem byt_of_get {l : Bts} {o : Nat} {c : UInt8} (h : l[o]? = some c) : byt l o = (c.toNat : Int) := by
  unfold byt; rw [List.getD_eq_getElem?_getD, h]; rfl
theorem get_of_byt {l : Bts} {o : Nat} {c : UInt8} (ho : o < l.length) (h : l[o]? ≠ some c) : byt l o ≠ (c.toNat : Int) := by
  unfold byt
  rw [List.getD_eq_getElem?_getD, List.getElem?_eq_getElem ho]
  intro e
  apply h
  rw [List.getElem?_eq_getElem ho]
  congr 1
  apply UInt8.toNat_inj.1
  simp at e
  omega
theorem cutO_iff (l : Bts) (c : UInt8) : (cutO l c = true → splitB (c.toNat : Int) l = cutA l c :: splitB (c.toNat : Int) (cutB l c) ∧ (cutB l c).length < l.length) ∧ (cutO l c = false → splitB (c.toNat : Int) l = [l] ∧ cutA l c = l) := by
  unfold cutO cutA cutB
  constructor
  · intro h
    have h0 : 0 ≤ Lib.indexByte l c := by simpa using h
    rw [if_pos h0, if_pos h0]
    obtain ⟨o, ho⟩ := Int.eq_ofNat_of_zero_le h0
    obtain ⟨h1, h2⟩ := Lib.indexByte_some ho
    have hlt := (List.getElem?_eq_some_iff.1 h1).1
    rw [ho]
    refine ⟨splitB_hit _ o l hlt (fun q hq => get_of_byt (by omega) (h2 q hq)) (byt_of_get h1), ?_⟩
    rw [List.length_drop]
    show l.length - ((o : Int).toNat + 1) < _
    omega
  · intro h
    have h0 : ¬ 0 ≤ Lib.indexByte l c := by simpa using h
    rw [if_neg h0]
    have h1 : Lib.indexByte l c = -1 := by have := Lib.indexByte_ge l c; omega
    have h2 := Lib.indexByte_none h1
    exact ⟨splitB_end _ l fun q hq => get_of_byt hq (h2 q), rfl⟩
theorem splitK_one (c : UInt8) : ∀ (n : Nat) (s : Bts), s.length ≤ n → Lib.splitK [c] 0 (Lib.count s [c]) s = splitB (c.toNat : Int) s := by
  intro n
  induction n with
  | zero =>
    intro s hs
    obtain rfl : s = [] := List.eq_nil_of_length_eq_zero (by omega)
    rfl
  | succ n ih =>
    intro s hs
    have hi := Lib.index_one s c
    rcases Int.lt_or_le (Lib.indexByte s c) 0 with h | h
    · have h1 : Lib.indexByte s c = -1 := by have := Lib.indexByte_ge s c; omega
      rw [h1] at hi
      rw [Lib.count_miss hi, ((cutO_iff s c).2 (by unfold cutO; rw [h1]; rfl)).1]
      rfl
    · obtain ⟨hh, hl⟩ := (cutO_iff s c).1 (decide_eq_true h)
      obtain ⟨o, ho⟩ := Int.eq_ofNat_of_zero_le h
      rw [ho] at hi
      rw [Lib.count_hit (by simp) hi, hh, Nat.add_comm 1]
      unfold Lib.splitK
      rw [hi, if_neg (by simp)]
      have ea : cutA s c = s.take o := by unfold cutA; rw [if_pos h, ho]; rfl
      have eb : cutB s c = s.drop (o + 1) := by unfold cutB; rw [if_pos h, ho]; rfl
      rw [ea, eb]
      rw [eb] at hl
      congr 1
      show Lib.splitK [c] 0 (Lib.count (s.drop (o + 1)) [c]) (s.drop (o + 1)) = _
      exact ih _ (by omega)
/-- Where internal/bytealg.MaxLen lies there is a number. -/
def MaxAt (w : World) : Prop := ∃ m : Int, w.cell? ⟨0, 0, none⟩ = some (.int .i64 m)
theorem MaxAt.below {w w' : World} (h : MaxAt w) (hb : Below w.heap.size w w') : MaxAt w' := by
  obtain ⟨m, h⟩ := h
  exact ⟨m, by rw [hb.cell (p := ⟨_, 0, none⟩) (World.block_lt_of_cell? w _ h)]; exact h⟩
theorem okS16 : (Tryd.prog.info? 9).map (fun i => (i.zero, i.size, i.bytes)) = some (some (.string ByteArray.empty), 1, 16) := by kernel_rfl
theorem Split_any (p : Bts) (c : UInt8) (w : World) (hm : p.length ≤ 1000000) (hM : MaxAt w) :
    Calls Tryd.prog 39 #[.string ⟨p.toArray⟩, .string ⟨#[c]⟩] w fun e w' => ∃ v', e = .returned v' ∧ IsStr w' v' (splitB (c.toNat : Int) p) ∧ Below w.heap.size w w' := by
  obtain ⟨m, hM⟩ := hM
  have hd := Lib.splitB_data ⟨#[c]⟩ 0 (Lib.countB ⟨p.toArray⟩ ⟨#[c]⟩) ⟨p.toArray⟩
  have hd2 : (Lib.splitB ⟨#[c]⟩ 0 (Lib.countB ⟨p.toArray⟩ ⟨#[c]⟩) ⟨p.toArray⟩).map (·.data.toList) = splitB (c.toNat : Int) p := by rw [hd]; exact splitK_one c p.length p (Nat.le_refl _)
  have hl := Lib.splitB_all ⟨#[c]⟩ (Nat.le_refl 1) 0 _ ⟨p.toArray⟩ rfl
  have hl2 := congrArg List.length hd2
  rw [List.length_map, hl] at hl2
  have hle := Lib.countB_le ⟨#[c]⟩ (Nat.le_refl 1) _ ⟨p.toArray⟩ (Nat.le_refl _)
  rw [str_size] at hle
  refine (Tryd.strings_Split ⟨p.toArray⟩ ⟨#[c]⟩ m w (by rw [str_size]; omega) hM (Nat.le_refl 1)).mono ?_
  rintro e w' ⟨rfl, rfl⟩
  refine ⟨_, rfl, ?_, ext_alloc _ _⟩
  have hmap : (Lib.splitB ⟨#[c]⟩ 0 (Lib.countB ⟨p.toArray⟩ ⟨#[c]⟩) ⟨p.toArray⟩).map Value.string = (splitB (c.toNat : Int) p).map strV := by
    rw [← hd2, List.map_map]
    exact List.map_congr_left fun x _ => by show Value.string x = Value.string ⟨x.data.toList.toArray⟩; rw [Array.toArray_toList]
  rw [hmap]
  refine ⟨_, _, by rw [← hl2], by rw [← hl2]; exact Nat.le_refl _, by unfold maxLen; omega, (fun h => by cases h), fun h0 => ⟨_, _, rfl, fun i hi => ?_⟩⟩
  rw [cell_of_row _ w.heap.size (0 + i) _ _ (0, 0) (heap_alloc_new w _), Nat.zero_add]
  have : i < (splitB (c.toNat : Int) p).length := hi
  simp [strAt, strV, List.getD, this]
def mS : Value → Value → Nat
  | .string s, .bool true => s.size + 1
  | _, _ => 0
theorem okPart_cases (s : Bts) : (okPart s = false ∧ (s = [] ∨ s = [46] ∨ s = [46, 46])) ∨ (okPart s = true ∧ s ≠ [] ∧ s ≠ [46] ∧ s ≠ [46, 46]) := by
  unfold okPart
  by_cases h1 : s = []
  · left; simp [h1]
  · by_cases h2 : s = [46]
    · left; simp [h2]
    · by_cases h3 : s = [46, 46]
      · left; simp [h3]
      · right; simp [h1, h2, h3]
set_option maxRecDepth 100000 in
set_option maxHeartbeats 4000000 in
theorem Clean_any (p : Bts) (w : World) (hm : p.length ≤ 1000000) :
    Calls Tryd.prog 37 #[.string ⟨p.toArray⟩] w fun e w' => e = .returned (.bool (cleanL p)) ∧ ∃ n, w' = w.drewN n := by
  have HC := Lib.hid fun w => cutPre_any p 47 w hm
  have HD : Hid (cleanL p = (p == [47] || (p.head? == some 47 && (splitB 47 (p.drop 1)).all okPart))) := Lib.hid rfl
  by_cases h1 : p = [47]
  · have HT : Hid (cleanL p = true) := Lib.hid (by rw [HD.out, h1]; rfl)
    subst h1
    clear HC HD
    go_enter Tryd.func37, Tryd.ntmps37
    go_wp2_with fail
    go_ret
    exact ⟨ret_b HT.out.symm, 0, rfl⟩
  · have e1 : (p == [47]) = false := by rw [beq_eq_false_iff_ne]; exact h1
    cases hh : (p.head? == some 47) with
    | false =>
      have HT : Hid (cleanL p = false) := Lib.hid (by rw [HD.out, e1, hh]; rfl)
      rw [hh] at HC
      have hb : p = [] ∨ ∃ b r, p = b :: r ∧ b ≠ 47 := by
        cases p with
        | nil => exact .inl rfl
        | cons b r => exact .inr ⟨b, r, rfl, fun e => by subst e; simp at hh⟩
      clear HD e1 hh
      rcases hb with rfl | ⟨b, r, rfl, hb⟩
      · go_enter Tryd.func37, Tryd.ntmps37
        go_wp2_with fail
        refine (HC.out _).mono ?_
        rintro e w' ⟨rfl, rfl⟩
        go_wp2_with fail
        go_loopw [3, 4] (fun t3 t4 wr => t4 = .bool false ∧ wr = w) (fun _ _ _ => 0)
        case atStart => exact ⟨rfl, rfl⟩
        case round =>
          obtain ⟨rfl, rfl⟩ := hrel
          go_wp2_with fail
          go_ret
          exact ⟨ret_b HT.out.symm, 0, rfl⟩
      · have e3 : (b == 47) = false := by rw [beq_eq_false_iff_ne]; exact hb
        have e4 : ¬ (b.toNat : Int) = 47 := fun e => hb (UInt8.toNat_inj.1 (by show b.toNat = 47; omega))
        go_enter Tryd.func37, Tryd.ntmps37
        go_wp2_with fail
        refine (HC.out _).mono ?_
        rintro e w' ⟨rfl, rfl⟩
        go_wp2_with fail
        go_loopw [3, 4] (fun t3 t4 wr => t4 = .bool false ∧ wr = w) (fun _ _ _ => 0)
        case atStart => exact ⟨rfl, rfl⟩
        case round =>
          obtain ⟨rfl, rfl⟩ := hrel
          go_wp2_with fail
          go_ret
          exact ⟨ret_b (by rw [HT.out, beq_eq_false_iff_ne]; exact e4), 0, rfl⟩
    | true =>
      obtain ⟨r0, rfl⟩ := cons_of_head (by simpa using hh)
      have HT : Hid (cleanL (47 :: r0) = (splitB 47 r0).all okPart) := Lib.hid (by rw [HD.out, e1]; rfl)
      rw [hh] at HC
      have HC2 : Hid (∀ w, Calls Tryd.prog 54 #[.string ⟨(47 :: r0).toArray⟩, .string ⟨#[47]⟩] w fun e w' => e = .returned (.tuple #[.string ⟨r0.toArray⟩, .bool true]) ∧ w = w') := Lib.hid HC.out
      have hml : r0.length ≤ 1000000 := by simp at hm; omega
      clear HC HD hh
      have e5 : (47 :: r0 == [47]) = false := e1
      clear e1
      go_enter Tryd.func37, Tryd.ntmps37
      go_wp2_with fail
      refine (HC2.out _).mono ?_
      rintro e w' ⟨rfl, rfl⟩
      go_wp2_with fail
      go_loopw [3, 4] (fun t3 t4 wr => ∃ (r : Bts) (ok : Bool), t3 = .string ⟨r.toArray⟩ ∧ t4 = .bool ok ∧ r.length ≤ 1000000 ∧ Hid ((ok = true → (splitB 47 r0).all okPart = (splitB 47 r).all okPart) ∧ (ok = false → (splitB 47 r0).all okPart = true)) ∧ ∃ m, wr = w.drewN m) (fun t3 t4 _ => mS t3 t4)
      case atStart => exact ⟨r0, true, rfl, rfl, hml, Lib.hid ⟨fun _ => rfl, fun h => by cases h⟩, 0, rfl⟩
      case round =>
        obtain ⟨r, ok, rfl, rfl, hr, HI, m, rfl⟩ := hrel
        cases ok with
        | false =>
          have HF : Hid (cleanL (47 :: r0) = true) := Lib.hid (by rw [HT.out]; exact HI.out.2 rfl)
          have hl1 : (0 : Int) < (r0.length : Int) + 1 := by omega
          clear HI HT HC2
          go_wp2_with fail
          go_ret
          exact ⟨ret_b HF.out.symm, _, rfl⟩
        | true =>
          have HS := Lib.hid (cutO_iff r 47)
          have HCC := Lib.hid (fun w => cut_any r 47 w hr)
          have HL : Hid ((cutB r 47).length ≤ r.length) := Lib.hid (by
            unfold cutB; split
            · rw [List.length_drop]; omega
            · exact Nat.zero_le _)
          have HI1 := Lib.hid (HI.out.1 rfl)
          clear HI
          generalize cutA r 47 = A at *
          generalize cutB r 47 = B at *
          generalize cutO r 47 = O at *
          have HO : Hid ((splitB 47 r).all okPart = (okPart A && (if O = true then (splitB 47 B).all okPart else true))) := Lib.hid (by
            cases O with
            | true =>
              have := (HS.out.1 rfl).1
              rw [show splitB 47 r = A :: splitB 47 B from this, List.all_cons]; rfl
            | false =>
              obtain ⟨q1, q2⟩ := HS.out.2 rfl
              rw [show splitB 47 r = [r] from q1, q2]; simp)
          have HB : Hid (B.length ≤ 1000000) := Lib.hid (Nat.le_trans HL.out hr)
          rcases okPart_cases A with ⟨ho, hA⟩ | ⟨ho, hA1, hA2, hA3⟩
          · have HF : Hid (cleanL (47 :: r0) = false) := Lib.hid (by rw [HT.out, HI1.out, HO.out, ho]; rfl)
            clear HO HI1 HT HS HL HB ho HC2
            rcases hA with rfl | rfl | rfl
            all_goals
              go_wp2_with fail
              refine (HCC.out _).mono ?_
              rintro e w' ⟨rfl, n2, rfl⟩
              go_wp2_with fail
              go_ret
              exact ⟨ret_b HF.out.symm, _, by first | rfl | (rw [World.drewN_drewN])⟩
          · have HN : Hid ((O = true → (splitB 47 r0).all okPart = (splitB 47 B).all okPart) ∧ (O = false → (splitB 47 r0).all okPart = true)) := Lib.hid (by
              rw [HI1.out, HO.out, ho]
              cases O <;> simp)
            have HM : Hid (O = true → B.length < r.length) := Lib.hid (fun h => (HS.out.1 h).2)
            have hB := HB.out
            have b1 : (A == []) = false := by rw [beq_eq_false_iff_ne]; exact hA1
            have b2 : (A == [46]) = false := by rw [beq_eq_false_iff_ne]; exact hA2
            have b3 : (A == [46, 46]) = false := by rw [beq_eq_false_iff_ne]; exact hA3
            have b4 : A.isEmpty = false := by cases A with | nil => exact absurd rfl hA1 | cons => rfl
            clear HO HI1 HT HS HL HB ho HC2 hA1 hA2 hA3
            go_wp2_with fail
            refine (HCC.out _).mono ?_
            rintro e w' ⟨rfl, n2, rfl⟩
            go_wp2_with fail
            refine ⟨⟨B, O, rfl, rfl, hB, HN, _, by first | rfl | (rw [World.drewN_drewN])⟩, ?_⟩
            cases O with
            | true => have := HM.out rfl; simp [mS, ByteArray.size]; omega
            | false => simp [mS]
end Go.Proofs.YtedfgikikjggaaaDoor
