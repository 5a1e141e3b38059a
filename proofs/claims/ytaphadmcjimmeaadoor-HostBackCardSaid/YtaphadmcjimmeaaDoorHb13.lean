import Derived.Lib.LastIndexByte
import Derived.Lib.IndexLaws
import Derived.IntWalk
import Derived.Test.YtaphadmcjimmeaaDoorHb8
import Derived.Test.YtaphadmcjimmeaaDoorHb10
import Derived.Test.YtaphadmcjimmeaaDoorHb12
set_option linter.unusedVariables false
set_option linter.unusedSimpArgs false
namespace Go.Proofs.YtaphadmcjimmeaaDoor
open Go.RowKit
def lastK (l : List UInt8) : Nat := (Lib.lastIndexByte ⟨l.toArray⟩ 46 + 1).toNat
theorem data_at (l : List UInt8) (j : Nat) (h : j < l.length) : ((((⟨l.toArray⟩ : ByteArray).data[j]!).toNat : Int)) = byt l j := by
  have h2 : j < l.toArray.size := by simpa using h
  show ((l.toArray[j]!).toNat : Int) = _
  rw [getElem!_pos l.toArray j h2]
  unfold byt
  simp [List.getD, h]
theorem lastK_spec (l : List UInt8) : lastK l ≤ l.length ∧ (lastK l = 0 ∨ byt l (lastK l - 1) = 46) ∧ (∀ j, lastK l ≤ j → j < l.length → byt l j ≠ 46) ∧ Lib.lastIndexByte ⟨l.toArray⟩ 46 = (lastK l : Int) - 1 := by
  have hs : (⟨l.toArray⟩ : ByteArray).size = l.length := str_size l
  rcases Lib.lastIdx_spec ⟨l.toArray⟩ 46 l.length with ⟨h1, h2⟩ | ⟨i, h1, h2, h3, h4⟩
  · have e : Lib.lastIndexByte ⟨l.toArray⟩ 46 = -1 := by unfold Lib.lastIndexByte; rw [hs]; exact h1
    have ek : lastK l = 0 := by unfold lastK; rw [e]; rfl
    refine ⟨by omega, .inl ek, fun j _ hj => ?_, by rw [e, ek]; rfl⟩
    rw [← data_at l j hj]; exact h2 j hj
  · have e : Lib.lastIndexByte ⟨l.toArray⟩ 46 = i := by unfold Lib.lastIndexByte; rw [hs]; exact h2
    have ek : lastK l = i + 1 := by unfold lastK; rw [e]; omega
    refine ⟨by omega, .inr ?_, fun j hj hj2 => ?_, by rw [e, ek]; omega⟩
    · rw [ek, show i + 1 - 1 = i from rfl, ← data_at l i h1]; exact h3
    · rw [← data_at l j hj2]; exact h4 j (by omega) hj2
theorem splitB_yes {c : Int} {b : UInt8} (hb : (b.toNat : Int) = c) (t : List UInt8) : splitB c (b :: t) = [] :: splitB c t := by
  conv => lhs; unfold splitB
  rw [if_pos hb]
theorem splitB_no {c : Int} {b : UInt8} (hb : (b.toNat : Int) ≠ c) {t : List UInt8} {p : List UInt8} {ps : List (List UInt8)} (h : splitB c t = p :: ps) : splitB c (b :: t) = (b :: p) :: ps := by
  conv => lhs; unfold splitB
  rw [if_neg hb, h]
theorem splitB_joins (c : Int) (b : UInt8) (hb : (b.toNat : Int) = c) (m : List UInt8) : ∀ (l : List UInt8), splitB c (l ++ b :: m) = splitB c l ++ splitB c m := by
  intro l
  induction l with
  | nil => exact splitB_yes hb m
  | cons x t ih =>
    show splitB c (x :: (t ++ b :: m)) = _
    by_cases hx : (x.toNat : Int) = c
    · rw [splitB_yes hx, splitB_yes hx, ih]; rfl
    · cases h : splitB c t with
      | nil => exact absurd h (splitB_ne c t)
      | cons p ps =>
        rw [splitB_no hx h]
        exact splitB_no hx (by rw [ih, h]; rfl)
theorem splitB_lastK (l : List UInt8) : (splitB 46 l).getLastD [] = l.drop (lastK l) := by
  obtain ⟨h1, h2, h3, -⟩ := lastK_spec l
  have hend : splitB 46 (l.drop (lastK l)) = [l.drop (lastK l)] := splitB_end 46 _ (fun q hq => by
    have hq2 : lastK l + q < l.length := by simp at hq; omega
    have := h3 (lastK l + q) (by omega) hq2
    rwa [← byt_drop l (lastK l) q] at this)
  rcases h2 with h2 | h2
  · rw [h2, List.drop_zero] at hend ⊢
    rw [hend]; rfl
  · by_cases h0 : lastK l = 0
    · rw [h0, List.drop_zero] at hend ⊢
      rw [hend]; rfl
    · have hk : lastK l - 1 < l.length := by omega
      have e : l = l.take (lastK l - 1) ++ (l[lastK l - 1]'hk) :: l.drop (lastK l) := by
        have h4 : l.drop (lastK l - 1) = (l[lastK l - 1]'hk) :: l.drop (lastK l - 1 + 1) := List.drop_eq_getElem_cons hk
        rw [show lastK l - 1 + 1 = lastK l by omega] at h4
        rw [← h4, List.take_append_drop]
      have hb : ((l[lastK l - 1]'hk).toNat : Int) = 46 := by
        rw [← h2]; unfold byt; simp [List.getD, hk]
      generalize hd : l.drop (lastK l) = d at *
      generalize l[lastK l - 1]'hk = b at *
      generalize l.take (lastK l - 1) = p at *
      rw [e, splitB_joins 46 b hb d p, hend]
      simp
def endsB (t : List UInt8) : Bool := if hexP t = true then onlyB 16 (t.drop 2) else decide (0 < t.length) && onlyB 10 t
def cutO (l : List UInt8) (c : UInt8) : Bool := decide (0 ≤ Lib.indexByte l c)
def cutA (l : List UInt8) (c : UInt8) : List UInt8 := if 0 ≤ Lib.indexByte l c then l.take (Lib.indexByte l c).toNat else l
def cutB (l : List UInt8) (c : UInt8) : List UInt8 := if 0 ≤ Lib.indexByte l c then l.drop ((Lib.indexByte l c).toNat + 1) else []
theorem indexByte_lt (l : List UInt8) (c : UInt8) : -1 ≤ Lib.indexByte l c ∧ Lib.indexByte l c < l.length := by
  refine ⟨Lib.indexByte_ge l c, ?_⟩
  rcases Int.lt_or_le (Lib.indexByte l c) 0 with h | h
  · omega
  · obtain ⟨o, ho⟩ := Int.eq_ofNat_of_zero_le h
    have h1 := (Lib.indexByte_some ho).1
    have := (List.getElem?_eq_some_iff.1 h1).1
    omega
theorem tupSSB {a b a' b' : List UInt8} {c c' : Bool} (h1 : a = a') (h2 : b = b') (h3 : c = c') : Ending.returned (.tuple #[.string ⟨a.toArray⟩, .string ⟨b.toArray⟩, .bool c]) = .returned (.tuple #[.string ⟨a'.toArray⟩, .string ⟨b'.toArray⟩, .bool c']) := by rw [h1, h2, h3]
set_option maxHeartbeats 1000000 in
theorem lcut_any (l : List UInt8) (c : UInt8) (w : World) (hm : l.length ≤ 1000000) :
    Calls Tryd.prog 61 #[.string ⟨l.toArray⟩, .string ⟨#[c]⟩] w fun e w' => e = .returned (.tuple #[.string ⟨(cutA l c).toArray⟩, .string ⟨(cutB l c).toArray⟩, .bool (cutO l c)]) ∧ ∃ n, w' = w.drewN n := by
  obtain ⟨h1, h2⟩ := indexByte_lt l c
  have HI : Hid (∀ w, Calls Tryd.prog 72 #[.string ⟨l.toArray⟩, .string ⟨#[c]⟩] w fun e w' => e = .returned (.int .i64 (Lib.indexByte l c)) ∧ w = w') := Lib.hid (fun w => (Tryd.stringslite_Index_one ⟨l.toArray⟩ c w).mono (fun _ _ ⟨p, q⟩ => ⟨p, q.symm⟩))
  by_cases h0 : 0 ≤ Lib.indexByte l c
  · have HA : Hid (cutA l c = l.take (Lib.indexByte l c).toNat) := Lib.hid (by unfold cutA; rw [if_pos h0])
    have HB : Hid (cutB l c = l.drop ((Lib.indexByte l c).toNat + 1)) := Lib.hid (by unfold cutB; rw [if_pos h0])
    have HO : Hid (cutO l c = true) := Lib.hid (decide_eq_true h0)
    obtain ⟨k, hk⟩ := Int.eq_ofNat_of_zero_le h0
    rw [hk] at HA HB HI h1 h2
    clear h0 hk
    have HK : Hid ((k : Int).toNat = k) := Lib.hid (by omega)
    go_enter Tryd.func61, Tryd.ntmps61
    go_wp2_with fail
    refine (HI.out _).mono ?_
    rintro e w' ⟨rfl, rfl⟩
    go_wp2_with fail
    have g1 : IntKind.i64.wrap ((k : Int) + 1) = (k : Int) + 1 := IntWalk.i64_in _ (by omega)
    have g2 : (0 : Int) ≤ (k : Int) + 1 := by omega
    have g3 : ((k : Int) + 1).toNat = k + 1 := by omega
    have g4 : (k : Int) + 1 ≤ l.length := by omega
    have g5 : k + 1 ≤ l.length := by omega
    go_quiet (fail)
    go_wp2
    go_ret3
    refine ⟨tupSSB ?_ ?_ ?_, ?_⟩
    · rw [HA.out, HK.out]
    · rw [HB.out, HK.out]
    · rw [HO.out]
    · first | exact ⟨_, rfl⟩ | trivial
  · have HA : Hid (cutA l c = l) := Lib.hid (by unfold cutA; rw [if_neg h0])
    have HB : Hid (cutB l c = []) := Lib.hid (by unfold cutB; rw [if_neg h0])
    have HO : Hid (cutO l c = false) := Lib.hid (decide_eq_false h0)
    generalize Lib.indexByte l c = k at *
    go_enter Tryd.func61, Tryd.ntmps61
    go_wp2_with fail
    refine (HI.out _).mono ?_
    rintro e w' ⟨rfl, rfl⟩
    go_wp2_with fail
    go_ret3
    refine ⟨tupSSB HA.out.symm HB.out.symm HO.out.symm, ?_⟩
    first | exact ⟨0, rfl⟩ | trivial
set_option maxHeartbeats 1000000 in
theorem cut_any (l : List UInt8) (c : UInt8) (w : World) (hm : l.length ≤ 1000000) :
    Calls Tryd.prog 44 #[.string ⟨l.toArray⟩, .string ⟨#[c]⟩] w fun e w' => e = .returned (.tuple #[.string ⟨(cutA l c).toArray⟩, .string ⟨(cutB l c).toArray⟩, .bool (cutO l c)]) ∧ ∃ n, w' = w.drewN n := by
  have HC := Lib.hid (lcut_any l c · hm)
  go_enter Tryd.func44, Tryd.ntmps44
  go_wp2_with fail
  refine (HC.out _).mono ?_
  rintro e w' ⟨rfl, n, rfl⟩
  go_wp2
  go_ret3
  exact ⟨tupSSB rfl rfl rfl, n, rfl⟩
set_option maxHeartbeats 1000000 in
theorem Ends_any (l : List UInt8) (w : World) (hm : l.length ≤ 1000000) :
    Calls Tryd.prog 23 #[.string ⟨l.toArray⟩] w fun e w' => e = .returned (.bool (endsB ((trimL l).drop (lastK (trimL l))))) ∧ w = w' := by
  have htl : (trimL l).length ≤ l.length := by unfold trimL; split <;> simp
  have HT := Lib.hid (trim_any l · hm)
  obtain ⟨s, hs⟩ : ∃ s, trimL l = s := ⟨_, rfl⟩
  rw [hs] at HT htl
  rw [hs]
  clear hs
  obtain ⟨k1, -, -, k4⟩ := lastK_spec s
  have HI : Hid (∀ w, Calls Tryd.prog 41 #[.string ⟨s.toArray⟩, .int .u8 46] w fun e w' => e = .returned (.int .i64 ((lastK s : Int) - 1)) ∧ w = w') := Lib.hid (fun w => by
    rw [← k4]
    exact (Tryd.strings_LastIndexByte ⟨s.toArray⟩ 46 (by rw [str_size]; omega) w).mono (fun _ _ ⟨p, q⟩ => ⟨p, q.symm⟩))
  clear k4
  obtain ⟨k, hk⟩ : ∃ k, lastK s = k := ⟨_, rfl⟩
  rw [hk] at HI k1
  rw [hk]
  clear hk
  have c1 : IntKind.i64.wrap ((k : Int) - 1 + 1) = (k : Int) := by rw [IntWalk.i64_in _ (by omega)]; omega
  have c2 : (k : Int) - 1 + 1 = (k : Int) := by omega
  obtain ⟨t, ht⟩ : ∃ t, s.drop k = t := ⟨_, rfl⟩
  have htl2 : t.length ≤ 1000000 := by rw [← ht]; simp; omega
  have HD := Lib.hid ht
  rw [ht]
  clear ht
  have HR := Lib.hid (hexRest_any t · htl2)
  cases hp : hexP t with
  | true =>
    have HR2 : Hid (hexR t = t.drop 2) := Lib.hid (by unfold hexR; rw [if_pos hp])
    have HE : Hid (endsB t = onlyB 16 (t.drop 2)) := Lib.hid (by unfold endsB; rw [if_pos hp])
    rw [hp, HR2.out] at HR
    rw [HE.out]
    have HO := Lib.hid (only_any (t.drop 2) 16 · (by simp; omega) (by decide) (by decide))
    obtain ⟨d, hd⟩ : ∃ d, t.drop 2 = d := ⟨_, rfl⟩
    rw [hd] at HO HR
    rw [hd]
    clear hp HR2 HE hd
    go_enter Tryd.func23, Tryd.ntmps23
    go_wp2_with fail
    refine (HT.out _).mono ?_
    rintro e w' ⟨rfl, rfl⟩
    go_wp2_with fail
    refine (HI.out _).mono ?_
    rintro e w' ⟨rfl, rfl⟩
    go_wp2_with fail
    rw [HD.out]
    refine (HR.out _).mono ?_
    rintro e w' ⟨rfl, rfl⟩
    go_wp2_with fail
    refine (HO.out _).mono ?_
    rintro e w' ⟨rfl, rfl⟩
    go_wp2_with fail
    go_ret
    exact ⟨rfl, by trivial⟩
  | false =>
    have HR2 : Hid (hexR t = []) := Lib.hid (by unfold hexR; rw [if_neg (by rw [hp]; simp)])
    have HE : Hid (endsB t = (decide (0 < t.length) && onlyB 10 t)) := Lib.hid (by unfold endsB; rw [if_neg (by rw [hp]; simp)])
    rw [hp, HR2.out] at HR
    rw [HE.out]
    have HO := Lib.hid (only_any t 10 · htl2 (by decide) (by decide))
    clear hp HR2 HE
    by_cases h0 : t = []
    · subst h0
      go_enter Tryd.func23, Tryd.ntmps23
      go_wp2_with fail
      refine (HT.out _).mono ?_
      rintro e w' ⟨rfl, rfl⟩
      go_wp2_with fail
      refine (HI.out _).mono ?_
      rintro e w' ⟨rfl, rfl⟩
      go_wp2_with fail
      rw [HD.out]
      refine (HR.out _).mono ?_
      rintro e w' ⟨rfl, rfl⟩
      go_wp2_with fail
      go_ret
      exact ⟨rfl, by trivial⟩
    · have hlen : 0 < t.length := List.length_pos_iff.2 h0
      have g1 : (t == []) = false := by rw [beq_eq_false_iff_ne]; exact h0
      have g2 : t.isEmpty = false := by rw [List.isEmpty_eq_false_iff]; exact h0
      rw [decide_eq_true hlen, Bool.true_and]
      clear h0
      go_enter Tryd.func23, Tryd.ntmps23
      go_wp2_with fail
      refine (HT.out _).mono ?_
      rintro e w' ⟨rfl, rfl⟩
      go_wp2_with fail
      refine (HI.out _).mono ?_
      rintro e w' ⟨rfl, rfl⟩
      go_wp2_with fail
      rw [HD.out]
      refine (HR.out _).mono ?_
      rintro e w' ⟨rfl, rfl⟩
      go_wp2_with fail
      refine (HO.out _).mono ?_
      rintro e w' ⟨rfl, rfl⟩
      go_wp2_with fail
      go_ret
      exact ⟨rfl, by trivial⟩
theorem index_mem (l : List UInt8) (c : UInt8) : (0 ≤ Lib.indexByte l c) ↔ c ∈ l := by
  constructor
  · intro h
    obtain ⟨o, ho⟩ := Int.eq_ofNat_of_zero_le h
    exact List.mem_of_getElem? (Lib.indexByte_some ho).1
  · intro h
    have hge := Lib.indexByte_ge l c
    rcases Int.lt_or_le (Lib.indexByte l c) 0 with h2 | h2
    · have := Lib.indexByte_none (show Lib.indexByte l c = -1 by omega)
      obtain ⟨k, hk⟩ := List.mem_iff_getElem?.1 h
      exact absurd hk (this k)
    · exact h2
theorem tupSBp {s : List UInt8} {b : Bool} {s' : List UInt8} {b' : Bool} (h1 : s = s') (h2 : b = b') : Ending.returned (.tuple #[.string ⟨s.toArray⟩, .bool b]) = .returned (.tuple #[.string ⟨s'.toArray⟩, .bool b']) := by rw [h1, h2]
set_option maxHeartbeats 1000000 in
theorem more_any (k : Int) (w : World) (h0 : -9223372036854775808 ≤ k) (h1 : k ≤ 9223372036854775807) :
    Calls Tryd.prog 27 #[.int .i64 k] w fun e w' => e = .returned (.tuple #[.string ⟨(moreS k).toArray⟩, .bool (moreOk k)]) ∧ w = w' := by
  have HO := Lib.hid (@moreOk_t k)
  have HF := Lib.hid (@moreOk_f k)
  go_enter Tryd.func27, Tryd.ntmps27
  go_wp2
  all_goals
    go_ret2
    try simp only [beq_iff_eq, beq_eq_false_iff_ne] at *
    refine ⟨tupSBp ?_ ?_, by trivial⟩
    · unfold moreS
      first
        | (subst_vars; rfl)
        | (repeat rw [if_neg (by omega)])
    · first | exact (HO.out (by omega)).symm | exact (HF.out (by omega)).symm
set_option maxHeartbeats 1000000 in
theorem in_any (has : List UInt8) (r : Int) (w : World) (h0 : -2147483648 ≤ r) (h1 : r ≤ 2147483647) :
    Calls Tryd.prog 28 #[.string ⟨has.toArray⟩, .int .i32 r] w fun e w' => e = .returned (.bool (inB has r)) ∧ w = w' := by
  by_cases c1 : r < 0 ∨ 1114111 < r
  · have HR := Lib.hid (inB_out (has := has) c1)
    rcases c1 with c1 | c1
    all_goals
      go_enter Tryd.func28, Tryd.ntmps28
      go_wp2_with fail
      go_ret
      exact ⟨ret_b HR.out.symm, by trivial⟩
  by_cases c2 : r < 32 ∨ 126 < r
  · have HR := Lib.hid (inB_high (has := has) (r := r) (by omega) (by omega) c2)
    have c3 : 0 ≤ r := by omega
    have c4 : r ≤ 1114111 := by omega
    rcases c2 with c2 | c2
    all_goals
      go_enter Tryd.func28, Tryd.ntmps28
      go_wp2_with fail
      go_ret
      exact ⟨ret_b HR.out.symm, by trivial⟩
  · have c3 : 32 ≤ r := by omega
    have c4 : r ≤ 126 := by omega
    have HR := Lib.hid (inB_mid (has := has) c3 c4)
    have HM := Lib.hid (index_mem has (mkB r))
    clear c1 c2
    go_enter Tryd.func28, Tryd.ntmps28
    go_wp2_with (go_at_call 53; refine (Tryd.strings_IndexByte ⟨has.toArray⟩ r _).mono ?_; rintro e w' ⟨rfl, rfl⟩)
    all_goals
      go_ret
      refine ⟨ret_b ?_, by trivial⟩
      rw [HR.out, Bool.eq_iff_iff]
      simp only [decide_eq_true_eq]
      exact HM.out
end Go.Proofs.YtaphadmcjimmeaaDoor
