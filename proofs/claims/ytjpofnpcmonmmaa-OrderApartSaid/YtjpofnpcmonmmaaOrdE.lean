/- Contracts of ref2.Compare and Points, of law0.Units. -/
import Derived.Test.YtjpofnpcmonmmaaOrdD
import Derived.Test.YtjpofnpcmonmmaaRefD
set_option linter.unusedVariables false
set_option linter.unusedSimpArgs false
namespace Go.Proofs.Ytjpofnpcmonmmaa
open Go.RowKit

theorem cmpL_step (a b : List Int) (i : Nat) (ha : i < a.length) (hb : i < b.length) : cmpL (a.drop i) (b.drop i) = if a.getD i 0 = b.getD i 0 then cmpL (a.drop (i + 1)) (b.drop (i + 1)) else cmpI (a.getD i 0) (b.getD i 0) := by
  rw [List.drop_eq_getElem_cons ha, List.drop_eq_getElem_cons hb]
  rw [List.getD_eq_getElem?_getD, List.getElem?_eq_getElem ha, List.getD_eq_getElem?_getD, List.getElem?_eq_getElem hb]
  rfl
theorem cmpL_end (a b : List Int) (i : Nat) (ha : i ≤ a.length) (hb : i ≤ b.length) (h : i = a.length ∨ i = b.length) : cmpL (a.drop i) (b.drop i) = cmpI a.length b.length := by
  by_cases h1 : i = a.length <;> by_cases h2 : i = b.length
  · rw [List.drop_eq_nil_of_le (by omega), List.drop_eq_nil_of_le (by omega), show (a.length : Int) = b.length from by omega, cmpI_self]; rfl
  · rw [List.drop_eq_nil_of_le (by omega), List.drop_eq_getElem_cons (show i < b.length by omega), cmpL_nil_l]
    unfold cmpI; rw [if_pos (by omega)]
  · rw [show b.drop i = [] from List.drop_eq_nil_of_le (by omega), List.drop_eq_getElem_cons (show i < a.length by omega), cmpL_nil_r]
    unfold cmpI; rw [if_neg (by omega), if_pos (by omega)]
  · omega
set_option maxRecDepth 100000 in
set_option maxHeartbeats 2000000 in
theorem rCompare_any (a b : List UInt8) (w : World) (hma : a.length ≤ 1000000) (hmb : b.length ≤ 1000000) :
    Calls Try.prog 16 #[.string ⟨a.toArray⟩, .string ⟨b.toArray⟩] w fun e w' => e = .returned (.int .i64 (cmpS a b)) ∧ Below w.heap.size w w' := by
  have hba : ∀ i, i < (unitsL (decL a)).length → 0 ≤ (unitsL (decL a)).getD i 0 ∧ (unitsL (decL a)).getD i 0 ≤ 1114111 := fun i hi => by have := unitsS_bd a i hi; omega
  have hbb : ∀ i, i < (unitsL (decL b)).length → 0 ≤ (unitsL (decL b)).getD i 0 ∧ (unitsL (decL b)).getD i 0 ≤ 1114111 := fun i hi => by have := unitsS_bd b i hi; omega
  have CA := Lib.hid (rUnits_any a · hma)
  have CB := Lib.hid (rUnits_any b · hmb)
  have hlA := unitsS_len a
  have hlB := unitsS_len b
  unfold cmpS
  generalize unitsL (decL a) = A at *
  generalize unitsL (decL b) = B at *
  go_enter Try.func16, Try.ntmps16
  go_wp2_with fail
  refine (CA.out _).mono ?_
  rintro e w3 ⟨va, rfl, hoa, hb3⟩
  go_wp2_with fail
  refine (CB.out _).mono ?_
  rintro e w4 ⟨vb, rfl, hob, hb4⟩
  have HB := Lib.hid (ext_trans hb3 hb4)
  have hsa := hoa.is16.below hb4
  have hsb := hob.is16
  clear hoa hob hb3 hb4
  have HBA : Hid (∀ i, i < A.length → 0 ≤ A.getD i 0 ∧ A.getD i 0 ≤ 1114111) := Lib.hid hba
  have HBB : Hid (∀ i, i < B.length → 0 ≤ B.getD i 0 ∧ B.getD i 0 ≤ 1114111) := Lib.hid hbb
  clear hba hbb
  obtain ⟨pa, ca, rfl, qa1, qa2, -, qa3⟩ := hsa
  obtain ⟨pb, cb, rfl, qb1, qb2, -, qb3⟩ := hsb
  unfold maxLen at qa2 qb2
  have HCA : Hid (0 < A.length → ∃ b off, pa = some ⟨b, off, none⟩ ∧ Cells w4 b off A.length (u16At A)) := Lib.hid qa3
  have HCB : Hid (0 < B.length → ∃ b off, pb = some ⟨b, off, none⟩ ∧ Cells w4 b off B.length (u16At B)) := Lib.hid qb3
  clear qa3 qb3
  go_wp2_with fail
  go_loopw [7] (fun ti wr => ∃ i : Nat, i ≤ A.length ∧ i ≤ B.length ∧ ti = .int .i64 i ∧ Hid (cmpL A B = cmpL (A.drop i) (B.drop i)) ∧ ∃ n, wr = w4.drewN n) (fun ti _ => A.length - (intOf ti).toNat)
  case atStart => exact ⟨0, by omega, by omega, rfl, Lib.hid rfl, 0, rfl⟩
  case round =>
    obtain ⟨i, hia, hib, rfl, HI, n, rfl⟩ := hrel
    by_cases hx : i < A.length
    · have hxI : (i : Int) < (A.length : Int) := by omega
      by_cases hy : i < B.length
      · have hyI : (i : Int) < (B.length : Int) := by omega
        obtain ⟨b, off, rfl, hc⟩ := HCA.out (by omega)
        obtain ⟨b', off', rfl, hc'⟩ := HCB.out (by omega)
        have h1 : w4.cell? ⟨b, off + i, none⟩ = some (.int .u16 (A.getD i 0)) := hc.at i hx
        have h2 : w4.cell? ⟨b', off' + i, none⟩ = some (.int .u16 (B.getD i 0)) := hc'.at i hy
        obtain ⟨x0, x1⟩ := HBA.out i hx
        obtain ⟨y0, y1⟩ := HBB.out i hy
        have HST := Lib.hid (HI.out.trans (cmpL_step A B i hx hy))
        clear hc hc' HCA HCB HBA HBB
        obtain ⟨x, hx'⟩ : ∃ x, A.getD i 0 = x := ⟨_, rfl⟩
        obtain ⟨y, hy'⟩ : ∃ y, B.getD i 0 = y := ⟨_, rfl⟩
        rw [hx'] at h1 x0 x1 HST
        rw [hy'] at h2 y0 y1 HST
        clear hx' hy'
        by_cases hxy : x = y
        · have e0 : (x == y) = true := by rw [beq_iff_eq]; exact hxy
          have e1 : (x != y) = false := by rw [bne, e0]; rfl
          have H1 : Hid (cmpL A B = cmpL (A.drop (i + 1)) (B.drop (i + 1))) := Lib.hid (by have := HST.out; rw [if_pos hxy] at this; exact this)
          clear hxy
          go_wp2_with fail
          go_quiet (fail)
          go_wp2_with fail
          exact ⟨⟨i + 1, by omega, by omega, by go_num, H1, _, by first | rfl | exact drewN2 _ _ _⟩, by simp [intOf]; omega⟩
        · have e0 : (x == y) = false := by rw [beq_eq_false_iff_ne]; exact hxy
          have e1 : (x != y) = true := by rw [bne, e0]; rfl
          have H1 : Hid (cmpI x y = cmpL A B) := Lib.hid (by have := HST.out; rw [if_neg hxy] at this; exact this.symm)
          have SG : Hid (∀ w, Calls Try.prog 32 #[.int .i64 x, .int .i64 y] w fun e w' => e = .returned (.int .i64 (cmpI x y)) ∧ w' = w) := Lib.hid (fun w => (sign_any x y w).mono (fun _ _ ⟨p, q⟩ => ⟨p, q.symm⟩))
          have wx : IntKind.i64.wrap x = x := IntWalk.i64_in _ (by omega)
          have wy : IntKind.i64.wrap y = y := IntWalk.i64_in _ (by omega)
          clear hxy
          go_wp2_with fail
          go_quiet (fail)
          go_wp2_with fail
          go_quiet ((go_at_call 32; exact quietA SG.out))
          go_wp2_with fail
          go_ret
          exact ⟨retI H1.out, ext_trans HB.out (ext_trans (ext_drew _ _) (ext_trans (ext_drew _ _) (ext_drew _ _)))⟩
      · have hyI : ¬ (i : Int) < (B.length : Int) := by omega
        have H1 : Hid (cmpI A.length B.length = cmpL A B) := Lib.hid (by rw [HI.out, cmpL_end A B i hia hib (.inr (by omega))])
        go_wp2_with fail
        refine (sign_any _ _ _).mono ?_
        rintro e w' ⟨rfl, rfl⟩
        go_wp2_with fail
        go_ret
        exact ⟨retI H1.out, ext_trans HB.out (ext_drew _ _)⟩
    · have hxI : ¬ (i : Int) < (A.length : Int) := by omega
      have H1 : Hid (cmpI A.length B.length = cmpL A B) := Lib.hid (by rw [HI.out, cmpL_end A B i hia hib (.inl (by omega))])
      go_wp2_with fail
      refine (sign_any _ _ _).mono ?_
      rintro e w' ⟨rfl, rfl⟩
      go_wp2_with fail
      go_ret
      exact ⟨retI H1.out, ext_trans HB.out (ext_drew _ _)⟩
set_option maxRecDepth 100000 in
set_option maxHeartbeats 2000000 in
theorem rPoints_any (a b : List UInt8) (w : World) (hma : a.length ≤ 1000000) (hmb : b.length ≤ 1000000) :
    Calls Try.prog 18 #[.string ⟨a.toArray⟩, .string ⟨b.toArray⟩] w fun e w' => e = .returned (.int .i64 (ptsS a b)) ∧ Below w.heap.size w w' := by
  have hba : ∀ i, i < (decL a).length → 0 ≤ (decL a).getD i 0 ∧ (decL a).getD i 0 ≤ 1114111 := decL_bd2 a
  have hbb : ∀ i, i < (decL b).length → 0 ≤ (decL b).getD i 0 ∧ (decL b).getD i 0 ≤ 1114111 := decL_bd2 b
  have CA : Hid (∀ v w, Is8 w v a → Calls Try.prog 28 #[v] w fun e w' => ∃ v', e = .returned v' ∧ Own w' w.heap.size 21 v' ((decL a).map (Value.int .i32)) ∧ Below w.heap.size w w') := Lib.hid (fun v w h => rdecode_any v a w h hma)
  have CB : Hid (∀ v w, Is8 w v b → Calls Try.prog 28 #[v] w fun e w' => ∃ v', e = .returned v' ∧ Own w' w.heap.size 21 v' ((decL b).map (Value.int .i32)) ∧ Below w.heap.size w w') := Lib.hid (fun v w h => rdecode_any v b w h hmb)
  have hlA := decL_len _ a (Nat.le_refl _)
  have hlB := decL_len _ b (Nat.le_refl _)
  unfold ptsS
  generalize decL a = A at *
  generalize decL b = B at *
  go_enter Try.func18, Try.ntmps18
  go_wp2_with (refine wpList_toBytes _ (by rfl) 9 37 _ rfl 5 Try.underlying9 Try.underlying37 Try.underlying5 a rfl (by omega) ?_)
  intro b1 cap1 w1 h8 hb1 hbe
  have H8 := Lib.hid h8
  clear h8 hbe
  go_wp2_with fail
  refine (CA.out _ _ H8.out).mono ?_
  rintro e w3 ⟨va, rfl, hoa, hb3⟩
  have hb13 := ext_trans hb1 hb3
  clear hb1 hb3
  go_wp2_with (refine wpList_toBytes _ (by rfl) 9 37 _ rfl 5 Try.underlying9 Try.underlying37 Try.underlying5 b rfl (by omega) ?_)
  intro b2 cap2 w5 h9 hb5 hbe
  have H9 := Lib.hid h9
  clear h9 hbe
  go_wp2_with fail
  refine (CB.out _ _ H9.out).mono ?_
  rintro e w4 ⟨vb, rfl, hob, hb4⟩
  have HB := Lib.hid (ext_trans hb13 (ext_trans hb5 hb4))
  have hsa := hoa.is32.below (ext_trans hb5 hb4)
  have hsb := hob.is32
  clear hoa hob hb13 hb5 hb4
  have HBA : Hid (∀ i, i < A.length → 0 ≤ A.getD i 0 ∧ A.getD i 0 ≤ 1114111) := Lib.hid hba
  have HBB : Hid (∀ i, i < B.length → 0 ≤ B.getD i 0 ∧ B.getD i 0 ≤ 1114111) := Lib.hid hbb
  clear hba hbb
  obtain ⟨pa, ca, rfl, qa1, qa2, -, qa3⟩ := hsa
  obtain ⟨pb, cb, rfl, qb1, qb2, -, qb3⟩ := hsb
  unfold maxLen at qa2 qb2
  have HCA : Hid (0 < A.length → ∃ b off, pa = some ⟨b, off, none⟩ ∧ Cells w4 b off A.length (i32At A)) := Lib.hid qa3
  have HCB : Hid (0 < B.length → ∃ b off, pb = some ⟨b, off, none⟩ ∧ Cells w4 b off B.length (i32At B)) := Lib.hid qb3
  clear qa3 qb3
  go_wp2_with fail
  go_loopw [7] (fun ti wr => ∃ i : Nat, i ≤ A.length ∧ i ≤ B.length ∧ ti = .int .i64 i ∧ Hid (cmpL A B = cmpL (A.drop i) (B.drop i)) ∧ ∃ n, wr = w4.drewN n) (fun ti _ => A.length - (intOf ti).toNat)
  case atStart => exact ⟨0, by omega, by omega, rfl, Lib.hid rfl, 0, rfl⟩
  case round =>
    obtain ⟨i, hia, hib, rfl, HI, n, rfl⟩ := hrel
    by_cases hx : i < A.length
    · have hxI : (i : Int) < (A.length : Int) := by omega
      by_cases hy : i < B.length
      · have hyI : (i : Int) < (B.length : Int) := by omega
        obtain ⟨b, off, rfl, hc⟩ := HCA.out (by omega)
        obtain ⟨b', off', rfl, hc'⟩ := HCB.out (by omega)
        have h1 : w4.cell? ⟨b, off + i, none⟩ = some (.int .i32 (A.getD i 0)) := hc.at i hx
        have h2 : w4.cell? ⟨b', off' + i, none⟩ = some (.int .i32 (B.getD i 0)) := hc'.at i hy
        obtain ⟨x0, x1⟩ := HBA.out i hx
        obtain ⟨y0, y1⟩ := HBB.out i hy
        have HST := Lib.hid (HI.out.trans (cmpL_step A B i hx hy))
        clear hc hc' HCA HCB HBA HBB
        obtain ⟨x, hx'⟩ : ∃ x, A.getD i 0 = x := ⟨_, rfl⟩
        obtain ⟨y, hy'⟩ : ∃ y, B.getD i 0 = y := ⟨_, rfl⟩
        rw [hx'] at h1 x0 x1 HST
        rw [hy'] at h2 y0 y1 HST
        clear hx' hy'
        by_cases hxy : x = y
        · have e0 : (x == y) = true := by rw [beq_iff_eq]; exact hxy
          have e1 : (x != y) = false := by rw [bne, e0]; rfl
          have H1 : Hid (cmpL A B = cmpL (A.drop (i + 1)) (B.drop (i + 1))) := Lib.hid (by have := HST.out; rw [if_pos hxy] at this; exact this)
          clear hxy
          go_wp2_with fail
          go_quiet (fail)
          go_wp2_with fail
          exact ⟨⟨i + 1, by omega, by omega, by go_num, H1, _, by first | rfl | exact drewN2 _ _ _⟩, by simp [intOf]; omega⟩
        · have e0 : (x == y) = false := by rw [beq_eq_false_iff_ne]; exact hxy
          have e1 : (x != y) = true := by rw [bne, e0]; rfl
          have H1 : Hid (cmpI x y = cmpL A B) := Lib.hid (by have := HST.out; rw [if_neg hxy] at this; exact this.symm)
          have SG : Hid (∀ w, Calls Try.prog 32 #[.int .i64 x, .int .i64 y] w fun e w' => e = .returned (.int .i64 (cmpI x y)) ∧ w' = w) := Lib.hid (fun w => (sign_any x y w).mono (fun _ _ ⟨p, q⟩ => ⟨p, q.symm⟩))
          have wx : IntKind.i64.wrap x = x := IntWalk.i64_in _ (by omega)
          have wy : IntKind.i64.wrap y = y := IntWalk.i64_in _ (by omega)
          clear hxy
          go_wp2_with fail
          go_quiet (fail)
          go_wp2_with fail
          go_quiet ((go_at_call 32; exact quietA SG.out))
          go_wp2_with fail
          go_ret
          exact ⟨retI H1.out, ext_trans HB.out (ext_trans (ext_drew _ _) (ext_trans (ext_drew _ _) (ext_drew _ _)))⟩
      · have hyI : ¬ (i : Int) < (B.length : Int) := by omega
        have H1 : Hid (cmpI A.length B.length = cmpL A B) := Lib.hid (by rw [HI.out, cmpL_end A B i hia hib (.inr (by omega))])
        go_wp2_with fail
        refine (sign_any _ _ _).mono ?_
        rintro e w' ⟨rfl, rfl⟩
        go_wp2_with fail
        go_ret
        exact ⟨retI H1.out, ext_trans HB.out (ext_drew _ _)⟩
    · have hxI : ¬ (i : Int) < (A.length : Int) := by omega
      have H1 : Hid (cmpI A.length B.length = cmpL A B) := Lib.hid (by rw [HI.out, cmpL_end A B i hia hib (.inl (by omega))])
      go_wp2_with fail
      refine (sign_any _ _ _).mono ?_
      rintro e w' ⟨rfl, rfl⟩
      go_wp2_with fail
      go_ret
      exact ⟨retI H1.out, ext_trans HB.out (ext_drew _ _)⟩
set_option maxHeartbeats 1000000 in
theorem lUnits_eq (va vb : Value) (l : List Int) (w : World) (ha : IsSl w va l.length (u16At l)) (hb : IsSl w vb l.length (u16At l)) (hm : l.length ≤ 100000000) :
    Calls Try.prog 12 #[va, vb] w fun e w' => e = .returned (.bool true) ∧ ∃ n, w' = w.drewN n := by
  obtain ⟨a, cap, rfl, hc1, hc2, -, hs⟩ := ha
  obtain ⟨a', cap', rfl, hc1', hc2', -, hs'⟩ := hb
  have HC : Hid (0 < l.length → ∃ b off, a = some ⟨b, off, none⟩ ∧ Cells w b off l.length (u16At l)) := Lib.hid hs
  have HC' : Hid (0 < l.length → ∃ b off, a' = some ⟨b, off, none⟩ ∧ Cells w b off l.length (u16At l)) := Lib.hid hs'
  clear hs hs'
  go_enter Try.func12, Try.ntmps12
  go_wp2
  go_loopw [5] (fun ti wr => ∃ k : Nat, k ≤ l.length ∧ ti = .int .i64 k ∧ ∃ n, wr = w.drewN n) (fun ti _ => l.length - (intOf ti).toNat)
  case atStart => exact ⟨0, by omega, rfl, 0, rfl⟩
  case round =>
    obtain ⟨k, hk, rfl, n, rfl⟩ := hrel
    by_cases hlt : k < l.length
    · obtain ⟨b, off, rfl, hc⟩ := HC.out (by omega)
      obtain ⟨b', off', rfl, hc'⟩ := HC'.out (by omega)
      have h1 : w.cell? ⟨b, off + k, none⟩ = some (.int .u16 (l.getD k 0)) := hc.at k hlt
      have h2 : w.cell? ⟨b', off' + k, none⟩ = some (.int .u16 (l.getD k 0)) := hc'.at k hlt
      clear hc hc' HC HC'
      generalize l.getD k 0 = r at *
      go_wp2
      go_quiet (fail)
      go_wp2
      go_roundw
      case rel => exact ⟨k + 1, by omega, by go_num, _, rfl⟩
      case measure => simp [intOf]; omega
    · obtain rfl : k = l.length := by omega
      go_wp2
      go_ret
      exact ⟨rfl, _, rfl⟩
end Go.Proofs.Ytjpofnpcmonmmaa
