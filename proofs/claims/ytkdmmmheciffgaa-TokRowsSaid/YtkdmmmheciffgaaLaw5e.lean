/- TokRows. -/
import Derived.Test.YtkdmmmheciffgaaLaw5n
import Derived.Test.YtkdmmmheciffgaaRowsM
import Derived.Test.YtkdmmmheciffgaaLow
import Derived.Test.YtkdmmmheciffgaaStrs
import Derived.Deep.DeepCutAuto
set_option linter.unusedVariables false
set_option linter.unusedSimpArgs false
namespace Go.Proofs.Ytkdmmmheciffgaa
open Go.RowKit

/-- The block of the words, and what was there before, are as they were. -/
structure RowC (w wr : World) : Prop where
  words : ∀ k, k < 11 → wr.cell? ⟨w.heap.size, k, none⟩ = some (.string ⟨(rowW k).toArray⟩)
  bel : Below w.heap.size w wr
  lt : w.heap.size + 1 ≤ wr.heap.size
theorem RowC.on {w wr x : World} (h : RowC w wr) (hb : Below (w.heap.size + 1) wr x) : RowC w x :=
  ⟨fun k hk => by rw [hb.cell (p := ⟨w.heap.size, k, none⟩) (Nat.lt_succ_self _)]; exact h.words k hk, h.bel.trans (hb.mono (Nat.le_succ _)), Nat.le_trans h.lt hb.size⟩
theorem RowC.to {w wr x : World} (h : RowC w wr) (hb : Below wr.heap.size wr x) : RowC w x := h.on (hb.mono h.lt)
def blkB (m : Nat) : UInt8 := ([32, 9, 10, 13] : List UInt8).getD m 32
theorem blkB_ok (m : Nat) : blkC ((blkB m).toNat : Int) = true := by
  unfold blkB
  rcases Nat.lt_or_ge m 4 with h | h
  · rcases (by omega : m = 0 ∨ m = 1 ∨ m = 2 ∨ m = 3) with rfl | rfl | rfl | rfl <;> decide
  · rw [List.getD_eq_getElem?_getD, List.getElem?_eq_none (by simpa using h)]; decide
theorem blk_cell (x : World) (m : Nat) (h : m < 4) : (x.alloc (.cells #[.string ⟨#[32]⟩, .string ⟨#[9]⟩, .string ⟨#[10]⟩, .string ⟨#[13]⟩] 9)).cell? ⟨x.heap.size, m, none⟩ = some (.string ⟨[blkB m].toArray⟩) := by
  rw [cell_of_row _ x.heap.size m _ _ (0, 0) (heap_alloc_new x _)]
  rcases (by omega : m = 0 ∨ m = 1 ∨ m = 2 ∨ m = 3) with rfl | rfl | rfl | rfl <;> rfl
theorem words_cell (w : World) : RowC w (w.alloc (.cells #[.string ⟨#[123]⟩, .string ⟨#[125]⟩, .string ⟨#[91]⟩, .string ⟨#[93]⟩, .string ⟨#[58]⟩, .string ⟨#[44]⟩, .string ⟨#[34, 97, 34]⟩, .string ⟨#[49, 55]⟩, .string ⟨#[116, 114, 117, 101]⟩, .string ⟨#[102, 97, 108, 115, 101]⟩, .string ⟨#[110, 117, 108, 108]⟩] 9)) := by
  refine ⟨fun k hk => ?_, ext_alloc w _, by simp⟩
  rw [cell_of_row _ w.heap.size k _ _ (0, 0) (heap_alloc_new w _)]
  rcases (by omega : k = 0 ∨ k = 1 ∨ k = 2 ∨ k = 3 ∨ k = 4 ∨ k = 5 ∨ k = 6 ∨ k = 7 ∨ k = 8 ∨ k = 9 ∨ k = 10) with rfl | rfl | rfl | rfl | rfl | rfl | rfl | rfl | rfl | rfl | rfl <;> rfl
theorem lowNat (x n : Int) (hn : 0 < n) : ∃ k : Nat, (k : Int) < n ∧ lowN x n = (k : Int) := by
  have := lowN_bd x n hn
  exact ⟨(lowN x n).toNat, by omega, by omega⟩
theorem row_at {k : IntKind} {w : World} {a : Option Addr} {len cap : Nat} {zs : List Int} (h : IsRow k w a len cap zs) : len ≤ cap ∧ cap ≤ maxLen ∧ (0 < len → ∃ b off, a = some ⟨b, off, none⟩ ∧ b < w.heap.size ∧ ∀ i, i < len → (Lit.int k ((zs.take len).getD i 0)).wf = true ∧ w.cell? ⟨b, off + i, none⟩ = some (.int k ((zs.take len).getD i 0))) := by
  obtain ⟨h1, h2, a', cap', e, q1, q2, q3, q4⟩ := isRow_sl h
  injection e with e1 _ e2
  subst e1 e2
  refine ⟨q1, q2, fun hn => ?_⟩
  obtain ⟨b, off, rfl, hc⟩ := q4 hn
  refine ⟨b, off, rfl, hc.lt hn, fun i hi => ⟨h2 _ ?_, hc.at i hi⟩⟩
  rw [List.getD_eq_getElem?_getD, List.getElem?_eq_getElem (by omega)]
  exact List.getElem_mem _
theorem i64_wf {x : Int} (h : (Lit.int .i64 x).wf = true) : -9223372036854775808 ≤ x ∧ x ≤ 9223372036854775807 := by
  simp [Lit.wf, IntKind.min, IntKind.max, IntKind.signed, IntKind.bits] at h; omega
def GapOk (g : List UInt8) : Prop := ∀ c ∈ g, blkC (c.toNat : Int) = true
set_option maxRecDepth 100000 in
set_option maxHeartbeats 16000000 in
theorem TokRows_walk (a0 : Option Addr) (len0 cap0 : Nat) (z0 : List Int) (a1 : Option Addr) (len1 cap1 : Nat) (z1 : List Int) (w : World) (w0 : IsRow .i64 w a0 len0 cap0 z0) (w1 : IsRow .i64 w a1 len1 cap1 z1) :
    Calls Try.prog 7 #[.slice a0 len0 cap0, .slice a1 len1 cap1] w fun e w' => e = .returned (.bool true) ∧ Below w.heap.size w w' := by
  by_cases hm : len0 ≤ 40 ∧ len1 ≤ 100
  · obtain ⟨hm0, hm1⟩ := hm
    have hmd0 : decide ((40 : Int) < (len0 : Int)) = false := by simp; omega
    have hmd1 : decide ((100 : Int) < (len1 : Int)) = false := by simp; omega
    obtain ⟨r1, r2, r3⟩ := row_at w0
    obtain ⟨s1, s2, s3⟩ := row_at w1
    clear w0 w1
    have R3 := Lib.hid r3
    have S3 := Lib.hid s3
    clear r3 s3
    go_enter Try.func7, Try.ntmps7
    go_wp2_with fail
    go_loopw [6, 7, 8] (fun t6 t7 t8 wr => ∃ (L : List Row) (S : List UInt8), L.length ≤ len0 ∧ t8 = .int .i64 L.length ∧ t6 = .string ⟨S.toArray⟩ ∧ Hid (S = rowsText L) ∧ Hid (RowsOk L) ∧ Hid (∀ x ∈ L, x.1.length ≤ 10) ∧ OwnT wr (w.heap.size + 1) t7 (rowsTok L 0) ∧ RowC w wr) (fun _ _ t8 _ => len0 - (intOf t8).toNat)
    case atStart => exact ⟨[], [], Nat.zero_le _, rfl, rfl, Lib.hid rfl, Lib.hid RowsOk.nil, Lib.hid (fun x h => by cases h), OwnT.nil _ _, words_cell w⟩
    case round =>
      obtain ⟨L, S, hL, rfl, rfl, HSE, HOK, HLE, hot, hrc⟩ := hrel
      have HO := Lib.hid hot
      have HC := Lib.hid hrc
      have hSl : S.length ≤ 15 * L.length := by rw [HSE.out]; exact rowsText_len HLE.out
      clear hot hrc
      obtain ⟨i, hi⟩ : ∃ i, L.length = i := ⟨_, rfl⟩
      have HI := Lib.hid hi
      rw [hi] at hL hSl
      rw [hi]
      clear hi
      by_cases hlt : i < len0
      · have hltI : (i : Int) < (len0 : Int) := by omega
        obtain ⟨b0, off0, rfl, hb0, hc0⟩ := R3.out (by omega)
        obtain ⟨wf0, cl0⟩ := hc0 i hlt
        have cl0' : wr.cell? ⟨b0, off0 + i, none⟩ = some (.int .i64 ((z0.take len0).getD i 0)) := by rw [HC.out.bel.cell (p := ⟨b0, off0 + i, none⟩) hb0]; exact cl0
        obtain ⟨x, hx⟩ : ∃ x, (z0.take len0).getD i 0 = x := ⟨_, rfl⟩
        rw [hx] at wf0 cl0'
        obtain ⟨x0, x1⟩ := i64_wf wf0
        obtain ⟨kn, hk, hkx⟩ := lowNat x 11 (by decide)
        have HLW := Lib.hid (fun W => low_any x 11 W x0 x1 (by decide) (by decide))
        rw [hkx] at HLW
        clear hc0 cl0 hx hkx wf0 x0 x1
        go_wp2_with fail
        refine (HLW.out _).mono ?_
        rintro e w' ⟨rfl, rfl⟩
        clear HLW
        go_upto_if 40 with fail
        go_cut [10] (fun s10 wy => ∃ n : Nat, n ≤ 3 ∧ s10 = .int .i64 n ∧ wy = wr)
        case first =>
          by_cases h1 : i < len1
          · have h1I : (i : Int) < (len1 : Int) := by omega
            obtain ⟨b1, off1, rfl, hb1, hc1⟩ := S3.out (by omega)
            obtain ⟨wf1, cl1⟩ := hc1 i h1
            have cl1' : wr.cell? ⟨b1, off1 + i, none⟩ = some (.int .i64 ((z1.take len1).getD i 0)) := by rw [HC.out.bel.cell (p := ⟨b1, off1 + i, none⟩) hb1]; exact cl1
            obtain ⟨y, hy⟩ : ∃ y, (z1.take len1).getD i 0 = y := ⟨_, rfl⟩
            rw [hy] at wf1 cl1'
            obtain ⟨y0, y1⟩ := i64_wf wf1
            obtain ⟨m, hm4, hmx⟩ := lowNat y 4 (by decide)
            have HLY := Lib.hid (fun W => low_any y 4 W y0 y1 (by decide) (by decide))
            rw [hmx] at HLY
            clear hc1 cl1 hy hmx wf1 y0 y1
            go_wp2_with fail
            refine (HLY.out _).mono ?_
            rintro e w' ⟨rfl, rfl⟩
            go_wp2_with fail
            go_meet
            exact ⟨m, by omega, rfl, rfl⟩
          · go_wp2_with fail
            go_meet
            exact ⟨1, by decide, rfl, rfl⟩
        case rest =>
          obtain ⟨n, hn3, rfl, rfl⟩ := hcut
          obtain ⟨wr, rfl⟩ : ∃ x, x = wc := ⟨wc, rfl⟩
          go_upto_region 13 with fail
          obtain ⟨B, hB⟩ : ∃ B, decide (kn = 7 ∧ 0 < i) = B := ⟨_, rfl⟩
          have HBB := Lib.hid hB
          clear hB
          go_cut [51] (fun s51 wy => s51 = .bool B ∧ wy = wr)
          case first =>
            by_cases h7 : kn = 7
            · subst h7
              by_cases h0 : 0 < i
              · have h0I : (0 : Int) < (i : Int) := by omega
                go_wp2_with fail
                go_meet
                exact ⟨by rw [← HBB.out]; simp [h0], rfl⟩
              · have h0I : decide ((0 : Int) < (i : Int)) = false := by simp; omega
                go_wp2_with fail
                go_meet
                exact ⟨by rw [← HBB.out]; simp [h0], rfl⟩
            · have h7I : ((kn : Int) == 7) = false := by rw [beq_eq_false_iff_ne]; omega
              go_wp2_with fail
              go_meet
              exact ⟨by rw [← HBB.out]; simp [h7], rfl⟩
          case rest =>
            obtain ⟨rfl, rfl⟩ := hcut
            obtain ⟨wr, rfl⟩ : ∃ x, x = wc := ⟨wc, rfl⟩
            go_upto_if 51 with fail
            go_cut [10] (fun s10 wy => ∃ m : Nat, m ≤ 4 ∧ s10 = .int .i64 m ∧ Hid (kn = 7 → 0 < i → 1 ≤ m) ∧ wy = wr)
            case first =>
              cases B with
              | true =>
                go_wp2_with fail
                go_meet
                exact ⟨n + 1, by omega, by go_num, Lib.hid (fun _ _ => by omega), rfl⟩
              | false =>
                have HNB : Hid (kn = 7 → 0 < i → 1 ≤ n) := Lib.hid (fun h1 h2 => by
                  have := HBB.out
                  rw [decide_eq_false_iff_not] at this
                  exact absurd ⟨h1, h2⟩ this)
                go_wp2_with fail
                go_meet
                exact ⟨n, by omega, rfl, HNB, rfl⟩
            case rest =>
              obtain ⟨m, hm4, rfl, HM, rfl⟩ := hcut
              clear HBB
              obtain ⟨wo, rfl⟩ : ∃ x, x = wc := ⟨wc, rfl⟩
              go_wp2_with fail
              go_loopw [6, 11] (fun t6 t11 wx => ∃ (g T : List UInt8), g.length ≤ m ∧ t11 = .int .i64 g.length ∧ t6 = .string ⟨T.toArray⟩ ∧ Hid (T = S ++ g) ∧ Hid (GapOk g) ∧ OwnT wx (w.heap.size + 1) u7 (rowsTok L 0) ∧ RowC w wx) (fun _ t11 _ => m - (intOf t11).toNat)
              case atStart => exact ⟨[], S, Nat.zero_le _, rfl, rfl, Lib.hid (by simp), Lib.hid (fun c h => by cases h), HO.out, HC.out⟩
              case round =>
                obtain ⟨g, T, hgl, rfl, rfl, HT, HG, hot2, hrc2⟩ := hrel
                have HO2 := Lib.hid hot2
                have HC2 := Lib.hid hrc2
                have hTl : T.length = S.length + g.length := by rw [HT.out]; simp
                have hTb : T.length ≤ 1000 := by omega
                obtain ⟨j, hj⟩ : ∃ j, g.length = j := ⟨_, rfl⟩
                have HJ := Lib.hid hj
                have HTL := Lib.hid hTl
                rw [hj] at hgl
                rw [hj]
                clear hot2 hrc2 hj hTl
                by_cases hlt2 : j < m
                · have hlt2I : (j : Int) < (m : Int) := by omega
                  have hrem : ((i : Int) + (j : Int)) % 4 = (((i + j) % 4 : Nat) : Int) := by omega
                  have hr4 : (i + j) % 4 < 4 := by omega
                  obtain ⟨q, hq⟩ : ∃ q, (i + j) % 4 = q := ⟨_, rfl⟩
                  rw [hq] at hrem hr4
                  have hqI : (q : Int) < 4 := by omega
                  have hbc := blk_cell wr q hr4
                  have hcat : T.length + 1 ≤ 9223372036854775807 := by omega
                  clear hq
                  go_wp2_with fail
                  exact ⟨⟨g ++ [blkB q], T ++ [blkB q], by have := HJ.out; simp; omega, by have := HJ.out; simp; omega, rfl, Lib.hid (by rw [HT.out, List.append_assoc]), Lib.hid (fun c hc => by
                    rcases List.mem_append.1 hc with h1 | h1
                    · exact HG.out c h1
                    · simp at h1; subst h1; exact blkB_ok q), HO2.out.below (ext_alloc _ _), HC2.out.to (ext_alloc _ _)⟩, by simp [intOf]; omega⟩
                · have hge : decide ((j : Int) < (m : Int)) = false := by simp; omega
                  have hge2 : decide (j < m) = false := by simp; omega
                  have hk11 : kn < 11 := by omega
                  have hkI : (kn : Int) < 11 := hk
                  have hwl : (rowW kn).length ≤ 5 := by
                    have hall : ∀ k, k < 11 → (rowWords.getD k []).length ≤ 5 := by decide
                    exact hall _ hk11
                  have hcat : T.length + (rowW kn).length ≤ 9223372036854775807 := by omega
                  have hgm : g.length = m := by have := HJ.out; omega
                  have HF1 : Hid (T ++ rowW kn = rowsText (L ++ [(g, kn)])) := Lib.hid (by rw [rowsText_snoc, HT.out, HSE.out])
                  have HF2 : Hid (RowsOk (L ++ [(g, kn)])) := Lib.hid (HOK.out.snoc g kn HG.out hk11 (fun h7 hne => by
                    have h1 : 0 < L.length := List.length_pos_iff.2 hne
                    have h2 := HM.out h7 (by have := HI.out; omega)
                    intro hg0
                    subst hg0
                    simp at hgm
                    omega))
                  have HF3 : Hid (∀ x ∈ L ++ [(g, kn)], x.1.length ≤ 10) := Lib.hid (fun x hx => by
                    rcases List.mem_append.1 hx with h1 | h1
                    · exact HLE.out x h1
                    · simp at h1; subst h1; show g.length ≤ 10; omega)
                  have HF4 : Hid (∀ u, rowT kn = u → rowsTok (L ++ [(g, kn)]) 0 = rowsTok L 0 ++ [((kn : Int) + 1, T.length, u)]) := Lib.hid (fun u hu => by
                    rw [rowsTok_snoc, ← hu]
                    have : 0 + (rowsText L).length + g.length = T.length := by rw [HTL.out, HSE.out]; omega
                    rw [this])
                  clear hgm hwl
                  by_cases k6 : kn = 6
                  · have HK : Hid (rowT kn = [97]) := Lib.hid (by rw [k6]; rfl)
                    have g1 : ((kn : Int) == 6) = true := by rw [k6]; rfl
                    have g2 : ((kn : Int) == 7) = false := by rw [k6]; rfl
                    clear k6
                    have HBX := Lib.hid ((Below.refl wr.heap.size wr).alloc (Nat.le_refl _) (.cells #[.int .i64 ((kn : Int) + 1), .int .i64 T.length, .string ⟨#[97]⟩] 40))
                    have HO3 := Lib.hid (HO2.out.below HBX.out)
                    have HC3 := Lib.hid (HC2.out.to HBX.out)
                    have hsz := HC3.out.lt
                    go_wp2_with (at_builtin; refine wpList_appT _ rfl _ _ rfl (w.heap.size + 1) _ (rowsTok L 0) rfl HO3.out ((kn : Int) + 1, T.length, [97]) _ rfl (by simp) (by rw [rowsTok_len, HI.out]; omega) (by simpa using hsz) ?_)
                    intro v5 x5 ho5 hg5
                    have HO5 := Lib.hid ho5
                    have HC5 := Lib.hid (HC3.out.on ((Below.refl _ _).grown hg5 hsz (fun k hk => (HO3.out.row k hk).1)))
                    have hw5 : x5.cell? ⟨w.heap.size, kn, none⟩ = some (.string ⟨(rowW kn).toArray⟩) := HC5.out.words kn hk11
                    clear ho5 hg5
                    go_wp2_with fail
                    exact ⟨⟨L ++ [(g, kn)], T ++ rowW kn, by have := HI.out; simp; omega, by have := HI.out; simp; omega, rfl, HF1.out, HF2.out, HF3.out, by rw [HF4.out [97] HK.out]; exact HO5.out, HC5.out⟩, by simp [intOf]; omega⟩
                  · by_cases k7 : kn = 7
                    · have HK : Hid (rowT kn = [49, 55]) := Lib.hid (by rw [k7]; rfl)
                      have g1 : ((kn : Int) == 6) = false := by rw [k7]; rfl
                      have g2 : ((kn : Int) == 7) = true := by rw [k7]; rfl
                      clear k6 k7
                      have HBX := Lib.hid ((Below.refl wr.heap.size wr).alloc (Nat.le_refl _) (.cells #[.int .i64 ((kn : Int) + 1), .int .i64 T.length, .string ⟨#[49, 55]⟩] 40))
                      have HO3 := Lib.hid (HO2.out.below HBX.out)
                      have HC3 := Lib.hid (HC2.out.to HBX.out)
                      have hsz := HC3.out.lt
                      go_wp2_with (at_builtin; refine wpList_appT _ rfl _ _ rfl (w.heap.size + 1) _ (rowsTok L 0) rfl HO3.out ((kn : Int) + 1, T.length, [49, 55]) _ rfl (by simp) (by rw [rowsTok_len, HI.out]; omega) (by simpa using hsz) ?_)
                      intro v5 x5 ho5 hg5
                      have HO5 := Lib.hid ho5
                      have HC5 := Lib.hid (HC3.out.on ((Below.refl _ _).grown hg5 hsz (fun k hk => (HO3.out.row k hk).1)))
                      have hw5 : x5.cell? ⟨w.heap.size, kn, none⟩ = some (.string ⟨(rowW kn).toArray⟩) := HC5.out.words kn hk11
                      clear ho5 hg5
                      go_wp2_with fail
                      exact ⟨⟨L ++ [(g, kn)], T ++ rowW kn, by have := HI.out; simp; omega, by have := HI.out; simp; omega, rfl, HF1.out, HF2.out, HF3.out, by rw [HF4.out [49, 55] HK.out]; exact HO5.out, HC5.out⟩, by simp [intOf]; omega⟩
                    · have HK : Hid (rowT kn = []) := Lib.hid (by unfold rowT; rw [if_neg k6, if_neg k7])
                      have g1 : ((kn : Int) == 6) = false := by rw [beq_eq_false_iff_ne]; omega
                      have g2 : ((kn : Int) == 7) = false := by rw [beq_eq_false_iff_ne]; omega
                      clear k6 k7
                      have HBX := Lib.hid ((Below.refl wr.heap.size wr).alloc (Nat.le_refl _) (.cells #[.int .i64 ((kn : Int) + 1), .int .i64 T.length, .string ⟨#[]⟩] 40))
                      have HO3 := Lib.hid (HO2.out.below HBX.out)
                      have HC3 := Lib.hid (HC2.out.to HBX.out)
                      have hsz := HC3.out.lt
                      go_wp2_with (at_builtin; refine wpList_appT _ rfl _ _ rfl (w.heap.size + 1) _ (rowsTok L 0) rfl HO3.out ((kn : Int) + 1, T.length, []) _ rfl (by simp) (by rw [rowsTok_len, HI.out]; omega) (by simpa using hsz) ?_)
                      intro v5 x5 ho5 hg5
                      have HO5 := Lib.hid ho5
                      have HC5 := Lib.hid (HC3.out.on ((Below.refl _ _).grown hg5 hsz (fun k hk => (HO3.out.row k hk).1)))
                      have hw5 : x5.cell? ⟨w.heap.size, kn, none⟩ = some (.string ⟨(rowW kn).toArray⟩) := HC5.out.words kn hk11
                      clear ho5 hg5
                      go_wp2_with fail
                      exact ⟨⟨L ++ [(g, kn)], T ++ rowW kn, by have := HI.out; simp; omega, by have := HI.out; simp; omega, rfl, HF1.out, HF2.out, HF3.out, by rw [HF4.out [] HK.out]; exact HO5.out, HC5.out⟩, by simp [intOf]; omega⟩
      · have hge : decide ((i : Int) < (len0 : Int)) = false := by simp; omega
        have hge2 : decide (i < len0) = false := by simp; omega
        have HTK := Lib.hid (fun v W h => Tokens_any v S W h (by omega))
        rw [show toksM S = (rowsTok L 0, S.length, 0) by rw [HSE.out]; exact rows_toks HOK.out] at HTK
        have HTQ := Lib.hid (fun va vb W ha hb => Toks_any va vb (rowsTok L 0) (rowsTok L 0) W ha hb (by rw [rowsTok_len, HI.out]; omega) (by rw [rowsTok_len, HI.out]; omega))
        have HTK2 : Hid (∀ v W, Is8 W v S → Calls Try.prog 17 #[v] W fun e w' => ∃ vt, e = .returned (.tuple #[vt, .int .i64 S.length, .int .i64 0]) ∧ OwnT w' W.heap.size vt (rowsTok L 0) ∧ Below W.heap.size W w') := Lib.hid HTK.out
        have HTQ2 : Hid (∀ va vb W, IsT W va (rowsTok L 0) → IsT W vb (rowsTok L 0) → Calls Try.prog 20 #[va, vb] W fun e w' => e = .returned (.bool true) ∧ ∃ n, w' = W.drewN n) := Lib.hid (by have h := HTQ.out; simp only [decide_true] at h; exact h)
        have HIW := Lib.hid HO.out.isT
        clear HTK HTQ
        go_wp2_with (refine wpList_toBytes _ (by rfl) 9 22 _ rfl 5 Try.underlying9 Try.underlying22 Try.underlying5 S rfl (by omega) ?_)
        intro b cap x3 h8 hb3 hbe
        have HB3 := Lib.hid hb3
        clear hbe hb3
        go_wp2_with fail
        refine (HTK2.out _ _ h8).mono ?_
        rintro e x4 ⟨v4, rfl, ho4, hb4⟩
        have HB4 := Lib.hid (HB3.out.trans (hb4.mono HB3.out.size))
        have HI4 := Lib.hid ho4.isT
        have HIW4 := Lib.hid (HIW.out.below HB4.out)
        have HB5 := Lib.hid (HC.out.bel.trans (HB4.out.mono HC.out.bel.size))
        clear ho4 hb4 h8
        go_wp2_with fail
        refine (HTQ2.out _ _ _ HI4.out HIW4.out).mono ?_
        rintro e w' ⟨rfl, k, rfl⟩
        go_wp2_with fail
        refine (awake_any _).mono ?_
        rintro e x5 ⟨rfl, hb5⟩
        have HB6 := Lib.hid ((below_drewN HB5.out k).trans (hb5.mono HB5.out.size))
        clear hb5
        go_wp2_with fail
        go_ret
        exact ⟨rfl, HB6.out⟩
  · have hmI : ¬ (len0 ≤ 40 ∧ len1 ≤ 100) := hm
    by_cases h0 : len0 ≤ 40
    · have h1 : (100 : Int) < (len1 : Int) := by omega
      have hmd0 : decide ((40 : Int) < (len0 : Int)) = false := by simp; omega
      clear hm hmI
      go_enter Try.func7, Try.ntmps7
      go_wp2_with fail
      refine (awake_any _).mono ?_
      rintro e x2 ⟨rfl, hb2⟩
      go_wp2_with fail
      go_ret
      exact ⟨rfl, hb2⟩
    · have h1 : (40 : Int) < (len0 : Int) := by omega
      clear hm hmI
      go_enter Try.func7, Try.ntmps7
      go_wp2_with fail
      refine (awake_any _).mono ?_
      rintro e x2 ⟨rfl, hb2⟩
      go_wp2_with fail
      go_ret
      exact ⟨rfl, hb2⟩
end Go.Proofs.Ytkdmmmheciffgaa
