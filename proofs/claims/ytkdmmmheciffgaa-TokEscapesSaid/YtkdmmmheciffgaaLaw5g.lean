/- TokEscapes. -/
import Derived.Test.YtkdmmmheciffgaaLaw5n
import Derived.Test.YtkdmmmheciffgaaEscM
import Derived.Test.YtkdmmmheciffgaaLow
import Derived.Test.YtkdmmmheciffgaaScalar
import Derived.Test.YtkdmmmheciffgaaRefBy
import Derived.Test.YtkdmmmheciffgaaRowB
import Derived.Test.YtkdmmmheciffgaaHex
import Derived.Deep.DeepCutAuto
set_option linter.unusedVariables false
set_option linter.unusedSimpArgs false
namespace Go.Proofs.Ytkdmmmheciffgaa
open Go.RowKit

theorem ints_at {k : IntKind} {w : World} {a : Option Addr} {len cap : Nat} {zs : List Int} (h : IsRow k w a len cap zs) : len ≤ cap ∧ cap ≤ maxLen ∧ (0 < len → ∃ b off, a = some ⟨b, off, none⟩ ∧ b < w.heap.size ∧ ∀ i, i < len → (Lit.int k ((zs.take len).getD i 0)).wf = true ∧ w.cell? ⟨b, off + i, none⟩ = some (.int k ((zs.take len).getD i 0))) := by
  obtain ⟨h1, h2, a', cap', e, q1, q2, q3, q4⟩ := isRow_sl h
  injection e with e1 _ e2
  subst e1 e2
  refine ⟨q1, q2, fun hn => ?_⟩
  obtain ⟨b, off, rfl, hc⟩ := q4 hn
  refine ⟨b, off, rfl, hc.lt hn, fun i hi => ⟨h2 _ ?_, hc.at i hi⟩⟩
  rw [List.getD_eq_getElem?_getD, List.getElem?_eq_getElem (by omega)]
  exact List.getElem_mem _
theorem bools_at {w : World} {a : Option Addr} {len cap : Nat} {zs : List Bool} (h : IsRowB w a len cap zs) : len ≤ cap ∧ cap ≤ maxLen ∧ (0 < len → ∃ b off, a = some ⟨b, off, none⟩ ∧ b < w.heap.size ∧ ∀ i, i < len → w.cell? ⟨b, off + i, none⟩ = some (.bool (zs.getD i false))) := by
  obtain ⟨rfl, a', cap', e, q1, q2, q3, q4⟩ := h
  injection e with e1 _ e2
  subst e1 e2
  refine ⟨q1, q2, fun hn => ?_⟩
  obtain ⟨b, off, rfl, hc⟩ := q4 hn
  exact ⟨b, off, rfl, hc.lt hn, fun i hi => hc.at i hi⟩
theorem i64_wfE {x : Int} (h : (Lit.int .i64 x).wf = true) : -9223372036854775808 ≤ x ∧ x ≤ 9223372036854775807 := by
  simp [Lit.wf, IntKind.min, IntKind.max, IntKind.signed, IntKind.bits] at h; omega
theorem i64_and15 (x : Int) (h0 : 0 ≤ x) (h1 : x < 4611686018427387904) : bits .and .i64 x 15 = x % 16 := bits_mask .i64 62 (by decide) wraps_i64 4 (by decide) x h0 h1
theorem i64_and1023 (x : Int) (h0 : 0 ≤ x) (h1 : x < 4611686018427387904) : bits .and .i64 x 1023 = x % 1024 := bits_mask .i64 62 (by decide) wraps_i64 10 (by decide) x h0 h1
theorem scalarNat (x : Int) : ∃ r : Nat, r ≤ 1114111 ∧ scalarN x = (r : Int) ∧ okR (r : Int) := by
  have h := scalarN_ok x
  have h2 := h
  unfold okR at h2
  exact ⟨(scalarN x).toNat, by omega, by omega, by rw [show (((scalarN x).toNat : Nat) : Int) = scalarN x by omega]; exact h⟩
theorem cell_new1 (w : World) (cs : Array Value) (e : TypeId) (k : Nat) : (w.alloc (.cells cs e)).cell? ⟨w.heap.size, k, none⟩ = cs[k]? := cell_of_row _ w.heap.size k cs e (0, 0) (heap_alloc_new w _)
theorem cell_new2 (w : World) (o : Obj) (cs : Array Value) (e : TypeId) (k : Nat) : ((w.alloc o).alloc (.cells cs e)).cell? ⟨w.heap.size + 1, k, none⟩ = cs[k]? := by
  have h := cell_new1 (w.alloc o) cs e k
  have e2 : (w.alloc o).heap.size = w.heap.size + 1 := by simp
  rw [e2] at h
  exact h
theorem dig_str (d : Nat) (x : World) : (convert 22 9 (.slice (some ⟨x.heap.size, 0, none⟩) 1 1)).run Try.prog (x.alloc (.cells #[.int .u8 (byt [48, 49, 50, 51, 52, 53, 54, 55, 56, 57, 97, 66, 99, 68, 101, 70] d)] 5)) = .ok (.string ⟨[hexD d].toArray⟩) (x.alloc (.cells #[.int .u8 (byt [48, 49, 50, 51, 52, 53, 54, 55, 56, 57, 97, 66, 99, 68, 101, 70] d)] 5)) :=
  run_toStr _ _ _ 5 Try.underlying22 Try.underlying5 Try.underlying9 _ _ (lit8 _ x.heap.size [hexD d] 1 5 (0, 0) (by rw [heap_alloc_at, if_pos rfl]; rfl) rfl (by decide))
theorem take_flat {U : List Nat} {k : Nat} (h : k < U.length) : (U.take (k + 1)).flatMap esc4 = (U.take k).flatMap esc4 ++ esc4 (U.getD k 0) := by
  rw [List.take_succ_eq_append_getElem h, List.flatMap_append]
  simp [List.getD, h]
/-- Is a code point told by itself? -/
def rawB (o : Bool) (r : Nat) : Bool := o && decide (32 ≤ r ∧ r ≠ 34 ∧ r ≠ 92)
set_option maxRecDepth 100000 in
set_option maxHeartbeats 16000000 in
theorem TokEscapes_walk (a0 : Option Addr) (len0 cap0 : Nat) (z0 : List Int) (a1 : Option Addr) (len1 cap1 : Nat) (z1 : List Bool) (w : World) (w0 : IsRow .i64 w a0 len0 cap0 z0) (w1 : IsRowB w a1 len1 cap1 z1) :
    Calls Try.prog 6 #[.slice a0 len0 cap0, .slice a1 len1 cap1] w fun e w' => e = .returned (.bool true) ∧ Below w.heap.size w w' := by
  by_cases hm0 : len0 ≤ 30
  · have hmd0 : decide ((30 : Int) < (len0 : Int)) = false := by simp; omega
    obtain ⟨r1, r2, r3⟩ := ints_at w0
    obtain ⟨s1, s2, s3⟩ := bools_at w1
    clear w0 w1
    have R3 := Lib.hid r3
    have S3 := Lib.hid s3
    clear r3 s3
    go_enter Try.func6, Try.ntmps6
    go_wp2_with fail
    go_loopw [6, 7, 8] (fun t6 t7 t8 wr => ∃ (Q : List Piece) (S T : List UInt8), Q.length ≤ len0 ∧ t8 = .int .i64 Q.length ∧ t6 = .string ⟨S.toArray⟩ ∧ t7 = .string ⟨T.toArray⟩ ∧ Hid (S = 34 :: bodyT Q) ∧ Hid (T = wantT Q) ∧ Hid (∀ x ∈ Q, PieceOk x) ∧ Below w.heap.size w wr) (fun _ _ t8 _ => len0 - (intOf t8).toNat)
    case atStart => exact ⟨[], [34], [], Nat.zero_le _, rfl, rfl, rfl, Lib.hid rfl, Lib.hid rfl, Lib.hid (fun x h => by cases h), Below.refl _ _⟩
    case round =>
      obtain ⟨Q, S, T, hQ, rfl, rfl, rfl, HS, HT, HOK, hbw⟩ := hrel
      have HB := Lib.hid hbw
      have hSl : S.length ≤ 12 * Q.length + 1 := by rw [HS.out]; have := bodyT_len Q; simp; omega
      have hTl : T.length ≤ 4 * Q.length := by rw [HT.out]; exact wantT_len Q
      clear hbw
      obtain ⟨i, hi⟩ : ∃ i, Q.length = i := ⟨_, rfl⟩
      have HI := Lib.hid hi
      rw [hi] at hQ hSl hTl
      rw [hi]
      clear hi
      by_cases hlt : i < len0
      · have hltI : (i : Int) < (len0 : Int) := by omega
        obtain ⟨b0, off0, rfl, hb0, hc0⟩ := R3.out (by omega)
        obtain ⟨wf0, cl0⟩ := hc0 i hlt
        have cl0' : wr.cell? ⟨b0, off0 + i, none⟩ = some (.int .i64 ((z0.take len0).getD i 0)) := by rw [HB.out.cell (p := ⟨b0, off0 + i, none⟩) hb0]; exact cl0
        obtain ⟨x, hx⟩ : ∃ x, (z0.take len0).getD i 0 = x := ⟨_, rfl⟩
        rw [hx] at wf0 cl0'
        obtain ⟨x0, x1⟩ := i64_wfE wf0
        obtain ⟨r, hr, hrx, hok⟩ := scalarNat x
        have HLW := Lib.hid (fun W => scalar_any x W x0 x1)
        rw [hrx] at HLW
        have HBY := Lib.hid (fun W => bytes_any (r : Int) W (by omega) (by omega))
        rw [fixR_of hok] at HBY
        have HOR := Lib.hid hok
        have hrI : (r : Int) ≤ 1114111 := by omega
        have hel := (encR_len (r : Int)).2
        have hcatT : T.length + (encR (r : Int)).length ≤ 9223372036854775807 := by omega
        have hcatS : S.length + (encR (r : Int)).length ≤ 9223372036854775807 := by omega
        clear hc0 cl0 hx hrx wf0 x0 x1 hok
        go_wp2_with fail
        refine (HLW.out _).mono ?_
        rintro e w' ⟨rfl, rfl⟩
        go_wp2_with fail
        refine (HBY.out _).mono ?_
        rintro e x1 ⟨v1, rfl, ho1, hb1⟩
        have HB1 := Lib.hid (ext_trans HB.out hb1)
        have H81 := Lib.hid ho1.is8
        clear ho1 hb1
        go_upto_region 10 with (refine wpList_toStr _ (by rfl) _ _ _ rfl 5 Try.underlying22 Try.underlying5 Try.underlying9 _ rfl _ H81.out ?_)
        obtain ⟨o, ho⟩ : ∃ o : Bool, (decide (len1 ≤ i) || !(z1.getD i false)) = o := ⟨_, rfl⟩
        have HO := Lib.hid ho
        clear ho
        obtain ⟨C, hC⟩ : ∃ C, rawB o r = C := ⟨_, rfl⟩
        have HC := Lib.hid hC
        clear hC
        go_cut [77] (fun s77 wy => s77 = .bool C ∧ wy = x1)
        case first =>
          by_cases h1 : len1 ≤ i
          · have g1 : decide (len1 ≤ i) = true := by simpa using h1
            have g2 : decide (i < len1) = false := by simpa using h1
            have HOX : Hid ((decide (len1 ≤ i) || !(z1.getD i false)) = true) := Lib.hid (by simp [h1])
            clear h1
            by_cases h32 : 32 ≤ r
            · by_cases h34 : r = 34
              · have e1 : decide ((32 : Int) ≤ (r : Int)) = true := by simp; omega
                have e1' : decide (32 ≤ r) = true := by simp; omega
                have e1I : (32 : Int) ≤ (r : Int) := by omega
                have e2 : ((r : Int) != 34) = false := by rw [h34]; rfl
                have HV : Hid (rawB o r = false) := Lib.hid (by rw [← HO.out, HOX.out]; unfold rawB; rw [Bool.true_and]; exact decide_eq_false (by omega))
                clear h32 h34
                go_wp2_with fail
                go_meet
                exact ⟨by rw [← HC.out, HV.out], rfl⟩
              · by_cases h92 : r = 92
                · have e1 : decide ((32 : Int) ≤ (r : Int)) = true := by simp; omega
                  have e1' : decide (32 ≤ r) = true := by simp; omega
                  have e1I : (32 : Int) ≤ (r : Int) := by omega
                  have e2 : ((r : Int) != 34) = true := by simpa using (show (r : Int) ≠ 34 by omega)
                  have e3 : ((r : Int) != 92) = false := by rw [h92]; rfl
                  have HV : Hid (rawB o r = false) := Lib.hid (by rw [← HO.out, HOX.out]; unfold rawB; rw [Bool.true_and]; exact decide_eq_false (by omega))
                  clear h32 h34 h92
                  go_wp2_with fail
                  go_meet
                  exact ⟨by rw [← HC.out, HV.out], rfl⟩
                · have e1 : decide ((32 : Int) ≤ (r : Int)) = true := by simp; omega
                  have e1' : decide (32 ≤ r) = true := by simp; omega
                  have e1I : (32 : Int) ≤ (r : Int) := by omega
                  have e2 : ((r : Int) != 34) = true := by simpa using (show (r : Int) ≠ 34 by omega)
                  have e3 : ((r : Int) != 92) = true := by simpa using (show (r : Int) ≠ 92 by omega)
                  have HV : Hid (rawB o r = true) := Lib.hid (by rw [← HO.out, HOX.out]; unfold rawB; rw [Bool.true_and]; exact decide_eq_true (by omega))
                  clear h32 h34 h92
                  go_wp2_with fail
                  go_meet
                  exact ⟨by rw [← HC.out, HV.out], rfl⟩
            · have e1 : decide ((32 : Int) ≤ (r : Int)) = false := by simp; omega
              have e1' : decide (32 ≤ r) = false := by simp; omega
              have HV : Hid (rawB o r = false) := Lib.hid (by rw [← HO.out, HOX.out]; unfold rawB; rw [Bool.true_and]; exact decide_eq_false (by omega))
              clear h32
              go_wp2_with fail
              go_meet
              exact ⟨by rw [← HC.out, HV.out], rfl⟩
          · have h1 : i < len1 := by omega
            have h1I : (i : Int) < (len1 : Int) := by omega
            have g1 : decide (len1 ≤ i) = false := by simp; omega
            have g2 : decide (i < len1) = true := by simpa using h1
            obtain ⟨b1, off1, rfl, hb1, hc1⟩ := S3.out (by omega)
            have cl1 := hc1 i h1
            have cl1' : x1.cell? ⟨b1, off1 + i, none⟩ = some (.bool (z1.getD i false)) := by rw [HB1.out.cell (p := ⟨b1, off1 + i, none⟩) hb1]; exact cl1
            have HOX0 : Hid ((decide (len1 ≤ i) || !(z1.getD i false)) = !(z1.getD i false)) := Lib.hid (by simp; omega)
            obtain ⟨bt, hbt⟩ : ∃ bt, z1.getD i false = bt := ⟨_, rfl⟩
            rw [hbt] at cl1' HOX0
            have HO2 : Hid ((decide (len1 ≤ i) || !bt) = o) := Lib.hid (by rw [← hbt]; exact HO.out)
            clear hc1 cl1 hbt h1 HO
            cases bt with
            | true =>
              have HV : Hid (rawB o r = false) := Lib.hid (by rw [← HO2.out, HOX0.out]; rfl)
              go_wp2_with fail
              go_meet
              exact ⟨by rw [← HC.out, HV.out], rfl⟩
            | false =>
              have HO : Hid ((decide (len1 ≤ i) || !false) = o) := Lib.hid HO2.out
              have HOX : Hid ((decide (len1 ≤ i) || !false) = true) := Lib.hid (by simp)
              by_cases h32 : 32 ≤ r
              · by_cases h34 : r = 34
                · have e1 : decide ((32 : Int) ≤ (r : Int)) = true := by simp; omega
                  have e1' : decide (32 ≤ r) = true := by simp; omega
                  have e1I : (32 : Int) ≤ (r : Int) := by omega
                  have e2 : ((r : Int) != 34) = false := by rw [h34]; rfl
                  have HV : Hid (rawB o r = false) := Lib.hid (by rw [← HO.out, HOX.out]; unfold rawB; rw [Bool.true_and]; exact decide_eq_false (by omega))
                  clear h32 h34
                  go_wp2_with fail
                  go_meet
                  exact ⟨by rw [← HC.out, HV.out], rfl⟩
                · by_cases h92 : r = 92
                  · have e1 : decide ((32 : Int) ≤ (r : Int)) = true := by simp; omega
                    have e1' : decide (32 ≤ r) = true := by simp; omega
                    have e1I : (32 : Int) ≤ (r : Int) := by omega
                    have e2 : ((r : Int) != 34) = true := by simpa using (show (r : Int) ≠ 34 by omega)
                    have e3 : ((r : Int) != 92) = false := by rw [h92]; rfl
                    have HV : Hid (rawB o r = false) := Lib.hid (by rw [← HO.out, HOX.out]; unfold rawB; rw [Bool.true_and]; exact decide_eq_false (by omega))
                    clear h32 h34 h92
                    go_wp2_with fail
                    go_meet
                    exact ⟨by rw [← HC.out, HV.out], rfl⟩
                  · have e1 : decide ((32 : Int) ≤ (r : Int)) = true := by simp; omega
                    have e1' : decide (32 ≤ r) = true := by simp; omega
                    have e1I : (32 : Int) ≤ (r : Int) := by omega
                    have e2 : ((r : Int) != 34) = true := by simpa using (show (r : Int) ≠ 34 by omega)
                    have e3 : ((r : Int) != 92) = true := by simpa using (show (r : Int) ≠ 92 by omega)
                    have HV : Hid (rawB o r = true) := Lib.hid (by rw [← HO.out, HOX.out]; unfold rawB; rw [Bool.true_and]; exact decide_eq_true (by omega))
                    clear h32 h34 h92
                    go_wp2_with fail
                    go_meet
                    exact ⟨by rw [← HC.out, HV.out], rfl⟩
              · have e1 : decide ((32 : Int) ≤ (r : Int)) = false := by simp; omega
                have e1' : decide (32 ≤ r) = false := by simp; omega
                have HV : Hid (rawB o r = false) := Lib.hid (by rw [← HO.out, HOX.out]; unfold rawB; rw [Bool.true_and]; exact decide_eq_false (by omega))
                clear h32
                go_wp2_with fail
                go_meet
                exact ⟨by rw [← HC.out, HV.out], rfl⟩
        case rest =>
          obtain ⟨rfl, rfl⟩ := hcut
          clear HO H81
          cases C with
          | true =>
            have HP : Hid (PieceOk (r, false)) := Lib.hid ⟨HOR.out, fun _ => by
              have h := HC.out
              unfold rawB at h
              simp at h
              exact h.2⟩
            go_wp2_with fail
            refine (HBY.out _).mono ?_
            rintro e x2 ⟨v2, rfl, ho2, hb2⟩
            have HB2 := Lib.hid (ext_trans HB1.out hb2)
            have H82 := Lib.hid ho2.is8
            clear ho2 hb2
            go_wp2_with (refine wpList_toStr _ (by rfl) _ _ _ rfl 5 Try.underlying22 Try.underlying5 Try.underlying9 _ rfl _ H82.out ?_)
            exact ⟨⟨Q ++ [(r, false)], S ++ encR (r : Int), T ++ encR (r : Int), by have := HI.out; simp; omega, by have := HI.out; simp; omega, rfl, rfl, Lib.hid (by rw [bodyT_snoc, HS.out, pieceT_f]; rfl), Lib.hid (by rw [wantT_snoc, HT.out]), Lib.hid (fun x hx => by
              rcases List.mem_append.1 hx with h1 | h1
              · exact HOK.out x h1
              · simp at h1; subst h1; exact HP.out), HB2.out⟩, by simp [intOf]; omega⟩
          | false =>
            have HP : Hid (PieceOk (r, true)) := Lib.hid ⟨HOR.out, (fun h => by cases h)⟩
            obtain ⟨U, hU⟩ : ∃ U, escU r = U := ⟨_, rfl⟩
            have HU := Lib.hid hU
            have hUn : 1 ≤ U.length ∧ U.length ≤ 2 := by rw [← hU]; unfold escU; split <;> simp
            have HUB : Hid (∀ k, k < U.length → U.getD k 0 < 65536) := Lib.hid (by
              rw [← hU]
              intro k hk
              unfold escU at hk ⊢
              split at hk
              · rename_i h; rw [if_pos h]
                obtain rfl : k = 0 := by simpa using hk
                show r < 65536; omega
              · rename_i h; rw [if_neg h]
                simp at hk
                rcases (by omega : k = 0 ∨ k = 1) with rfl | rfl
                · show 55296 + (r - 65536) / 1024 < 65536; omega
                · show 56320 + (r - 65536) % 1024 < 65536; omega)
            obtain ⟨hU1, hU2⟩ := hUn
            clear hU HC
            go_upto_if 87 with fail
            go_cut [10] (fun s10 wy => ∃ g : Nat, s10 = .slice (some ⟨g, 0, none⟩) U.length U.length ∧ Hid (∀ k, k < U.length → wy.cell? ⟨g, k, none⟩ = some (.int .i64 ((U.getD k 0 : Nat) : Int))) ∧ g < wy.heap.size ∧ Below w.heap.size w wy)
            case first =>
              by_cases h16 : r ≤ 65535
              · have h16I : (r : Int) ≤ 65535 := by omega
                have e1 : decide ((65535 : Int) < (r : Int)) = false := by simp; omega
                have e1' : decide (65535 < r) = false := by simp; omega
                obtain rfl : U = [r] := by rw [← HU.out]; unfold escU; rw [if_pos h16]
                go_wp2_with fail
                go_meet
                exact ⟨_, rfl, Lib.hid (fun k hk => by
                  obtain rfl : k = 0 := by simpa using hk
                  rw [cell_new1]; rfl), by simp, HB1.out.alloc HB1.out.size _⟩
              · have h16I : (65535 : Int) < (r : Int) := by omega
                have e1 : decide ((65535 : Int) < (r : Int)) = true := by simp; omega
                have e1' : decide (65535 < r) = true := by simp; omega
                obtain rfl : U = [55296 + (r - 65536) / 1024, 56320 + (r - 65536) % 1024] := by rw [← HU.out]; unfold escU; rw [if_neg h16]
                have hba := i64_and1023 ((r : Int) - 65536) (by omega) (by omega)
                go_wp2_with fail
                go_meet
                clear hba
                exact ⟨_, rfl, Lib.hid (fun k hk => by
                  have hk2 : k < 2 := hk
                  rcases (by omega : k = 0 ∨ k = 1) with rfl | rfl
                  · rw [cell_new2]
                    show some (Value.int .i64 (55296 + ((r : Int) - 65536) / 1024)) = some (Value.int .i64 ((55296 + (r - 65536) / 1024 : Nat) : Int))
                    rw [show 55296 + ((r : Int) - 65536) / 1024 = ((55296 + (r - 65536) / 1024 : Nat) : Int) by omega]
                  · rw [cell_new2]
                    show some (Value.int .i64 (56320 + ((r : Int) - 65536) % 1024)) = some (Value.int .i64 ((56320 + (r - 65536) % 1024 : Nat) : Int))
                    rw [show 56320 + ((r : Int) - 65536) % 1024 = ((56320 + (r - 65536) % 1024 : Nat) : Int) by omega]), by simp, (HB1.out.alloc HB1.out.size _).alloc (by have := HB1.out.size; simp; omega) _⟩
            case rest =>
              obtain ⟨g, rfl, HCL, hg, hb2⟩ := hcut
              obtain ⟨wo, rfl⟩ : ∃ x, x = wc := ⟨wc, rfl⟩
              have HBO := Lib.hid hb2
              clear hb2
              go_wp2_with fail
              go_loopw [6, 12] (fun t6 t12 wx => ∃ (k : Nat) (S2 : List UInt8), k ≤ U.length ∧ t12 = .int .i64 k ∧ t6 = .string ⟨S2.toArray⟩ ∧ Hid (S2 = S ++ (U.take k).flatMap esc4) ∧ S2.length ≤ S.length + 6 * k ∧ Below wo.heap.size wo wx) (fun _ t12 _ => U.length - (intOf t12).toNat)
              case atStart => exact ⟨0, S, Nat.zero_le _, rfl, rfl, Lib.hid (by simp), by omega, Below.refl _ _⟩
              case round =>
                obtain ⟨k, S2, hk, rfl, rfl, HS2, hS2, hbk⟩ := hrel
                have HBK := Lib.hid hbk
                clear hbk
                by_cases hkl : k < U.length
                · have hklI : (k : Int) < (U.length : Int) := by omega
                  have hu := HUB.out k hkl
                  have HCK : Hid (∀ x, Below wo.heap.size wo x → x.cell? ⟨g, k, none⟩ = some (.int .i64 ((U.getD k 0 : Nat) : Int))) := Lib.hid (fun x hx => by rw [hx.cell (p := ⟨g, k, none⟩) hg]; exact HCL.out k hkl)
                  have HTF := Lib.hid (take_flat hkl)
                  obtain ⟨u, hue⟩ : ∃ u, U.getD k 0 = u := ⟨_, rfl⟩
                  rw [hue] at hu HCK HTF
                  have huI : (u : Int) < 65536 := by omega
                  have hcatU : S2.length + 2 ≤ 9223372036854775807 := by omega
                  obtain ⟨wk, rfl⟩ : ∃ x, x = wr := ⟨wr, rfl⟩
                  clear hue
                  go_wp2_with fail
                  go_loopw [6, 13] (fun t6 t13 wx => ∃ (q : Nat) (S3 : List UInt8), (q = 0 ∧ t13 = .int .i64 12 ∨ q = 1 ∧ t13 = .int .i64 8 ∨ q = 2 ∧ t13 = .int .i64 4 ∨ q = 3 ∧ t13 = .int .i64 0 ∨ q = 4 ∧ t13 = .int .i64 (-4)) ∧ t6 = .string ⟨S3.toArray⟩ ∧ Hid (S3 = S2 ++ [92, 117] ++ (hex4 u).take q) ∧ S3.length ≤ S2.length + 2 + q ∧ Below wk.heap.size wk wx) (fun _ t13 _ => (intOf t13 + 4).toNat)
                  case atStart => exact ⟨0, S2 ++ [92, 117], .inl ⟨rfl, rfl⟩, rfl, Lib.hid (by simp), by simp, Below.refl _ _⟩
                  case round =>
                    obtain ⟨q, S3, hq, rfl, HS3, hS3, hbj⟩ := hrel
                    have HBJ := Lib.hid hbj
                    have cu : wr.cell? ⟨g, k, none⟩ = some (.int .i64 u) := HCK.out _ (ext_trans HBK.out hbj)
                    have hcat3 : S3.length + 1 ≤ 9223372036854775807 := by omega
                    clear hbj
                    rcases hq with ⟨rfl, rfl⟩ | ⟨rfl, rfl⟩ | ⟨rfl, rfl⟩ | ⟨rfl, rfl⟩ | ⟨rfl, rfl⟩
                    · obtain ⟨d, hd⟩ : ∃ d, u / 4096 % 16 = d := ⟨_, rfl⟩
                      have hd16 : (d : Int) < 16 := by omega
                      have hba : bits .and .i64 ((u : Int) / 4096) 15 = (d : Int) := by rw [i64_and15 _ (by omega) (by omega)]; omega
                      have hcv := dig_str d wr
                      have HF : Hid (S3 ++ [hexD d] = S2 ++ [92, 117] ++ (hex4 u).take 1) := Lib.hid (by rw [HS3.out, ← hd]; unfold hex4; simp)
                      have HQ : Hid (0 < 4) := Lib.hid (by decide)
                      clear hd
                      go_wp2_with fail
                      exact ⟨⟨1, S3 ++ [hexD d], .inr (.inl ⟨rfl, rfl⟩), rfl, HF, by simp; omega, (ext_trans HBJ.out (ext_alloc _ _))⟩, by simp [intOf]⟩
                    · obtain ⟨d, hd⟩ : ∃ d, u / 256 % 16 = d := ⟨_, rfl⟩
                      have hd16 : (d : Int) < 16 := by omega
                      have hba : bits .and .i64 ((u : Int) / 256) 15 = (d : Int) := by rw [i64_and15 _ (by omega) (by omega)]; omega
                      have hcv := dig_str d wr
                      have HF : Hid (S3 ++ [hexD d] = S2 ++ [92, 117] ++ (hex4 u).take 2) := Lib.hid (by rw [HS3.out, ← hd]; unfold hex4; simp)
                      have HQ : Hid (1 < 4) := Lib.hid (by decide)
                      clear hd
                      go_wp2_with fail
                      exact ⟨⟨2, S3 ++ [hexD d], .inr (.inr (.inl ⟨rfl, rfl⟩)), rfl, HF, by simp; omega, (ext_trans HBJ.out (ext_alloc _ _))⟩, by simp [intOf]⟩
                    · obtain ⟨d, hd⟩ : ∃ d, u / 16 % 16 = d := ⟨_, rfl⟩
                      have hd16 : (d : Int) < 16 := by omega
                      have hba : bits .and .i64 ((u : Int) / 16) 15 = (d : Int) := by rw [i64_and15 _ (by omega) (by omega)]; omega
                      have hcv := dig_str d wr
                      have HF : Hid (S3 ++ [hexD d] = S2 ++ [92, 117] ++ (hex4 u).take 3) := Lib.hid (by rw [HS3.out, ← hd]; unfold hex4; simp)
                      have HQ : Hid (2 < 4) := Lib.hid (by decide)
                      clear hd
                      go_wp2_with fail
                      exact ⟨⟨3, S3 ++ [hexD d], .inr (.inr (.inr (.inl ⟨rfl, rfl⟩))), rfl, HF, by simp; omega, (ext_trans HBJ.out (ext_alloc _ _))⟩, by simp [intOf]⟩
                    · obtain ⟨d, hd⟩ : ∃ d, u % 16 = d := ⟨_, rfl⟩
                      have hd16 : (d : Int) < 16 := by omega
                      have hba : bits .and .i64 ((u : Int)) 15 = (d : Int) := by rw [i64_and15 _ (by omega) (by omega)]; omega
                      have hcv := dig_str d wr
                      have HF : Hid (S3 ++ [hexD d] = S2 ++ [92, 117] ++ (hex4 u).take 4) := Lib.hid (by rw [HS3.out, ← hd]; unfold hex4; simp)
                      have HQ : Hid (3 < 4) := Lib.hid (by decide)
                      clear hd
                      go_wp2_with fail
                      exact ⟨⟨4, S3 ++ [hexD d], .inr (.inr (.inr (.inr ⟨rfl, rfl⟩))), rfl, HF, by simp; omega, (ext_trans HBJ.out (ext_alloc _ _))⟩, by simp [intOf]⟩
                    · have HF : Hid (S3 = S ++ (U.take (k + 1)).flatMap esc4) := Lib.hid (by rw [HS3.out, HTF.out, HS2.out]; unfold esc4 hex4; simp)
                      go_wp2_with fail
                      exact ⟨⟨k + 1, S3, by omega, by go_num, rfl, HF, by omega, ext_trans HBK.out HBJ.out⟩, by simp [intOf]; omega⟩
                · have hkl2 : decide ((k : Int) < (U.length : Int)) = false := by simp; omega
                  have hkl3 : decide (k < U.length) = false := by simp; omega
                  have HF : Hid (S2 = S ++ escT r) := Lib.hid (by rw [HS2.out, List.take_of_length_le (by omega), ← HU.out]; rfl)
                  have HB3 := Lib.hid (ext_trans HBO.out HBK.out)
                  go_wp2_with fail
                  exact ⟨⟨Q ++ [(r, true)], S2, T ++ encR (r : Int), by have := HI.out; simp; omega, by have := HI.out; simp; omega, rfl, rfl, Lib.hid (by rw [bodyT_snoc, HF.out, HS.out, pieceT_t]; rfl), Lib.hid (by rw [wantT_snoc, HT.out]), Lib.hid (fun x hx => by
                    rcases List.mem_append.1 hx with h1 | h1
                    · exact HOK.out x h1
                    · simp at h1; subst h1; exact HP.out), HB3.out⟩, by simp [intOf]; omega⟩
      · have hge : decide ((i : Int) < (len0 : Int)) = false := by simp; omega
        have hge2 : decide (i < len0) = false := by simp; omega
        have hSe : S ++ [34] = 34 :: bodyT Q ++ [34] := by rw [HS.out]
        have hSl2 : (bodyT Q).length + 2 = S.length + 1 := by rw [HS.out]; simp
        have HTK := Lib.hid (fun v W (h : Is8 W v (S ++ [34])) => Tokens_any v (S ++ [34]) W h (by simp; omega))
        rw [show toksM (S ++ [34]) = ([(7, 0, T)], S.length + 1, 0) by rw [hSe, body_toks HOK.out, HT.out, hSl2]] at HTK
        have HTK2 : Hid (∀ v W, Is8 W v (S ++ [34]) → Calls Try.prog 17 #[v] W fun e w' => ∃ vt, e = .returned (.tuple #[vt, .int .i64 ((S.length + 1 : Nat) : Int), .int .i64 0]) ∧ OwnT w' W.heap.size vt [(7, 0, T)] ∧ Below W.heap.size W w') := Lib.hid HTK.out
        have hcat : S.length + 1 ≤ 9223372036854775807 := by omega
        have hrun : ∀ w, (binOp .eql 40 (.agg #[.int .i64 7, .int .i64 0, .string ⟨T.toArray⟩]) (.agg #[.int .i64 7, .int .i64 0, .string ⟨T.toArray⟩])).run Try.prog w = .ok (.bool true) w := fun w => by
          have h := tk_eq_run 7 7 0 0 T T w
          rw [tkEq_iff.2 rfl] at h
          exact h
        clear HTK hSe hSl2
        go_wp2_with (refine wpList_toBytes _ (by rfl) 9 22 _ rfl 5 Try.underlying9 Try.underlying22 Try.underlying5 (S ++ [34]) (by simp [Act.eval, Act.put]) (by simp; omega) ?_)
        intro b cap x3 h8 hb3 hbe
        have HB3 := Lib.hid (ext_trans HB.out hb3)
        clear hbe hb3
        go_wp2_with fail
        refine (HTK2.out _ _ h8).mono ?_
        rintro e x4 ⟨v4, rfl, ho4, hb4⟩
        have HB4 := Lib.hid (ext_trans HB3.out hb4)
        obtain ⟨a9, c9, rfl, k1, k2, k3⟩ := ho4.isT
        obtain ⟨g, rfl, k4⟩ := k3 (by simp)
        obtain ⟨t0, t1, t2⟩ := k4 0 (by simp)
        have t0' : x4.cell? ⟨g, 0, none⟩ = some (.int .i64 7) := t0
        have t1' : x4.cell? ⟨g, 1, none⟩ = some (.int .i64 0) := t1
        have t2' : x4.cell? ⟨g, 2, none⟩ = some (.string ⟨T.toArray⟩) := t2
        clear ho4 hb4 k3 k4 t0 t1 t2 h8
        go_wp2_with fail
        refine (awake_any _).mono ?_
        rintro e x5 ⟨rfl, hb5⟩
        have HB5 := Lib.hid (ext_trans HB4.out hb5)
        clear hb5
        go_wp2_with fail
        go_ret
        exact ⟨rfl, HB5.out⟩
  · have h1 : (30 : Int) < (len0 : Int) := by omega
    go_enter Try.func6, Try.ntmps6
    go_wp2_with fail
    refine (awake_any _).mono ?_
    rintro e x2 ⟨rfl, hb2⟩
    go_wp2_with fail
    go_ret
    exact ⟨rfl, hb2⟩
end Go.Proofs.Ytkdmmmheciffgaa
