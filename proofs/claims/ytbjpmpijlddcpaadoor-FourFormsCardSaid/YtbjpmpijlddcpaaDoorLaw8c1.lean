/- FourForms of 1 numbers. -/
import Derived.Test.YtbjpmpijlddcpaaDoorLaw8b
set_option linter.unusedVariables false
set_option linter.unusedSimpArgs false
namespace Go.Proofs.YtbjpmpijlddcpaaDoor
open Go.RowKit

set_option maxRecDepth 100000 in
set_option maxHeartbeats 8000000 in
theorem forms_walk1 (n : Nat) (a1 : Int) (a2 : Option Addr) (len2 cap2 : Nat) (f : Nat → Int) (dot : Bool) (w : World) (hn : n < 4294967296) (hlow : lowN a1 4 = 0) (h0 : -9223372036854775808 ≤ a1) (h1 : a1 ≤ 9223372036854775807) (hlen : len2 ≤ 9223372036854775807)
    (hC : 0 < len2 → ∃ b off, a2 = some ⟨b, off, none⟩ ∧ ∀ i, i < len2 → w.cell? ⟨b, off + i, none⟩ = some (.int .i64 (f i)) ∧ -9223372036854775808 ≤ f i ∧ f i ≤ 9223372036854775807) (htab : Tab w) :
    Calls Tryd.prog 5 #[.int .u32 n, .int .i64 a1, .slice a2 len2 cap2, .bool dot] w fun e w' => e = .returned (.bool true) ∧ Below w.heap.size w w' := by
  have n0 : (0 : Int) ≤ (n : Int) := by omega
  have HT := Lib.hid htab
  have HC := Lib.hid hC
  clear hC htab
  have C0 := Lib.hid (low_any a1 4 · h0 h1 (by decide) (by decide))
  rw [hlow] at C0
  have HN := Lib.hid hn
  clear hlow h0 h1
  go_enter Tryd.func5, Tryd.ntmps5
  go_wp2_with fail
  refine (C0.out _).mono ?_
  rintro e w' ⟨rfl, rfl⟩
  clear hn
  go_wp2_with fail
  go_loopw [10, 11, 12, 13] (fun ts ti _ _ wr => ∃ (i : Nat) (s : List UInt8), (i = 0 ∨ i = 1) ∧ ti = .int .i64 i ∧ ts = .string ⟨s.toArray⟩ ∧ Hid (FormsAt n 1 i s) ∧ ∃ m, wr = w.drewN m) (fun _ ti _ _ _ => 1 - (intOf ti).toNat)
  case atStart => exact ⟨0, [], by decide, rfl, rfl, Lib.hid (forms_start n 1), 0, rfl⟩
  case round =>
    obtain ⟨i, s, hi, rfl, rfl, HF, m, rfl⟩ := hrel
    have hsl := forms_len HF.out
    rcases hi with rfl | rfl
    · obtain rfl := forms_nil HF.out
      have hs1 : ([] : List UInt8).length + 1 ≤ 9223372036854775807 := by omega
      have hs2 : ([] : List UInt8).length ≤ 300 := by omega
      have hx : (n : Int) % 4294967296 = ((xi n 1 0 : Nat) : Int) := by have := HN.out; unfold xi; first | (simp; done) | (simp; omega)
      have hxl : xi n 1 0 < 4294967296 := by have := HN.out; unfold xi; simp; omega
      have hb : True := trivial
      have HNT := Lib.hid (fun h => numT_form h (xi n 1 0) hxl)
      have D8 := Lib.hid (digits8_any (xi n 1 0 + 1) (xi n 1 0) · (by omega) hxl)
      have D10 := Lib.hid (digits10_any (xi n 1 0 + 1) (xi n 1 0) · (by omega) hxl)
      have D16 := Lib.hid (digits16_any (xi n 1 0 + 1) (xi n 1 0) · (by omega) hxl)
      have l8 := digB_100 (b := 8) (by unfold isBase; omega) (xi n 1 0) (by omega)
      have l10 := digB_100 (b := 10) (by unfold isBase; omega) (xi n 1 0) (by omega)
      have l16 := digB_100 (b := 16) (by unfold isBase; omega) (xi n 1 0) (by omega)
      have HXE : Hid (∃ x, xi n 1 0 = x) := Lib.hid ⟨_, rfl⟩
      obtain ⟨x, hxx⟩ := HXE.out
      have HXX := Lib.hid hxx
      rw [hxx] at hx HNT D8 D10 D16 l8 l10 l16
      clear hxx hxl HXE
      have x0 : (0 : Int) ≤ (x : Int) := by omega
      have k8a : ([] : List UInt8).length + 1 + (digB 8 x).length ≤ 9223372036854775807 := by omega
      have k8b : ([] : List UInt8).length + (digB 8 x).length ≤ 9223372036854775807 := by omega
      have k8c : ([] : List UInt8).length + 1 + 1 + (digB 8 x).length ≤ 9223372036854775807 := by omega
      have k8d : ([] : List UInt8).length + 2 + (digB 8 x).length ≤ 9223372036854775807 := by omega
      have k8e : ([] : List UInt8).length + 5 + (digB 8 x).length ≤ 9223372036854775807 := by omega
      have k8f : ([] : List UInt8).length + 1 + 2 + (digB 8 x).length ≤ 9223372036854775807 := by omega
      have k8g : ([] : List UInt8).length + 1 + 5 + (digB 8 x).length ≤ 9223372036854775807 := by omega
      have k10a : ([] : List UInt8).length + 1 + (digB 10 x).length ≤ 9223372036854775807 := by omega
      have k10b : ([] : List UInt8).length + (digB 10 x).length ≤ 9223372036854775807 := by omega
      have k10c : ([] : List UInt8).length + 1 + 1 + (digB 10 x).length ≤ 9223372036854775807 := by omega
      have k10d : ([] : List UInt8).length + 2 + (digB 10 x).length ≤ 9223372036854775807 := by omega
      have k10e : ([] : List UInt8).length + 5 + (digB 10 x).length ≤ 9223372036854775807 := by omega
      have k10f : ([] : List UInt8).length + 1 + 2 + (digB 10 x).length ≤ 9223372036854775807 := by omega
      have k10g : ([] : List UInt8).length + 1 + 5 + (digB 10 x).length ≤ 9223372036854775807 := by omega
      have k16a : ([] : List UInt8).length + 1 + (digB 16 x).length ≤ 9223372036854775807 := by omega
      have k16b : ([] : List UInt8).length + (digB 16 x).length ≤ 9223372036854775807 := by omega
      have k16c : ([] : List UInt8).length + 1 + 1 + (digB 16 x).length ≤ 9223372036854775807 := by omega
      have k16d : ([] : List UInt8).length + 2 + (digB 16 x).length ≤ 9223372036854775807 := by omega
      have k16e : ([] : List UInt8).length + 5 + (digB 16 x).length ≤ 9223372036854775807 := by omega
      have k16f : ([] : List UInt8).length + 1 + 2 + (digB 16 x).length ≤ 9223372036854775807 := by omega
      have k16g : ([] : List UInt8).length + 1 + 5 + (digB 16 x).length ≤ 9223372036854775807 := by omega
      have j1 : ([] : List UInt8).length + 1 + 1 ≤ 9223372036854775807 := by omega
      have j2 : ([] : List UInt8).length + 1 + 2 ≤ 9223372036854775807 := by omega
      have j5 : ([] : List UInt8).length + 1 + 5 ≤ 9223372036854775807 := by omega
      have j3 : ([] : List UInt8).length + 2 ≤ 9223372036854775807 := by omega
      have j4 : ([] : List UInt8).length + 5 ≤ 9223372036854775807 := by omega
      clear hsl hs2
      by_cases hl : (0 : Int) < (len2 : Int)
      · obtain ⟨b, off, rfl, hcc⟩ := HC.out (by omega)
        obtain ⟨hcell, v0, v1⟩ := hcc 0 (by omega)
        obtain ⟨v, hv⟩ : ∃ v, f 0 = v := ⟨_, rfl⟩
        rw [hv] at hcell v0 v1
        rw [Nat.add_zero] at hcell
        have CL := Lib.hid (low_any v 4 · v0 v1 (by decide) (by decide))
        have hh := lowN_bd v 4 (by decide)
        obtain ⟨h, hh2⟩ : ∃ h, lowN v 4 = h := ⟨_, rfl⟩
        rw [hh2] at CL hh
        clear hcc hv v0 v1 hh2
        rcases (by omega : h = 0 ∨ h = 1 ∨ h = 2 ∨ h = 3) with rfl | rfl | rfl | rfl
        · clear hh
          go_wp2_with fail
          refine (CL.out _).mono ?_
          rintro e w' ⟨rfl, rfl⟩
          go_wp2_with fail
          refine (D10.out _).mono ?_
          rintro e w' ⟨rfl, m2, rfl⟩
          go_wp2_with fail
          refine ⟨⟨1, _, by decide, by first | rfl | go_num, rfl, ?_, _, by first | rfl | (rw [World.drewN_drewN])⟩, by simp [intOf]⟩
          have hfs := forms_step HF.out (by have := HNT.out 0; rw [← HXX.out] at this; exact this)
          rw [HXX.out] at hfs
          exact Lib.hid (by simpa [formT] using hfs)
        · clear hh
          go_wp2_with fail
          refine (CL.out _).mono ?_
          rintro e w' ⟨rfl, rfl⟩
          go_wp2_with fail
          refine (D8.out _).mono ?_
          rintro e w' ⟨rfl, m2, rfl⟩
          go_wp2_with fail
          refine ⟨⟨1, _, by decide, by first | rfl | go_num, rfl, ?_, _, by first | rfl | (rw [World.drewN_drewN])⟩, by simp [intOf]⟩
          have hfs := forms_step HF.out (by have := HNT.out 1; rw [← HXX.out] at this; exact this)
          rw [HXX.out] at hfs
          exact Lib.hid (by simpa [formT] using hfs)
        · clear hh
          go_wp2_with fail
          refine (CL.out _).mono ?_
          rintro e w' ⟨rfl, rfl⟩
          go_wp2_with fail
          refine (D16.out _).mono ?_
          rintro e w' ⟨rfl, m2, rfl⟩
          go_wp2_with fail
          refine ⟨⟨1, _, by decide, by first | rfl | go_num, rfl, ?_, _, by first | rfl | (rw [World.drewN_drewN])⟩, by simp [intOf]⟩
          have hfs := forms_step HF.out (by have := HNT.out 2; rw [← HXX.out] at this; exact this)
          rw [HXX.out] at hfs
          exact Lib.hid (by simpa [formT] using hfs)
        · clear hh
          go_wp2_with fail
          refine (CL.out _).mono ?_
          rintro e w' ⟨rfl, rfl⟩
          go_wp2_with fail
          refine (D16.out _).mono ?_
          rintro e w' ⟨rfl, m2, rfl⟩
          go_wp2_with fail
          refine ⟨⟨1, _, by decide, by first | rfl | go_num, rfl, ?_, _, by first | rfl | (rw [World.drewN_drewN])⟩, by simp [intOf]⟩
          have hfs := forms_step HF.out (by have := HNT.out 3; rw [← HXX.out] at this; exact this)
          rw [HXX.out] at hfs
          exact Lib.hid (by simpa [formT] using hfs)
      · have hl2 : (len2 : Int) ≤ 0 := by omega
        go_wp2_with fail
        refine (D10.out _).mono ?_
        rintro e w' ⟨rfl, m2, rfl⟩
        go_wp2_with fail
        refine ⟨⟨1, _, by decide, by first | rfl | go_num, rfl, ?_, _, by first | rfl | (rw [World.drewN_drewN])⟩, by simp [intOf]⟩
        have hfs := forms_step HF.out (by have := HNT.out 0; rw [← HXX.out] at this; exact this)
        rw [HXX.out] at hfs
        exact Lib.hid (by simpa [formT] using hfs)
    · have hs2 : s.length ≤ 300 := by omega
      have hs1 : s.length + 1 ≤ 9223372036854775807 := by omega
      have HEN := Lib.hid (forms_end HF.out (by decide) (by decide) HN.out)
      cases dot with
      | true =>
        have e1 := (HEN.out true).1
        have e2 := (HEN.out true).2
        rw [if_pos rfl] at e1 e2
        have C1 := Lib.hid (Parse_any (s ++ [46]) · (by simp; omega))
        have C2 := Lib.hid (Ends2_any (s ++ [46]) · (by simp; omega))
        rw [e1] at C1
        rw [e2] at C2
        clear e1 e2 hsl hs2
        go_wp2_with fail
        refine (C1.out _).mono ?_
        rintro e w1 ⟨rfl, hb1⟩
        have HB1 := Lib.hid hb1
        clear hb1
        go_wp2_with fail
        refine (C2.out _).mono ?_
        rintro e w' ⟨rfl, rfl⟩
        go_wp2_with fail
        refine (awake8_any _ ((HT.out.below (ext_drew w m)).below HB1.out)).mono ?_
        rintro e w5 ⟨rfl, hb5⟩
        go_wp2
        go_ret
        exact ⟨rfl, ext_trans (ext_drew w m) (ext_trans HB1.out hb5)⟩
      | false =>
        have e1 := (HEN.out false).1
        have e2 := (HEN.out false).2
        rw [if_neg (by decide), List.append_nil] at e1 e2
        have C1 := Lib.hid (Parse_any s · (by omega))
        have C2 := Lib.hid (Ends2_any s · (by omega))
        rw [e1] at C1
        rw [e2] at C2
        clear e1 e2 hsl hs2
        go_wp2_with fail
        refine (C1.out _).mono ?_
        rintro e w1 ⟨rfl, hb1⟩
        have HB1 := Lib.hid hb1
        clear hb1
        go_wp2_with fail
        refine (C2.out _).mono ?_
        rintro e w' ⟨rfl, rfl⟩
        go_wp2_with fail
        refine (awake8_any _ ((HT.out.below (ext_drew w m)).below HB1.out)).mono ?_
        rintro e w5 ⟨rfl, hb5⟩
        go_wp2
        go_ret
        exact ⟨rfl, ext_trans (ext_drew w m) (ext_trans HB1.out hb5)⟩
end Go.Proofs.YtbjpmpijlddcpaaDoor
