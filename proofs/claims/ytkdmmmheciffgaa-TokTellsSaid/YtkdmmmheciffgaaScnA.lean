/- Contracts of ref5's scan: is, take, digits, number. -/
import Derived.Test.YtkdmmmheciffgaaTokX
set_option linter.unusedVariables false
set_option linter.unusedSimpArgs false
namespace Go.Proofs.Ytkdmmmheciffgaa
open Go.RowKit

/-- A scan at i; is it wrong? -/
def Scn (w : World) (g : Nat) (vb : Value) (i : Nat) (bad : Bool) : Prop := Box w g 58 [vb, .int .i64 i, .bool bad]
theorem Scn.c0 {w : World} {g : Nat} {vb : Value} {i : Nat} {bad : Bool} (h : Scn w g vb i bad) : w.cell? ⟨g, 0, none⟩ = some vb := by rw [Box.cell h]; rfl
theorem Scn.c1 {w : World} {g : Nat} {vb : Value} {i : Nat} {bad : Bool} (h : Scn w g vb i bad) : w.cell? ⟨g, 1, none⟩ = some (.int .i64 i) := by rw [Box.cell h]; rfl
theorem Scn.c2 {w : World} {g : Nat} {vb : Value} {i : Nat} {bad : Bool} (h : Scn w g vb i bad) : w.cell? ⟨g, 2, none⟩ = some (.bool bad) := by rw [Box.cell h]; rfl
theorem Scn.to {w : World} {g : Nat} {vb : Value} {i : Nat} {bad : Bool} (h : Scn w g vb i bad) (k j : Nat) (x : Int) (hx : x = (j : Int)) : Scn ((w.drewN k).setCell ⟨g, 1, none⟩ (.int .i64 x)) g vb j bad := by
  subst hx
  exact Box.set (Box.drew h k) 1 (by simp) _
theorem Scn.bad {w : World} {g : Nat} {vb : Value} {i : Nat} {bad : Bool} (h : Scn w g vb i bad) (k : Nat) : Scn ((w.drewN k).setCell ⟨g, 2, none⟩ (.bool true)) g vb i true := Box.set (Box.drew h k) 2 (by simp) _
def memB (c : Int) (l : List UInt8) : Bool := l.any fun x => (x.toNat : Int) == c
theorem memB_step {c : Int} {l : List UInt8} {j : Nat} (h : j < l.length) : memB c (l.drop j) = ((byt l j == c) || memB c (l.drop (j + 1))) := by
  rw [List.drop_eq_getElem_cons h]
  have e : byt l j = ((l[j]).toNat : Int) := by unfold byt; simp [List.getD, h]
  rw [e]; rfl
/-- Does a byte of some stand there? -/
def isB (b : List UInt8) (bad : Bool) (i : Nat) (l : List UInt8) : Bool := !bad && (decide (i < b.length) && memB (byt b i) l)
theorem isB_lt {b : List UInt8} {bad : Bool} {i : Nat} {l : List UInt8} (h : isB b bad i l = true) : i < b.length := by
  unfold isB at h; simp at h; exact h.2.1
set_option maxRecDepth 100000 in
set_option maxHeartbeats 4000000 in
theorem is_any (g : Nat) (vb : Value) (b : List UInt8) (i : Nat) (bad : Bool) (l : List UInt8) (w : World) (hs : Scn w g vb i bad) (ht : Text w g vb b) (hl : l.length ≤ 1000) (hi : i ≤ 2000000) :
    Calls Try.prog 26 #[.pointer (some ⟨g, 0, none⟩), .string ⟨l.toArray⟩] w fun e w' => e = .returned (.bool (isB b bad i l)) ∧ ∃ n, w' = w.drewN n := by
  have hm := ht.le
  have d0 := hs.c0
  have d1 := hs.c1
  have d2 := hs.c2
  have HT := Lib.hid ht
  clear hs ht
  obtain ⟨a, cap, e, h1, h2, -, h4⟩ := HT.out.is
  subst e
  unfold maxLen at h2
  cases bad with
  | true =>
    clear h4
    go_enter Try.func26, Try.ntmps26
    go_wp2_with fail
    go_quiet (fail)
    go_wp2_with fail
    go_ret
    exact ⟨rfl, _, rfl⟩
  | false =>
    by_cases hlt : i < b.length
    · obtain ⟨bb, off, rfl, hc⟩ := h4 (by omega)
      have hcell : w.cell? ⟨bb, off + i, none⟩ = some (.int .u8 (byt b i)) := hc.at i hlt
      have hltI : (i : Int) < (b.length : Int) := by omega
      have hgd : decide ((b.length : Int) ≤ (i : Int)) = false := by simp; omega
      have HI : Hid (isB b false i l = memB (byt b i) l) := Lib.hid (by unfold isB; simp [hlt])
      obtain ⟨c, hcc⟩ : ∃ c, byt b i = c := ⟨_, rfl⟩
      rw [hcc] at hcell HI
      clear hcc hc h4
      have HMS := Lib.hid (fun j (h : j < l.length) => memB_step (c := c) h)
      go_enter Try.func26, Try.ntmps26
      go_wp2_with fail
      go_quiet (fail)
      go_wp2_with fail
      go_loopw [5] (fun tj wr => ∃ j : Nat, j ≤ l.length ∧ tj = .int .i64 j ∧ Hid (memB c l = memB c (l.drop j)) ∧ ∃ m, wr = w.drewN m) (fun tj _ => l.length - (intOf tj).toNat)
      case atStart => exact ⟨0, Nat.zero_le _, rfl, Lib.hid rfl, _, rfl⟩
      case round =>
        obtain ⟨j, hj, rfl, HE, m, rfl⟩ := hrel
        by_cases hlt2 : j < l.length
        · have hlt2I : (j : Int) < (l.length : Int) := by omega
          have HST := Lib.hid (HE.out.trans (HMS.out j hlt2))
          by_cases hq : c = byt l j
          · have g1 : (c == byt l j) = true := by simpa using hq
            have HF : Hid (isB b false i l = true) := Lib.hid (by rw [HI.out, HST.out, hq]; simp)
            clear hq
            go_wp2_with fail
            go_quiet (fail)
            go_wp2_with fail
            go_ret
            exact ⟨ret_b HF.out.symm, _, by first | rfl | (rw [World.drewN_drewN])⟩
          · have g1 : (c == byt l j) = false := by simpa using hq
            have HF : Hid (memB c l = memB c (l.drop (j + 1))) := Lib.hid (by
              rw [HST.out]
              have : (byt l j == c) = false := by rw [beq_eq_false_iff_ne]; exact fun h => hq h.symm
              rw [this]; rfl)
            clear hq
            go_wp2_with fail
            go_quiet (fail)
            go_wp2_with fail
            exact ⟨⟨j + 1, by omega, by go_num, HF, _, by first | rfl | (rw [World.drewN_drewN])⟩, by simp [intOf]; omega⟩
        · have HF : Hid (isB b false i l = false) := Lib.hid (by rw [HI.out, HE.out, List.drop_of_length_le (by omega)]; rfl)
          have hlt2I : (l.length : Int) ≤ (j : Int) := by omega
          go_wp2_with fail
          go_ret
          exact ⟨ret_b HF.out.symm, _, rfl⟩
    · have HI : Hid (isB b false i l = false) := Lib.hid (by unfold isB; simp; omega)
      have hgd : decide ((b.length : Int) ≤ (i : Int)) = true := by simp; omega
      clear h4
      go_enter Try.func26, Try.ntmps26
      go_wp2_with fail
      go_quiet (fail)
      go_wp2_with fail
      go_ret
      exact ⟨ret_b HI.out.symm, _, rfl⟩
def stepI (t : Bool) (i : Nat) : Nat := if t = true then i + 1 else i
set_option maxHeartbeats 4000000 in
theorem take_any (g : Nat) (vb : Value) (b : List UInt8) (i : Nat) (bad : Bool) (l : List UInt8) (w : World) (hs : Scn w g vb i bad) (ht : Text w g vb b) (hl : l.length ≤ 1000) (hi : i ≤ 2000000) :
    Calls Try.prog 30 #[.pointer (some ⟨g, 0, none⟩), .string ⟨l.toArray⟩] w fun e w' => e = .returned (.bool (isB b bad i l)) ∧ Scn w' g vb (stepI (isB b bad i l) i) bad ∧ w.grownBy w' (some g) := by
  have HS := Lib.hid hs
  have HI := Lib.hid (is_any g vb b i bad l w hs ht hl hi)
  have d1 := hs.c1
  have fz : w.frozen? ⟨g, 1, none⟩ = false := Box.frozen hs 1
  obtain ⟨t, htt⟩ : ∃ t, isB b bad i l = t := ⟨_, rfl⟩
  rw [htt] at HI
  rw [htt]
  clear hs ht htt
  cases t with
  | true =>
    go_enter Try.func30, Try.ntmps30
    go_wp2_with fail
    refine HI.out.mono ?_
    rintro e w' ⟨rfl, k, rfl⟩
    go_wp2_with fail
    go_ret
    exact ⟨rfl, HS.out.to _ (i + 1) _ (by omega), grown_to (grown_refl _ _) _ 1 _⟩
  | false =>
    go_enter Try.func30, Try.ntmps30
    go_wp2_with fail
    refine HI.out.mono ?_
    rintro e w' ⟨rfl, k, rfl⟩
    go_wp2_with fail
    go_ret
    exact ⟨rfl, Box.drew HS.out _, grownBy_drew _ _ _⟩
end Go.Proofs.Ytkdmmmheciffgaa
