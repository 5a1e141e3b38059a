/- Contracts of jtok's scanner: skip, unit, point, escape. -/
import Derived.Test.YtkdmmmheciffgaaTokA
import Derived.Test.YtkdmmmheciffgaaBox
import Derived.Test.YtkdmmmheciffgaaHex
set_option linter.unusedVariables false
set_option linter.unusedSimpArgs false
namespace Go.Proofs.Ytkdmmmheciffgaa
open Go.RowKit

/-- A scanner at i. -/
def Scan (w : World) (g : Nat) (vb : Value) (i : Nat) (keep : Bool) (n : Int) (vt : Value) : Prop := Box w g 60 [vb, .int .i64 i, .bool keep, .int .i64 n, vt]
/-- The bytes that it goes through: they lie elsewhere. -/
structure Text (w : World) (g : Nat) (vb : Value) (b : List UInt8) : Prop where
  is : Is8 w vb b
  ne : 0 < b.length → ∀ bb off l c, vb = .slice (some ⟨bb, off, none⟩) l c → bb ≠ g
  le : b.length ≤ 1000000
theorem Cells.grown {w w' : World} {b off n : Nat} {f : Nat → Value} {row : Option Nat} (h : Cells w b off n f) (hn : 0 < n) (hg : w.grownBy w' row) (hr : row ≠ some b) : Cells w' b off n f := by
  intro i hi
  have hb := h.lt hn
  have e : w'.heap[b]? = w.heap[b]? := hg.block b hb (fun e => hr e.symm)
  have := h i hi
  simp only [World.cell?] at this ⊢
  rw [e]; exact this
theorem IsSl.grown {w w' : World} {v : Value} {n : Nat} {f : Nat → Value} {row : Option Nat} (h : IsSl w v n f) (hg : w.grownBy w' row) (hr : 0 < n → ∀ bb off l c, v = .slice (some ⟨bb, off, none⟩) l c → row ≠ some bb) : IsSl w' v n f := by
  obtain ⟨a, cap, rfl, h1, h2, h3, h4⟩ := h
  refine ⟨a, cap, rfl, h1, h2, h3, fun hn => ?_⟩
  obtain ⟨b, off, rfl, hc⟩ := h4 hn
  exact ⟨b, off, rfl, hc.grown hn hg (hr hn b off n cap rfl)⟩
theorem Text.grown {w w' : World} {g : Nat} {vb : Value} {b : List UInt8} (h : Text w g vb b) (hg : w.grownBy w' (some g)) : Text w' g vb b :=
  ⟨IsSl.grown h.is hg (fun hn bb off l c e => by have := h.ne hn bb off l c e; intro e2; injection e2 with e3; exact this e3.symm), h.ne, h.le⟩
theorem Scan.c1 {w : World} {g : Nat} {vb vt : Value} {i : Nat} {keep : Bool} {n : Int} (h : Scan w g vb i keep n vt) : w.cell? ⟨g, 1, none⟩ = some (.int .i64 i) := by
  rw [Box.cell h]; rfl
theorem Scan.to {w : World} {g : Nat} {vb vt : Value} {i : Nat} {keep : Bool} {n : Int} (h : Scan w g vb i keep n vt) (k j : Nat) (x : Int) (hx : x = (j : Int)) : Scan ((w.drewN k).setCell ⟨g, 1, none⟩ (.int .i64 x)) g vb j keep n vt := by
  subst hx
  exact Box.set (Box.drew h k) 1 (by simp) _
theorem grown_to {w wr : World} {g : Nat} (h : w.grownBy wr (some g)) (k i : Nat) (v : Value) : w.grownBy ((wr.drewN k).setCell ⟨g, i, none⟩ v) (some g) :=
  grownBy_trans (grownBy_trans h (grownBy_drew wr k _)) (grownBy_set _ g i v)
/-- How much is left. -/
def leftOf (g m : Nat) (w : World) : Nat := match w.cell? ⟨g, 1, none⟩ with | some (.int _ x) => m - x.toNat | _ => 0
theorem leftOf_eq {w : World} {g : Nat} {vb vt : Value} {i : Nat} {keep : Bool} {n : Int} (h : Scan w g vb i keep n vt) (m : Nat) : leftOf g m w = m - i := by
  unfold leftOf; rw [h.c1]; simp
theorem grown_refl (w : World) (r : Option Nat) : w.grownBy w r := ⟨rfl, rfl, rfl, Nat.le_refl _, fun _ _ _ => rfl⟩
set_option maxHeartbeats 2000000 in
theorem skip_any (g : Nat) (vb : Value) (b : List UInt8) (i : Nat) (keep : Bool) (n : Int) (vt : Value) (w : World) (hs : Scan w g vb i keep n vt) (ht : Text w g vb b) (hi : i ≤ b.length) :
    Calls Try.prog 39 #[.pointer (some ⟨g, 0, none⟩)] w fun e w' => e = .returned (.tuple #[]) ∧ Scan w' g vb (skipE b i) keep n vt ∧ w.grownBy w' (some g) := by
  have HT := Lib.hid ht
  have hm := ht.le
  have HS := Lib.hid hs
  clear ht hs
  go_enter Try.func39, Try.ntmps39
  go_wp2_with fail
  go_loopw [] (fun wr => ∃ j : Nat, j ≤ b.length ∧ Hid (skipE b i = skipE b j) ∧ Scan wr g vb j keep n vt ∧ w.grownBy wr (some g)) (fun wr => leftOf g b.length wr)
  case atStart => exact ⟨i, hi, Lib.hid rfl, HS.out, grown_refl _ _⟩
  case round =>
    obtain ⟨j, hj, HE, hs, hg⟩ := hrel
    have HTr := Lib.hid (HT.out.grown hg)
    have HSr := Lib.hid hs
    have HG := Lib.hid hg
    have c0 : wr.cell? ⟨g, 0, none⟩ = some vb := by rw [hs.cell]; rfl
    have c1 : wr.cell? ⟨g, 1, none⟩ = some (.int .i64 j) := by rw [hs.cell]; rfl
    have fz : wr.frozen? ⟨g, 1, none⟩ = false := hs.frozen 1
    clear hs hg
    obtain ⟨a, cap, e, h1, h2, -, h4⟩ := HTr.out.is
    subst e
    unfold maxLen at h2
    by_cases hlt : j < b.length
    · obtain ⟨bb, off, rfl, hc⟩ := h4 (by omega)
      have hne : bb ≠ g := HTr.out.ne (by omega) bb off _ _ rfl
      have hcell : wr.cell? ⟨bb, off + j, none⟩ = some (.int .u8 (byt b j)) := hc.at j hlt
      have hltI : (j : Int) < (b.length : Int) := by omega
      obtain ⟨c, hcc⟩ : ∃ c, byt b j = c := ⟨_, rfl⟩
      have HC := Lib.hid hcc
      rw [hcc] at hcell
      clear hcc hc h4
      have HSK := Lib.hid (fun (hk : blkC c = true) => skipE_on hlt (by rw [HC.out]; exact hk))
      have HSO := Lib.hid (fun (hk : blkC c = false) => skipE_off (b := b) (i := j) (by rw [HC.out]; exact hk))
      rcases (by omega : c = 32 ∨ c = 9 ∨ c = 10 ∨ c = 13 ∨ (c ≠ 32 ∧ c ≠ 9 ∧ c ≠ 10 ∧ c ≠ 13)) with hk | hk | hk | hk | ⟨k1, k2, k3, k4⟩
      · have HK := Lib.hid (HE.out.trans (HSK.out (blkC_t (by omega))))
        subst hk
        go_wp2_with fail
        go_quiet (fail)
        go_wp2_with fail
        go_quiet (fail)
        go_wp2_with fail
        exact ⟨⟨j + 1, by omega, HK, HSr.out.to _ _ _ (by omega), grown_to HG.out _ _ _⟩, by rw [leftOf_eq (HSr.out.to _ (j + 1) _ (by omega)), leftOf_eq HSr.out]; omega⟩
      · have HK := Lib.hid (HE.out.trans (HSK.out (blkC_t (by omega))))
        subst hk
        go_wp2_with fail
        go_quiet (fail)
        go_wp2_with fail
        go_quiet (fail)
        go_wp2_with fail
        exact ⟨⟨j + 1, by omega, HK, HSr.out.to _ _ _ (by omega), grown_to HG.out _ _ _⟩, by rw [leftOf_eq (HSr.out.to _ (j + 1) _ (by omega)), leftOf_eq HSr.out]; omega⟩
      · have HK := Lib.hid (HE.out.trans (HSK.out (blkC_t (by omega))))
        subst hk
        go_wp2_with fail
        go_quiet (fail)
        go_wp2_with fail
        go_quiet (fail)
        go_wp2_with fail
        exact ⟨⟨j + 1, by omega, HK, HSr.out.to _ _ _ (by omega), grown_to HG.out _ _ _⟩, by rw [leftOf_eq (HSr.out.to _ (j + 1) _ (by omega)), leftOf_eq HSr.out]; omega⟩
      · have HK := Lib.hid (HE.out.trans (HSK.out (blkC_t (by omega))))
        subst hk
        go_wp2_with fail
        go_quiet (fail)
        go_wp2_with fail
        go_quiet (fail)
        go_wp2_with fail
        exact ⟨⟨j + 1, by omega, HK, HSr.out.to _ _ _ (by omega), grown_to HG.out _ _ _⟩, by rw [leftOf_eq (HSr.out.to _ (j + 1) _ (by omega)), leftOf_eq HSr.out]; omega⟩
      · have HK := Lib.hid (HE.out.trans (HSO.out (blkC_f (by omega))))
        have e1 : (c == 32) = false := by simpa using k1
        have e2 : (c == 9) = false := by simpa using k2
        have e3 : (c == 10) = false := by simpa using k3
        have e4 : (c == 13) = false := by simpa using k4
        clear k1 k2 k3 k4
        go_wp2_with fail
        go_quiet (fail)
        go_wp2_with fail
        go_quiet (fail)
        go_wp2_with fail
        (try simp only [Exit.inBlock, Exit.then])
        refine bodyPost_ret (results_none rfl _ _ _) rfl ?_
        exact ⟨rfl, by rw [HK.out]; exact Box.drew HSr.out _, grownBy_trans HG.out (grownBy_drew _ _ _)⟩
    · have HK := Lib.hid (HE.out.trans (skipE_end (b := b) (i := j) (by omega)))
      have hltI : (b.length : Int) ≤ (j : Int) := by omega
      clear h4
      go_wp2_with fail
      go_quiet (fail)
      go_wp2_with fail
      go_end0
      exact ⟨rfl, by rw [HK.out]; exact Box.drew HSr.out _, grownBy_trans HG.out (grownBy_drew _ _ _)⟩
end Go.Proofs.Ytkdmmmheciffgaa
