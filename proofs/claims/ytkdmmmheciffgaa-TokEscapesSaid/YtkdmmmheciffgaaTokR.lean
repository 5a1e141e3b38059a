/- Contracts of jtok's scanner: sign, number, word. -/
import Derived.Test.YtkdmmmheciffgaaTokQ
import Derived.Test.YtkdmmmheciffgaaTokN
set_option linter.unusedVariables false
set_option linter.unusedSimpArgs false
namespace Go.Proofs.Ytkdmmmheciffgaa
open Go.RowKit

/-- The bytes lie below block B. -/
structure TextB (w : World) (B : Nat) (vb : Value) (b : List UInt8) : Prop where
  is : Is8 w vb b
  lt : 0 < b.length → ∀ bb off l c, vb = .slice (some ⟨bb, off, none⟩) l c → bb < B
  le : b.length ≤ 1000000
theorem TextB.at {w : World} {B : Nat} {vb : Value} {b : List UInt8} (h : TextB w B vb b) {g : Nat} (hg : B ≤ g) : Text w g vb b :=
  ⟨h.is, fun hn bb off l c e => by have := h.lt hn bb off l c e; omega, h.le⟩
theorem TextB.below {w w' : World} {B : Nat} {vb : Value} {b : List UInt8} (h : TextB w B vb b) (hb : Below B w w') : TextB w' B vb b := by
  refine ⟨?_, h.lt, h.le⟩
  obtain ⟨a, cap, rfl, h1, h2, h3, h4⟩ := h.is
  refine ⟨a, cap, rfl, h1, h2, h3, fun hn => ?_⟩
  obtain ⟨bb, off, rfl, hc⟩ := h4 hn
  exact ⟨bb, off, rfl, Cells.below hc hb (h.lt hn bb off _ _ rfl)⟩
theorem below_grown {w w' : World} {B : Nat} {row : Option Nat} (hg : w.grownBy w' row) (hB : B ≤ w.heap.size) (hr : ∀ k, row = some k → B ≤ k) : Below B w w' := (Below.refl B w).grown hg hB hr
/-- What there is behind a token: one more, if it is one. -/
def addT (ok keep : Bool) (ts : List Tk) (t : Tk) : List Tk := if ok = true then (if keep = true then ts ++ [t] else ts) else ts
def addN (ok : Bool) (n : Int) : Int := if ok = true then n + 1 else n
/-- The scanner behind a token. -/
def Behind (w w' : World) (g B : Nat) (vb : Value) (keep : Bool) (n : Int) (ts : List Tk) (t : Tk) (p : Nat) (ok : Bool) : Prop :=
  ∃ vt', Scan w' g vb p keep (addN ok n) vt' ∧ OwnT w' B vt' (addT ok keep ts t) ∧ Below B w w'
set_option maxHeartbeats 2000000 in
theorem sign_any (c : Int) (w : World) (h : c = 123 ∨ c = 125 ∨ c = 91 ∨ c = 93 ∨ c = 58 ∨ c = 44) :
    Calls Try.prog 47 #[.int .u8 c] w fun e w' => e = .returned (.int .i64 (signN c)) ∧ w = w' := by
  rcases h with rfl | rfl | rfl | rfl | rfl | rfl
  all_goals
    go_enter Try.func47, Try.ntmps47
    go_wp2_with fail
    go_ret
    exact ⟨rfl, by trivial⟩
set_option maxRecDepth 100000 in
set_option maxHeartbeats 4000000 in
theorem nmeth_any (g : Nat) (vb : Value) (b : List UInt8) (i : Nat) (keep : Bool) (n : Int) (vt : Value) (ts : List Tk) (B : Nat) (w : World) (hs : Scan w g vb i keep n vt) (ht : TextB w B vb b) (ho : OwnT w B vt ts) (hB : B ≤ g) (hn0 : 0 ≤ n) (hn1 : n ≤ 5000000) (hl : ts.length ≤ 5000000) (hi : i ≤ b.length) :
    Calls Try.prog 50 #[.pointer (some ⟨g, 0, none⟩)] w fun e w' => e = .returned (.bool (numM b i).2) ∧ Behind w w' g B vb keep n ts (8, i, sub8 b i (numM b i).1) (numM b i).1 (numM b i).2 := by
  have c0 : w.cell? ⟨g, 0, none⟩ = some vb := by rw [Box.cell hs]; rfl
  have c1 : w.cell? ⟨g, 1, none⟩ = some (.int .i64 i) := hs.c1
  have f1 : w.frozen? ⟨g, 1, none⟩ = false := Box.frozen hs 1
  have hne := ho.ne hs
  have hlt := Box.lt hs
  have HN := Lib.hid (number_any vb b i w ht.is ht.le hi)
  obtain ⟨q1, q2⟩ := numM_bd b i hi
  obtain ⟨R, hR⟩ : ∃ R, numM b i = R := ⟨_, rfl⟩
  rw [hR] at HN q1 q2
  rw [hR]
  clear hR
  obtain ⟨p, ok⟩ := R
  have q1 : i ≤ p := q1
  have q2 : p ≤ b.length := q2
  have HN2 : Hid (Calls Try.prog 25 #[vb, .int .i64 i] w fun e w' => e = .returned (.tuple #[.int .i64 p, .bool ok]) ∧ w = w') := Lib.hid HN.out
  have HS1 := Lib.hid (hs.to0 p (p : Int) rfl)
  have HG1 := Lib.hid (grown_to0 (grown_refl w (some g)) 1 (.int .i64 (p : Int)))
  have HT1 := Lib.hid ((ht.at hB).grown HG1.out)
  have HO1 := Lib.hid (ho.kept HG1.out (.inr hne))
  have HB1 := Lib.hid (below_grown HG1.out (by omega) (fun k hk => by injection hk with hk; omega) : Below B w _)
  clear hs ht ho HN
  show Calls _ _ _ _ fun e w' => e = .returned (.bool ok) ∧ Behind w w' g B vb keep n ts (8, i, sub8 b i p) p ok
  cases ok with
  | false =>
    go_enter Try.func50, Try.ntmps50
    go_wp2_with fail
    refine HN2.out.mono ?_
    rintro e w' ⟨rfl, rfl⟩
    go_wp2_with fail
    go_ret
    exact ⟨rfl, vt, HS1.out, HO1.out, HB1.out⟩
  | true =>
    have HSZ := Lib.hid HB1.out.size
    have HK := Lib.hid (kept_any g vb b p keep n vt (.slice none 0 0) [] 0 i p _ HS1.out HT1.out (Own.nil _ 0 _) (Nat.zero_le _) q1 q2 (by simp))
    obtain ⟨sv, hsv⟩ : ∃ sv : List UInt8, (if keep = true then [] ++ sub8 b i p else []) = sv := ⟨_, rfl⟩
    rw [hsv] at HK
    have HSV := Lib.hid hsv
    clear hsv
    go_enter Try.func50, Try.ntmps50
    go_wp2_with fail
    refine HN2.out.mono ?_
    rintro e w' ⟨rfl, rfl⟩
    go_wp2_with fail
    refine HK.out.mono ?_
    rintro e x1 ⟨rfl, hg1⟩
    have HS2 := Lib.hid (Box.grown HS1.out hg1 (by simp [Value.ownBlock]))
    have HO2 := Lib.hid (HO1.out.kept hg1 (by cases vt.ownBlock <;> simp [Value.ownBlock]))
    have HB2 := Lib.hid (HB1.out.grown hg1 (by have := HSZ.out; omega) (fun k hk => by simp [Value.ownBlock] at hk))
    clear hg1
    go_wp2_with fail
    refine (put_any g vb p keep n vt ts B 8 i sv x1 HS2.out HO2.out hB hn0 hn1 hl).mono ?_
    rintro e x2 ⟨rfl, vt2, hs3, ho3, hb3⟩
    have HS3 := Lib.hid hs3
    have HO3 := Lib.hid ho3
    have HB3 := Lib.hid hb3
    clear hs3 ho3 hb3
    go_wp2_with fail
    go_ret
    refine ⟨rfl, vt2, HS3.out, ?_, HB2.out.trans HB3.out⟩
    have h := HO3.out
    rw [← HSV.out] at h
    cases keep with
    | true => exact h
    | false => exact h
end Go.Proofs.Ytkdmmmheciffgaa
