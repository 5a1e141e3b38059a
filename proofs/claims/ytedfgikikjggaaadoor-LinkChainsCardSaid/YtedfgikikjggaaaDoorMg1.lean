/- What the proof needs, part 1. -/
import Derived.Test.YtedfgikikjggaaaDoorLnkE
import Derived.Test.YtedfgikikjggaaaDoorMf1
import Derived.Deep.Cut
import Derived.Test.YtedfgikikjggaaaDoorTreeC
import Derived.Deep.DeepCutAuto
/- link.Real: its label's invariant. -/
section
set_option linter.unusedVariables false
set_option linter.unusedSimpArgs false
namespace Go.Proofs.YtedfgikikjggaaaDoor
open Go.RowKit

/-- Real's slots at its labels. -/
def RFr (t : Nat) (p : Bts) (h : Bts) (k : Int) (n b nb : Nat) (a : Act) : Prop := ∃ (u : Nat → Value), a = { tmps := List.toArray (Value.pointer (some ⟨t, 0, none⟩) :: Value.string ⟨p.toArray⟩ :: u 2 :: u 3 :: u 4 :: u 5 :: u 6 :: Value.string ⟨h.toArray⟩ :: Value.int .i64 k :: Value.int .i64 (n : Int) :: Value.pointer (some ⟨b, 0, none⟩) :: u 11 :: Value.pointer (some ⟨nb, 0, none⟩) :: u 13 :: u 14 :: u 15 :: u 16 :: u 17 :: u 18 :: u 19 :: u 20 :: u 21 :: u 22 :: u 23 :: u 24 :: u 25 :: u 26 :: u 27 :: u 28 :: u 29 :: u 30 :: u 31 :: u 32 :: u 33 :: u 34 :: u 35 :: u 36 :: u 37 :: u 38 :: u 39 :: u 40 :: u 41 :: u 42 :: u 43 :: u 44 :: u 45 :: u 46 :: u 47 :: u 48 :: u 49 :: u 50 :: u 51 :: u 52 :: u 53 :: u 54 :: u 55 :: u 56 :: u 57 :: u 58 :: u 59 :: u 60 :: u 61 :: u 62 :: u 63 :: u 64 :: u 65 :: u 66 :: u 67 :: u 68 :: u 69 :: u 70 :: u 71 :: u 72 :: u 73 :: u 74 :: u 75 :: u 76 :: u 77 :: u 78 :: u 79 :: u 80 :: u 81 :: u 82 :: u 83 :: u 84 :: u 85 :: u 86 :: u 87 :: u 88 :: u 89 :: u 90 :: u 91 :: u 92 :: u 93 :: u 94 :: u 95 :: u 96 :: u 97 :: []), defers := [] }
theorem RFr.mk (t : Nat) (p : Bts) (h : Bts) (k : Int) (n b nb : Nat) (u2 u3 u4 u5 u6 u11 u13 u14 u15 u16 u17 u18 u19 u20 u21 u22 u23 u24 u25 u26 u27 u28 u29 u30 u31 u32 u33 u34 u35 u36 u37 u38 u39 u40 u41 u42 u43 u44 u45 u46 u47 u48 u49 u50 u51 u52 u53 u54 u55 u56 u57 u58 u59 u60 u61 u62 u63 u64 u65 u66 u67 u68 u69 u70 u71 u72 u73 u74 u75 u76 u77 u78 u79 u80 u81 u82 u83 u84 u85 u86 u87 u88 u89 u90 u91 u92 u93 u94 u95 u96 u97 : Value) : RFr t p h k n b nb { tmps := List.toArray (Value.pointer (some ⟨t, 0, none⟩) :: Value.string ⟨p.toArray⟩ :: u2 :: u3 :: u4 :: u5 :: u6 :: Value.string ⟨h.toArray⟩ :: Value.int .i64 k :: Value.int .i64 (n : Int) :: Value.pointer (some ⟨b, 0, none⟩) :: u11 :: Value.pointer (some ⟨nb, 0, none⟩) :: u13 :: u14 :: u15 :: u16 :: u17 :: u18 :: u19 :: u20 :: u21 :: u22 :: u23 :: u24 :: u25 :: u26 :: u27 :: u28 :: u29 :: u30 :: u31 :: u32 :: u33 :: u34 :: u35 :: u36 :: u37 :: u38 :: u39 :: u40 :: u41 :: u42 :: u43 :: u44 :: u45 :: u46 :: u47 :: u48 :: u49 :: u50 :: u51 :: u52 :: u53 :: u54 :: u55 :: u56 :: u57 :: u58 :: u59 :: u60 :: u61 :: u62 :: u63 :: u64 :: u65 :: u66 :: u67 :: u68 :: u69 :: u70 :: u71 :: u72 :: u73 :: u74 :: u75 :: u76 :: u77 :: u78 :: u79 :: u80 :: u81 :: u82 :: u83 :: u84 :: u85 :: u86 :: u87 :: u88 :: u89 :: u90 :: u91 :: u92 :: u93 :: u94 :: u95 :: u96 :: u97 :: []), defers := [] } := ⟨fun i => List.getD (undef :: undef :: u2 :: u3 :: u4 :: u5 :: u6 :: undef :: undef :: undef :: undef :: u11 :: undef :: u13 :: u14 :: u15 :: u16 :: u17 :: u18 :: u19 :: u20 :: u21 :: u22 :: u23 :: u24 :: u25 :: u26 :: u27 :: u28 :: u29 :: u30 :: u31 :: u32 :: u33 :: u34 :: u35 :: u36 :: u37 :: u38 :: u39 :: u40 :: u41 :: u42 :: u43 :: u44 :: u45 :: u46 :: u47 :: u48 :: u49 :: u50 :: u51 :: u52 :: u53 :: u54 :: u55 :: u56 :: u57 :: u58 :: u59 :: u60 :: u61 :: u62 :: u63 :: u64 :: u65 :: u66 :: u67 :: u68 :: u69 :: u70 :: u71 :: u72 :: u73 :: u74 :: u75 :: u76 :: u77 :: u78 :: u79 :: u80 :: u81 :: u82 :: u83 :: u84 :: u85 :: u86 :: u87 :: u88 :: u89 :: u90 :: u91 :: u92 :: u93 :: u94 :: u95 :: u96 :: u97 :: []) i undef, rfl⟩
def RealJ (t : Nat) (p : Bts) (all : List Nd) (w1 : World) (R : LRes) (m l : Nat) (a : Act) (w : World) : Prop :=
  ∃ (h : Bts) (k : Int) (n b nb : Nat), RFr t p h k n b nb a ∧ Below w1.heap.size w1 w ∧
    (l = 1 ∧ R = .gone ∨ l = 0 ∧ ∃ (tx : List Bts) (f : Bool) (x : Nd), WayIs w w1.heap.size b tx f ∧ w1.heap.size ≤ nb ∧ Box w nb 35 (ndC x) ∧ n ≤ 40 ∧ tx.length ≤ n + 1 ∧ (∀ s ∈ tx, s.length ≤ 1000000) ∧ h ≠ [] ∧ h.length ≤ 1024 ∧ goL all (40 - n) (flatT tx) h k = R ∧ m = (40 - n) * 1100000 + weighT tx)
def resV : LRes → Value
  | .ok h k => .tuple #[.string ⟨h.toArray⟩, .int .i64 k, .int .i64 0]
  | .gone => .tuple #[.string ⟨#[]⟩, .int .i64 0, .int .i64 13]
  | .loop => .tuple #[.string ⟨#[]⟩, .int .i64 0, .int .i64 20]
/-- What Real tells. -/
def realV (all : List Nd) (p : Bts) : Value := if p.head? = some 47 then resV (goL all 40 (splitB 47 p) [47] 2) else .tuple #[.string ⟨#[]⟩, .int .i64 0, .int .i64 2]
end Go.Proofs.YtedfgikikjggaaaDoor
end
/- link.Real. -/
section
set_option linter.unusedVariables false
set_option linter.unusedSimpArgs false
namespace Go.Proofs.YtedfgikikjggaaaDoor
open Go.RowKit

def RealAt (t : Nat) (p : Bts) (all : List Nd) (c : Int) (w : World) (R : LRes) (m l : Nat) (a : Act) (W : World) : Prop :=
  realV all p = resV R ∧ ∃ w1, TreeIs w1 t all (c + 1) ∧ w.grownBy w1 (some t) ∧ RealJ t p all w1 R m l a W
/-- What Real leaves. -/
def RealPost (t : Nat) (all : List Nd) (c : Int) (v : Value) (w : World) (e : Ending) (w' : World) : Prop := e = .returned v ∧ TreeIs w' t all (c + 1) ∧ w.grownBy w' (some t)
theorem RealPost.of {t : Nat} {all : List Nd} {c : Int} {v : Value} {w w1 w' : World} (h : TreeIs w1 t all (c + 1)) (hg : w.grownBy w1 (some t)) (hb : Below w1.heap.size w1 w') : RealPost t all c v w (.returned v) w' := ⟨rfl, h.below hb, grownBy_trans hg (grownBy_below hb _)⟩
theorem WayIs.node {w w' : World} {B b nb : Nat} {tx : List Bts} {f : Bool} {cs : List Value} (h : WayIs w B b tx f) (hn : Box w nb 35 cs) (hg : w.grownBy w' (some nb)) : WayIs w' B b tx f := by
  obtain ⟨h0, v, h1, h2⟩ := h
  refine ⟨h0, v, h1.grown hg (fun e => ?_), h2.kept hg (.inr (h2.notBox hn (by decide)))⟩
  injection e with e
  subst e
  have h3 : w.heap[nb]? = some (.cells cs.toArray 35 (0, 0)) := hn
  have h4 : w.heap[nb]? = some (.cells #[v, .bool f] 69 (0, 0)) := h1
  rw [h3] at h4
  injection h4 with h4
  injection h4 with _ h5 _
  exact absurd h5 (by decide)
theorem take_left {w : World} {B b : Nat} {tx : List Bts} {A : Bts} {f : Bool} (htx : tx ≠ []) (hA : cutA (lastT tx) 47 = A) (hts : ∀ s ∈ tx, s.length ≤ 1000000) (h : cutO (lastT tx) 47 = true ∧ WayIs w B b (tx.dropLast ++ [cutB (lastT tx) 47]) f ∨ cutO (lastT tx) 47 = false ∧ WayIs w B b tx.dropLast true) :
    ∃ tx2 f2, WayIs w B b tx2 f2 ∧ flatT tx = A :: flatT tx2 ∧ weighT tx2 < weighT tx ∧ tx2.length ≤ tx.length ∧ ∀ s ∈ tx2, s.length ≤ 1000000 := by
  obtain ⟨h1, h2⟩ := cutO_iff (lastT tx) 47
  have hs : tx = tx.dropLast ++ [lastT tx] := split_last htx
  have hf : flatT tx = splitB 47 (lastT tx) ++ flatT tx.dropLast := by
    have := flatT_snoc tx.dropLast (lastT tx)
    rwa [← hs] at this
  have hw : weighT tx = weighT tx.dropLast + ((lastT tx).length + 1) := by
    have := weighT_snoc tx.dropLast (lastT tx)
    rwa [← hs] at this
  have hl : tx.length = tx.dropLast.length + 1 := by
    have := congrArg List.length hs
    rw [List.length_append] at this; exact this
  have hm : lastT tx ∈ tx := by
    have h0 : lastT tx ∈ tx.dropLast ++ [lastT tx] := by simp
    rwa [← hs] at h0
  rcases h with ⟨hc, hw'⟩ | ⟨hc, hw'⟩
  · obtain ⟨h3, h4⟩ := h1 hc
    refine ⟨_, _, hw', ?_, ?_, ?_, fun s hs' => ?_⟩
    · have h3' : splitB 47 (lastT tx) = cutA (lastT tx) 47 :: splitB 47 (cutB (lastT tx) 47) := h3
      rw [flatT_snoc, hf, h3', hA]; rfl
    · rw [weighT_snoc, hw]; omega
    · rw [List.length_append, hl]; simp
    · rcases List.mem_append.1 hs' with h5 | h5
      · exact hts s (List.dropLast_subset _ h5)
      · have : s = cutB (lastT tx) 47 := by simpa using h5
        rw [this]; have := hts _ hm; omega
  · obtain ⟨h3, h4⟩ := h2 hc
    refine ⟨_, _, hw', ?_, ?_, ?_, fun s hs' => hts s (List.dropLast_subset _ hs')⟩
    · rw [hf, show splitB 47 (lastT tx) = [lastT tx] from h3, ← hA, h4]; rfl
    · omega
    · omega
/-- What holds behind Real's leap. -/
def RealSt (t : Nat) (p : Bts) (all : List Nd) (w1 : World) (R : LRes) (n : Nat) (tx : List Bts) (x : Nd) (b nb : Nat) (a : Act) (W : World) : Prop :=
  ∃ (tx' : List Bts) (f' : Bool) (h' : Bts) (k' : Int), RFr t p h' k' n b nb a ∧ h' ≠ [] ∧ h'.length ≤ 1024 ∧ tx'.length = tx.length ∧ (∀ s ∈ tx', s.length ≤ 1000000) ∧ goL all (40 - n) (flatT tx') h' k' = R ∧ WayIs W w1.heap.size b tx' f' ∧ Box W nb 35 (ndC x) ∧ Below w1.heap.size w1 W ∧ weighT tx' ≤ weighT tx
set_option maxRecDepth 100000 in
set_option maxHeartbeats 16000000 in
theorem Real_any (t : Nat) (all : List Nd) (c : Int) (p : Bts) (w : World) (ht : TreeIs w t all c) (hta : TreeOf all) (hc0 : 0 ≤ c) (hc1 : c ≤ 1000000) (hp : p.length ≤ 1000000) :
    Calls Tryd.prog 11 #[.pointer (some ⟨t, 0, none⟩), .string ⟨p.toArray⟩] w fun e w' => RealPost t all c (realV all p) w e w' := by
  have HAS := Lib.hid (Ask_any t all c w ht hc0 hc1)
  have HPX := Lib.hid (fun w => hasPreS_any p 47 w hp)
  obtain ⟨R, hR⟩ : ∃ R, goL all 40 (splitB 47 p) [47] 2 = R := ⟨_, rfl⟩
  have HR := Lib.hid hR
  have hl0 : ¬ (1048576 : Int) < (p.length : Int) := by omega
  clear ht hR
  go_enter Tryd.func11, Tryd.ntmps11
  go_wp2_with fail
  refine wp_scope_mf (RealAt t p all c w R) ?_ ?_
  · intro HFall
    have HFL := Lib.hid HFall
    clear HFall
    cases hh : (p.head? == some 47) with
    | false =>
      have HV : Hid (realV all p = .tuple #[.string ⟨#[]⟩, .int .i64 0, .int .i64 2]) := Lib.hid (by unfold realV; rw [if_neg (by simpa using hh)])
      rw [hh] at HPX
      clear hh
      go_wp2_with fail
      refine HAS.out.mono ?_
      rintro e w1 ⟨rfl, ht1, hg1⟩
      have HT1 := Lib.hid ht1
      have HG1 := Lib.hid hg1
      clear ht1 hg1
      go_wp2_with fail
      refine (HPX.out _).mono ?_
      rintro e w2 ⟨rfl, rfl⟩
      go_wp2_with fail
      go_ret3
      rw [HV.out]
      exact RealPost.of HT1.out HG1.out (Below.refl _ _)
    | true =>
      have HV : Hid (realV all p = resV R) := Lib.hid (by unfold realV; rw [if_pos (by simpa using hh), HR.out])
      rw [hh] at HPX
      clear hh
      go_wp2_with fail
      refine HAS.out.mono ?_
      rintro e w1 ⟨rfl, ht1, hg1⟩
      have HT1 := Lib.hid ht1
      have HG1 := Lib.hid hg1
      clear ht1 hg1
      go_wp2_with fail
      refine (HPX.out _).mono ?_
      rintro e w2 ⟨rfl, rfl⟩
      go_wp2_with fail
      rename_i K hK
      refine wp_label (hK _ _ ?_)
      refine HFL.out ((40 - 0) * 1100000 + weighT [p]) 0 _ _ _ ?_ rfl
      refine ⟨HV.out, w1, HT1.out, HG1.out, [47], 2, 0, _, _, RFr.mk _ _ _ _ _ _ _ _ _ _ _ _ _ _ _ _ _ _ _ _ _ _ _ _ _ _ _ _ _ _ _ _ _ _ _ _ _ _ _ _ _ _ _ _ _ _ _ _ _ _ _ _ _ _ _ _ _ _ _ _ _ _ _ _ _ _ _ _ _ _ _ _ _ _ _ _ _ _ _ _ _ _ _ _ _ _ _ _ _ _ _ _ _ _ _ _ _ _, ?_, .inr ⟨rfl, [p], true, nd0, ?_, ?_, ?_, by omega, by simp, ?_, by simp, by simp, ?_, rfl⟩⟩
      · exact ext_trans (ext_trans (ext_alloc w1 _) (ext_alloc _ _)) (ext_alloc _ _)
      · refine ⟨by omega, .slice (some ⟨w1.heap.size, 0, none⟩) 1 1, ?_, ?_⟩
        · have := (Box.new (w1.alloc (.cells #[.string ⟨p.toArray⟩] 9)) 69 [.slice (some ⟨w1.heap.size, 0, none⟩) 1 1, .bool true]).alloc (.cells #[.string ⟨#[]⟩, .int .i64 0, .string ⟨#[]⟩] 35)
          rwa [show (w1.alloc (.cells #[.string ⟨p.toArray⟩] 9)).heap.size = w1.heap.size + 1 by simp] at this
        · exact ((Own.lit w1 w1.heap.size 9 #[strV p] 1 rfl (Nat.le_refl _) (by omega)).below (ext_alloc _ _)).below (ext_alloc _ _)
      · omega
      · have := Box.new ((w1.alloc (.cells #[.string ⟨p.toArray⟩] 9)).alloc (.cells #[.slice (some ⟨w1.heap.size, 0, none⟩) 1 1, .bool true] 69)) 35 (ndC nd0)
        rwa [show ((w1.alloc (.cells #[.string ⟨p.toArray⟩] 9)).alloc (.cells #[.slice (some ⟨w1.heap.size, 0, none⟩) 1 1, .bool true] 69)).heap.size = w1.heap.size + 1 + 1 by simp] at this
      · intro s hs
        have : s = p := by simpa using hs
        rw [this]; exact hp
      · have := HR.out
        simpa [flatT] using this
  · intro m l a W hJ
    obtain ⟨hV, w1, ht1, hg1, h, k, n, b, nb, ⟨u, rfl⟩, hlow, hcase⟩ := hJ
    have HV := Lib.hid hV
    have HT1 := Lib.hid ht1
    have HG1 := Lib.hid hg1
    have HL := Lib.hid hlow
    clear ht1 hg1 hlow hV
    rcases hcase with ⟨rfl, rfl⟩ | ⟨rfl, tx, f, x, hw, hnb, hbx, hn, htl, hts, hh, hhl, hgo, rfl⟩
    · refine ⟨_, rfl, ?_⟩
      go_wp2_with fail
      go_ret3
      rw [HV.out]
      exact RealPost.of HT1.out HG1.out HL.out
    · refine ⟨_, rfl, ?_⟩
      have HW := Lib.hid hw
      have HBX := Lib.hid hbx
      have HGO := Lib.hid hgo
      have HTS := Lib.hid hts
      have hsz := HL.out.size
      obtain ⟨hb0, v, hwb, -⟩ := hw
      have k1 : W.cell? ⟨b, 1, none⟩ = some (.bool f) := by rw [hwb.cell]; rfl
      clear hbx hgo hts hwb
      refine wp_seq_k fun K hK => ?_
      refine wp_cut (RealSt t p all w1 R n tx x b nb) ?_ ?_
      · intro a' W' hst
        obtain ⟨tx', f', h', k', ⟨u', rfl⟩, hh', hhl', htl', hts', hgo', hw', hbx', hlow', hwt'⟩ := hst
        refine hK _ _ ?_
        have HW2 := Lib.hid hw'
        have HBX2 := Lib.hid hbx'
        have HGO2 := Lib.hid hgo'
        have HTS2 := Lib.hid hts'
        have HL2 := Lib.hid hlow'
        have hsz2 := hlow'.size
        have htl2 : tx'.length ≤ 41 := by omega
        have hla : (lastT tx').length ≤ 1000000 := by
          by_cases h0 : tx' = []
          · subst h0; simp [lastT]
          · have h1 := split_last h0
            have h2 : tx'.getLastD [] ∈ tx'.dropLast ++ [tx'.getLastD []] := by simp
            rw [← h1] at h2
            exact hts' _ h2
        have HTK := Lib.hid (take_any w1.heap.size b tx' f' W' hw' (by omega) hsz2 hla)
        clear hw' hbx' hgo' hts' hlow' HW HBX HGO HTS HL k1
        go_wp2_with fail
        refine HTK.out.mono ?_
        rintro e w3 ⟨hpost, hb3, hk3⟩
        have HB3 := Lib.hid (HL2.out.trans hb3)
        have HBX3 := Lib.hid (hk3 nb 35 (ndC x) (by decide) (by decide) HBX2.out)
        have hsz3 := HB3.out.size
        have HPS := Lib.hid hpost
        clear hb3 hk3 hpost HTK HW2 HBX2 hla
        rcases HPS.out with ⟨rfl, rfl, -⟩ | ⟨htx, rfl, hcut⟩
        · have HF : Hid (resV R = .tuple #[.string ⟨h'.toArray⟩, .int .i64 k', .int .i64 0]) := Lib.hid (by
            have := HGO2.out
            rw [show flatT [] = [] from rfl, goL_nil] at this
            rw [← this]; rfl)
          go_wp2_with fail
          go_ret3
          rw [HV.out, HF.out]
          exact RealPost.of HT1.out HG1.out HB3.out
        · obtain ⟨A, hA⟩ : ∃ A, cutA (lastT tx') 47 = A := ⟨_, rfl⟩
          obtain ⟨tx2, f2, hw2, hfl, hwt2, hln2, hts2⟩ : ∃ tx2 f2, WayIs w3 w1.heap.size b tx2 f2 ∧ flatT tx' = A :: flatT tx2 ∧ weighT tx2 < weighT tx' ∧ tx2.length ≤ tx'.length ∧ ∀ s ∈ tx2, s.length ≤ 1000000 := take_left htx hA HTS2.out hcut
          have hnA : noSl A := by
            have : A ∈ flatT tx' := by rw [hfl]; simp
            unfold flatT at this
            obtain ⟨s0, -, hs0⟩ := List.mem_flatMap.1 this
            exact splitB_noSl s0 A hs0
          have hAl : A.length ≤ 1000000 := by
            rw [← hA]; unfold cutA
            have : (lastT tx').length ≤ 1000000 := by
              have h1 := split_last htx
              have h2 : tx'.getLastD [] ∈ tx'.dropLast ++ [tx'.getLastD []] := by simp
              rw [← h1] at h2
              exact HTS2.out _ h2
            split
            · rw [List.length_take]; omega
            · exact this
          have hgo3 := HGO2.out
          rw [hfl] at hgo3
          rw [hA]
          have HW3 := Lib.hid hw2
          have HGO3 := Lib.hid hgo3
          have HTS3 := Lib.hid hts2
          have HNA := Lib.hid hnA
          -- on to the label
          have HGOTO : Hid (∀ (h2 : Bts) (k2 : Int) (a2 : Act) (W2 : World), RFr t p h2 k2 n b nb a2 → WayIs W2 w1.heap.size b tx2 f2 → Below w1.heap.size w1 W2 → (∃ x2, Box W2 nb 35 (ndC x2)) → h2 ≠ [] → h2.length ≤ 1024 → goL all (40 - n) (flatT tx2) h2 k2 = R → ∃ m', m' < (40 - n) * 1100000 + weighT tx ∧ RealAt t p all c w R m' 0 a2 W2) := Lib.hid (fun h2 k2 a2 W2 q1 q2 q3 q4 q5 q6 q7 => by
            obtain ⟨x2, q4⟩ := q4
            exact ⟨(40 - n) * 1100000 + weighT tx2, by omega, HV.out, w1, HT1.out, HG1.out, h2, k2, n, b, nb, q1, q3, .inr ⟨rfl, tx2, f2, x2, q2, hnb, q4, hn, by omega, hts2, q5, q6, q7, rfl⟩⟩)
          have HNONE : Hid (R = .gone → ∀ (h2 : Bts) (k2 : Int) (n2 : Nat) (a2 : Act) (W2 : World), RFr t p h2 k2 n2 b nb a2 → Below w1.heap.size w1 W2 → ∃ m', m' < (40 - n) * 1100000 + weighT tx ∧ RealAt t p all c w R m' 1 a2 W2) := Lib.hid (fun hr h2 k2 n2 a2 W2 q1 q2 => ⟨0, by omega, HV.out, w1, HT1.out, HG1.out, h2, k2, n2, b, nb, q1, q2, .inl ⟨rfl, hr⟩⟩)
          clear hcut hw2 hgo3 hts2 HPS HTS2 HGO2 HL2 hA hfl
          rcases okPart_cases A with ⟨hok, hs | hs | hs⟩ | ⟨hok, e1, e2, e3⟩
          · subst hs
            have HG4 := Lib.hid ((goL_skip all (40 - n) [] (flatT tx2) h' k' (.inl rfl)).symm.trans HGO3.out)
            go_wp2_with fail
            refine wp_goto ?_
            exact HGOTO.out h' k' _ _ (RFr.mk _ _ _ _ _ _ _ _ _ _ _ _ _ _ _ _ _ _ _ _ _ _ _ _ _ _ _ _ _ _ _ _ _ _ _ _ _ _ _ _ _ _ _ _ _ _ _ _ _ _ _ _ _ _ _ _ _ _ _ _ _ _ _ _ _ _ _ _ _ _ _ _ _ _ _ _ _ _ _ _ _ _ _ _ _ _ _ _ _ _ _ _ _ _ _ _ _ _) HW3.out HB3.out ⟨x, HBX3.out⟩ hh' hhl' HG4.out
          · subst hs
            have HG4 := Lib.hid ((goL_skip all (40 - n) [46] (flatT tx2) h' k' (.inr rfl)).symm.trans HGO3.out)
            go_wp2_with fail
            refine wp_goto ?_
            exact HGOTO.out h' k' _ _ (RFr.mk _ _ _ _ _ _ _ _ _ _ _ _ _ _ _ _ _ _ _ _ _ _ _ _ _ _ _ _ _ _ _ _ _ _ _ _ _ _ _ _ _ _ _ _ _ _ _ _ _ _ _ _ _ _ _ _ _ _ _ _ _ _ _ _ _ _ _ _ _ _ _ _ _ _ _ _ _ _ _ _ _ _ _ _ _ _ _ _ _ _ _ _ _ _ _ _ _ _) HW3.out HB3.out ⟨x, HBX3.out⟩ hh' hhl' HG4.out
          · subst hs
            by_cases hk2 : k' = 2
            · subst hk2
              have HG4 := Lib.hid ((goL_up all (40 - n) (flatT tx2) h').symm.trans HGO3.out)
              have hpne : partF h' ≠ [] := by
                unfold partF
                intro h0
                have h1 := congrArg List.length h0
                rw [List.length_take] at h1
                have h2 : 1 ≤ h'.length := by cases h' with | nil => exact absurd rfl hh' | cons _ _ => simp
                simp only [List.length_nil] at h1
                omega
              have hpl : (partF h').length ≤ 1024 := by unfold partF; rw [List.length_take]; omega
              have HPP := Lib.hid (fun w => Part_any h' w (by omega))
              go_wp2_with fail
              refine (HPP.out _).mono ?_
              rintro e w4 ⟨rfl, nn, rfl⟩
              go_wp2_with fail
              refine wp_goto ?_
              exact HGOTO.out _ 2 _ _ (RFr.mk _ _ _ _ _ _ _ _ _ _ _ _ _ _ _ _ _ _ _ _ _ _ _ _ _ _ _ _ _ _ _ _ _ _ _ _ _ _ _ _ _ _ _ _ _ _ _ _ _ _ _ _ _ _ _ _ _ _ _ _ _ _ _ _ _ _ _ _ _ _ _ _ _ _ _ _ _ _ _ _ _ _ _ _ _ _ _ _ _ _ _ _ _ _ _ _ _ _) (HW3.out.below (ext_drew w3 nn)) (below_dr HB3.out nn) ⟨x, HBX3.out.drew nn⟩ hpne hpl HG4.out
            · have HR0 : Hid (R = .gone) := Lib.hid ((goL_kind all (40 - n) [46, 46] (flatT tx2) h' k' (by decide) hk2 ▸ HGO3.out).symm)
              have hk3 : (k' != 2) = true := by simpa using hk2
              clear HGO3
              go_wp2_with fail
              refine wp_goto ?_
              exact HNONE.out HR0.out _ _ _ _ _ (RFr.mk _ _ _ _ _ _ _ _ _ _ _ _ _ _ _ _ _ _ _ _ _ _ _ _ _ _ _ _ _ _ _ _ _ _ _ _ _ _ _ _ _ _ _ _ _ _ _ _ _ _ _ _ _ _ _ _ _ _ _ _ _ _ _ _ _ _ _ _ _ _ _ _ _ _ _ _ _ _ _ _ _ _ _ _ _ _ _ _ _ _ _ _ _ _ _ _ _ _) HB3.out
          · have b1 : (A == []) = false := by rw [beq_eq_false_iff_ne]; exact e1
            have b2 : (A == [46]) = false := by rw [beq_eq_false_iff_ne]; exact e2
            have b3 : (A == [46, 46]) = false := by rw [beq_eq_false_iff_ne]; exact e3
            have b4 : A.isEmpty = false := by cases A with | nil => exact absurd rfl e1 | cons _ _ => rfl
            by_cases hk2 : k' = 2
            · subst hk2
              by_cases hlong : 255 < A.length
              · have hlI : (255 : Int) < (A.length : Int) := by omega
                have HR0 : Hid (R = .gone) := Lib.hid ((goL_gone all (40 - n) A (flatT tx2) h' hok (hta.long HNA.out hlong) ▸ HGO3.out).symm)
                clear HGO3 e1 e2 e3
                go_wp2_with fail
                refine wp_goto ?_
                exact HNONE.out HR0.out _ _ _ _ _ (RFr.mk _ _ _ _ _ _ _ _ _ _ _ _ _ _ _ _ _ _ _ _ _ _ _ _ _ _ _ _ _ _ _ _ _ _ _ _ _ _ _ _ _ _ _ _ _ _ _ _ _ _ _ _ _ _ _ _ _ _ _ _ _ _ _ _ _ _ _ _ _ _ _ _ _ _ _ _ _ _ _ _ _ _ _ _ _ _ _ _ _ _ _ _ _ _ _ _ _ _) HB3.out
              · have hlI : ¬ (255 : Int) < (A.length : Int) := by omega
                have HBL := Lib.hid (fun w => below_any h' A w (by omega) (by omega))
                have HT3 := Lib.hid (HT1.out.below HB3.out)
                have hjl : (joinL h' A).length ≤ 1000000 := by rw [joinL_len]; have := (joinL_nil_len h').2; omega
                have HLK := Lib.hid (Look_any t all (c + 1) (joinL h' A) w3 HT3.out hjl)
                obtain ⟨J, hJ⟩ : ∃ J, joinL h' A = J := ⟨_, rfl⟩
                rw [hJ] at HBL HLK
                clear e1 e2 e3 hlong hjl
                cases hlk : lookN all J with
                | none =>
                  have HR0 : Hid (R = .gone) := Lib.hid ((goL_gone all (40 - n) A (flatT tx2) h' hok (by rw [hJ]; exact hlk) ▸ HGO3.out).symm)
                  rw [hlk] at HLK
                  simp only [Option.getD_none, Option.isSome_none, ndV, nd0] at HLK
                  clear HGO3 hlk hJ
                  go_wp2_with fail
                  refine (HBL.out _).mono ?_
                  rintro e w4 ⟨rfl, rfl⟩
                  go_wp2_with fail
                  refine HLK.out.mono ?_
                  rintro e w5 ⟨rfl, hb5⟩
                  have HB5 := Lib.hid (HB3.out.trans (hb5.mono hsz3))
                  have HBX5 := Lib.hid (HBX3.out.below hb5 HBX3.out.lt)
                  obtain ⟨t1, t2, t3, t4, t5⟩ := box_chain HBX5.out
                  have u0 : w5.cell? ⟨nb, 0, none⟩ = some (.string ⟨x.p.toArray⟩) := by rw [HBX5.out.cell]; rfl
                  have u3 : w5.frozen? ⟨nb, 0, none⟩ = false := HBX5.out.frozen 0
                  clear hb5 t5
                  go_wp2_with fail
                  refine wp_goto ?_
                  exact HNONE.out HR0.out _ _ _ _ _ (RFr.mk _ _ _ _ _ _ _ _ _ _ _ _ _ _ _ _ _ _ _ _ _ _ _ _ _ _ _ _ _ _ _ _ _ _ _ _ _ _ _ _ _ _ _ _ _ _ _ _ _ _ _ _ _ _ _ _ _ _ _ _ _ _ _ _ _ _ _ _ _ _ _ _ _ _ _ _ _ _ _ _ _ _ _ _ _ _ _ _ _ _ _ _ _ _ _ _ _ _) (((HB5.out.setCell (p := ⟨nb, 0, none⟩) hnb _).setCell (p := ⟨nb, 1, none⟩) hnb _).setCell (p := ⟨nb, 2, none⟩) hnb _)
                | some nd =>
                  obtain ⟨hnm, hnp⟩ := lookN_some hlk
                  have hq0 : nd.p ≠ [] := by
                    have h3 := hta.clean hnm
                    intro h4
                    rw [h4] at h3; cases h3
                  have hq1 := hta.short hnm
                  have HSTEP : Hid (nd.k ≠ 3 → goL all (40 - n) (flatT tx2) nd.p nd.k = R) := Lib.hid (fun hk => by
                    have h4 := goL_step all (40 - n) A (flatT tx2) h' nd hok (by rw [hJ]; exact hlk) hk
                    rw [hnp, ← hJ, ← h4]; exact HGO3.out)
                  have HLOOP : Hid (nd.k = 3 → n = 40 → R = .loop) := Lib.hid (fun hk hn4 => by
                    subst hn4
                    have h4 := goL_loop all A (flatT tx2) h' nd hok (by rw [hJ]; exact hlk) hk
                    rw [← HGO3.out]; exact h4)
                  have HLINK : Hid (nd.k = 3 → n < 40 → goL all (40 - (n + 1)) (flatT (tx2 ++ [nd.d])) (if nd.d.head? = some 47 then [47] else h') 2 = R) := Lib.hid (fun hk hn4 => by
                    have h4 := goL_link all (40 - (n + 1)) A (flatT tx2) h' nd hok (by rw [hJ]; exact hlk) hk
                    rw [show 40 - (n + 1) + 1 = 40 - n by omega] at h4
                    rw [flatT_snoc, ← h4]; exact HGO3.out)
                  have HDL : Hid (nd.k = 3 → nd.d.length ≤ 1024) := Lib.hid (fun hk => (hta.link hnm hk).2)
                  rw [hlk] at HLK
                  simp only [Option.getD_some, Option.isSome_some, ndV] at HLK
                  obtain ⟨q, kd, d⟩ := nd
                  simp only at hq0 hq1 HSTEP HLOOP HLINK HDL HLK
                  clear HGO3 hlk hJ hnm hnp
                  by_cases hkd : kd = 3
                  · subst hkd
                    have HLP := Lib.hid (HLOOP.out rfl)
                    have HLN := Lib.hid (HLINK.out rfl)
                    have hdl := HDL.out rfl
                    clear HSTEP HLOOP HLINK HDL
                    by_cases hn4 : n = 40
                    · subst hn4
                      have HF : Hid (resV R = .tuple #[.string ⟨#[]⟩, .int .i64 0, .int .i64 20]) := Lib.hid (by rw [HLP.out rfl]; rfl)
                      clear HLP HLN
                      go_wp2_with fail
                      refine (HBL.out _).mono ?_
                      rintro e w4 ⟨rfl, rfl⟩
                      go_wp2_with fail
                      refine HLK.out.mono ?_
                      rintro e w5 ⟨rfl, hb5⟩
                      have HB5 := Lib.hid (HB3.out.trans (hb5.mono hsz3))
                      have HBX5 := Lib.hid (HBX3.out.below hb5 HBX3.out.lt)
                      obtain ⟨t1, t2, t3, t4, t5⟩ := box_chain HBX5.out
                      have u0 : w5.cell? ⟨nb, 0, none⟩ = some (.string ⟨x.p.toArray⟩) := by rw [HBX5.out.cell]; rfl
                      have u3 : w5.frozen? ⟨nb, 0, none⟩ = false := HBX5.out.frozen 0
                      have u4 : (((w5.setCell ⟨nb, 0, none⟩ (.string ⟨q.toArray⟩)).setCell ⟨nb, 1, none⟩ (.int .i64 3)).setCell ⟨nb, 2, none⟩ (.string ⟨d.toArray⟩)).cell? ⟨nb, 1, none⟩ = some (.int .i64 3) := by rw [(t5 _ _ _).cell]; rfl
                      clear hb5 t5
                      go_wp2_with fail
                      go_ret3
                      rw [HV.out, HF.out]
                      exact RealPost.of HT1.out HG1.out (((HB5.out.setCell (p := ⟨nb, 0, none⟩) hnb _).setCell (p := ⟨nb, 1, none⟩) hnb _).setCell (p := ⟨nb, 2, none⟩) hnb _)
                    · have hnI : ¬ (n : Int) = 40 := by omega
                      have hnB : ((n : Int) == 40) = false := by rw [beq_eq_false_iff_ne]; exact hnI
                      have hn5 : n < 40 := by omega
                      have HPX2 := Lib.hid (fun w => hasPreS_any d 47 w (by omega))
                      have hnw : IntKind.i64.wrap ((n : Int) + 1) = (n : Int) + 1 := IntWalk.i64_in _ (by omega)
                      go_wp2_with fail
                      refine (HBL.out _).mono ?_
                      rintro e w4 ⟨rfl, rfl⟩
                      go_wp2_with fail
                      refine HLK.out.mono ?_
                      rintro e w5 ⟨rfl, hb5⟩
                      have HB5 := Lib.hid (HB3.out.trans (hb5.mono hsz3))
                      have HBX5 := Lib.hid (HBX3.out.below hb5 HBX3.out.lt)
                      have HW5 := Lib.hid (HW3.out.below hb5)
                      obtain ⟨t1, t2, t3, t4, t5⟩ := box_chain HBX5.out
                      have u0 : w5.cell? ⟨nb, 0, none⟩ = some (.string ⟨x.p.toArray⟩) := by rw [HBX5.out.cell]; rfl
                      have u3 : w5.frozen? ⟨nb, 0, none⟩ = false := HBX5.out.frozen 0
                      have hbx6 := t5 (.string ⟨q.toArray⟩) (.int .i64 3) (.string ⟨d.toArray⟩)
                      have u4 : (((w5.setCell ⟨nb, 0, none⟩ (.string ⟨q.toArray⟩)).setCell ⟨nb, 1, none⟩ (.int .i64 3)).setCell ⟨nb, 2, none⟩ (.string ⟨d.toArray⟩)).cell? ⟨nb, 1, none⟩ = some (.int .i64 3) := by rw [hbx6.cell]; rfl
                      have u5 : (((w5.setCell ⟨nb, 0, none⟩ (.string ⟨q.toArray⟩)).setCell ⟨nb, 1, none⟩ (.int .i64 3)).setCell ⟨nb, 2, none⟩ (.string ⟨d.toArray⟩)).cell? ⟨nb, 2, none⟩ = some (.string ⟨d.toArray⟩) := by rw [hbx6.cell]; rfl
                      have hg6 := grownBy_trans (grownBy_trans (grownBy_set w5 nb 0 (.string ⟨q.toArray⟩)) (grownBy_set _ nb 1 (.int .i64 3))) (grownBy_set _ nb 2 (.string ⟨d.toArray⟩))
                      have HW6 := Lib.hid (HW5.out.node HBX5.out hg6)
                      have HB6 : Hid (Below w1.heap.size w1 (((w5.setCell ⟨nb, 0, none⟩ (.string ⟨q.toArray⟩)).setCell ⟨nb, 1, none⟩ (.int .i64 3)).setCell ⟨nb, 2, none⟩ (.string ⟨d.toArray⟩))) := Lib.hid (((HB5.out.setCell (p := ⟨nb, 0, none⟩) hnb _).setCell (p := ⟨nb, 1, none⟩) hnb _).setCell (p := ⟨nb, 2, none⟩) hnb _)
                      have HPT := Lib.hid (put_any w1.heap.size b tx2 f2 d _ HW6.out (by omega) HB6.out.size)
                      have HBX6 := Lib.hid hbx6
                      clear hb5 t5 hbx6 hg6
                      go_wp2_with fail
                      refine HPT.out.mono ?_
                      rintro e w7 ⟨rfl, hw7, hb7, hk7⟩
                      have hbx7 := hk7 nb 35 _ (by decide) (by decide) HBX6.out
                      have u6 : w7.cell? ⟨nb, 2, none⟩ = some (.string ⟨d.toArray⟩) := by rw [hbx7.cell]; rfl
                      have HB7 := Lib.hid (HB6.out.trans hb7)
                      have HGOTO2 : Hid (∀ (h2 : Bts) (a2 : Act) (W2 : World), RFr t p h2 2 (n + 1) b nb a2 → W2 = w7 → h2 ≠ [] → h2.length ≤ 1024 → goL all (40 - (n + 1)) (flatT (tx2 ++ [d])) h2 2 = R → ∃ m', m' < (40 - n) * 1100000 + weighT tx ∧ RealAt t p all c w R m' 0 a2 W2) := Lib.hid (fun h2 a2 W2 q1 q2 q5 q6 q7 => by
                        subst q2
                        refine ⟨(40 - (n + 1)) * 1100000 + weighT (tx2 ++ [d]), ?_, HV.out, w1, HT1.out, HG1.out, h2, 2, n + 1, b, nb, q1, HB7.out, .inr ⟨rfl, tx2 ++ [d], true, ⟨q, 3, d⟩, hw7, hnb, hbx7, hn5, by rw [List.length_append]; simp; omega, fun s hs => ?_, q5, q6, q7, rfl⟩⟩
                        · rw [weighT_snoc]; omega
                        · rcases List.mem_append.1 hs with h5 | h5
                          · exact HTS3.out s h5
                          · have : s = d := by simpa using h5
                            rw [this]; omega)
                      clear hw7 hb7 hk7 hbx7 u4 u5 t1 t2 t3 t4 u0 u3 HLP HPT
                      cases hhd : (d.head? == some 47) with
                      | true =>
                        have HG8 := Lib.hid (HLN.out hn5)
                        rw [if_pos (by simpa using hhd)] at HG8
                        rw [hhd] at HPX2
                        clear hhd HLN
                        go_wp2_with fail
                        refine (HPX2.out _).mono ?_
                        rintro e w8 ⟨rfl, rfl⟩
                        go_wp2_with fail
                        refine wp_goto ?_
                        exact HGOTO2.out [47] _ _ (RFr.mk _ _ _ _ (n + 1) _ _ _ _ _ _ _ _ _ _ _ _ _ _ _ _ _ _ _ _ _ _ _ _ _ _ _ _ _ _ _ _ _ _ _ _ _ _ _ _ _ _ _ _ _ _ _ _ _ _ _ _ _ _ _ _ _ _ _ _ _ _ _ _ _ _ _ _ _ _ _ _ _ _ _ _ _ _ _ _ _ _ _ _ _ _ _ _ _ _ _ _ _) rfl (by simp) (by simp) HG8.out
                      | false =>
                        have HG8 := Lib.hid (HLN.out hn5)
                        rw [if_neg (by simpa using hhd)] at HG8
                        rw [hhd] at HPX2
                        clear hhd HLN
                        go_wp2_with fail
                        refine (HPX2.out _).mono ?_
                        rintro e w8 ⟨rfl, rfl⟩
                        go_wp2_with fail
                        refine wp_goto ?_
                        exact HGOTO2.out h' _ _ (RFr.mk _ _ _ _ (n + 1) _ _ _ _ _ _ _ _ _ _ _ _ _ _ _ _ _ _ _ _ _ _ _ _ _ _ _ _ _ _ _ _ _ _ _ _ _ _ _ _ _ _ _ _ _ _ _ _ _ _ _ _ _ _ _ _ _ _ _ _ _ _ _ _ _ _ _ _ _ _ _ _ _ _ _ _ _ _ _ _ _ _ _ _ _ _ _ _ _ _ _ _ _) rfl hh' hhl' HG8.out
                  · have hk3b : (kd != 3) = true := by simpa using hkd
                    have HG8 := Lib.hid (HSTEP.out hkd)
                    clear HSTEP HLOOP HLINK HDL
                    go_wp2_with fail
                    refine (HBL.out _).mono ?_
                    rintro e w4 ⟨rfl, rfl⟩
                    go_wp2_with fail
                    refine HLK.out.mono ?_
                    rintro e w5 ⟨rfl, hb5⟩
                    have HB5 := Lib.hid (HB3.out.trans (hb5.mono hsz3))
                    have HBX5 := Lib.hid (HBX3.out.below hb5 HBX3.out.lt)
                    have HW5 := Lib.hid (HW3.out.below hb5)
                    obtain ⟨t1, t2, t3, t4, t5⟩ := box_chain HBX5.out
                    have u0 : w5.cell? ⟨nb, 0, none⟩ = some (.string ⟨x.p.toArray⟩) := by rw [HBX5.out.cell]; rfl
                    have u3 : w5.frozen? ⟨nb, 0, none⟩ = false := HBX5.out.frozen 0
                    have hbx6 := t5 (.string ⟨q.toArray⟩) (.int .i64 kd) (.string ⟨d.toArray⟩)
                    have hg6 := grownBy_trans (grownBy_trans (grownBy_set w5 nb 0 (.string ⟨q.toArray⟩)) (grownBy_set _ nb 1 (.int .i64 kd))) (grownBy_set _ nb 2 (.string ⟨d.toArray⟩))
                    have HW6 := Lib.hid (HW5.out.node HBX5.out hg6)
                    have u4 : (((w5.setCell ⟨nb, 0, none⟩ (.string ⟨q.toArray⟩)).setCell ⟨nb, 1, none⟩ (.int .i64 kd)).setCell ⟨nb, 2, none⟩ (.string ⟨d.toArray⟩)).cell? ⟨nb, 1, none⟩ = some (.int .i64 kd) := by rw [hbx6.cell]; rfl
                    have u5 : (((w5.setCell ⟨nb, 0, none⟩ (.string ⟨q.toArray⟩)).setCell ⟨nb, 1, none⟩ (.int .i64 kd)).setCell ⟨nb, 2, none⟩ (.string ⟨d.toArray⟩)).cell? ⟨nb, 0, none⟩ = some (.string ⟨q.toArray⟩) := by rw [hbx6.cell]; rfl
                    have HB6 : Hid (Below w1.heap.size w1 (((w5.setCell ⟨nb, 0, none⟩ (.string ⟨q.toArray⟩)).setCell ⟨nb, 1, none⟩ (.int .i64 kd)).setCell ⟨nb, 2, none⟩ (.string ⟨d.toArray⟩))) := Lib.hid (((HB5.out.setCell (p := ⟨nb, 0, none⟩) hnb _).setCell (p := ⟨nb, 1, none⟩) hnb _).setCell (p := ⟨nb, 2, none⟩) hnb _)
                    have HBX6 := Lib.hid hbx6
                    clear hb5 t5 hbx6 hg6
                    go_wp2_with fail
                    go_quiet (fail)
                    go_wp2_with fail
                    refine wp_goto ?_
                    exact HGOTO.out q kd _ _ (RFr.mk _ _ _ _ _ _ _ _ _ _ _ _ _ _ _ _ _ _ _ _ _ _ _ _ _ _ _ _ _ _ _ _ _ _ _ _ _ _ _ _ _ _ _ _ _ _ _ _ _ _ _ _ _ _ _ _ _ _ _ _ _ _ _ _ _ _ _ _ _ _ _ _ _ _ _ _ _ _ _ _ _ _ _ _ _ _ _ _ _ _ _ _ _ _ _ _ _ _) (HW6.out.below (ext_drew _ _)) (below_dr HB6.out _) ⟨⟨q, kd, d⟩, HBX6.out.drew _⟩ hq0 hq1 HG8.out
            · have hk3 : (k' != 2) = true := by simpa using hk2
              have HR0 : Hid (R = .gone) := Lib.hid ((goL_kind all (40 - n) A (flatT tx2) h' k' (by rintro (h | h); exact e1 h; exact e2 h) hk2 ▸ HGO3.out).symm)
              clear HGO3 e1 e2 e3
              go_wp2_with fail
              refine wp_goto ?_
              exact HNONE.out HR0.out _ _ _ _ _ (RFr.mk _ _ _ _ _ _ _ _ _ _ _ _ _ _ _ _ _ _ _ _ _ _ _ _ _ _ _ _ _ _ _ _ _ _ _ _ _ _ _ _ _ _ _ _ _ _ _ _ _ _ _ _ _ _ _ _ _ _ _ _ _ _ _ _ _ _ _ _ _ _ _ _ _ _ _ _ _ _ _ _ _ _ _ _ _ _ _ _ _ _ _ _ _ _ _ _ _ _) HB3.out
      · intro J K' hJ hK'
        have hkc : (f = false) ∨ (f = true ∧ k ≠ 2) ∨ (f = true ∧ k = 2) := by
          cases f
          · exact .inl rfl
          · by_cases h2 : k = 2
            · exact .inr (.inr ⟨rfl, h2⟩)
            · exact .inr (.inl ⟨rfl, h2⟩)
        rcases hkc with rfl | ⟨rfl, hk2⟩ | ⟨rfl, rfl⟩
        · go_wp2_with fail
          exact hJ _ _ ⟨tx, false, h, k, RFr.mk _ _ _ _ _ _ _ _ _ _ _ _ _ _ _ _ _ _ _ _ _ _ _ _ _ _ _ _ _ _ _ _ _ _ _ _ _ _ _ _ _ _ _ _ _ _ _ _ _ _ _ _ _ _ _ _ _ _ _ _ _ _ _ _ _ _ _ _ _ _ _ _ _ _ _ _ _ _ _ _ _ _ _ _ _ _ _ _ _ _ _ _ _ _ _ _ _ _, hh, hhl, rfl, HTS.out, HGO.out, HW.out, HBX.out, HL.out, Nat.le_refl _⟩
        · have hk3 : (k == 2) = false := by rw [beq_eq_false_iff_ne]; exact hk2
          go_wp2_with fail
          exact hJ _ _ ⟨tx, true, h, k, RFr.mk _ _ _ _ _ _ _ _ _ _ _ _ _ _ _ _ _ _ _ _ _ _ _ _ _ _ _ _ _ _ _ _ _ _ _ _ _ _ _ _ _ _ _ _ _ _ _ _ _ _ _ _ _ _ _ _ _ _ _ _ _ _ _ _ _ _ _ _ _ _ _ _ _ _ _ _ _ _ _ _ _ _ _ _ _ _ _ _ _ _ _ _ _ _ _ _ _ _, hh, hhl, rfl, HTS.out, HGO.out, HW.out, HBX.out, HL.out, Nat.le_refl _⟩
        · have HLP := Lib.hid (leap_any w1.heap.size b t tx true h all (c + 1) w1 W HW.out HT1.out rfl HL.out hta (by omega) HTS.out hh hhl hsz)
          go_wp2_with fail
          refine HLP.out.mono ?_
          rintro e w2 ⟨tx', h', k', f', rfl, hw', ⟨hg1, hg2, hg3, hg4, hg5⟩, hb', hk'⟩
          have HF : Hid (∀ a', RFr t p h' k' n b nb a' → RealSt t p all w1 R n tx x b nb a' w2) := Lib.hid (fun a' ha => by
            refine ⟨tx', f', h', k', ha, ?_, ?_, hg3, hg4, (hg1 _).symm.trans HGO.out, hw', hk' _ _ _ (by decide) (by decide) HBX.out, HL.out.trans hb', hg2⟩
            · rcases hg5 with ⟨rfl, -⟩ | ⟨nd, h1, h2, -⟩
              · exact hh
              · have h3 := hta.clean (lookN_some h1).1
                rw [h2] at h3
                rintro rfl; cases h3
            · rcases hg5 with ⟨rfl, -⟩ | ⟨nd, h1, h2, -⟩
              · exact hhl
              · have h3 := hta.short (lookN_some h1).1
                rw [h2] at h3; exact h3)
          clear hg1 hg2 hg3 hg4 hg5 hw' hb' hk'
          go_wp2_with fail
          exact hJ _ _ (HF.out _ (RFr.mk _ _ _ _ _ _ _ _ _ _ _ _ _ _ _ _ _ _ _ _ _ _ _ _ _ _ _ _ _ _ _ _ _ _ _ _ _ _ _ _ _ _ _ _ _ _ _ _ _ _ _ _ _ _ _ _ _ _ _ _ _ _ _ _ _ _ _ _ _ _ _ _ _ _ _ _ _ _ _ _ _ _ _ _ _ _ _ _ _ _ _ _ _ _ _ _ _ _))
end Go.Proofs.YtedfgikikjggaaaDoor
end
