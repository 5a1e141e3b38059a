/- The function gossamer/gossamerlaw9.hex does what is told of it. -/
import Derived.Test.YtklgahppjdgkmaaDoorR4
import Derived.Test.YtklgahppjdgkmaaDoorProg
import Derived.ProofKit
import Derived.Test.YtklgahppjdgkmaaDoorVsix1
set_option linter.unusedVariables false
set_option linter.unusedSimpArgs false
set_option maxRecDepth 100000
set_option maxHeartbeats 4000000
namespace Go.Proofs.YtklgahppjdgkmaaDoor
open Go Go.Proofs Go.RowKit Go.Vc

def dgB : Bs := [48, 49, 50, 51, 52, 53, 54, 55, 56, 57, 97, 66, 67, 100, 69, 102]
def nibZ (n j : Int) : Int := bitsZ BinOp.and IntKind.u16 (shrZ IntKind.u16 n j) (15 : Int)
def stepH (n : Int) (b : Bool) (j : Int) (s : Bs) : Bs := if b = true ∧ s = [] ∧ 0 < j ∧ nibZ n j = 0 then s else s ++ [zByte (byteZ dgB (nibZ n j))]
def preH (n : Int) (b : Bool) (j : Int) : Bs := if j = 12 then [] else if j = 8 then stepH n b 12 [] else if j = 4 then stepH n b 8 (stepH n b 12 []) else if j = 0 then stepH n b 4 (stepH n b 8 (stepH n b 12 [])) else stepH n b 0 (stepH n b 4 (stepH n b 8 (stepH n b 12 [])))
def hexS (n : Int) (b : Bool) : Bs := preH n b (-4)
theorem and15 (m : Nat) (h : m < 65536) : bitsZ BinOp.and IntKind.u16 (m : Int) 15 = ((m % 16 : Nat) : Int) := by
  have h3 : (BitVec.ofNat 16 m &&& BitVec.ofNat 16 15).toNat = m % 16 := by
    rw [BitVec.toNat_and, BitVec.toNat_ofNat, BitVec.toNat_ofNat, Nat.mod_eq_of_lt h, show 15 % 2 ^ 16 = 2 ^ 4 - 1 by decide, Nat.and_two_pow_sub_one_eq_mod]
  rw [show bitsZ BinOp.and IntKind.u16 (m : Int) 15 = IntKind.u16.wrap ((BitVec.ofInt 16 (m : Int) &&& BitVec.ofInt 16 15).toNat : Int) from rfl, BitVec.ofInt_natCast, show BitVec.ofInt 16 15 = BitVec.ofNat 16 15 from rfl, h3]
  exact IntWalk.u16_in _ (by omega)
theorem shr_at (n : Int) (q : Nat) (hq : q ≤ 12) (h0 : 0 ≤ n) (h1 : n ≤ 65535) : shrZ IntKind.u16 n (q : Int) = ((n.toNat / 2 ^ q : Nat) : Int) := by
  unfold shrZ
  rw [Int.toNat_natCast, show min q IntKind.u16.bits = q by show min q 16 = q; omega, Int.fdiv_eq_ediv_of_nonneg _ (Int.le_of_lt (Int.pow_pos (by decide)))]
  obtain ⟨m, rfl⟩ := Int.eq_ofNat_of_zero_le h0
  simp
theorem nib_at (n : Int) (q : Nat) (hq : q ≤ 12) (h0 : 0 ≤ n) (h1 : n ≤ 65535) : nibZ n (q : Int) = ((n.toNat / 2 ^ q % 16 : Nat) : Int) := by
  unfold nibZ
  rw [shr_at n q hq h0 h1]
  exact and15 _ (Nat.lt_of_le_of_lt (Nat.div_le_self _ _) (by omega))
theorem nib_bd (n j : Int) (hj : j = 12 ∨ j = 8 ∨ j = 4 ∨ j = 0) (h0 : 0 ≤ n) (h1 : n ≤ 65535) : 0 ≤ nibZ n j ∧ nibZ n j < 16 := by
  rcases hj with rfl | rfl | rfl | rfl
  · have := nib_at n 12 (by decide) h0 h1; rw [show ((12 : Nat) : Int) = 12 from rfl] at this; rw [this]; omega
  · have := nib_at n 8 (by decide) h0 h1; rw [show ((8 : Nat) : Int) = 8 from rfl] at this; rw [this]; omega
  · have := nib_at n 4 (by decide) h0 h1; rw [show ((4 : Nat) : Int) = 4 from rfl] at this; rw [this]; omega
  · have := nib_at n 0 (by decide) h0 h1; rw [show ((0 : Nat) : Int) = 0 from rfl] at this; rw [this]; omega
theorem stepH_len (n : Int) (b : Bool) (j : Int) (s : Bs) : (stepH n b j s).length ≤ s.length + 1 := by
  unfold stepH; split <;> simp
theorem preH_len (n : Int) (b : Bool) (j : Int) : (preH n b j).length ≤ 4 := by
  have h1 := stepH_len n b 12 []
  have h2 := stepH_len n b 8 (stepH n b 12 [])
  have h3 := stepH_len n b 4 (stepH n b 8 (stepH n b 12 []))
  have h4 := stepH_len n b 0 (stepH n b 4 (stepH n b 8 (stepH n b 12 [])))
  rw [List.length_nil] at h1
  unfold preH
  split
  · simp
  · split
    · omega
    · split
      · omega
      · split <;> omega
theorem preH_step (n : Int) (b : Bool) (j : Int) (hj : j = 12 ∨ j = 8 ∨ j = 4 ∨ j = 0) : preH n b (j - 4) = stepH n b j (preH n b j) := by
  rcases hj with rfl | rfl | rfl | rfl <;> rfl

def X_lhex : Tbl := tblX []
def H_lhex (n : Int) (b : Bool) : Loops := fun i => bif Nat.beq i 4 then some ⟨(Bs) × (Int), (fun s x => ((((s.put 6 (.str x.1)).put 7 (.int .i64 x.2)).put 9 .undef).put 27 .undef)), (fun s => (s.str 6, s.int 7)), (fun s x => let s := x.1; let j := x.2; (j = 12 ∨ j = 8 ∨ j = 4 ∨ j = 0 ∨ j = -4) ∧ s = preH n b j), (fun s x => let s := x.1; let j := x.2; (j + 4).toNat), [9, 27]⟩ else none
theorem X_lhex_ok : XOk Tryd.prog noT X_lhex := tblX_nil
theorem vc_lhex (n : Int) (b : Bool) (k : PV → Prop) : evF Tryd.prog X_lhex noT (H_lhex n b) 1000 Tryd.f14 [.int .u16 n, .bool b] k = (
  VS.mk []
 [(nat_lit 0, PV.int Go.IntKind.u16 n), (nat_lit 1, PV.bool b), (nat_lit 4, PV.str (ByteArray.mk #[]).data.toList),
 (nat_lit 5,
 PV.str
 (ByteArray.mk
 #[(48 : UInt8), (49 : UInt8), (50 : UInt8), (51 : UInt8), (52 : UInt8), (53 : UInt8), (54 : UInt8), (55 : UInt8), (56 : UInt8), (57 : UInt8),
 (97 : UInt8), (66 : UInt8), (67 : UInt8), (100 : UInt8), (69 : UInt8), (102 : UInt8)]).data.toList),
 (nat_lit 6, PV.str (ByteArray.mk #[]).data.toList), (nat_lit 7, PV.int Go.IntKind.i64 (12 : Int)), ((9 : Nat), PV.undef),
 ((27 : Nat), PV.undef)]
 [] =
 VS.mk []
 [(nat_lit 0, PV.int Go.IntKind.u16 n), (nat_lit 1, PV.bool b), (nat_lit 4, PV.str (ByteArray.mk #[]).data.toList),
 (nat_lit 5,
 PV.str
 (ByteArray.mk
 #[(48 : UInt8), (49 : UInt8), (50 : UInt8), (51 : UInt8), (52 : UInt8), (53 : UInt8), (54 : UInt8), (55 : UInt8), (56 : UInt8), (57 : UInt8),
 (97 : UInt8), (66 : UInt8), (67 : UInt8), (100 : UInt8), (69 : UInt8), (102 : UInt8)]).data.toList),
 ((6 : Nat), PV.str (ByteArray.mk #[]).data.toList), ((7 : Nat), PV.int Go.IntKind.i64 (12 : Int)), ((9 : Nat), PV.undef),
 ((27 : Nat), PV.undef)]
 [] ∧
 (((12 : Int) = (12 : Int) ∨ (12 : Int) = (8 : Int) ∨ (12 : Int) = (4 : Int) ∨ (12 : Int) = (0 : Int) ∨ (12 : Int) = (-4 : Int)) ∧
 (ByteArray.mk #[]).data.toList = preH n b (12 : Int)) ∧
 ∀ (x : Bs × Int),
 (x.snd = (12 : Int) ∨ x.snd = (8 : Int) ∨ x.snd = (4 : Int) ∨ x.snd = (0 : Int) ∨ x.snd = (-4 : Int)) ∧
 x.fst = preH n b x.snd →
 (decide ((0 : Int) ≤ x.snd) = true →
 ((bif bif b then decide (x.fst = (ByteArray.mk #[]).data.toList) else false then decide ((0 : Int) < x.snd) else false) = true →
 (0 : Int) ≤ x.snd) ∧
 ((bif bif bif b then decide (x.fst = (ByteArray.mk #[]).data.toList) else false then decide ((0 : Int) < x.snd) else false then
 decide (bitsZ Go.BinOp.and Go.IntKind.u16 (shrZ Go.IntKind.u16 n x.snd) (15 : Int) = (0 : Int))
 else false) =
 true →
 inI64 (x.snd - (4 : Int)) ∧
 VS.mk []
 [(nat_lit 0, PV.int Go.IntKind.u16 n), (nat_lit 1, PV.bool b), (nat_lit 4, PV.str (ByteArray.mk #[]).data.toList),
 (nat_lit 5,
 PV.str
 (ByteArray.mk
 #[(48 : UInt8), (49 : UInt8), (50 : UInt8), (51 : UInt8), (52 : UInt8), (53 : UInt8), (54 : UInt8), (55 : UInt8),
 (56 : UInt8), (57 : UInt8), (97 : UInt8), (66 : UInt8), (67 : UInt8), (100 : UInt8), (69 : UInt8),
 (102 : UInt8)]).data.toList),
 ((6 : Nat), PV.str x.fst), ((7 : Nat), PV.int Go.IntKind.i64 (x.snd - (4 : Int))), ((9 : Nat), PV.undef),
 ((27 : Nat), PV.undef)]
 [] =
 VS.mk []
 [(nat_lit 0, PV.int Go.IntKind.u16 n), (nat_lit 1, PV.bool b), (nat_lit 4, PV.str (ByteArray.mk #[]).data.toList),
 (nat_lit 5,
 PV.str
 (ByteArray.mk
 #[(48 : UInt8), (49 : UInt8), (50 : UInt8), (51 : UInt8), (52 : UInt8), (53 : UInt8), (54 : UInt8), (55 : UInt8),
 (56 : UInt8), (57 : UInt8), (97 : UInt8), (66 : UInt8), (67 : UInt8), (100 : UInt8), (69 : UInt8),
 (102 : UInt8)]).data.toList),
 ((6 : Nat), PV.str x.fst), ((7 : Nat), PV.int Go.IntKind.i64 (x.snd - (4 : Int))), ((9 : Nat), PV.undef),
 ((27 : Nat), PV.undef)]
 [] ∧
 ((x.snd - (4 : Int) = (12 : Int) ∨
 x.snd - (4 : Int) = (8 : Int) ∨ x.snd - (4 : Int) = (4 : Int) ∨ x.snd - (4 : Int) = (0 : Int) ∨ x.snd - (4 : Int) = (-4 : Int)) ∧
 x.fst = preH n b (x.snd - (4 : Int))) ∧
 (x.snd - (4 : Int) + (4 : Int)).toNat < (x.snd + (4 : Int)).toNat) ∧
 ((bif bif bif b then decide (x.fst = (ByteArray.mk #[]).data.toList) else false then decide ((0 : Int) < x.snd) else false then
 decide (bitsZ Go.BinOp.and Go.IntKind.u16 (shrZ Go.IntKind.u16 n x.snd) (15 : Int) = (0 : Int))
 else false) =
 false →
 (0 : Int) ≤ x.snd ∧
 within (bitsZ Go.BinOp.and Go.IntKind.u16 (shrZ Go.IntKind.u16 n x.snd) (15 : Int))
 (lenZ
 (ByteArray.mk
 #[(48 : UInt8), (49 : UInt8), (50 : UInt8), (51 : UInt8), (52 : UInt8), (53 : UInt8), (54 : UInt8), (55 : UInt8), (56 : UInt8),
 (57 : UInt8), (97 : UInt8), (66 : UInt8), (67 : UInt8), (100 : UInt8), (69 : UInt8), (102 : UInt8)]).data.toList) ∧
 allU8
 [PV.int Go.IntKind.u8
 (byteZ
 (ByteArray.mk
 #[(48 : UInt8), (49 : UInt8), (50 : UInt8), (51 : UInt8), (52 : UInt8), (53 : UInt8), (54 : UInt8), (55 : UInt8),
 (56 : UInt8), (57 : UInt8), (97 : UInt8), (66 : UInt8), (67 : UInt8), (100 : UInt8), (69 : UInt8),
 (102 : UInt8)]).data.toList
 (bitsZ Go.BinOp.and Go.IntKind.u16 (shrZ Go.IntKind.u16 n x.snd) (15 : Int)))] ∧
 List.length x.fst +
 [zByte
 (byteZ
 (ByteArray.mk
 #[(48 : UInt8), (49 : UInt8), (50 : UInt8), (51 : UInt8), (52 : UInt8), (53 : UInt8), (54 : UInt8), (55 : UInt8),
 (56 : UInt8), (57 : UInt8), (97 : UInt8), (66 : UInt8), (67 : UInt8), (100 : UInt8), (69 : UInt8),
 (102 : UInt8)]).data.toList
 (bitsZ Go.BinOp.and Go.IntKind.u16 (shrZ Go.IntKind.u16 n x.snd) (15 : Int)))].length ≤
 Go.Vc.maxLen ∧
 inI64 (x.snd - (4 : Int)) ∧
 VS.mk []
 [(nat_lit 0, PV.int Go.IntKind.u16 n), (nat_lit 1, PV.bool b),
 (nat_lit 4, PV.str (ByteArray.mk #[]).data.toList),
 (nat_lit 5,
 PV.str
 (ByteArray.mk
 #[(48 : UInt8), (49 : UInt8), (50 : UInt8), (51 : UInt8), (52 : UInt8), (53 : UInt8), (54 : UInt8), (55 : UInt8),
 (56 : UInt8), (57 : UInt8), (97 : UInt8), (66 : UInt8), (67 : UInt8), (100 : UInt8), (69 : UInt8),
 (102 : UInt8)]).data.toList),
 ((6 : Nat),
 PV.str
 (x.fst ++
 [zByte
 (byteZ
 (ByteArray.mk
 #[(48 : UInt8), (49 : UInt8), (50 : UInt8), (51 : UInt8), (52 : UInt8), (53 : UInt8), (54 : UInt8),
 (55 : UInt8), (56 : UInt8), (57 : UInt8), (97 : UInt8), (66 : UInt8), (67 : UInt8), (100 : UInt8),
 (69 : UInt8), (102 : UInt8)]).data.toList
 (bitsZ Go.BinOp.and Go.IntKind.u16 (shrZ Go.IntKind.u16 n x.snd) (15 : Int)))])),
 ((7 : Nat), PV.int Go.IntKind.i64 (x.snd - (4 : Int))), ((9 : Nat), PV.undef), ((27 : Nat), PV.undef)]
 [] =
 VS.mk []
 [(nat_lit 0, PV.int Go.IntKind.u16 n), (nat_lit 1, PV.bool b),
 (nat_lit 4, PV.str (ByteArray.mk #[]).data.toList),
 (nat_lit 5,
 PV.str
 (ByteArray.mk
 #[(48 : UInt8), (49 : UInt8), (50 : UInt8), (51 : UInt8), (52 : UInt8), (53 : UInt8), (54 : UInt8), (55 : UInt8),
 (56 : UInt8), (57 : UInt8), (97 : UInt8), (66 : UInt8), (67 : UInt8), (100 : UInt8), (69 : UInt8),
 (102 : UInt8)]).data.toList),
 ((6 : Nat),
 PV.str
 (x.fst ++
 [zByte
 (byteZ
 (ByteArray.mk
 #[(48 : UInt8), (49 : UInt8), (50 : UInt8), (51 : UInt8), (52 : UInt8), (53 : UInt8), (54 : UInt8),
 (55 : UInt8), (56 : UInt8), (57 : UInt8), (97 : UInt8), (66 : UInt8), (67 : UInt8), (100 : UInt8),
 (69 : UInt8), (102 : UInt8)]).data.toList
 (bitsZ Go.BinOp.and Go.IntKind.u16 (shrZ Go.IntKind.u16 n x.snd) (15 : Int)))])),
 ((7 : Nat), PV.int Go.IntKind.i64 (x.snd - (4 : Int))), ((9 : Nat), PV.undef), ((27 : Nat), PV.undef)]
 [] ∧
 ((x.snd - (4 : Int) = (12 : Int) ∨
 x.snd - (4 : Int) = (8 : Int) ∨
 x.snd - (4 : Int) = (4 : Int) ∨ x.snd - (4 : Int) = (0 : Int) ∨ x.snd - (4 : Int) = (-4 : Int)) ∧
 x.fst ++
 [zByte
 (byteZ
 (ByteArray.mk
 #[(48 : UInt8), (49 : UInt8), (50 : UInt8), (51 : UInt8), (52 : UInt8), (53 : UInt8), (54 : UInt8),
 (55 : UInt8), (56 : UInt8), (57 : UInt8), (97 : UInt8), (66 : UInt8), (67 : UInt8), (100 : UInt8),
 (69 : UInt8), (102 : UInt8)]).data.toList
 (bitsZ Go.BinOp.and Go.IntKind.u16 (shrZ Go.IntKind.u16 n x.snd) (15 : Int)))] =
 preH n b (x.snd - (4 : Int))) ∧
 (x.snd - (4 : Int) + (4 : Int)).toNat < (x.snd + (4 : Int)).toNat)) ∧
 (decide ((0 : Int) ≤ x.snd) = false → k (PV.str x.fst))) := by kernel_rfl
attribute [local irreducible] Go.Vc.evF
theorem ok_lhex (n : Int) (b : Bool) : FuncOk Tryd.prog noT 14 [.int .u16 n, .bool b] ⟨0 ≤ n ∧ n ≤ 65535, .str (hexS n b)⟩ := evF_ok (by kernel_rfl) X_lhex_ok (H := H_lhex n b) (fuel := 1000) Tryd.func14 (by kernel_rfl) fun hpre => (vc_lhex n b _).mpr (by
  obtain ⟨p0, p1⟩ := hpre
  refine ⟨rfl, ⟨.inl rfl, rfl⟩, fun x hx => ⟨fun h => ?_, fun h => ?_⟩⟩
  · obtain ⟨s, j⟩ := x
    obtain ⟨hj, hs⟩ := hx
    dsimp only at hj hs h ⊢
    have hj0 : 0 ≤ j := of_decide_eq_true h
    have hj4 : j = 12 ∨ j = 8 ∨ j = 4 ∨ j = 0 := by omega
    have hst := preH_step n b j hj4
    rw [← hs] at hst
    have hln : s.length ≤ 4 := by rw [hs]; exact preH_len n b j
    obtain ⟨n0, n1⟩ := nib_bd n j hj4 p0 p1
    simp only [andB6, falB6, Bool.and_eq_true, decide_eq_true_eq]
    refine ⟨fun _ => hj0, fun hc => ?_, fun hc => ?_⟩
    · refine ⟨⟨by omega, by omega⟩, trivial, ⟨by omega, ?_⟩, by omega⟩
      rw [hst]
      unfold stepH
      rw [if_pos ⟨hc.1.1.1, hc.1.1.2, hc.1.2, hc.2⟩]
    · refine ⟨hj0, ⟨n0, n1⟩, ?_, ?_, ⟨by omega, by omega⟩, trivial, ⟨by omega, ?_⟩, by omega⟩
      · have := byteZ_range dgB (nibZ n j)
        first | exact ⟨this.1, this.2, trivial⟩ | exact ⟨this.1, this.2⟩
      · show s.length + 1 ≤ 1099511627776
        omega
      · rw [hst]
        unfold stepH
        rw [if_neg (fun hh => hc ⟨⟨⟨hh.1, hh.2.1⟩, hh.2.2.1⟩, hh.2.2.2⟩)]
        rfl
  · obtain ⟨s, j⟩ := x
    obtain ⟨hj, hs⟩ := hx
    dsimp only at hj hs h ⊢
    have hj0 : ¬ 0 ≤ j := of_decide_eq_false h
    show PV.str _ = PV.str _
    rw [hs, show j = -4 by omega]
    rfl)
def ent_lhex : List PV → Option CallR := fun xs => match xs with
  | [.int .u16 n, .bool b] => some ⟨0 ≤ n ∧ n ≤ 65535, .str (hexS n b)⟩
  | _ => none
theorem ent_lhex_ok : ∀ xs c, ent_lhex xs = some c → FuncOk Tryd.prog noT 14 xs c := fun xs c h => by
  unfold ent_lhex at h
  split at h
  · injection h with h; subst h; exact ok_lhex _ _
  · cases h
end Go.Proofs.YtklgahppjdgkmaaDoor
