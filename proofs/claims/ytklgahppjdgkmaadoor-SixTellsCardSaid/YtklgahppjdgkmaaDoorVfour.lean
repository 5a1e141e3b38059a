/- The function gossamer/gossamerref9.four does what is told of it. -/
import Derived.Test.YtklgahppjdgkmaaDoorR4
import Derived.Test.YtklgahppjdgkmaaDoorProg
import Derived.ProofKit
import Derived.Test.YtklgahppjdgkmaaDoorVparts
set_option linter.unusedVariables false
set_option linter.unusedSimpArgs false
set_option maxRecDepth 100000
set_option maxHeartbeats 4000000
namespace Go.Proofs.YtklgahppjdgkmaaDoor
open Go Go.Proofs Go.RowKit Go.Vc

def digB10 (c : UInt8) : Bool := decide (48 ≤ c.toNat ∧ c.toNat ≤ 57)
def decVal (p : Bs) : Int := p.foldl (fun v c => v * 10 + ((c.toNat : Int) - 48)) 0
def shapeP (p : Bs) : Bool := decide (1 ≤ p.length ∧ p.length ≤ 3) && !(decide (1 < p.length) && decide (byteZ p 0 = 48))
def goodP (p : Bs) : Bool := shapeP p && p.all digB10 && decide (decVal p ≤ 255)
def fourR (l : Bs) : Int × Int × Bool := match splitB 46 l with
  | [a, b, c, d] => if (goodP a && goodP b && goodP c && goodP d) = true then (decVal a * 256 + decVal b, decVal c * 256 + decVal d, true) else (0, 0, false)
  | _ => (0, 0, false)
/-- Parts read so far. -/
def FourI (L : List Bs) (n : List Int) (i : Int) : Prop := 0 ≤ i ∧ i ≤ 4 ∧ L.length = 4 ∧ n = (L.take i.toNat).map decVal ++ List.replicate (4 - i.toNat) 0 ∧ ∀ p ∈ L.take i.toNat, goodP p = true
def FourK (L : List Bs) (i : Int) (n : List Int) (k : Int) : Prop := 0 ≤ k ∧ k ≤ (strZ L i).length ∧ shapeP (strZ L i) = true ∧ n = (L.take i.toNat).map decVal ++ decVal ((strZ L i).take k.toNat) :: List.replicate (3 - i.toNat) 0 ∧ ∀ c ∈ (strZ L i).take k.toNat, digB10 c = true
theorem decVal_snoc (q : Bs) (c : UInt8) : decVal (q ++ [c]) = decVal q * 10 + ((c.toNat : Int) - 48) := by unfold decVal; rw [List.foldl_append]; rfl
theorem decVal_bd : ∀ (n : Nat) (p : Bs), p.length = n → (∀ c ∈ p, digB10 c = true) → 0 ≤ decVal p ∧ decVal p < 10 ^ n
  | 0, p, hn, _ => by rw [List.length_eq_zero_iff.1 hn]; exact ⟨by decide, by decide⟩
  | n + 1, p, hn, h => by
    rcases List.eq_nil_or_concat p with rfl | ⟨q, c, rfl⟩
    · simp at hn
    · rw [List.concat_eq_append] at h hn ⊢
      obtain ⟨a, b⟩ := decVal_bd n q (by simpa using hn) (fun d hd => h d (by simp [hd]))
      have hc := of_decide_eq_true (h c (by simp))
      rw [decVal_snoc, Int.pow_succ]
      omega
theorem four_bad {l : Bs} (h4 : (splitB 46 l).length = 4) {p : Bs} (hp : p ∈ splitB 46 l) (hg : ¬ goodP p = true) : fourR l = (0, 0, false) := by
  unfold fourR
  match hq : splitB 46 l, h4, hp with
  | [a, b, c, d], _, hp =>
    dsimp only
    rw [if_neg]
    intro h
    simp only [Bool.and_eq_true] at h
    simp only [List.mem_cons, List.not_mem_nil, or_false] at hp
    rcases hp with rfl | rfl | rfl | rfl
    · exact hg h.1.1.1
    · exact hg h.1.1.2
    · exact hg h.1.2
    · exact hg h.2
theorem four_len {l : Bs} (h4 : ¬ (splitB 46 l).length = 4) : fourR l = (0, 0, false) := by
  unfold fourR
  split
  · rename_i h; rw [h] at h4; exact absurd rfl h4
  · rfl
theorem or_i64 (a b : Int) (ha0 : 0 ≤ a) (ha : a ≤ 255) (hb0 : 0 ≤ b) (hb : b ≤ 255) : bitsZ BinOp.or IntKind.i64 (shlZ IntKind.i64 a 8) b = a * 256 + b := by
  obtain ⟨x, rfl⟩ := Int.eq_ofNat_of_zero_le ha0
  obtain ⟨y, rfl⟩ := Int.eq_ofNat_of_zero_le hb0
  have e1 : shlZ IntKind.i64 (x : Int) 8 = ((x * 256 : Nat) : Int) := by
    unfold shlZ
    rw [show (2 : Int) ^ min (Int.toNat 8) IntKind.i64.bits = 256 by decide]
    exact (IntWalk.i64_in _ (by omega)).trans (by omega)
  rw [e1, show bitsZ BinOp.or IntKind.i64 ((x * 256 : Nat) : Int) (y : Int) = IntKind.i64.wrap ((BitVec.ofInt 64 ((x * 256 : Nat) : Int) ||| BitVec.ofInt 64 (y : Int)).toNat : Int) from rfl, BitVec.ofInt_natCast, BitVec.ofInt_natCast, BitVec.toNat_or, BitVec.toNat_ofNat, BitVec.toNat_ofNat, Nat.mod_eq_of_lt (by omega), Nat.mod_eq_of_lt (by omega)]
  have e2 : x * 256 ||| y = x * 256 + y := by
    have := Nat.shiftLeft_add_eq_or_of_lt (i := 8) (b := y) (by omega) x
    rw [Nat.shiftLeft_eq] at this
    exact this.symm
  rw [e2, IntWalk.i64_in _ (by omega)]
  omega

def X_four : Tbl := tblX [(30, ent_parts)]
def H_four (l : Bs) : Loops := fun i => bif Nat.beq i 6 then some ⟨(List Int) × (Int), (fun s x => ((((((((VS.mk s.loc s.env (setN 38 (.arr 4 (.ints .i64 x.1)) s.lh)).put 7 (.int .i64 x.2)).put 8 .undef).put 15 .undef).put 47 .undef).put 54 .undef).put 72 .undef).put 91 .undef)), (fun s => (VS.ints (VS.mk [] s.lh []) 38, s.int 7)), (fun s x => let n := x.1; let i := x.2; FourI (s.strs 5) n i), (fun s x => let n := x.1; let i := x.2; (4 - i).toNat), [8, 15, 47, 54, 72, 91]⟩ else bif Nat.beq i 11 then some ⟨(List Int) × (Int), (fun s x => ((((VS.mk s.loc s.env (setN 38 (.arr 4 (.ints .i64 x.1)) s.lh)).put 8 (.int .i64 x.2)).put 54 .undef).put 72 .undef)), (fun s => (VS.ints (VS.mk [] s.lh []) 38, s.int 8)), (fun s x => let n := x.1; let k := x.2; FourK (s.strs 5) (s.int 7) n k), (fun s x => let n := x.1; let k := x.2; ((strZ (s.strs 5) (s.int 7)).length + 1 - k : Int).toNat), [54, 72]⟩ else none
theorem X_four_ok : XOk Tryd.prog noT X_four := tblX_cons ent_parts_ok (tblX_nil)
theorem vc_four (l : Bs) (k : PV → Prop) : evF Tryd.prog X_four noT (H_four l) 1000 Tryd.f31 [.str l] k = (
  (List.length l ≤ (1000 : Nat) ∧ (0 : Int) ≤ (46 : Int) ∧ (46 : Int) ≤ (255 : Int)) ∧
 ((!decide (Int.ofNat (splitB (46 : Int) l).length = (4 : Int))) = true →
 k (PV.tup [PV.int Go.IntKind.i64 (0 : Int), PV.int Go.IntKind.i64 (0 : Int), PV.bool false])) ∧
 ((!decide (Int.ofNat (splitB (46 : Int) l).length = (4 : Int))) = false →
 VS.mk []
 [(nat_lit 0, PV.str l), (nat_lit 2, PV.int Go.IntKind.i64 (0 : Int)), (nat_lit 3, PV.int Go.IntKind.i64 (0 : Int)),
 (nat_lit 4, PV.bool false),
 (nat_lit 5, PV.row false (BRow.strs (splitB (46 : Int) l)) (0 : Nat)),
 (nat_lit 6, PV.ptr ((6 : Nat) + (32 : Nat)) (0 : Nat)), (nat_lit 7, PV.int Go.IntKind.i64 (0 : Int)), ((8 : Nat), PV.undef),
 (nat_lit 13, PV.bool !decide (Int.ofNat (splitB (46 : Int) l).length = (4 : Int))),
 ((15 : Nat), PV.undef), ((47 : Nat), PV.undef), ((54 : Nat), PV.undef), ((72 : Nat), PV.undef),
 ((91 : Nat), PV.undef)]
 [((6 : Nat) + (32 : Nat), PV.arr (4 : Nat) (BRow.ints Go.IntKind.i64 (List.replicate (4 : Nat) (0 : Int))))] =
 VS.mk []
 [(nat_lit 0, PV.str l), (nat_lit 2, PV.int Go.IntKind.i64 (0 : Int)), (nat_lit 3, PV.int Go.IntKind.i64 (0 : Int)),
 (nat_lit 4, PV.bool false),
 (nat_lit 5, PV.row false (BRow.strs (splitB (46 : Int) l)) (0 : Nat)),
 (nat_lit 6, PV.ptr ((6 : Nat) + (32 : Nat)) (0 : Nat)), ((7 : Nat), PV.int Go.IntKind.i64 (0 : Int)), ((8 : Nat), PV.undef),
 (nat_lit 13, PV.bool !decide (Int.ofNat (splitB (46 : Int) l).length = (4 : Int))),
 ((15 : Nat), PV.undef), ((47 : Nat), PV.undef), ((54 : Nat), PV.undef), ((72 : Nat), PV.undef),
 ((91 : Nat), PV.undef)]
 [((38 : Nat), PV.arr (4 : Nat) (BRow.ints Go.IntKind.i64 (List.replicate (4 : Nat) (0 : Int))))] ∧
 FourI (splitB (46 : Int) l) (List.replicate (4 : Nat) (0 : Int)) (0 : Int) ∧
 ∀ (x : List Int × Int),
 FourI (splitB (46 : Int) l) x.fst x.snd →
 (decide (x.snd < (4 : Int)) = true →
 within x.snd (Int.ofNat (splitB (46 : Int) l).length) ∧
 (decide (lenZ (strZ (splitB (46 : Int) l) x.snd) < (1 : Int)) = false →
 within x.snd (Int.ofNat (splitB (46 : Int) l).length)) ∧
 ((bif decide (lenZ (strZ (splitB (46 : Int) l) x.snd) < (1 : Int)) then true
 else decide ((3 : Int) < lenZ (strZ (splitB (46 : Int) l) x.snd))) =
 false →
 within x.snd (Int.ofNat (splitB (46 : Int) l).length)) ∧
 ((bif decide (lenZ (strZ (splitB (46 : Int) l) x.snd) < (1 : Int)) then true
 else decide ((3 : Int) < lenZ (strZ (splitB (46 : Int) l) x.snd))) =
 false →
 decide ((1 : Int) < lenZ (strZ (splitB (46 : Int) l) x.snd)) = true →
 within x.snd (Int.ofNat (splitB (46 : Int) l).length)) ∧
 ((bif decide (lenZ (strZ (splitB (46 : Int) l) x.snd) < (1 : Int)) then true
 else decide ((3 : Int) < lenZ (strZ (splitB (46 : Int) l) x.snd))) =
 false →
 decide ((1 : Int) < lenZ (strZ (splitB (46 : Int) l) x.snd)) = true →
 within (0 : Int) (lenZ (strZ (splitB (46 : Int) l) x.snd))) ∧
 ((bif
 bif decide (lenZ (strZ (splitB (46 : Int) l) x.snd) < (1 : Int)) then true
 else decide ((3 : Int) < lenZ (strZ (splitB (46 : Int) l) x.snd)) then
 true
 else
 bif decide ((1 : Int) < lenZ (strZ (splitB (46 : Int) l) x.snd)) then
 decide (byteZ (strZ (splitB (46 : Int) l) x.snd) (0 : Int) = (48 : Int))
 else false) =
 true →
 k (PV.tup [PV.int Go.IntKind.i64 (0 : Int), PV.int Go.IntKind.i64 (0 : Int), PV.bool false])) ∧
 ((bif
 bif decide (lenZ (strZ (splitB (46 : Int) l) x.snd) < (1 : Int)) then true
 else decide ((3 : Int) < lenZ (strZ (splitB (46 : Int) l) x.snd)) then
 true
 else
 bif decide ((1 : Int) < lenZ (strZ (splitB (46 : Int) l) x.snd)) then
 decide (byteZ (strZ (splitB (46 : Int) l) x.snd) (0 : Int) = (48 : Int))
 else false) =
 false →
 VS.mk []
 [(nat_lit 0, PV.str l), (nat_lit 2, PV.int Go.IntKind.i64 (0 : Int)),
 (nat_lit 3, PV.int Go.IntKind.i64 (0 : Int)), (nat_lit 4, PV.bool false),
 (nat_lit 5, PV.row false (BRow.strs (splitB (46 : Int) l)) (0 : Nat)),
 (nat_lit 6, PV.ptr ((6 : Nat) + (32 : Nat)) (0 : Nat)), ((7 : Nat), PV.int Go.IntKind.i64 x.snd),
 ((8 : Nat), PV.int Go.IntKind.i64 (0 : Int)),
 (nat_lit 13, PV.bool !decide (Int.ofNat (splitB (46 : Int) l).length = (4 : Int))),
 ((15 : Nat), PV.bool (decide (x.snd < (4 : Int)))),
 ((47 : Nat),
 PV.bool
 (bif
 bif decide (lenZ (strZ (splitB (46 : Int) l) x.snd) < (1 : Int)) then
 true
 else
 decide ((3 : Int) < lenZ (strZ (splitB (46 : Int) l) x.snd)) then
 true
 else
 bif decide ((1 : Int) < lenZ (strZ (splitB (46 : Int) l) x.snd)) then
 decide
 (byteZ (strZ (splitB (46 : Int) l) x.snd) (0 : Int) = (48 : Int))
 else false)),
 ((54 : Nat), PV.undef), ((72 : Nat), PV.undef), ((91 : Nat), PV.undef)]
 [((38 : Nat), PV.arr (4 : Nat) (BRow.ints Go.IntKind.i64 x.fst))] =
 VS.mk []
 [(nat_lit 0, PV.str l), (nat_lit 2, PV.int Go.IntKind.i64 (0 : Int)),
 (nat_lit 3, PV.int Go.IntKind.i64 (0 : Int)), (nat_lit 4, PV.bool false),
 (nat_lit 5, PV.row false (BRow.strs (splitB (46 : Int) l)) (0 : Nat)),
 (nat_lit 6, PV.ptr ((6 : Nat) + (32 : Nat)) (0 : Nat)), ((7 : Nat), PV.int Go.IntKind.i64 x.snd),
 ((8 : Nat), PV.int Go.IntKind.i64 (0 : Int)),
 (nat_lit 13, PV.bool !decide (Int.ofNat (splitB (46 : Int) l).length = (4 : Int))),
 ((15 : Nat), PV.bool (decide (x.snd < (4 : Int)))),
 ((47 : Nat),
 PV.bool
 (bif
 bif decide (lenZ (strZ (splitB (46 : Int) l) x.snd) < (1 : Int)) then
 true
 else
 decide ((3 : Int) < lenZ (strZ (splitB (46 : Int) l) x.snd)) then
 true
 else
 bif decide ((1 : Int) < lenZ (strZ (splitB (46 : Int) l) x.snd)) then
 decide
 (byteZ (strZ (splitB (46 : Int) l) x.snd) (0 : Int) = (48 : Int))
 else false)),
 ((54 : Nat), PV.undef), ((72 : Nat), PV.undef), ((91 : Nat), PV.undef)]
 [((38 : Nat), PV.arr (4 : Nat) (BRow.ints Go.IntKind.i64 x.fst))] ∧
 FourK (splitB (46 : Int) l) x.snd x.fst (0 : Int) ∧
 ∀ (x_1 : List Int × Int),
 FourK (splitB (46 : Int) l) x.snd x_1.fst x_1.snd →
 within x.snd (Int.ofNat (splitB (46 : Int) l).length) ∧
 (decide (x_1.snd < lenZ (strZ (splitB (46 : Int) l) x.snd)) = true →
 within x.snd (Int.ofNat (splitB (46 : Int) l).length) ∧
 within x_1.snd (lenZ (strZ (splitB (46 : Int) l) x.snd)) ∧
 (decide
 (byteZ (strZ (splitB (46 : Int) l) x.snd) x_1.snd <
 (48 : Int)) =
 false →
 within x.snd (Int.ofNat (splitB (46 : Int) l).length)) ∧
 (decide
 (byteZ (strZ (splitB (46 : Int) l) x.snd) x_1.snd <
 (48 : Int)) =
 false →
 within x_1.snd
 (lenZ (strZ (splitB (46 : Int) l) x.snd))) ∧
 ((bif
 decide
 (byteZ (strZ (splitB (46 : Int) l) x.snd) x_1.snd <
 (48 : Int)) then
 true
 else
 decide
 ((57 : Int) <
 byteZ (strZ (splitB (46 : Int) l) x.snd)
 x_1.snd)) =
 true →
 k
 (PV.tup
 [PV.int Go.IntKind.i64 (0 : Int), PV.int Go.IntKind.i64 (0 : Int),
 PV.bool false])) ∧
 ((bif
 decide
 (byteZ (strZ (splitB (46 : Int) l) x.snd) x_1.snd <
 (48 : Int)) then
 true
 else
 decide
 ((57 : Int) <
 byteZ (strZ (splitB (46 : Int) l) x.snd)
 x_1.snd)) =
 false →
 within x.snd ↑(4 : Nat) ∧
 within x.snd ↑(4 : Nat) ∧
 inI64 (intZ x_1.fst x.snd * (10 : Int)) ∧
 within x.snd (Int.ofNat (splitB (46 : Int) l).length) ∧
 within x_1.snd
 (lenZ (strZ (splitB (46 : Int) l) x.snd)) ∧
 inI64
 (intZ x_1.fst x.snd * (10 : Int) +
 Go.IntKind.i64.wrap
 (Go.IntKind.u8.wrap
 (byteZ
 (strZ (splitB (46 : Int) l) x.snd)
 x_1.snd -
 (48 : Int)))) ∧
 within x.snd ↑(4 : Nat) ∧
 (within x.snd ↑(4 : Nat) ∧ True) ∧
 inI64 (x_1.snd + (1 : Int)) ∧
 VS.mk []
 [(nat_lit 0, PV.str l),
 (nat_lit 2, PV.int Go.IntKind.i64 (0 : Int)),
 (nat_lit 3, PV.int Go.IntKind.i64 (0 : Int)),
 (nat_lit 4, PV.bool false),
 (nat_lit 5,
 PV.row false
 (BRow.strs (splitB (46 : Int) l))
 (0 : Nat)),
 (nat_lit 6, PV.ptr ((6 : Nat) + (32 : Nat)) (0 : Nat)),
 ((7 : Nat), PV.int Go.IntKind.i64 x.snd),
 ((8 : Nat), PV.int Go.IntKind.i64 (x_1.snd + (1 : Int))),
 (nat_lit 13,
 PV.bool
 !decide
 (Int.ofNat
 (splitB (46 : Int) l).length =
 (4 : Int))),
 ((15 : Nat), PV.bool (decide (x.snd < (4 : Int)))),
 ((47 : Nat),
 PV.bool
 (bif
 bif
 decide
 (lenZ
 (strZ
 (splitB (46 : Int) l)
 x.snd) <
 (1 : Int)) then
 true
 else
 decide
 ((3 : Int) <
 lenZ
 (strZ
 (splitB (46 : Int) l)
 x.snd)) then
 true
 else
 bif
 decide
 ((1 : Int) <
 lenZ
 (strZ
 (splitB (46 : Int) l)
 x.snd)) then
 decide
 (byteZ
 (strZ
 (splitB (46 : Int) l) x.snd)
 (0 : Int) =
 (48 : Int))
 else false)),
 ((54 : Nat), PV.undef), ((72 : Nat), PV.undef),
 ((91 : Nat), PV.undef)]
 [((6 : Nat) + (32 : Nat),
 PV.arr (4 : Nat)
 (BRow.ints Go.IntKind.i64
 (setZ x_1.fst x.snd
 (intZ x_1.fst x.snd * (10 : Int) +
 Go.IntKind.i64.wrap
 (Go.IntKind.u8.wrap
 (byteZ
 (strZ
 (splitB (46 : Int) l)
 x.snd)
 x_1.snd -
 (48 : Int)))))))] =
 VS.mk []
 [(nat_lit 0, PV.str l),
 (nat_lit 2, PV.int Go.IntKind.i64 (0 : Int)),
 (nat_lit 3, PV.int Go.IntKind.i64 (0 : Int)),
 (nat_lit 4, PV.bool false),
 (nat_lit 5,
 PV.row false
 (BRow.strs (splitB (46 : Int) l))
 (0 : Nat)),
 (nat_lit 6, PV.ptr ((6 : Nat) + (32 : Nat)) (0 : Nat)),
 ((7 : Nat), PV.int Go.IntKind.i64 x.snd),
 ((8 : Nat), PV.int Go.IntKind.i64 (x_1.snd + (1 : Int))),
 (nat_lit 13,
 PV.bool
 !decide
 (Int.ofNat
 (splitB (46 : Int) l).length =
 (4 : Int))),
 ((15 : Nat), PV.bool (decide (x.snd < (4 : Int)))),
 ((47 : Nat),
 PV.bool
 (bif
 bif
 decide
 (lenZ
 (strZ
 (splitB (46 : Int) l)
 x.snd) <
 (1 : Int)) then
 true
 else
 decide
 ((3 : Int) <
 lenZ
 (strZ
 (splitB (46 : Int) l)
 x.snd)) then
 true
 else
 bif
 decide
 ((1 : Int) <
 lenZ
 (strZ
 (splitB (46 : Int) l)
 x.snd)) then
 decide
 (byteZ
 (strZ
 (splitB (46 : Int) l) x.snd)
 (0 : Int) =
 (48 : Int))
 else false)),
 ((54 : Nat), PV.undef), ((72 : Nat), PV.undef),
 ((91 : Nat), PV.undef)]
 [((38 : Nat),
 PV.arr (4 : Nat)
 (BRow.ints Go.IntKind.i64
 (setZ x_1.fst x.snd
 (intZ x_1.fst x.snd * (10 : Int) +
 Go.IntKind.i64.wrap
 (Go.IntKind.u8.wrap
 (byteZ
 (strZ
 (splitB (46 : Int) l)
 x.snd)
 x_1.snd -
 (48 : Int)))))))] ∧
 FourK
 (splitB (46 : Int) l) x.snd
 (setZ x_1.fst x.snd
 (intZ x_1.fst x.snd * (10 : Int) +
 Go.IntKind.i64.wrap
 (Go.IntKind.u8.wrap
 (byteZ
 (strZ (splitB (46 : Int) l)
 x.snd)
 x_1.snd -
 (48 : Int)))))
 (x_1.snd + (1 : Int)) ∧
 (↑(List.length
 (strZ (splitB (46 : Int) l)
 x.snd)) +
 (1 : Int) -
 (x_1.snd + (1 : Int))).toNat <
 (↑(List.length
 (strZ (splitB (46 : Int) l)
 x.snd)) +
 (1 : Int) -
 x_1.snd).toNat)) ∧
 (decide (x_1.snd < lenZ (strZ (splitB (46 : Int) l) x.snd)) = false →
 within x.snd ↑(4 : Nat) ∧
 within x.snd ↑(4 : Nat) ∧
 (decide ((255 : Int) < intZ x_1.fst x.snd) = true →
 k
 (PV.tup
 [PV.int Go.IntKind.i64 (0 : Int), PV.int Go.IntKind.i64 (0 : Int),
 PV.bool false])) ∧
 (decide ((255 : Int) < intZ x_1.fst x.snd) = false →
 inI64 (x.snd + (1 : Int)) ∧
 VS.mk []
 [(nat_lit 0, PV.str l), (nat_lit 2, PV.int Go.IntKind.i64 (0 : Int)),
 (nat_lit 3, PV.int Go.IntKind.i64 (0 : Int)), (nat_lit 4, PV.bool false),
 (nat_lit 5,
 PV.row false (BRow.strs (splitB (46 : Int) l))
 (0 : Nat)),
 (nat_lit 6, PV.ptr ((6 : Nat) + (32 : Nat)) (0 : Nat)),
 ((7 : Nat), PV.int Go.IntKind.i64 (x.snd + (1 : Int))), ((8 : Nat), PV.undef),
 (nat_lit 13,
 PV.bool
 !decide
 (Int.ofNat (splitB (46 : Int) l).length = (4 : Int))),
 ((15 : Nat), PV.undef), ((47 : Nat), PV.undef), ((54 : Nat), PV.undef),
 ((72 : Nat), PV.undef), ((91 : Nat), PV.undef)]
 [((38 : Nat), PV.arr (4 : Nat) (BRow.ints Go.IntKind.i64 x_1.fst))] =
 VS.mk []
 [(nat_lit 0, PV.str l), (nat_lit 2, PV.int Go.IntKind.i64 (0 : Int)),
 (nat_lit 3, PV.int Go.IntKind.i64 (0 : Int)), (nat_lit 4, PV.bool false),
 (nat_lit 5,
 PV.row false (BRow.strs (splitB (46 : Int) l))
 (0 : Nat)),
 (nat_lit 6, PV.ptr ((6 : Nat) + (32 : Nat)) (0 : Nat)),
 ((7 : Nat), PV.int Go.IntKind.i64 (x.snd + (1 : Int))), ((8 : Nat), PV.undef),
 (nat_lit 13,
 PV.bool
 !decide
 (Int.ofNat (splitB (46 : Int) l).length = (4 : Int))),
 ((15 : Nat), PV.undef), ((47 : Nat), PV.undef), ((54 : Nat), PV.undef),
 ((72 : Nat), PV.undef), ((91 : Nat), PV.undef)]
 [((38 : Nat), PV.arr (4 : Nat) (BRow.ints Go.IntKind.i64 x_1.fst))] ∧
 FourI (splitB (46 : Int) l) x_1.fst
 (x.snd + (1 : Int)) ∧
 ((4 : Int) - (x.snd + (1 : Int))).toNat < ((4 : Int) - x.snd).toNat)))) ∧
 (decide (x.snd < (4 : Int)) = false →
 within (0 : Int) ↑(4 : Nat) ∧
 within (0 : Int) ↑(4 : Nat) ∧
 (0 : Int) ≤ (8 : Int) ∧
 within (1 : Int) ↑(4 : Nat) ∧
 within (1 : Int) ↑(4 : Nat) ∧
 within (2 : Int) ↑(4 : Nat) ∧
 within (2 : Int) ↑(4 : Nat) ∧
 (0 : Int) ≤ (8 : Int) ∧
 within (3 : Int) ↑(4 : Nat) ∧
 within (3 : Int) ↑(4 : Nat) ∧
 k
 (PV.tup
 [PV.int Go.IntKind.i64
 (bitsZ Go.BinOp.or Go.IntKind.i64 (shlZ Go.IntKind.i64 (intZ x.fst (0 : Int)) (8 : Int))
 (intZ x.fst (1 : Int))),
 PV.int Go.IntKind.i64
 (bitsZ Go.BinOp.or Go.IntKind.i64 (shlZ Go.IntKind.i64 (intZ x.fst (2 : Int)) (8 : Int))
 (intZ x.fst (3 : Int))),
 PV.bool true])))) := by kernel_rfl
attribute [local irreducible] Go.Vc.evF
theorem ok_four (l : Bs) : FuncOk Tryd.prog noT 31 [.str l] ⟨l.length ≤ 1000, .tup [.int .i64 (fourR l).1, .int .i64 (fourR l).2.1, .bool (fourR l).2.2]⟩ := evF_ok (by kernel_rfl) X_four_ok (H := H_four l) (fuel := 1000) Tryd.func31 (by kernel_rfl) fun hpre => (vc_four l _).mpr (by
  have leaf0 : fourR l = (0, 0, false) → PV.tup [PV.int .i64 0, PV.int .i64 0, PV.bool false] = PV.tup [.int .i64 (fourR l).1, .int .i64 (fourR l).2.1, .bool (fourR l).2.2] := fun h => by rw [h]
  refine ⟨⟨hpre, by omega, by omega⟩, fun h => leaf0 ?_, fun h => ?_⟩
  · rw [notB6, decide_eq_true_eq] at h
    exact four_len (fun e => h (by rw [e]; rfl))
  · rw [falB6, notB6, decide_eq_true_eq] at h
    have h4 : (splitB 46 l).length = 4 := by
      exact Int.ofNat.inj (Classical.not_not.1 h : Int.ofNat (splitB 46 l).length = Int.ofNat 4)
    have hbad : ∀ p ∈ splitB 46 l, ¬ goodP p = true → fourR l = (0, 0, false) := fun p hp hg => four_bad h4 hp hg
    have hgood : (∀ p ∈ splitB 46 l, goodP p = true) → ∃ a b c d, splitB 46 l = [a, b, c, d] ∧ fourR l = (decVal a * 256 + decVal b, decVal c * 256 + decVal d, true) := fun hg => by
      match hq : splitB 46 l, h4, hg with
      | [a, b, c, d], _, hg =>
        refine ⟨a, b, c, d, rfl, ?_⟩
        unfold fourR
        rw [hq]
        dsimp only
        rw [if_pos (by rw [hg a (by simp), hg b (by simp), hg c (by simp), hg d (by simp)]; rfl)]
    generalize splitB 46 l = L at *
    clear h
    refine ⟨rfl, ⟨by omega, by omega, h4, rfl, fun p hp => by cases hp⟩, fun x hx => ⟨fun h => ?_, fun h => ?_⟩⟩
    · obtain ⟨n, i⟩ := x
      obtain ⟨i0, i4, -, hn, hg⟩ := hx
      dsimp only at i0 i4 hn hg h ⊢
      have hi : i < 4 := of_decide_eq_true h
      have wi : within i (Int.ofNat L.length) := ⟨i0, by show i < (L.length : Int); omega⟩
      have wi4 : within i ((4 : Nat) : Int) := ⟨i0, by omega⟩
      have hmem : strZ L i ∈ L := by
        unfold strZ
        rw [List.getD_eq_getElem?_getD, List.getElem?_eq_getElem (by omega)]
        exact List.getElem_mem _
      have htk : L.take (i + 1).toNat = L.take i.toNat ++ [strZ L i] := by
        unfold strZ
        rw [show (i + 1).toNat = i.toNat + 1 by omega, List.take_add_one, List.getElem?_eq_getElem (by omega), List.getD_eq_getElem?_getD, List.getElem?_eq_getElem (by omega)]
        rfl
      have hlA : ((L.take i.toNat).map decVal).length = i.toNat := by rw [List.length_map, List.length_take]; omega
      have hbp := hbad _ hmem
      generalize hP : strZ L i = P at *
      have hsh : shapeP P = true ↔ ¬ (((lenZ P < 1 ∨ 3 < lenZ P)) ∨ (1 < lenZ P ∧ byteZ P 0 = 48)) := by
        unfold shapeP lenZ
        rw [Bool.and_eq_true, decide_eq_true_eq, notB6, Bool.and_eq_true, decide_eq_true_eq, decide_eq_true_eq]
        constructor
        · intro ⟨a, b⟩ c
          rcases c with c | ⟨c, d⟩
          · omega
          · exact b ⟨by omega, d⟩
        · intro a
          refine ⟨?_, fun ⟨b, c⟩ => a (.inr ⟨by omega, c⟩)⟩
          have := fun b => a (.inl b)
          omega
      simp only [andB6, orB6, falB6, Bool.and_eq_true, Bool.or_eq_true, decide_eq_true_eq]
      refine ⟨wi, fun _ => wi, fun _ => wi, fun _ _ => wi, fun _ h1 => ⟨by omega, by omega⟩, fun hb => leaf0 (hbp fun hgp => ?_), fun hb => ?_⟩
      · unfold goodP at hgp
        rw [Bool.and_eq_true, Bool.and_eq_true] at hgp
        exact (hsh.1 hgp.1.1) hb
      · have hs := hsh.2 hb
        have hlp : P.length ≤ 3 := by have h3 : ¬ (3 < lenZ P) := fun c => hb (.inl (.inr c)); unfold lenZ at h3; omega
        refine ⟨trivial, ⟨by omega, by omega, by rw [hP]; exact hs, ?_, fun c hc => by cases hc⟩, fun y hy => ?_⟩
        · rw [hn, show 4 - i.toNat = (3 - i.toNat) + 1 by omega, List.replicate_succ]
          rfl
        · obtain ⟨n2, k⟩ := y
          obtain ⟨k0, k1, -, hn2, hd⟩ := hy
          dsimp only at k0 k1 hn2 hd ⊢
          rw [hP] at k1 hn2 hd
          have hget : intZ n2 i = decVal (P.take k.toNat) := by
            unfold intZ
            rw [hn2, List.getD_eq_getElem?_getD, List.getElem?_append_right (by omega), hlA, Nat.sub_self]; rfl
          have hset : ∀ v : Int, setZ n2 i v = (L.take i.toNat).map decVal ++ v :: List.replicate (3 - i.toNat) 0 := fun v => by
            unfold setZ
            rw [hn2, List.set_append_right _ _ (by omega), hlA, Nat.sub_self, List.set_cons_zero]
          obtain ⟨v0, v1⟩ := decVal_bd _ (P.take k.toNat) rfl hd
          have v2 : decVal (P.take k.toNat) < 1000 := Int.lt_of_lt_of_le v1 (by
            rw [List.length_take]
            have : min k.toNat P.length = 0 ∨ min k.toNat P.length = 1 ∨ min k.toNat P.length = 2 ∨ min k.toNat P.length = 3 := by omega
            rcases this with e | e | e | e <;> rw [e] <;> decide)
          rw [hget]
          refine ⟨wi, fun hlt => ?_, fun hge => ?_⟩
          · have hlt' : k < (P.length : Int) := hlt
            have wk : within k (lenZ P) := ⟨k0, hlt'⟩
            have hby : byteZ P k = ((P.getD k.toNat 0).toNat : Int) := rfl
            have hbr := byteZ_range P k
            have htk2 : P.take (k + 1).toNat = P.take k.toNat ++ [P.getD k.toNat 0] := by
              rw [show (k + 1).toNat = k.toNat + 1 by omega, List.take_add_one, List.getElem?_eq_getElem (by omega), List.getD_eq_getElem?_getD, List.getElem?_eq_getElem (by omega)]
              rfl
            refine ⟨wi, wk, fun _ => wi, fun _ => wk, fun hb2 => leaf0 (hbp fun hgp => ?_), fun hb2 => ?_⟩
            · unfold goodP at hgp
              rw [Bool.and_eq_true, Bool.and_eq_true, List.all_eq_true] at hgp
              have hm : P.getD k.toNat 0 ∈ P := by
                rw [List.getD_eq_getElem?_getD, List.getElem?_eq_getElem (by omega)]
                exact List.getElem_mem _
              have := of_decide_eq_true (hgp.1.2 _ hm)
              omega
            · have e8 : IntKind.i64.wrap (IntKind.u8.wrap (byteZ P k - 48)) = byteZ P k - 48 := by
                rw [IntWalk.u8_in _ (by omega), IntWalk.i64_in _ (by omega)]
              rw [e8, hset]
              refine ⟨wi4, wi4, ⟨by omega, by omega⟩, wi, wk, ⟨by omega, by omega⟩, wi4, ⟨wi4, trivial⟩, ⟨by omega, by omega⟩, trivial, ⟨by omega, by rw [hP]; omega, by rw [hP]; exact hs, ?_, ?_⟩, by omega⟩
              · rw [hP, htk2, decVal_snoc, hby]
              · rw [hP, htk2]
                intro c hc
                rw [List.mem_append, List.mem_singleton] at hc
                rcases hc with hc | rfl
                · exact hd c hc
                · exact decide_eq_true (by omega)
          · have hge' : ¬ k < (P.length : Int) := hge
            have hall : P.take k.toNat = P := List.take_of_length_le (by omega)
            rw [hall] at hd v0 v1 v2 hn2 ⊢
            refine ⟨wi4, wi4, fun hb2 => leaf0 (hbp fun hgp => ?_), fun hb2 => ⟨⟨by omega, by omega⟩, trivial, ⟨by omega, by omega, h4, ?_, ?_⟩, by omega⟩⟩
            · unfold goodP at hgp
              rw [Bool.and_eq_true, decide_eq_true_eq] at hgp
              omega
            · rw [htk, hn2, List.map_append, show 4 - (i + 1).toNat = 3 - i.toNat by omega]
              simp
            · rw [htk]
              intro p hp
              rw [List.mem_append, List.mem_singleton] at hp
              rcases hp with hp | rfl
              · exact hg p hp
              · unfold goodP
                rw [hs, List.all_eq_true.2 hd, decide_eq_true (by omega)]; rfl
    · obtain ⟨n, i⟩ := x
      obtain ⟨i0, i4, -, hn, hg⟩ := hx
      dsimp only at i0 i4 hn hg h ⊢
      have hi : ¬ i < 4 := of_decide_eq_false h
      obtain rfl : i = 4 := by omega
      have hg2 : ∀ p ∈ L, goodP p = true := by rw [show Int.toNat 4 = L.length by omega, List.take_length] at hg; exact hg
      obtain ⟨a, b, c, d, hL, hr⟩ := hgood hg2
      have bd : ∀ p, p ∈ L → 0 ≤ decVal p ∧ decVal p ≤ 255 := fun p hp => by
        have := hg2 p hp
        unfold goodP at this
        rw [Bool.and_eq_true, Bool.and_eq_true, List.all_eq_true, decide_eq_true_eq] at this
        exact ⟨(decVal_bd _ p rfl this.1.2).1, this.2⟩
      have ba := bd a (by rw [hL]; simp)
      have bb := bd b (by rw [hL]; simp)
      have bc := bd c (by rw [hL]; simp)
      have bdd := bd d (by rw [hL]; simp)
      rw [hL] at hn
      replace hn : n = [decVal a, decVal b, decVal c, decVal d] := hn
      have w : ∀ j : Int, 0 ≤ j → j < 4 → within j ((4 : Nat) : Int) := fun j a b => ⟨a, by omega⟩
      refine ⟨w _ (by omega) (by omega), w _ (by omega) (by omega), by omega, w _ (by omega) (by omega), w _ (by omega) (by omega), w _ (by omega) (by omega), w _ (by omega) (by omega), by omega, w _ (by omega) (by omega), w _ (by omega) (by omega), ?_⟩
      rw [hn, show intZ [decVal a, decVal b, decVal c, decVal d] 0 = decVal a from rfl, show intZ [decVal a, decVal b, decVal c, decVal d] 1 = decVal b from rfl, show intZ [decVal a, decVal b, decVal c, decVal d] 2 = decVal c from rfl, show intZ [decVal a, decVal b, decVal c, decVal d] 3 = decVal d from rfl,
        or_i64 _ _ ba.1 ba.2 bb.1 bb.2, or_i64 _ _ bc.1 bc.2 bdd.1 bdd.2]
      show PV.tup _ = PV.tup _
      rw [hr])
def ent_four : List PV → Option CallR := fun xs => match xs with
  | [.str l] => some ⟨l.length ≤ 1000, .tup [.int .i64 (fourR l).1, .int .i64 (fourR l).2.1, .bool (fourR l).2.2]⟩
  | _ => none
theorem ent_four_ok : ∀ xs c, ent_four xs = some c → FuncOk Tryd.prog noT 31 xs c := fun xs c h => by
  unfold ent_four at h
  split at h
  · injection h with h; subst h; exact ok_four _
  · cases h
end Go.Proofs.YtklgahppjdgkmaaDoor
