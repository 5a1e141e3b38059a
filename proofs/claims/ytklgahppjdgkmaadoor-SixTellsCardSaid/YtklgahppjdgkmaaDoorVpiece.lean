/- The function gossamer/gossamerref9.piece does what is told of it. -/
import Derived.Test.YtklgahppjdgkmaaDoorR4
import Derived.Test.YtklgahppjdgkmaaDoorProg
import Derived.ProofKit
import Derived.Test.YtklgahppjdgkmaaDoorVrdig
set_option linter.unusedVariables false
set_option linter.unusedSimpArgs false
set_option maxRecDepth 100000
set_option maxHeartbeats 4000000
namespace Go.Proofs.YtklgahppjdgkmaaDoor
open Go Go.Proofs Go.RowKit Go.Vc

/-- What the document reads of a piece: its first five signs. -/
def pieceV : Nat → Int → Bs → Int × Bool
  | 0, n, _ => (n, true)
  | _ + 1, n, [] => (n, true)
  | k + 1, n, c :: r => if hexN (c.toNat : Int) < 0 then (0, false) else pieceV k (n * 16 + hexN (c.toNat : Int)) r
def pieceR (l : Bs) : Int × Bool := ((pieceV 5 0 l).1, (pieceV 5 0 l).2 && decide (1 ≤ l.length ∧ l.length ≤ 4))
def PieceI (l : Bs) (n i : Int) : Prop := 0 ≤ i ∧ i ≤ 5 ∧ i ≤ l.length ∧ 0 ≤ n ∧ n < 16 ^ i.toNat ∧ pieceV (5 - i.toNat) n (l.drop i.toNat) = pieceV 5 0 l
theorem drop_one {l : Bs} {z : Int} (h0 : 0 ≤ z) (h1 : z < (l.length : Int)) : l.drop z.toNat = l.getD z.toNat 0 :: l.drop (z.toNat + 1) := by
  rw [List.drop_eq_getElem_cons (by omega), List.getD_eq_getElem?_getD, List.getElem?_eq_getElem (by omega)]
  rfl

def X_piece : Tbl := tblX [(38, ent_rdig)]
def H_piece (l : Bs) : Loops := fun i => bif Nat.beq i 3 then some ⟨(Int) × (Int), (fun s x => (((((s.put 4 (.int .i64 x.1)).put 5 (.int .i64 x.2)).put 6 .undef).put 14 .undef).put 22 .undef)), (fun s => (s.int 4, s.int 5)), (fun s x => let n := x.1; let i := x.2; PieceI l n i), (fun s x => let n := x.1; let i := x.2; (5 - i).toNat), [6, 14, 22]⟩ else none
theorem X_piece_ok : XOk Tryd.prog noT X_piece := tblX_cons ent_rdig_ok (tblX_nil)
theorem vc_piece (l : Bs) (k : PV → Prop) : evF Tryd.prog X_piece noT (H_piece l) 1000 Tryd.f32 [.str l] k = (
  VS.mk []
 [(nat_lit 0, PV.str l), (nat_lit 2, PV.int Go.IntKind.i64 (0 : Int)), (nat_lit 3, PV.bool false),
 (nat_lit 4, PV.int Go.IntKind.i64 (0 : Int)), (nat_lit 5, PV.int Go.IntKind.i64 (0 : Int)), ((6 : Nat), PV.undef),
 ((14 : Nat), PV.undef), ((22 : Nat), PV.undef)]
 [] =
 VS.mk []
 [(nat_lit 0, PV.str l), (nat_lit 2, PV.int Go.IntKind.i64 (0 : Int)), (nat_lit 3, PV.bool false),
 ((4 : Nat), PV.int Go.IntKind.i64 (0 : Int)), ((5 : Nat), PV.int Go.IntKind.i64 (0 : Int)), ((6 : Nat), PV.undef),
 ((14 : Nat), PV.undef), ((22 : Nat), PV.undef)]
 [] ∧
 PieceI l (0 : Int) (0 : Int) ∧
 ∀ (x : Int × Int),
 PieceI l x.fst x.snd →
 ((bif decide (x.snd < lenZ l) then decide (x.snd < (5 : Int)) else false) = true →
 within x.snd (lenZ l) ∧
 ((0 : Int) ≤ byteZ l x.snd ∧ byteZ l x.snd ≤ (255 : Int)) ∧
 (decide (hexN (byteZ l x.snd) < (0 : Int)) = true →
 k (PV.tup [PV.int Go.IntKind.i64 (0 : Int), PV.bool false])) ∧
 (decide (hexN (byteZ l x.snd) < (0 : Int)) = false →
 inI64 (x.fst * (16 : Int)) ∧
 inI64 (x.fst * (16 : Int) + hexN (byteZ l x.snd)) ∧
 inI64 (x.snd + (1 : Int)) ∧
 VS.mk []
 [(nat_lit 0, PV.str l), (nat_lit 2, PV.int Go.IntKind.i64 (0 : Int)), (nat_lit 3, PV.bool false),
 ((4 : Nat), PV.int Go.IntKind.i64 (x.fst * (16 : Int) + hexN (byteZ l x.snd))),
 ((5 : Nat), PV.int Go.IntKind.i64 (x.snd + (1 : Int))), ((6 : Nat), PV.undef), ((14 : Nat), PV.undef),
 ((22 : Nat), PV.undef)]
 [] =
 VS.mk []
 [(nat_lit 0, PV.str l), (nat_lit 2, PV.int Go.IntKind.i64 (0 : Int)), (nat_lit 3, PV.bool false),
 ((4 : Nat), PV.int Go.IntKind.i64 (x.fst * (16 : Int) + hexN (byteZ l x.snd))),
 ((5 : Nat), PV.int Go.IntKind.i64 (x.snd + (1 : Int))), ((6 : Nat), PV.undef), ((14 : Nat), PV.undef),
 ((22 : Nat), PV.undef)]
 [] ∧
 PieceI l (x.fst * (16 : Int) + hexN (byteZ l x.snd))
 (x.snd + (1 : Int)) ∧
 ((5 : Int) - (x.snd + (1 : Int))).toNat < ((5 : Int) - x.snd).toNat)) ∧
 ((bif decide (x.snd < lenZ l) then decide (x.snd < (5 : Int)) else false) = false →
 k
 (PV.tup
 [PV.int Go.IntKind.i64 x.fst, PV.bool (bif decide ((1 : Int) ≤ lenZ l) then decide (lenZ l ≤ (4 : Int)) else false)]))) := by kernel_rfl
attribute [local irreducible] Go.Vc.evF
theorem ok_piece (l : Bs) : FuncOk Tryd.prog noT 32 [.str l] ⟨l.length ≤ 1000000, .tup [.int .i64 (pieceR l).1, .bool (pieceR l).2]⟩ := evF_ok (by kernel_rfl) X_piece_ok (H := H_piece l) (fuel := 1000) Tryd.func32 (by kernel_rfl) fun hpre => (vc_piece l _).mpr (by
  refine ⟨rfl, ⟨by omega, by omega, by omega, by omega, by decide, rfl⟩, fun x hx => ⟨fun h => ?_, fun h => ?_⟩⟩
  · obtain ⟨n, i⟩ := x
    obtain ⟨h0, h1, h2, h3, h4, h5⟩ := hx
    dsimp only at h0 h1 h2 h3 h4 h5 h ⊢
    simp only [andB6, Bool.and_eq_true, decide_eq_true_eq] at h
    have hlt : i < (l.length : Int) := h.1
    obtain ⟨k, hk⟩ : ∃ k, 5 - i.toNat = k + 1 := ⟨4 - i.toNat, by omega⟩
    have hd := hexN_bd (byteZ l i)
    rw [hk, drop_one h0 hlt, pieceV] at h5
    have hby : byteZ l i = ((l.getD i.toNat 0).toNat : Int) := rfl
    have hp16 : n < 1048576 := Int.lt_of_lt_of_le h4 (by
      have : i.toNat = 0 ∨ i.toNat = 1 ∨ i.toNat = 2 ∨ i.toNat = 3 ∨ i.toNat = 4 := by omega
      rcases this with e | e | e | e | e <;> rw [e] <;> decide)
    refine ⟨⟨h0, hlt⟩, byteZ_range l i, fun hn => ?_, fun hn => ?_⟩
    · have hn' := of_decide_eq_true hn
      rw [if_pos (by rw [← hby]; exact hn')] at h5
      show PV.tup _ = PV.tup _
      unfold pieceR
      rw [← h5]
      rfl
    · have hn' := of_decide_eq_false hn
      rw [if_neg (by rw [← hby]; exact hn')] at h5
      refine ⟨⟨by omega, by omega⟩, ⟨by omega, by omega⟩, ⟨by omega, by omega⟩, rfl, ⟨by omega, by omega, by omega, by omega, ?_, ?_⟩, by omega⟩
      · rw [show (i + 1).toNat = i.toNat + 1 by omega, Int.pow_succ]
        omega
      · rw [show (i + 1).toNat = i.toNat + 1 by omega, show 5 - (i.toNat + 1) = k by omega, hby]
        exact h5
  · obtain ⟨n, i⟩ := x
    obtain ⟨h0, h1, h2, h3, h4, h5⟩ := hx
    dsimp only at h0 h1 h2 h3 h4 h5 h ⊢
    simp only [andB6, falB6, Bool.and_eq_true, decide_eq_true_eq] at h
    have h6 : pieceV 5 0 l = (n, true) := by
      rw [← h5]
      by_cases hi : i < (l.length : Int)
      · have : i = 5 := by have : ¬ i < 5 := fun e => h ⟨hi, e⟩; omega
        rw [this]; rfl
      · rw [List.drop_eq_nil_of_le (by omega)]
        cases hk : 5 - i.toNat <;> rfl
    show PV.tup _ = PV.tup _
    unfold pieceR
    rw [h6]
    show PV.tup [.int .i64 n, .bool (bif decide ((1 : Int) ≤ (l.length : Int)) then decide ((l.length : Int) ≤ 4) else false)] = PV.tup [.int .i64 n, .bool (true && decide (1 ≤ l.length ∧ l.length ≤ 4))]
    congr 3
    rw [andB6, Bool.true_and, ← Bool.decide_and]
    congr 2
    apply propext
    constructor <;> intro ⟨a, b⟩ <;> exact ⟨by omega, by omega⟩)
def ent_piece : List PV → Option CallR := fun xs => match xs with
  | [.str l] => some ⟨l.length ≤ 1000000, .tup [.int .i64 (pieceR l).1, .bool (pieceR l).2]⟩
  | _ => none
theorem ent_piece_ok : ∀ xs c, ent_piece xs = some c → FuncOk Tryd.prog noT 32 xs c := fun xs c h => by
  unfold ent_piece at h
  split at h
  · injection h with h; subst h; exact ok_piece _
  · cases h
end Go.Proofs.YtklgahppjdgkmaaDoor
