/- The function gossamer/gossamerref9.row does what is told of it. -/
import Derived.Test.YtklgahppjdgkmaaDoorR4
import Derived.Test.YtklgahppjdgkmaaDoorProg
import Derived.ProofKit
import Derived.Test.YtklgahppjdgkmaaDoorVparts
import Derived.Test.YtklgahppjdgkmaaDoorVfour
import Derived.Test.YtklgahppjdgkmaaDoorVpiece
set_option linter.unusedVariables false
set_option linter.unusedSimpArgs false
set_option maxRecDepth 100000
set_option maxHeartbeats 4000000
namespace Go.Proofs.YtklgahppjdgkmaaDoor
open Go Go.Proofs Go.RowKit Go.Vc

def rowGo (last : Bool) : List Bs → List Int → List Int × Bool
  | [], out => (out, true)
  | p :: ps, out => if ((fourR p).2.2 = true ∧ last = true) ∧ ps = [] then (out ++ [(fourR p).1, (fourR p).2.1], true) else if (pieceR p).2 = true then rowGo last ps (out ++ [(pieceR p).1]) else (out, false)
def rowR (l : Bs) (last : Bool) : List Int × Bool := if l = [] then ([], true) else if 8 < (splitB 58 l).length then ([], false) else rowGo last (splitB 58 l) []
def RowI (l : Bs) (last : Bool) (nl : Bool) (o : List Int) (i : Int) : Prop := 0 ≤ i ∧ i ≤ (splitB 58 l).length ∧ nl = decide (o = []) ∧ o.length ≤ 2 * i.toNat ∧ rowGo last ((splitB 58 l).drop i.toNat) o = rowR l last
theorem splitB_each (c : Int) : ∀ (l : Bs), ∀ p ∈ splitB c l, p.length ≤ l.length
  | [], p, hp => by
    have : p = [] := by simpa [splitB] using hp
    rw [this]; simp
  | b :: t, p, hp => by
    obtain ⟨h, r, e⟩ := splitB_some c t
    have ih := splitB_each c t
    by_cases hb : (b.toNat : Int) = c
    · rw [splitB_yes hb, List.mem_cons] at hp
      rcases hp with rfl | hp
      · simp
      · have := ih p hp; rw [List.length_cons]; omega
    · rw [splitB_no hb e, List.mem_cons] at hp
      rw [e] at ih
      rcases hp with rfl | hp
      · have := ih h (by simp); rw [List.length_cons, List.length_cons]; omega
      · have := ih p (by simp [hp]); rw [List.length_cons]; omega

def X_row : Tbl := tblX [(30, ent_parts), (31, ent_four), (32, ent_piece)]
def H_row (l : Bs) (last : Bool) : Loops := fun i => bif Nat.beq i 8 then some ⟨(Bool × List Int) × (Int), (fun s x => ((((((((((s.row s 6 x.1.1 (.ints .i64 x.1.2)).put 8 (.int .i64 x.2)).put 9 .undef).put 10 .undef).put 11 .undef).put 12 .undef).put 13 .undef).put 26 .undef).put 48 .undef).put 63 .undef)), (fun s => ((s.nil 6, s.ints 6), s.int 8)), (fun s x => let o := x.1; let i := x.2; RowI l last o.1 o.2 i), (fun s x => let o := x.1; let i := x.2; ((splitB 58 l).length + 1 - i : Int).toNat), [9, 10, 11, 12, 13, 26, 48, 63]⟩ else none
theorem X_row_ok : XOk Tryd.prog noT X_row := tblX_cons ent_parts_ok (tblX_cons ent_four_ok (tblX_cons ent_piece_ok (tblX_nil)))
theorem vc_row (l : Bs) (last : Bool) (k : PV → Prop) : evF Tryd.prog X_row noT (H_row l last) 1000 Tryd.f20 [.str l, .bool last] k = (
  (decide (l = (ByteArray.mk #[]).data.toList) = true → k (PV.tup [PV.row true (BRow.ints Go.IntKind.i64 []) (0 : Nat), PV.bool true])) ∧
 (decide (l = (ByteArray.mk #[]).data.toList) = false →
 (List.length l ≤ (1000 : Nat) ∧ (0 : Int) ≤ (58 : Int) ∧ (58 : Int) ≤ (255 : Int)) ∧
 (decide ((8 : Int) < Int.ofNat (splitB (58 : Int) l).length) = true →
 k (PV.tup [PV.row true (BRow.ints Go.IntKind.i64 []) (0 : Nat), PV.bool false])) ∧
 (decide ((8 : Int) < Int.ofNat (splitB (58 : Int) l).length) = false →
 VS.mk []
 [(nat_lit 0, PV.str l), (nat_lit 1, PV.bool last),
 (nat_lit 4, PV.row true (BRow.ints Go.IntKind.i64 []) ((4 : Nat) + (32 : Nat))), (nat_lit 5, PV.bool false),
 (nat_lit 6, PV.row true (BRow.ints Go.IntKind.i64 []) ((6 : Nat) + (32 : Nat))),
 (nat_lit 7, PV.row false (BRow.strs (splitB (58 : Int) l)) (0 : Nat)),
 (nat_lit 8, PV.int Go.IntKind.i64 (0 : Int)), ((9 : Nat), PV.undef), ((10 : Nat), PV.undef), ((11 : Nat), PV.undef),
 ((12 : Nat), PV.undef), ((13 : Nat), PV.undef), (nat_lit 15, PV.bool (decide (l = (ByteArray.mk #[]).data.toList))),
 (nat_lit 21, PV.bool (decide ((8 : Int) < Int.ofNat (splitB (58 : Int) l).length))),
 ((26 : Nat), PV.undef), ((48 : Nat), PV.undef), ((63 : Nat), PV.undef)]
 [] =
 VS.mk []
 [(nat_lit 0, PV.str l), (nat_lit 1, PV.bool last),
 (nat_lit 4, PV.row true (BRow.ints Go.IntKind.i64 []) ((4 : Nat) + (32 : Nat))), (nat_lit 5, PV.bool false),
 ((6 : Nat), PV.row true (BRow.ints Go.IntKind.i64 []) ((6 : Nat) + (32 : Nat))),
 (nat_lit 7, PV.row false (BRow.strs (splitB (58 : Int) l)) (0 : Nat)),
 ((8 : Nat), PV.int Go.IntKind.i64 (0 : Int)), ((9 : Nat), PV.undef), ((10 : Nat), PV.undef), ((11 : Nat), PV.undef),
 ((12 : Nat), PV.undef), ((13 : Nat), PV.undef), (nat_lit 15, PV.bool (decide (l = (ByteArray.mk #[]).data.toList))),
 (nat_lit 21, PV.bool (decide ((8 : Int) < Int.ofNat (splitB (58 : Int) l).length))),
 ((26 : Nat), PV.undef), ((48 : Nat), PV.undef), ((63 : Nat), PV.undef)]
 [] ∧
 RowI l last true [] (0 : Int) ∧
 ∀ (x : (Bool × List Int) × Int),
 RowI l last x.fst.fst x.fst.snd x.snd →
 (decide (x.snd < Int.ofNat (splitB (58 : Int) l).length) = true →
 within x.snd (Int.ofNat (splitB (58 : Int) l).length) ∧
 (List.length (strZ (splitB (58 : Int) l) x.snd)).le (1000 : Nat) ∧
 ((bif (fourR (strZ (splitB (58 : Int) l) x.snd)).snd.snd then last
 else false) =
 true →
 inI64 (Int.ofNat (splitB (58 : Int) l).length - (1 : Int))) ∧
 ((bif
 bif
 (fourR
 (strZ (splitB (58 : Int) l) x.snd)).snd.snd then
 last
 else false then
 decide (x.snd = Int.ofNat (splitB (58 : Int) l).length - (1 : Int))
 else false) =
 true →
 Int.ofNat
 (x.fst.snd ++
 [(fourR (strZ (splitB (58 : Int) l) x.snd)).fst,
 (fourR
 (strZ (splitB (58 : Int) l) x.snd)).snd.fst]).length ≤
 maxRow ∧
 inI64 (x.snd + (1 : Int)) ∧
 VS.mk []
 [(nat_lit 0, PV.str l), (nat_lit 1, PV.bool last),
 (nat_lit 4, PV.row true (BRow.ints Go.IntKind.i64 []) ((4 : Nat) + (32 : Nat))),
 (nat_lit 5, PV.bool false),
 ((6 : Nat),
 PV.row false
 (BRow.ints Go.IntKind.i64
 (x.fst.snd ++
 [(fourR
 (strZ (splitB (58 : Int) l) x.snd)).fst,
 (fourR
 (strZ (splitB (58 : Int) l) x.snd)).snd.fst]))
 (nat_lit 37 + (1 : Nat))),
 (nat_lit 7, PV.row false (BRow.strs (splitB (58 : Int) l)) (0 : Nat)),
 ((8 : Nat), PV.int Go.IntKind.i64 (x.snd + (1 : Int))), ((9 : Nat), PV.undef),
 ((10 : Nat), PV.undef), ((11 : Nat), PV.undef), ((12 : Nat), PV.undef),
 ((13 : Nat), PV.undef), (nat_lit 15, PV.bool (decide (l = (ByteArray.mk #[]).data.toList))),
 (nat_lit 21,
 PV.bool (decide ((8 : Int) < Int.ofNat (splitB (58 : Int) l).length))),
 ((26 : Nat), PV.undef), ((48 : Nat), PV.undef), ((63 : Nat), PV.undef)]
 [] =
 VS.mk []
 [(nat_lit 0, PV.str l), (nat_lit 1, PV.bool last),
 (nat_lit 4, PV.row true (BRow.ints Go.IntKind.i64 []) ((4 : Nat) + (32 : Nat))),
 (nat_lit 5, PV.bool false),
 ((6 : Nat),
 PV.row false
 (BRow.ints Go.IntKind.i64
 (x.fst.snd ++
 [(fourR
 (strZ (splitB (58 : Int) l) x.snd)).fst,
 (fourR
 (strZ (splitB (58 : Int) l) x.snd)).snd.fst]))
 ((6 : Nat) + (32 : Nat))),
 (nat_lit 7, PV.row false (BRow.strs (splitB (58 : Int) l)) (0 : Nat)),
 ((8 : Nat), PV.int Go.IntKind.i64 (x.snd + (1 : Int))), ((9 : Nat), PV.undef),
 ((10 : Nat), PV.undef), ((11 : Nat), PV.undef), ((12 : Nat), PV.undef),
 ((13 : Nat), PV.undef), (nat_lit 15, PV.bool (decide (l = (ByteArray.mk #[]).data.toList))),
 (nat_lit 21,
 PV.bool (decide ((8 : Int) < Int.ofNat (splitB (58 : Int) l).length))),
 ((26 : Nat), PV.undef), ((48 : Nat), PV.undef), ((63 : Nat), PV.undef)]
 [] ∧
 RowI l last false
 (x.fst.snd ++
 [(fourR (strZ (splitB (58 : Int) l) x.snd)).fst,
 (fourR
 (strZ (splitB (58 : Int) l) x.snd)).snd.fst])
 (x.snd + (1 : Int)) ∧
 (↑(splitB (58 : Int) l).length + (1 : Int) - (x.snd + (1 : Int))).toNat <
 (↑(splitB (58 : Int) l).length + (1 : Int) - x.snd).toNat) ∧
 ((bif
 bif
 (fourR
 (strZ (splitB (58 : Int) l) x.snd)).snd.snd then
 last
 else false then
 decide (x.snd = Int.ofNat (splitB (58 : Int) l).length - (1 : Int))
 else false) =
 false →
 within x.snd (Int.ofNat (splitB (58 : Int) l).length) ∧
 (List.length (strZ (splitB (58 : Int) l) x.snd)).le (1000000 : Nat) ∧
 ((!((pieceV (5 : Nat) (0 : Int)
 (strZ (splitB (58 : Int) l) x.snd)).snd &&
 decide
 ((1 : Nat) ≤ List.length (strZ (splitB (58 : Int) l) x.snd) ∧
 List.length (strZ (splitB (58 : Int) l) x.snd) ≤ (4 : Nat)))) =
 true →
 k (PV.tup [PV.row x.fst.fst (BRow.ints Go.IntKind.i64 x.fst.snd) (0 : Nat), PV.bool false])) ∧
 ((!((pieceV (5 : Nat) (0 : Int)
 (strZ (splitB (58 : Int) l) x.snd)).snd &&
 decide
 ((1 : Nat) ≤ List.length (strZ (splitB (58 : Int) l) x.snd) ∧
 List.length (strZ (splitB (58 : Int) l) x.snd) ≤ (4 : Nat)))) =
 false →
 Int.ofNat
 (x.fst.snd ++
 [(pieceV (5 : Nat) (0 : Int)
 (strZ (splitB (58 : Int) l) x.snd)).fst]).length ≤
 maxRow ∧
 inI64 (x.snd + (1 : Int)) ∧
 VS.mk []
 [(nat_lit 0, PV.str l), (nat_lit 1, PV.bool last),
 (nat_lit 4, PV.row true (BRow.ints Go.IntKind.i64 []) ((4 : Nat) + (32 : Nat))),
 (nat_lit 5, PV.bool false),
 ((6 : Nat),
 PV.row false
 (BRow.ints Go.IntKind.i64
 (x.fst.snd ++
 [(pieceV (5 : Nat) (0 : Int)
 (strZ (splitB (58 : Int) l) x.snd)).fst]))
 (nat_lit 37 + (1 : Nat))),
 (nat_lit 7,
 PV.row false (BRow.strs (splitB (58 : Int) l)) (0 : Nat)),
 ((8 : Nat), PV.int Go.IntKind.i64 (x.snd + (1 : Int))), ((9 : Nat), PV.undef),
 ((10 : Nat), PV.undef), ((11 : Nat), PV.undef), ((12 : Nat), PV.undef),
 ((13 : Nat), PV.undef), (nat_lit 15, PV.bool (decide (l = (ByteArray.mk #[]).data.toList))),
 (nat_lit 21,
 PV.bool
 (decide ((8 : Int) < Int.ofNat (splitB (58 : Int) l).length))),
 ((26 : Nat), PV.undef), ((48 : Nat), PV.undef), ((63 : Nat), PV.undef)]
 [] =
 VS.mk []
 [(nat_lit 0, PV.str l), (nat_lit 1, PV.bool last),
 (nat_lit 4, PV.row true (BRow.ints Go.IntKind.i64 []) ((4 : Nat) + (32 : Nat))),
 (nat_lit 5, PV.bool false),
 ((6 : Nat),
 PV.row false
 (BRow.ints Go.IntKind.i64
 (x.fst.snd ++
 [(pieceV (5 : Nat) (0 : Int)
 (strZ (splitB (58 : Int) l) x.snd)).fst]))
 ((6 : Nat) + (32 : Nat))),
 (nat_lit 7,
 PV.row false (BRow.strs (splitB (58 : Int) l)) (0 : Nat)),
 ((8 : Nat), PV.int Go.IntKind.i64 (x.snd + (1 : Int))), ((9 : Nat), PV.undef),
 ((10 : Nat), PV.undef), ((11 : Nat), PV.undef), ((12 : Nat), PV.undef),
 ((13 : Nat), PV.undef), (nat_lit 15, PV.bool (decide (l = (ByteArray.mk #[]).data.toList))),
 (nat_lit 21,
 PV.bool
 (decide ((8 : Int) < Int.ofNat (splitB (58 : Int) l).length))),
 ((26 : Nat), PV.undef), ((48 : Nat), PV.undef), ((63 : Nat), PV.undef)]
 [] ∧
 RowI l last false
 (x.fst.snd ++
 [(pieceV (5 : Nat) (0 : Int)
 (strZ (splitB (58 : Int) l) x.snd)).fst])
 (x.snd + (1 : Int)) ∧
 (↑(splitB (58 : Int) l).length + (1 : Int) - (x.snd + (1 : Int))).toNat <
 (↑(splitB (58 : Int) l).length + (1 : Int) - x.snd).toNat))) ∧
 (decide (x.snd < Int.ofNat (splitB (58 : Int) l).length) = false →
 k (PV.tup [PV.row x.fst.fst (BRow.ints Go.IntKind.i64 x.fst.snd) (0 : Nat), PV.bool true]))))) := by kernel_rfl
attribute [local irreducible] Go.Vc.evF
theorem ok_row (l : Bs) (last : Bool) : FuncOk Tryd.prog noT 20 [.str l, .bool last] ⟨l.length ≤ 1000, .tup [.row (decide ((rowR l last).1 = [])) (.ints .i64 (rowR l last).1) 0, .bool (rowR l last).2]⟩ := evF_ok (by kernel_rfl) X_row_ok (H := H_row l last) (fuel := 1000) Tryd.func20 (by kernel_rfl) fun hpre => (vc_row l last _).mpr (by
  have leaf : ∀ (nl : Bool) (o : List Int) (b : Bool), nl = decide (o = []) → rowR l last = (o, b) → PV.tup [.row nl (.ints .i64 o) 0, .bool b] = PV.tup [.row (decide ((rowR l last).1 = [])) (.ints .i64 (rowR l last).1) 0, .bool (rowR l last).2] := fun nl o b h1 h2 => by rw [h2, h1]
  refine ⟨fun h => leaf _ _ _ rfl ?_, fun h => ⟨⟨hpre, by omega, by omega⟩, fun h8 => leaf _ _ _ rfl ?_, fun h8 => ?_⟩⟩
  · have : l = [] := of_decide_eq_true h
    unfold rowR; rw [if_pos this]
  · have h1 : ¬ l = [] := of_decide_eq_false h
    have h2 : (8 : Int) < ((splitB 58 l).length : Int) := of_decide_eq_true h8
    unfold rowR; rw [if_neg h1, if_pos (by omega)]
  · have h1 : ¬ l = [] := of_decide_eq_false h
    have h2 : ¬ (8 : Int) < ((splitB 58 l).length : Int) := of_decide_eq_false h8
    have hpl := splitB_each 58 l
    have hr0 : rowGo last (splitB 58 l) [] = rowR l last := by unfold rowR; rw [if_neg h1, if_neg (by omega)]
    refine ⟨rfl, ⟨by omega, by omega, rfl, by simp, hr0⟩, fun x hx => ⟨fun hlt => ?_, fun hge => ?_⟩⟩
    · obtain ⟨⟨nl, o⟩, i⟩ := x
      obtain ⟨i0, i1, hn, ho, hg⟩ := hx
      dsimp only at i0 i1 hn ho hg hlt ⊢
      have hi : i < ((splitB 58 l).length : Int) := of_decide_eq_true hlt
      have wi : within i (Int.ofNat (splitB 58 l).length) := ⟨i0, hi⟩
      have hmem : strZ (splitB 58 l) i ∈ splitB 58 l := by
        unfold strZ
        rw [List.getD_eq_getElem?_getD, List.getElem?_eq_getElem (by omega)]
        exact List.getElem_mem _
      have hdr : (splitB 58 l).drop i.toNat = strZ (splitB 58 l) i :: (splitB 58 l).drop (i.toNat + 1) := by
        unfold strZ
        rw [List.drop_eq_getElem_cons (by omega), List.getD_eq_getElem?_getD, List.getElem?_eq_getElem (by omega)]
        rfl
      have hps : (splitB 58 l).drop (i.toNat + 1) = [] ↔ i = ((splitB 58 l).length : Int) - 1 := by
        rw [← List.length_eq_zero_iff, List.length_drop]; omega
      have hp := hpl _ hmem
      rw [hdr, rowGo] at hg
      have e1 : (i + 1).toNat = i.toNat + 1 := by omega
      generalize hP : strZ (splitB 58 l) i = P at *
      have hpc : pieceR P = ((pieceV 5 0 P).1, (pieceV 5 0 P).2 && decide (1 ≤ P.length ∧ P.length ≤ 4)) := rfl
      have hml : maxRow = 16777216 := rfl
      simp only [andB6, falB6, Bool.and_eq_true, decide_eq_true_eq]
      refine ⟨wi, by show P.length ≤ 1000; omega, fun _ => ⟨by show _ ≤ ((splitB 58 l).length : Int) - 1; omega, by show ((splitB 58 l).length : Int) - 1 ≤ _; omega⟩, fun hc => ?_, fun hc => ?_⟩
      · have hc2 : (splitB 58 l).drop (i.toNat + 1) = [] := hps.2 hc.2
        rw [if_pos ⟨hc.1, hc2⟩] at hg
        refine ⟨?_, ⟨by omega, by omega⟩, trivial, ⟨by omega, by omega, by simp, ?_, ?_⟩, by omega⟩
        · show ((o ++ [(fourR P).1, (fourR P).2.1]).length : Int) ≤ maxRow
          rw [List.length_append]; show ((o.length + 2 : Nat) : Int) ≤ _; omega
        · rw [List.length_append]; show o.length + 2 ≤ _; omega
        · rw [e1, hc2]
          exact hg
      · rw [if_neg (fun hh => hc ⟨hh.1, hps.1 hh.2⟩)] at hg
        refine ⟨wi, by show P.length ≤ 1000000; omega, fun hb => leaf _ _ _ hn ?_, fun hb => ?_⟩
        · rw [if_neg (fun hh => by rw [hpc] at hh; rw [notB6] at hb; exact hb hh)] at hg
          exact hg.symm
        · rw [if_pos (by rw [hpc]; rw [notB6] at hb; exact Classical.not_not.1 hb)] at hg
          refine ⟨?_, ⟨by omega, by omega⟩, trivial, ⟨by omega, by omega, by simp, ?_, ?_⟩, by omega⟩
          · show ((o ++ [(pieceV 5 0 P).1]).length : Int) ≤ maxRow
            rw [List.length_append]; show ((o.length + 1 : Nat) : Int) ≤ _; omega
          · rw [List.length_append]; show o.length + 1 ≤ _; omega
          · rw [e1]
            exact hg
    · obtain ⟨⟨nl, o⟩, i⟩ := x
      obtain ⟨i0, i1, hn, ho, hg⟩ := hx
      dsimp only at i0 i1 hn ho hg hge ⊢
      have hi : ¬ i < ((splitB 58 l).length : Int) := of_decide_eq_false hge
      rw [List.drop_eq_nil_of_le (by omega)] at hg
      exact leaf _ _ _ hn hg.symm)
def ent_row : List PV → Option CallR := fun xs => match xs with
  | [.str l, .bool last] => some ⟨l.length ≤ 1000, .tup [.row (decide ((rowR l last).1 = [])) (.ints .i64 (rowR l last).1) 0, .bool (rowR l last).2]⟩
  | _ => none
theorem ent_row_ok : ∀ xs c, ent_row xs = some c → FuncOk Tryd.prog noT 20 xs c := fun xs c h => by
  unfold ent_row at h
  split at h
  · injection h with h; subst h; exact ok_row _ _
  · cases h
end Go.Proofs.YtklgahppjdgkmaaDoor
