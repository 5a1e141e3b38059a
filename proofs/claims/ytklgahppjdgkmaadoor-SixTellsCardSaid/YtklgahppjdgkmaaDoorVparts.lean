/- The function gossamer/gossamerref8.Parts does what is told of it. -/
import Derived.Test.YtklgahppjdgkmaaDoorR4
import Derived.Test.YtklgahppjdgkmaaDoorProg
import Derived.ProofKit
import Derived.Test.YtklgahppjdgkmaaDoorVpiece
set_option linter.unusedVariables false
set_option linter.unusedSimpArgs false
set_option maxRecDepth 100000
set_option maxHeartbeats 4000000
namespace Go.Proofs.YtklgahppjdgkmaaDoor
open Go Go.Proofs Go.RowKit Go.Vc

def glueP (p : Bs) : List Bs → List Bs
  | [] => []
  | h :: t => (p ++ h) :: t
def PartsI (l : Bs) (z : Int) (nl : Bool) (o : List Bs) (a i : Int) : Prop := 0 ≤ a ∧ 0 ≤ i ∧ nl = decide (o = []) ∧ (o.length : Int) ≤ i ∧ ((i ≤ l.length ∧ a ≤ i ∧ splitB z l = o ++ glueP ((l.take i.toNat).drop a.toNat) (splitB z (l.drop i.toNat))) ∨ (i = l.length + 1 ∧ o = splitB z l))
theorem glue_nil (S : List Bs) : glueP [] S = S := by cases S <;> rfl
theorem splitB_some (c : Int) : ∀ l : Bs, ∃ h t, splitB c l = h :: t
  | [] => ⟨_, _, rfl⟩
  | b :: t => by
    obtain ⟨h, r, e⟩ := splitB_some c t
    by_cases hb : (b.toNat : Int) = c
    · exact ⟨_, _, splitB_yes hb t⟩
    · exact ⟨_, _, splitB_no hb e⟩

def X_parts : Tbl := tblX []
def H_parts (l : Bs) (z : Int) : Loops := fun i => bif Nat.beq i 4 then some ⟨(Bool × List Bs) × (Int) × (Int), (fun s x => (((((s.row s 5 x.1.1 (.strs x.1.2)).put 6 (.int .i64 x.2.1)).put 7 (.int .i64 x.2.2)).put 11 .undef).put 24 .undef)), (fun s => ((s.nil 5, s.strs 5), s.int 6, s.int 7)), (fun s x => let o := x.1; let a := x.2.1; let i := x.2.2; PartsI l z o.1 o.2 a i), (fun s x => let o := x.1; let a := x.2.1; let i := x.2.2; ((l.length : Int) + 1 - i).toNat), [11, 24]⟩ else none
theorem X_parts_ok : XOk Tryd.prog noT X_parts := tblX_nil
theorem vc_parts (l : Bs) (z : Int) (k : PV → Prop) : evF Tryd.prog X_parts noT (H_parts l z) 1000 Tryd.f30 [.str l, .int .u8 z] k = (
  VS.mk []
 [(nat_lit 0, PV.str l), (nat_lit 1, PV.int Go.IntKind.u8 z), (nat_lit 4, PV.row true (BRow.strs []) ((4 : Nat) + (32 : Nat))),
 (nat_lit 5, PV.row true (BRow.strs []) ((5 : Nat) + (32 : Nat))), (nat_lit 6, PV.int Go.IntKind.i64 (0 : Int)),
 (nat_lit 7, PV.int Go.IntKind.i64 (0 : Int)), ((11 : Nat), PV.undef), ((24 : Nat), PV.undef)]
 [] =
 VS.mk []
 [(nat_lit 0, PV.str l), (nat_lit 1, PV.int Go.IntKind.u8 z), (nat_lit 4, PV.row true (BRow.strs []) ((4 : Nat) + (32 : Nat))),
 ((5 : Nat), PV.row true (BRow.strs []) ((5 : Nat) + (32 : Nat))), ((6 : Nat), PV.int Go.IntKind.i64 (0 : Int)),
 ((7 : Nat), PV.int Go.IntKind.i64 (0 : Int)), ((11 : Nat), PV.undef), ((24 : Nat), PV.undef)]
 [] ∧
 PartsI l z true [] (0 : Int) (0 : Int) ∧
 ∀ (x : (Bool × List Bs) × Int × Int),
 PartsI l z x.fst.fst x.fst.snd x.snd.fst x.snd.snd →
 (decide (x.snd.snd ≤ lenZ l) = true →
 (decide (x.snd.snd = lenZ l) = false → within x.snd.snd (lenZ l)) ∧
 ((bif decide (x.snd.snd = lenZ l) then true else decide (byteZ l x.snd.snd = z)) = true →
 upto x.snd.fst x.snd.snd (lenZ l) ∧
 Int.ofNat (x.fst.snd ++ [cutZ l x.snd.fst x.snd.snd]).length ≤ maxRow ∧
 inI64 (x.snd.snd + (1 : Int)) ∧
 inI64 (x.snd.snd + (1 : Int)) ∧
 VS.mk []
 [(nat_lit 0, PV.str l), (nat_lit 1, PV.int Go.IntKind.u8 z),
 (nat_lit 4, PV.row true (BRow.strs []) ((4 : Nat) + (32 : Nat))),
 ((5 : Nat), PV.row false (BRow.strs (x.fst.snd ++ [cutZ l x.snd.fst x.snd.snd])) (nat_lit 36 + (1 : Nat))),
 ((6 : Nat), PV.int Go.IntKind.i64 (x.snd.snd + (1 : Int))),
 ((7 : Nat), PV.int Go.IntKind.i64 (x.snd.snd + (1 : Int))), ((11 : Nat), PV.undef), ((24 : Nat), PV.undef)]
 [] =
 VS.mk []
 [(nat_lit 0, PV.str l), (nat_lit 1, PV.int Go.IntKind.u8 z),
 (nat_lit 4, PV.row true (BRow.strs []) ((4 : Nat) + (32 : Nat))),
 ((5 : Nat), PV.row false (BRow.strs (x.fst.snd ++ [cutZ l x.snd.fst x.snd.snd])) ((5 : Nat) + (32 : Nat))),
 ((6 : Nat), PV.int Go.IntKind.i64 (x.snd.snd + (1 : Int))),
 ((7 : Nat), PV.int Go.IntKind.i64 (x.snd.snd + (1 : Int))), ((11 : Nat), PV.undef), ((24 : Nat), PV.undef)]
 [] ∧
 PartsI l z false (x.fst.snd ++ [cutZ l x.snd.fst x.snd.snd]) (x.snd.snd + (1 : Int))
 (x.snd.snd + (1 : Int)) ∧
 (↑(List.length l) + (1 : Int) - (x.snd.snd + (1 : Int))).toNat < (↑(List.length l) + (1 : Int) - x.snd.snd).toNat) ∧
 ((bif decide (x.snd.snd = lenZ l) then true else decide (byteZ l x.snd.snd = z)) = false →
 inI64 (x.snd.snd + (1 : Int)) ∧
 VS.mk []
 [(nat_lit 0, PV.str l), (nat_lit 1, PV.int Go.IntKind.u8 z),
 (nat_lit 4, PV.row true (BRow.strs []) ((4 : Nat) + (32 : Nat))),
 ((5 : Nat), PV.row x.fst.fst (BRow.strs x.fst.snd) ((5 : Nat) + (32 : Nat))),
 ((6 : Nat), PV.int Go.IntKind.i64 x.snd.fst), ((7 : Nat), PV.int Go.IntKind.i64 (x.snd.snd + (1 : Int))),
 ((11 : Nat), PV.undef), ((24 : Nat), PV.undef)]
 [] =
 VS.mk []
 [(nat_lit 0, PV.str l), (nat_lit 1, PV.int Go.IntKind.u8 z),
 (nat_lit 4, PV.row true (BRow.strs []) ((4 : Nat) + (32 : Nat))),
 ((5 : Nat), PV.row x.fst.fst (BRow.strs x.fst.snd) ((5 : Nat) + (32 : Nat))),
 ((6 : Nat), PV.int Go.IntKind.i64 x.snd.fst), ((7 : Nat), PV.int Go.IntKind.i64 (x.snd.snd + (1 : Int))),
 ((11 : Nat), PV.undef), ((24 : Nat), PV.undef)]
 [] ∧
 PartsI l z x.fst.fst x.fst.snd x.snd.fst (x.snd.snd + (1 : Int)) ∧
 (↑(List.length l) + (1 : Int) - (x.snd.snd + (1 : Int))).toNat < (↑(List.length l) + (1 : Int) - x.snd.snd).toNat)) ∧
 (decide (x.snd.snd ≤ lenZ l) = false → k (PV.row x.fst.fst (BRow.strs x.fst.snd) (0 : Nat)))) := by kernel_rfl
attribute [local irreducible] Go.Vc.evF
theorem ok_parts (l : Bs) (z : Int) : FuncOk Tryd.prog noT 30 [.str l, .int .u8 z] ⟨l.length ≤ 1000 ∧ 0 ≤ z ∧ z ≤ 255, .row false (.strs (splitB z l)) 0⟩ := evF_ok (by kernel_rfl) X_parts_ok (H := H_parts l z) (fuel := 1000) Tryd.func30 (by kernel_rfl) fun hpre => (vc_parts l z _).mpr (by
  refine ⟨rfl, ⟨by omega, by omega, rfl, by decide, .inl ⟨by omega, by omega, by show splitB z l = [] ++ glueP [] (splitB z l); rw [glue_nil]; rfl⟩⟩, fun x hx => ⟨fun h => ?_, fun h => ?_⟩⟩
  · obtain ⟨⟨nl, o⟩, a, i⟩ := x
    obtain ⟨h0, h1, h2, h3, h4⟩ := hx
    dsimp only at h0 h1 h2 h3 h4 h ⊢
    have hle : i ≤ (l.length : Int) := of_decide_eq_true h
    rcases h4 with ⟨-, hai, hs⟩ | ⟨h4, -⟩
    · have hcut : cutZ l a i = (l.take i.toNat).drop a.toNat := rfl
      have hne : ∀ p : Bs, false = decide (o ++ [p] = []) := fun p => by simp
      refine ⟨fun hq => ?_, fun hq => ?_, fun hq => ?_⟩
      · have : ¬ i = (l.length : Int) := of_decide_eq_false hq
        exact ⟨h1, by unfold lenZ; omega⟩
      · rw [orB6, Bool.or_eq_true, decide_eq_true_eq, decide_eq_true_eq] at hq
        refine ⟨⟨h0, hai, hle⟩, ?_, ⟨by omega, by omega⟩, ⟨by omega, by omega⟩, rfl, ⟨by omega, by omega, hne _, ?_, ?_⟩, by omega⟩
        · show ((o ++ [cutZ l a i]).length : Int) ≤ 16777216
          rw [List.length_append, List.length_singleton]; omega
        · rw [List.length_append, List.length_singleton]; omega
        · by_cases he : i = (l.length : Int)
          · refine .inr ⟨by omega, ?_⟩
            rw [hs, hcut, show l.drop i.toNat = [] from List.drop_eq_nil_of_le (by omega)]
            show _ = o ++ glueP _ [[]]
            simp [glueP]
          · have hlt : i < (l.length : Int) := by omega
            have hby : byteZ l i = z := by rcases hq with hq | hq; exact absurd hq he; exact hq
            refine .inl ⟨by omega, by omega, ?_⟩
            rw [hs, hcut, drop_one h1 hlt, splitB_yes (show ((l.getD i.toNat 0).toNat : Int) = z from hby)]
            rw [show (i + 1).toNat = i.toNat + 1 by omega, show (l.take (i.toNat + 1)).drop (i.toNat + 1) = [] from List.drop_eq_nil_of_le (by rw [List.length_take]; omega), glue_nil]
            simp [glueP]
      · rw [orB6, falB6, Bool.or_eq_true, decide_eq_true_eq, decide_eq_true_eq] at hq
        have hlt : i < (l.length : Int) := by have : ¬ i = lenZ l := fun e => hq (.inl e); unfold lenZ at this; omega
        refine ⟨⟨by omega, by omega⟩, rfl, ⟨by omega, by omega, h2, by omega, .inl ⟨by omega, by omega, ?_⟩⟩, by omega⟩
        obtain ⟨hh, tt, e⟩ := splitB_some z (l.drop (i.toNat + 1))
        rw [hs, drop_one h1 hlt, splitB_no (fun e2 => hq (.inr e2)) e, show (i + 1).toNat = i.toNat + 1 by omega, e]
        have ht : (l.take (i.toNat + 1)).drop a.toNat = (l.take i.toNat).drop a.toNat ++ [l.getD i.toNat 0] := by
          rw [List.take_add_one, List.getElem?_eq_getElem (by omega), List.drop_append_of_le_length (by rw [List.length_take]; omega), List.getD_eq_getElem?_getD, List.getElem?_eq_getElem (by omega)]
          rfl
        rw [ht]
        simp [glueP]
    · omega
  · obtain ⟨⟨nl, o⟩, a, i⟩ := x
    obtain ⟨h0, h1, h2, h3, h4⟩ := hx
    dsimp only at h0 h1 h2 h3 h4 h ⊢
    have hgt : ¬ i ≤ (l.length : Int) := of_decide_eq_false h
    rcases h4 with ⟨h4, -⟩ | ⟨-, h4⟩
    · omega
    · obtain ⟨hh, tt, e⟩ := splitB_some z l
      have hn : nl = false := by rw [h2, h4, e]; rfl
      show PV.row _ _ _ = PV.row _ _ _
      rw [hn, h4])
def ent_parts : List PV → Option CallR := fun xs => match xs with
  | [.str l, .int .u8 z] => some ⟨l.length ≤ 1000 ∧ 0 ≤ z ∧ z ≤ 255, .row false (.strs (splitB z l)) 0⟩
  | _ => none
theorem ent_parts_ok : ∀ xs c, ent_parts xs = some c → FuncOk Tryd.prog noT 30 xs c := fun xs c h => by
  unfold ent_parts at h
  split at h
  · injection h with h; subst h; exact ok_parts _ _
  · cases h
end Go.Proofs.YtklgahppjdgkmaaDoor
