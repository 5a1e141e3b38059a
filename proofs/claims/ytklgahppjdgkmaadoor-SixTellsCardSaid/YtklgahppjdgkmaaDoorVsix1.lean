/- ip6.Parse: what holds at each piece. -/
import Derived.Test.YtklgahppjdgkmaaDoorVsix0
set_option linter.unusedVariables false
set_option linter.unusedSimpArgs false
set_option maxRecDepth 100000
namespace Go.Proofs.YtklgahppjdgkmaaDoor
open Go Go.Proofs Go.RowKit Go.Vc

def body6 (k : PV → Prop) (J1 J2 : Prop) (l : Bs) (C G A : Int) (p : List Int) : Prop :=
  ((0 : Int) ≤ A ∧ A ≤ ↑(List.length l) ∧ List.length l ≤ (1000000 : Nat)) ∧ (decide (A + ↑(hexLen (List.drop A.toNat l)) < lenZ l) = true → within (A + ↑(hexLen (List.drop A.toNat l))) (lenZ l)) ∧ ((bif decide (A + ↑(hexLen (List.drop A.toNat l)) < lenZ l) then decide (byteZ l (A + ↑(hexLen (List.drop A.toNat l))) = (46 : Int)) else false) = true → upto A (lenZ l) (lenZ l) ∧ (dropZ l A).length.le (1000000 : Nat) ∧ ((bif !dotO (dropZ l A) then true else decide ((6 : Int) < C)) = true → k (PV.tup [PV.arr (8 : Nat) (BRow.ints IntKind.u16 (List.replicate (8 : Nat) (0 : Int))), PV.bool false])) ∧ ((bif !dotO (dropZ l A) then true else decide ((6 : Int) < C)) = false → inI64 (C + (1 : Int)) ∧ (0 : Int) ≤ (16 : Int) ∧ within C ↑(8 : Nat) ∧ (within C ↑(8 : Nat) ∧ True) ∧ within (C + (1 : Int)) ↑(8 : Nat) ∧ (within (C + (1 : Int)) ↑(8 : Nat) ∧ True) ∧ inI64 (C + (2 : Int)) ∧ ((bif decide (G < (0 : Int)) then decide (C + (2 : Int) = (8 : Int)) else false) = true → k (PV.tup [PV.arr (8 : Nat) (BRow.ints IntKind.u16 (setZ (setZ p C (IntKind.u16.wrap (shrZ IntKind.u32 (dotV (dropZ l A)) (16 : Int)))) (C + (1 : Int)) (IntKind.u16.wrap (dotV (dropZ l A))))), PV.bool true])) ∧ ((bif decide (G < (0 : Int)) then decide (C + (2 : Int) = (8 : Int)) else false) = false → ((bif decide ((0 : Int) ≤ G) then decide (C + (2 : Int) < (8 : Int)) else false) = true → ((setZ (setZ p C (IntKind.u16.wrap (shrZ IntKind.u32 (dotV (dropZ l A)) (16 : Int)))) (C + (1 : Int)) (IntKind.u16.wrap (dotV (dropZ l A)))).length = (8 : Nat) ∧ (0 : Int) ≤ G ∧ G ≤ C + (2 : Int) ∧ C + (2 : Int) ≤ (7 : Int)) ∧ k (PV.tup [PV.arr (8 : Nat) (BRow.ints IntKind.u16 (spreadM (setZ (setZ p C (IntKind.u16.wrap (shrZ IntKind.u32 (dotV (dropZ l A)) (16 : Int)))) (C + (1 : Int)) (IntKind.u16.wrap (dotV (dropZ l A)))) (C + (2 : Int)).toNat G.toNat)), PV.bool true])) ∧ ((bif decide ((0 : Int) ≤ G) then decide (C + (2 : Int) < (8 : Int)) else false) = false → k (PV.tup [PV.arr (8 : Nat) (BRow.ints IntKind.u16 (List.replicate (8 : Nat) (0 : Int))), PV.bool false]))))) ∧ ((bif decide (A + ↑(hexLen (List.drop A.toNat l)) < lenZ l) then decide (byteZ l (A + ↑(hexLen (List.drop A.toNat l))) = (46 : Int)) else false) = false → ((bif decide (C = (8 : Int)) then true else decide (A + ↑(hexLen (List.drop A.toNat l)) = A)) = false → inI64 (A + (4 : Int))) ∧ ((bif bif decide (C = (8 : Int)) then true else decide (A + ↑(hexLen (List.drop A.toNat l)) = A) then true else decide (A + (4 : Int) < A + ↑(hexLen (List.drop A.toNat l)))) = true → k (PV.tup [PV.arr (8 : Nat) (BRow.ints IntKind.u16 (List.replicate (8 : Nat) (0 : Int))), PV.bool false])) ∧ ((bif bif decide (C = (8 : Int)) then true else decide (A + ↑(hexLen (List.drop A.toNat l)) = A) then true else decide (A + (4 : Int) < A + ↑(hexLen (List.drop A.toNat l)))) = false → upto A (A + ↑(hexLen (List.drop A.toNat l))) (lenZ l) ∧ ((cutZ l A (A + ↑(hexLen (List.drop A.toNat l)))).length ≤ (4 : Nat) ∧ ∀ (i : Nat), i < (cutZ l A (A + ↑(hexLen (List.drop A.toNat l)))).length → (0 : Int) ≤ hexN (byt (cutZ l A (A + ↑(hexLen (List.drop A.toNat l)))) i)) ∧ within C ↑(8 : Nat) ∧ (within C ↑(8 : Nat) ∧ True) ∧ inI64 (C + (1 : Int)) ∧ (decide (A + ↑(hexLen (List.drop A.toNat l)) = lenZ l) = true → ((bif decide (G < (0 : Int)) then decide (C + (1 : Int) = (8 : Int)) else false) = true → k (PV.tup [PV.arr (8 : Nat) (BRow.ints IntKind.u16 (setZ p C (hexW (cutZ l A (A + ↑(hexLen (List.drop A.toNat l))))))), PV.bool true])) ∧ ((bif decide (G < (0 : Int)) then decide (C + (1 : Int) = (8 : Int)) else false) = false → ((bif decide ((0 : Int) ≤ G) then decide (C + (1 : Int) < (8 : Int)) else false) = true → ((setZ p C (hexW (cutZ l A (A + ↑(hexLen (List.drop A.toNat l)))))).length = (8 : Nat) ∧ (0 : Int) ≤ G ∧ G ≤ C + (1 : Int) ∧ C + (1 : Int) ≤ (7 : Int)) ∧ k (PV.tup [PV.arr (8 : Nat) (BRow.ints IntKind.u16 (spreadM (setZ p C (hexW (cutZ l A (A + ↑(hexLen (List.drop A.toNat l)))))) (C + (1 : Int)).toNat G.toNat)), PV.bool true])) ∧ ((bif decide ((0 : Int) ≤ G) then decide (C + (1 : Int) < (8 : Int)) else false) = false → k (PV.tup [PV.arr (8 : Nat) (BRow.ints IntKind.u16 (List.replicate (8 : Nat) (0 : Int))), PV.bool false])))) ∧ (decide (A + ↑(hexLen (List.drop A.toNat l)) = lenZ l) = false → within (A + ↑(hexLen (List.drop A.toNat l))) (lenZ l) ∧ ((!decide (byteZ l (A + ↑(hexLen (List.drop A.toNat l))) = (58 : Int))) = false → inI64 (A + ↑(hexLen (List.drop A.toNat l)) + (1 : Int))) ∧ ((bif !decide (byteZ l (A + ↑(hexLen (List.drop A.toNat l))) = (58 : Int)) then true else decide (A + ↑(hexLen (List.drop A.toNat l)) + (1 : Int) = lenZ l)) = true → k (PV.tup [PV.arr (8 : Nat) (BRow.ints IntKind.u16 (List.replicate (8 : Nat) (0 : Int))), PV.bool false])) ∧ ((bif !decide (byteZ l (A + ↑(hexLen (List.drop A.toNat l))) = (58 : Int)) then true else decide (A + ↑(hexLen (List.drop A.toNat l)) + (1 : Int) = lenZ l)) = false → inI64 (A + ↑(hexLen (List.drop A.toNat l)) + (1 : Int)) ∧ within (A + ↑(hexLen (List.drop A.toNat l)) + (1 : Int)) (lenZ l) ∧ ((!decide (byteZ l (A + ↑(hexLen (List.drop A.toNat l)) + (1 : Int)) = (58 : Int))) = true → J1) ∧ ((!decide (byteZ l (A + ↑(hexLen (List.drop A.toNat l)) + (1 : Int)) = (58 : Int))) = false → (decide ((0 : Int) ≤ G) = true → k (PV.tup [PV.arr (8 : Nat) (BRow.ints IntKind.u16 (List.replicate (8 : Nat) (0 : Int))), PV.bool false])) ∧ (decide ((0 : Int) ≤ G) = false → inI64 (A + ↑(hexLen (List.drop A.toNat l)) + (1 : Int) + (1 : Int)) ∧ (decide (A + ↑(hexLen (List.drop A.toNat l)) + (1 : Int) + (1 : Int) < lenZ l) = true → J2) ∧ (decide (A + ↑(hexLen (List.drop A.toNat l)) + (1 : Int) + (1 : Int) < lenZ l) = false → ((bif decide (C + (1 : Int) < (0 : Int)) then decide (C + (1 : Int) = (8 : Int)) else false) = true → k (PV.tup [PV.arr (8 : Nat) (BRow.ints IntKind.u16 (setZ p C (hexW (cutZ l A (A + ↑(hexLen (List.drop A.toNat l))))))), PV.bool true])) ∧ ((bif decide (C + (1 : Int) < (0 : Int)) then decide (C + (1 : Int) = (8 : Int)) else false) = false → ((bif decide ((0 : Int) ≤ C + (1 : Int)) then decide (C + (1 : Int) < (8 : Int)) else false) = true → ((setZ p C (hexW (cutZ l A (A + ↑(hexLen (List.drop A.toNat l)))))).length = (8 : Nat) ∧ (0 : Int) ≤ C + (1 : Int) ∧ C + (1 : Int) ≤ C + (1 : Int) ∧ C + (1 : Int) ≤ (7 : Int)) ∧ k (PV.tup [PV.arr (8 : Nat) (BRow.ints IntKind.u16 (spreadM (setZ p C (hexW (cutZ l A (A + ↑(hexLen (List.drop A.toNat l)))))) (C + (1 : Int)).toNat (C + (1 : Int)).toNat)), PV.bool true])) ∧ ((bif decide ((0 : Int) ≤ C + (1 : Int)) then decide (C + (1 : Int) < (8 : Int)) else false) = false → k (PV.tup [PV.arr (8 : Nat) (BRow.ints IntKind.u16 (List.replicate (8 : Nat) (0 : Int))), PV.bool false]))))))))))
theorem andB6 (a b : Bool) : (bif a then b else false) = (a && b) := by cases a <;> rfl
theorem orB6 (a b : Bool) : (bif a then true else b) = (a || b) := by cases a <;> rfl
theorem notB6 (a : Bool) : ((!a) = true) = ¬ (a = true) := by cases a <;> simp
theorem falB6 (a : Bool) : (a = false) = ¬ (a = true) := by cases a <;> simp
theorem pad_setZ (acc : List Int) (x : Int) (h : acc.length < 8) : setZ (pad acc) (acc.length : Int) x = pad (acc ++ [x]) := by
  unfold setZ pad
  rw [Int.toNat_natCast, List.set_append_right _ _ (by simp), Nat.sub_self, show 8 - acc.length = (8 - (acc ++ [x]).length) + 1 by simp; omega, List.replicate_succ, List.set_cons_zero, List.append_assoc]
  rfl
theorem byteZ_byt (l : Bs) (e : Nat) : byteZ l (e : Int) = byt l e := by unfold byteZ byt; rw [Int.toNat_natCast]
theorem pad_full (acc : List Int) (h : acc.length = 8) : pad acc = acc := by unfold pad; rw [h]; simp
theorem body6_ok (k : PV → Prop) (J1 J2 : Prop) (l : Bs) (G : Int) (i e : Nat) (acc : List Int) (R : List Int × Bool) (hl : l.length ≤ 1000000) (h8 : acc.length ≤ 8) (g1 : -1 ≤ G) (g2 : G ≤ acc.length) (hi : i ≤ l.length) (he : i + hexLen (l.drop i) = e)
    (hs : six1 l (9 - acc.length) acc G i = R) (hk : k (.tup [.arr 8 (.ints .u16 R.1), .bool R.2]))
    (H1 : ∀ a, a.length = acc.length + 1 → setZ (pad acc) (acc.length : Int) (hexW (cutZ l (i : Int) (e : Int))) = pad a → a.length ≤ 8 → e + 1 ≤ l.length → six1 l (9 - a.length) a G (e + 1) = R → J1)
    (H2 : ∀ a, a.length = acc.length + 1 → setZ (pad acc) (acc.length : Int) (hexW (cutZ l (i : Int) (e : Int))) = pad a → a.length ≤ 8 → e + 2 ≤ l.length → six1 l (9 - a.length) a (acc.length + 1 : Nat) (e + 2) = R → J2) :
    body6 k J1 J2 l acc.length G i (pad acc) := by
  unfold body6
  have hE : (i : Int) + ((hexLen (l.drop i) : Nat) : Int) = (e : Int) := by omega
  have hcut : cutZ l (i : Int) (e : Int) = (l.take e).drop i := by unfold cutZ; rw [Int.toNat_natCast, Int.toNat_natCast]
  have hdr : dropZ l (i : Int) = l.drop i := by unfold dropZ; rw [Int.toNat_natCast]
  have hel : e ≤ l.length := by have := hexLen_le (l.drop i); rw [List.length_drop] at this; omega
  have hb2 : byteZ l ((e : Int) + 1) = byt l (e + 1) := by rw [← byteZ_byt]; push_cast; rfl
  rw [six1_step l acc G i e h8 he] at hs
  have leaf : ∀ (L : List Int) (b : Bool), R = (L, b) → k (.tup [.arr 8 (.ints .u16 L), .bool b]) := fun L b h => by rw [h] at hk; exact hk
  have lw : R = wrong6 → k (.tup [.arr 8 (.ints .u16 (List.replicate 8 0)), .bool false]) := fun h => leaf _ _ h
  simp only [Int.toNat_natCast, hE, hcut, hdr, byteZ_byt, hb2, andB6, orB6, falB6, notB6, Bool.and_eq_true, Bool.or_eq_true, decide_eq_true_eq, lenZ, within, upto, inI64] at H1 H2 ⊢
  have fin : ∀ (a : List Int) (g C' : Int) (P : List Int), a.length ≤ 8 → C' = a.length → P = pad a → g ≤ C' → fin6 a g = R → ((g < 0 ∧ C' = 8 → k (.tup [.arr 8 (.ints .u16 P), .bool true])) ∧ (¬ (g < 0 ∧ C' = 8) → ((0 ≤ g ∧ C' < 8 → (P.length = 8 ∧ 0 ≤ g ∧ g ≤ C' ∧ C' ≤ 7) ∧ k (.tup [.arr 8 (.ints .u16 (spreadM P C'.toNat g.toNat)), .bool true])) ∧ (¬ (0 ≤ g ∧ C' < 8) → k (.tup [.arr 8 (.ints .u16 (List.replicate 8 0)), .bool false]))))) := by
    intro a g C' P ha hC hP hg hf
    subst hC hP
    unfold fin6 at hf
    refine ⟨fun h => ?_, fun h => ⟨fun h2 => ⟨⟨pad_len ha, h2.1, hg, by omega⟩, ?_⟩, fun h2 => lw ?_⟩⟩
    · rw [if_pos ⟨h.1, by omega⟩] at hf
      rw [pad_full a (by omega)]
      exact leaf _ _ hf.symm
    · rw [if_neg (by omega), if_pos ⟨h2.1, by omega⟩] at hf
      rw [Int.toNat_natCast]
      exact leaf _ _ hf.symm
    · rw [if_neg (by omega), if_neg (by omega)] at hf
      exact hf.symm
  refine ⟨⟨by omega, by omega, hl⟩, fun h => ⟨by omega, h⟩, fun h46 => ?_, fun h46 => ?_⟩
  · rw [if_pos ⟨by omega, h46.2⟩] at hs
    unfold bytes6 at hs
    refine ⟨⟨by omega, by omega, by omega⟩, ?_, fun hd => ?_, fun hd => ?_⟩
    · show (l.drop i).length ≤ 1000000
      rw [List.length_drop]; omega
    · rw [if_pos (by rcases hd with hd | hd; exact .inl (by simpa using hd); exact .inr (by omega))] at hs
      exact lw hs.symm
    · have hd1 : dotO (l.drop i) = true := Classical.byContradiction fun h => hd (.inl h)
      have hd2 : acc.length ≤ 6 := by omega
      rw [if_neg (by rw [hd1]; intro h; rcases h with h | h; cases h; omega)] at hs
      obtain ⟨v0, v1⟩ := dotV_bd (l.drop i)
      have e1 : IntKind.u16.wrap (shrZ IntKind.u32 (dotV (l.drop i)) 16) = dotV (l.drop i) / 65536 := by
        have : shrZ IntKind.u32 (dotV (l.drop i)) 16 = dotV (l.drop i) / 65536 := by
          unfold shrZ
          rw [show (2 : Int) ^ min (Int.toNat 16) IntKind.u32.bits = 65536 by decide, Int.fdiv_eq_ediv_of_nonneg _ (by decide)]
        rw [this]
        exact IntWalk.u16_in _ (by omega)
      have e2 : IntKind.u16.wrap (dotV (l.drop i)) = dotV (l.drop i) % 65536 := by
        simp [IntKind.wrap, IntKind.bits, IntKind.signed]
      have e3 : setZ (setZ (pad acc) (acc.length : Int) (dotV (l.drop i) / 65536)) ((acc.length : Int) + 1) (dotV (l.drop i) % 65536) = pad (acc ++ [dotV (l.drop i) / 65536] ++ [dotV (l.drop i) % 65536]) := by
        rw [pad_setZ _ _ (by omega), show (acc.length : Int) + 1 = ((acc ++ [dotV (l.drop i) / 65536]).length : Int) by simp, pad_setZ _ _ (by simp; omega)]
      rw [e1, e2, e3]
      exact ⟨⟨by omega, by omega⟩, by omega, ⟨by omega, by omega⟩, ⟨⟨by omega, by omega⟩, trivial⟩, ⟨by omega, by omega⟩, ⟨⟨by omega, by omega⟩, trivial⟩, ⟨by omega, by omega⟩, fin _ G _ _ (by simp; omega) (by simp) rfl (by omega) hs⟩
  · rw [if_neg (by intro h; exact h46 ⟨by omega, h.2⟩)] at hs
    refine ⟨fun _ => ⟨by omega, by omega⟩, fun h => ?_, fun h => ?_⟩
    · rw [if_pos (by omega)] at hs
      exact lw hs.symm
    · rw [if_neg (by omega)] at hs
      have h7 : acc.length < 8 := by omega
      obtain ⟨d1, d2⟩ := piece_digits l i e he (by omega)
      have hl1 : (acc ++ [hexW ((l.take e).drop i)]).length = acc.length + 1 := by simp
      rw [pad_setZ _ _ h7]
      refine ⟨⟨by omega, by omega, by omega⟩, ⟨d1, d2⟩, ⟨by omega, by omega⟩, ⟨⟨by omega, by omega⟩, trivial⟩, ⟨by omega, by omega⟩, fun hq => ?_, fun hq => ?_⟩
      · rw [if_pos (by omega)] at hs
        exact fin _ G _ _ (by omega) (by rw [hl1]; push_cast; rfl) rfl (by omega) hs
      · rw [if_neg (by omega)] at hs
        refine ⟨⟨by omega, by omega⟩, fun _ => ⟨by omega, by omega⟩, fun h5 => ?_, fun h5 => ?_⟩
        · rw [if_pos (by rcases h5 with h5 | h5; exact .inl h5; exact .inr (by omega))] at hs
          exact lw hs.symm
        · rw [if_neg (by intro h6; exact h5 (by rcases h6 with h6 | h6; exact .inl h6; exact .inr (by omega)))] at hs
          refine ⟨⟨by omega, by omega⟩, ⟨by omega, by omega⟩, fun h9 => ?_, fun h9 => ⟨fun hg => ?_, fun hg => ⟨⟨by omega, by omega⟩, fun hlt => ?_, fun hlt => ?_⟩⟩⟩
          · rw [if_pos h9, ← hl1] at hs
            exact H1 _ hl1 (pad_setZ _ _ h7) (by omega) (by omega) hs
          · rw [if_neg h9, if_pos hg] at hs
            exact lw hs.symm
          · rw [if_neg h9, if_neg hg, if_pos (by omega)] at hs
            exact H2 _ hl1 (pad_setZ _ _ h7) (by omega) (by omega) (by rw [hl1]; exact hs)
          · rw [if_neg h9, if_neg hg, if_neg (by omega)] at hs
            exact fin _ _ _ _ (by omega) (by rw [hl1]; push_cast; rfl) rfl (by omega) hs
end Go.Proofs.YtklgahppjdgkmaaDoor
