/- The walk of LinkChains. -/
import Derived.Test.YtedfgikikjggaaaDoorLnkW
import Derived.Test.YtedfgikikjggaaaDoorLow
import Derived.Test.YtedfgikikjggaaaDoorDigits
import Derived.Test.YtedfgikikjggaaaDoorRowB
set_option linter.unusedVariables false
set_option linter.unusedSimpArgs false
namespace Go.Proofs.YtedfgikikjggaaaDoor
open Go.RowKit

def dgL (i : Nat) : Bts := if i < 10 then [mkB (48 + (i : Int))] else [mkB (48 + ((i / 10 : Nat) : Int)), mkB (48 + ((i % 10 : Nat) : Int))]
theorem dec_dgL {i : Nat} (h : i < 100) : Lib.decDigits i = dgL i := by
  unfold dgL
  split
  · rename_i h1; exact dec_small h1
  · rename_i h1
    rw [dec_great h1, dec_small (by omega)]; rfl
def fN (i : Nat) : Bts := 102 :: dgL i
def nodeC (ws : Nat → Bool) (i : Nat) : Nd := if i = 0 then ⟨47 :: fN 0, 1, [120]⟩ else ⟨47 :: fN i, 3, if ws i = true then 47 :: 46 :: 47 :: fN (i - 1) else fN (i - 1)⟩
theorem nodeC_p (ws : Nat → Bool) (i : Nat) : (nodeC ws i).p = 47 :: fN i := by
  unfold nodeC; split
  · rename_i h; subst h; rfl
  · rfl
def chL (ws : Nat → Bool) (n : Nat) : List Nd := (List.range n).map (nodeC ws)
theorem chL_succ (ws : Nat → Bool) (n : Nat) : chL ws (n + 1) = chL ws n ++ [nodeC ws n] := by unfold chL; rw [List.range_succ, List.map_append]; rfl
theorem chL_len (ws : Nat → Bool) (n : Nat) : (chL ws n).length = n := by unfold chL; simp
theorem fit_ch : ∀ i : Fin 43, ∀ b : Bool, fitN (nodeC (fun _ => b) i.val) = true := by decide +kernel
theorem nodeC_b (ws : Nat → Bool) (i : Nat) : nodeC ws i = nodeC (fun _ => ws i) i := rfl
theorem up_ch : ∀ i : Fin 43, partF (47 :: fN i.val) = [47] ∧ okPart (fN i.val) = true ∧ splitB 47 (fN i.val) = [fN i.val] ∧ (fN i.val).length ≤ 3 ∧ (fN i.val).head? = some 102 := by decide +kernel
theorem nodup_ch : ((List.range 43).map fun i => 47 :: fN i).Nodup := by decide +kernel
theorem mem_ch {ws : Nat → Bool} {n : Nat} {x : Nd} (h : x ∈ chL ws n) : ∃ i, i < n ∧ x = nodeC ws i := by
  unfold chL at h
  obtain ⟨i, hi, rfl⟩ := List.mem_map.1 h
  exact ⟨i, by simpa using hi, rfl⟩
theorem ch_mem {ws : Nat → Bool} {n i : Nat} (h : i < n) : nodeC ws i ∈ chL ws n := List.mem_map.2 ⟨i, by simpa using h, rfl⟩
theorem good_ch (ws : Nat → Bool) {n : Nat} (hn : n ≤ 43) : Good (chL ws n) := by
  refine ⟨fun x hx => ?_, ?_, fun x hx hp => ?_⟩
  · obtain ⟨i, hi, rfl⟩ := mem_ch hx
    rw [nodeC_b]
    exact fit_ch ⟨i, by omega⟩ (ws i)
  · have e : (chL ws n).map (·.p) = (List.range n).map fun i => 47 :: fN i := by
      unfold chL
      rw [List.map_map]
      apply List.map_congr_left
      intro i _
      exact nodeC_p ws i
    rw [e]
    exact List.Nodup.sublist ((List.range_sublist.2 hn).map _) nodup_ch
  · obtain ⟨i, hi, rfl⟩ := mem_ch hx
    refine ⟨rootN, .inr rfl, ?_, rfl⟩
    rw [nodeC_p]
    exact (up_ch ⟨i, by omega⟩).1.symm
theorem goL_chain {ws : Nat → Bool} {n : Nat} (hn : n ≤ 43) {all : List Nd} (hw : Whole (chL ws n) all) : ∀ (k m : Nat), k < n → goL all m [fN k] [47] 2 = if k ≤ m then .ok (47 :: fN 0) 1 else .loop
  | 0, m, hk => by
    have hl : lookN all (joinL [47] (fN 0)) = some (nodeC ws 0) := by
      have := lookN_mem hw.1 ((hw.2 _).2 (.inl (ch_mem (ws := ws) hk)))
      rwa [nodeC_p] at this
    rw [goL_step all m (fN 0) [] [47] _ (up_ch 0).2.1 hl (by show (1 : Int) ≠ 3; decide), goL_nil, if_pos (Nat.zero_le _)]
    rfl
  | k + 1, m, hk => by
    have hok := (up_ch ⟨k + 1, by omega⟩).2.1
    have hsp := (up_ch ⟨k, by omega⟩).2.2.1
    have hhd := (up_ch ⟨k, by omega⟩).2.2.2.2
    have hl : lookN all (joinL [47] (fN (k + 1))) = some (nodeC ws (k + 1)) := by
      have := lookN_mem hw.1 ((hw.2 _).2 (.inl (ch_mem (ws := ws) hk)))
      rwa [nodeC_p] at this
    have hkd : (nodeC ws (k + 1)).k = 3 := rfl
    cases m with
    | zero => rw [goL_loop all _ _ _ _ hok hl hkd, if_neg (by omega)]
    | succ m =>
      rw [goL_link all m _ _ _ _ hok hl hkd]
      have ih := goL_chain hn hw k m (by omega)
      have hd : (nodeC ws (k + 1)).d = if ws (k + 1) = true then 47 :: 46 :: 47 :: fN k else fN k := rfl
      have hif : (if (nodeC ws (k + 1)).d.head? = some 47 then ([47] : Bts) else [47]) = [47] := by split <;> rfl
      rw [hif, hd]
      have hg : goL all m (splitB 47 (if ws (k + 1) = true then 47 :: 46 :: 47 :: fN k else fN k) ++ []) [47] 2 = goL all m [fN k] [47] 2 := by
        split
        · rw [splitB_sl, show (46 : UInt8) :: 47 :: fN k = [46] ++ 47 :: fN k from rfl, (splitB_name (s := [46]) (fun b hb => by simp at hb; subst hb; decide) _).1, hsp]
          show goL all m ([] :: [46] :: [fN k]) [47] 2 = _
          rw [goL_skip _ _ _ _ _ _ (.inl rfl), goL_skip _ _ _ _ _ _ (.inr rfl)]
        · rw [hsp]; rfl
      rw [hg, ih]
      by_cases h : k ≤ m
      · rw [if_pos h, if_pos (by omega)]
      · rw [if_neg h, if_neg (by omega)]
theorem real_chain {ws : Nat → Bool} {n k : Nat} (hn : n ≤ 43) {all : List Nd} (hw : Whole (chL ws n) all) (hk : k < n) : realV all (47 :: fN k) = if k ≤ 40 then .tuple #[.string ⟨#[47, 102, 48]⟩, .int .i64 1, .int .i64 0] else .tuple #[.string ⟨#[]⟩, .int .i64 0, .int .i64 20] := by
  unfold realV
  rw [if_pos (by rfl), splitB_sl, goL_skip _ _ _ _ _ _ (.inl rfl), (up_ch ⟨k, by omega⟩).2.2.1, goL_chain hn hw k 40 hk]
  split
  · rfl
  · rfl
theorem OwnN.lit1 (w : World) (n : Nd) : OwnN (w.alloc (.cells (ndC n).toArray 35)) w.heap.size (.slice (some ⟨w.heap.size, 0, none⟩) 1 1) [n] :=
  ⟨by simp [ndC], .inr ⟨w.heap.size, 1, (ndC n).toArray, rfl, Nat.le_refl _, heap_alloc_new w _, Nat.le_refl _, by unfold maxLen; omega, by simp [ndC], by simp [ndC]⟩⟩
end Go.Proofs.YtedfgikikjggaaaDoor
