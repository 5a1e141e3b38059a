/- Contracts of order.Units, of ref2.Compare and Points, of law0.Units. -/
import Derived.Test.YtjpofnpcmonmmaaOrdC
import Derived.Test.YtjpofnpcmonmmaaRef2U
import Derived.Lib.EndianBits
set_option linter.unusedVariables false
set_option linter.unusedSimpArgs false
namespace Go.Proofs.Ytjpofnpcmonmmaa
open Go.RowKit

def u16At (l : List Int) (i : Nat) : Value := .int .u16 (l.getD i 0)
theorem Own.is16 {w : World} {B : Nat} {v : Value} {l : List Int} {e : TypeId} (h : Own w B e v (l.map u16V)) : IsSl w v l.length (u16At l) := by
  have := h.isSl (f := u16At l) (fun i hi => by simp at hi; simp [u16At, u16V, List.getD, hi])
  simpa using this
theorem unitsL_bd : ∀ rs : List Int, (∀ r ∈ rs, 0 ≤ r ∧ r ≤ 1114111) → ∀ u ∈ unitsL rs, 0 ≤ u ∧ u ≤ 65535
  | [], _, u, h => by simp [unitsL] at h
  | r :: t, hr, u, h => by
    rw [unitsL_cons] at h
    rcases List.mem_append.1 h with h | h
    · have := hr r List.mem_cons_self
      unfold unitsR at h
      split at h
      · simp at h; omega
      · simp at h; omega
    · exact unitsL_bd t (fun r h => hr r (List.mem_cons_of_mem _ h)) u h
theorem unitsS_bd (l : List UInt8) (i : Nat) (hi : i < (unitsL (decL l)).length) : 0 ≤ (unitsL (decL l)).getD i 0 ∧ (unitsL (decL l)).getD i 0 ≤ 65535 := by
  have := unitsL_bd _ (decL_r2 _ l (Nat.le_refl _)) ((unitsL (decL l))[i]) (List.getElem_mem _)
  rw [List.getD_eq_getElem?_getD, List.getElem?_eq_getElem hi]
  exact this
theorem unitsS_len (l : List UInt8) : (unitsL (decL l)).length ≤ 2 * l.length := by
  have h1 := (unitsL_len (decL l)).2
  have h2 := decL_len _ l (Nat.le_refl _)
  omega
theorem u32_and10 (x : Int) (h0 : 0 ≤ x) (h1 : x < 4294967296) : bits .and .u32 x 1023 = x % 1024 := bits_mask .u32 32 (by decide) wraps_u32 10 (by decide) x h0 h1
set_option maxRecDepth 100000 in
set_option maxHeartbeats 2000000 in
theorem oUnits_any (l : List UInt8) (w : World) (hm : l.length ≤ 1000000) :
    Calls Try.prog 13 #[.string ⟨l.toArray⟩] w fun e w' => ∃ v', e = .returned v' ∧ Own w' w.heap.size 41 v' ((unitsL (decL l)).map u16V) ∧ Below w.heap.size w w' := by
  have HAT := Lib.hid (at_any l · · · hm)
  have HDC := Lib.hid (decL_at l)
  go_enter Try.func13, Try.ntmps13
  go_wp2_with (at_make; refine wpList_make0 _ rfl _ _ 25 rfl w.heap.size 41 (.int .u16 0) 2 ok16u _ _ _ l.length rfl rfl rfl (by omega) (by omega) (Nat.le_refl _) ?_)
  intro w0 hown0 hg0
  have hb0 : Below w.heap.size w w0 := (Below.refl _ _).grown hg0 (Nat.le_refl _) (fun k h => by cases h)
  go_wp2_with fail
  go_loopw [3, 4, 5, 6] (fun tv tk t5 t6 wr => ∃ (k : Nat) (xs : List Int), k ≤ l.length ∧ tk = .int .i64 k ∧ Own wr w.heap.size 41 tv (xs.map u16V) ∧ xs.length ≤ 2 * k ∧ Below w.heap.size w wr ∧ Hid (unitsL (decL l) = xs ++ unitsL (decL (l.drop k)))) (fun _ tk _ _ _ => l.length - (intOf tk).toNat)
  case atStart => exact ⟨0, [], by omega, rfl, by simpa using hown0, by simp, hb0, Lib.hid (by simp)⟩
  case round =>
    obtain ⟨k, xs, hk, rfl, hown, hxl, hbel, HR⟩ := hrel
    by_cases hlt : k < l.length
    · have hkI : (k : Int) < (l.length : Int) := by omega
      obtain ⟨n1, n2, n3⟩ := atN_bd l k hlt
      obtain ⟨r0, r1⟩ := atR_bd l k
      have HA := Lib.hid (HAT.out k · (by omega))
      have HD := Lib.hid (HDC.out k hlt)
      obtain ⟨r, hr⟩ : ∃ r, atR l k = r := ⟨_, rfl⟩
      obtain ⟨n, hn⟩ : ∃ n, atN l k = n := ⟨_, rfl⟩
      rw [hr] at r0 r1 HA HD
      rw [hn] at n1 n2 n3 HA HD
      clear hr hn
      have H1 : Hid (unitsL (decL l) = xs ++ unitsR r ++ unitsL (decL (l.drop (k + n)))) := Lib.hid (by rw [HR.out, HD.out, unitsL_cons, List.append_assoc])
      have CL := Lib.hid (lead_any r · r0 r1)
      have HB := Lib.hid hbel
      have hsz := hbel.size
      have hc1 : ∀ u ∈ (#[.int .u16 (leadN r)] : Array Value).toList, u.oneCell' = true := by intro u hu; simp at hu; subst hu; rfl
      have hc2 : ((xs.map u16V).length + 1) * 2 ≤ 140737488355328 := by rw [List.length_map]; omega
      have hc3 : (xs.map u16V).length + 1 ≤ 9223372036854775807 := by rw [List.length_map]; omega
      clear hbel
      rcases Int.lt_or_le r 65536 with c | c
      · have HU := Lib.hid (unitsR_lo c)
        have HLd := Lib.hid (leadN_lo c)
        go_wp2_with fail
        refine (HA.out _).mono ?_
        rintro e w1 ⟨rfl, hb1⟩
        have HB1 := Lib.hid (ext_trans (Below.refl w0.heap.size w0 |>.mono (Nat.le_refl _)) (Below.refl _ _))
        have hb2 : Below w.heap.size w w1 := HB.out.trans (hb1.mono hsz)
        have hown1 := hown.below hb1
        have hs1 := hb2.size
        clear hb1 HB1
        go_wp2_with fail
        refine (CL.out _).mono ?_
        rintro e w' ⟨rfl, rfl⟩
        go_wp2_with (at_builtin; refine wpList_appL _ rfl _ _ 25 rfl w.heap.size 41 (.int .u16 0) 2 ok16u _ _ rfl hown1 #[.int .u16 (leadN r)] 1 1 rfl rfl hc1 hc2 hc3 hs1 ?_)
        intro v' w3 hown3 hgr3
        have hb3 : Below w.heap.size w w3 := hb2.grown hgr3 hs1 (fun k hk => (hown1.row k hk).1)
        go_wp2_with fail
        exact ⟨⟨k + n, xs ++ [r], by omega, by go_num, by rw [List.map_append]; rw [HLd.out] at hown3; exact hown3, by simp; omega, hb3, Lib.hid (by rw [H1.out, HU.out])⟩, by simp [intOf]; omega⟩
      · have HU := Lib.hid (unitsR_hi c)
        have HLd := Lib.hid (leadN_hi c)
        obtain ⟨x, hx⟩ : ∃ x, r - 65536 = x := ⟨_, rfl⟩
        have x0 : 0 ≤ x := by omega
        have x1 : x ≤ 1048575 := by omega
        rw [hx] at HU HLd
        have p1 : bits .and .u32 x 1023 = x % 1024 := u32_and10 x x0 (by omega)
        have hc4 : ∀ u ∈ (#[.int .u16 (56320 + x % 1024)] : Array Value).toList, u.oneCell' = true := by intro u hu; simp at hu; subst hu; rfl
        have hc5 : ((xs.map u16V ++ (#[Value.int .u16 (leadN r)] : Array Value).toList).length + 1) * 2 ≤ 140737488355328 := by rw [List.length_append, List.length_map]; simp; omega
        have hc6 : (xs.map u16V ++ (#[Value.int .u16 (leadN r)] : Array Value).toList).length + 1 ≤ 9223372036854775807 := by rw [List.length_append, List.length_map]; simp; omega
        go_wp2_with fail
        refine (HA.out _).mono ?_
        rintro e w1 ⟨rfl, hb1⟩
        have hb2 : Below w.heap.size w w1 := HB.out.trans (hb1.mono hsz)
        have hown1 := hown.below hb1
        have hs1 := hb2.size
        clear hb1
        go_wp2_with fail
        refine (CL.out _).mono ?_
        rintro e w' ⟨rfl, rfl⟩
        go_wp2_with (at_builtin; refine wpList_appL _ rfl _ _ 25 rfl w.heap.size 41 (.int .u16 0) 2 ok16u _ _ rfl hown1 #[.int .u16 (leadN r)] 1 1 rfl rfl hc1 hc2 hc3 hs1 ?_)
        intro v' w3 hown3 hgr3
        have hb3 : Below w.heap.size w w3 := hb2.grown hgr3 hs1 (fun k hk => (hown1.row k hk).1)
        have hs3 := hb3.size
        go_wp2_with (at_builtin; refine wpList_appL _ rfl _ _ 25 rfl w.heap.size 41 (.int .u16 0) 2 ok16u _ _ rfl hown3 #[.int .u16 (56320 + x % 1024)] 1 1 rfl rfl hc4 hc5 hc6 hs3 ?_)
        intro v'' w4 hown4 hgr4
        have hb4 : Below w.heap.size w w4 := hb3.grown hgr4 hs3 (fun k hk => (hown3.row k hk).1)
        go_wp2_with fail
        exact ⟨⟨k + n, xs ++ [55296 + x / 1024, 56320 + x % 1024], by omega, by go_num, by rw [List.map_append]; rw [HLd.out] at hown4; simpa [u16V] using hown4, by simp; omega, hb4, Lib.hid (by rw [H1.out, HU.out])⟩, by simp [intOf]; omega⟩
    · obtain rfl : k = l.length := by omega
      have H1 : Hid (unitsL (decL l) = xs) := Lib.hid (by rw [HR.out, decL_nil (l := l.drop l.length) (by simp)]; simp [unitsL])
      go_wp2_with fail
      go_ret
      exact ⟨_, rfl, by rw [H1.out]; exact hown, hbel⟩
set_option maxHeartbeats 1000000 in
theorem sign_any (x y : Int) (w : World) : Calls Try.prog 32 #[.int .i64 x, .int .i64 y] w fun e w' => e = .returned (.int .i64 (cmpI x y)) ∧ w = w' := by
  by_cases h1 : x < y
  · have HE : Hid (cmpI x y = -1) := Lib.hid (by unfold cmpI; rw [if_pos h1])
    rw [HE.out]
    go_enter Try.func32, Try.ntmps32
    go_wp2
    go_ret
    exact ⟨rfl, by trivial⟩
  · by_cases h2 : y < x
    · have HE : Hid (cmpI x y = 1) := Lib.hid (by unfold cmpI; rw [if_neg h1, if_pos h2])
      rw [HE.out]
      go_enter Try.func32, Try.ntmps32
      go_wp2
      go_ret
      exact ⟨rfl, by trivial⟩
    · have HE : Hid (cmpI x y = 0) := Lib.hid (by unfold cmpI; rw [if_neg h1, if_neg h2])
      rw [HE.out]
      go_enter Try.func32, Try.ntmps32
      go_wp2
      go_ret
      exact ⟨rfl, by trivial⟩
end Go.Proofs.Ytjpofnpcmonmmaa
