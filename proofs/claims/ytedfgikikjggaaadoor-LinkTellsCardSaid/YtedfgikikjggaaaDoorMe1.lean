/- What the proof needs, part 1. -/
import Derived.Test.YtedfgikikjggaaaDoorTreeW
import Derived.Test.YtedfgikikjggaaaDoorLow
import Derived.Test.YtedfgikikjggaaaDoorQuiet
import Derived.Test.YtedfgikikjggaaaDoorNds
import Derived.Test.YtedfgikikjggaaaDoorStrs
/- The walk of TreeAsks. -/
section
set_option linter.unusedVariables false
set_option linter.unusedSimpArgs false
namespace Go.Proofs.YtedfgikikjggaaaDoor
open Go.RowKit

theorem goodNil : Good [] := And.intro (fun n hn => (by cases hn)) (And.intro List.nodup_nil (fun n hn => (by cases hn)))
theorem wholeNil : Whole [] [rootN] := by
  refine ⟨?_, fun n => ?_⟩
  · unfold Rising; exact List.pairwise_singleton _ _
  · simp
theorem isNds_nil (w : World) : IsNds w (.slice none 0 0) [] := ⟨none, 0, rfl, Nat.le_refl _, by unfold maxLen; omega, fun _ => rfl, fun h => by simp at h⟩
end Go.Proofs.YtedfgikikjggaaaDoor
end
/- Two lists of nodes; are nodes too much. -/
section
set_option linter.unusedVariables false
set_option linter.unusedSimpArgs false
namespace Go.Proofs.YtedfgikikjggaaaDoor
open Go.RowKit

/-- What nodes come to, of at most 10,000 bytes a text. -/
def bigZ : Int → List Nd → Int
  | z, [] => z
  | z, n :: l => if z < 0 then z else bigZ (z - min (n.p.length : Int) 10000 - min (n.d.length : Int) 10000) l
def bigN (z : Int) (ns : List Nd) : Bool := decide (40 < ns.length) || decide (bigZ z ns < 0)
theorem bigZ_neg {z : Int} {ns : List Nd} (h : z < 0) : bigZ z ns = z := by
  cases ns with
  | nil => rfl
  | cons n l => unfold bigZ; rw [if_pos h]
theorem bigZ_step {z : Int} {ns : List Nd} {i : Nat} (h : i < ns.length) (hz : 0 ≤ z) : bigZ z (ns.drop i) = bigZ (z - min ((ndAt ns i).p.length : Int) 10000 - min ((ndAt ns i).d.length : Int) 10000) (ns.drop (i + 1)) := by
  rw [List.drop_eq_getElem_cons h]
  conv => lhs; unfold bigZ
  rw [if_neg (by omega)]
  have : ndAt ns i = ns[i] := by unfold ndAt; rw [List.getD_eq_getElem?_getD, List.getElem?_eq_getElem h]; rfl
  rw [this]
set_option maxRecDepth 100000 in
set_option maxHeartbeats 4000000 in
theorem Big_any (v : Value) (ns : List Nd) (z0 : Int) (w : World) (hv : IsNds w v ns) (hz : z0 ≤ 1000000) (hz0 : 0 ≤ z0) :
    Calls Tryd.prog 7 #[v, .int .i64 z0] w fun e w' => e = .returned (.bool (bigN z0 ns)) ∧ ∃ n, w' = w.drewN n := by
  obtain ⟨a, cap, rfl, a1, a2, -, a3⟩ := hv
  unfold maxLen at a2
  by_cases h40 : 40 < ns.length
  · have hI : (40 : Int) < (ns.length : Int) := by omega
    have HB : Hid (bigN z0 ns = true) := Lib.hid (by unfold bigN; simp [h40])
    clear a3
    go_enter Tryd.func7, Tryd.ntmps7
    go_wp2_with fail
    go_ret
    exact ⟨ret_b HB.out.symm, 0, rfl⟩
  · have hI : (ns.length : Int) ≤ 40 := by omega
    have HB : Hid (bigN z0 ns = decide (bigZ z0 ns < 0)) := Lib.hid (by unfold bigN; simp [h40])
    clear h40
    go_enter Tryd.func7, Tryd.ntmps7
    go_wp2_with fail
    go_loopw [1, 5] (fun tz ti wr => ∃ (z : Int) (i : Nat), i ≤ ns.length ∧ tz = .int .i64 z ∧ ti = .int .i64 i ∧ -100000 ≤ z ∧ z ≤ 1000000 ∧ Hid (bigZ z (ns.drop i) = bigZ z0 ns) ∧ ∃ m, wr = w.drewN m) (fun _ ti _ => ns.length - (intOf ti).toNat)
    case atStart => exact ⟨z0, 0, Nat.zero_le _, rfl, rfl, by omega, hz, Lib.hid rfl, 0, rfl⟩
    case round =>
      obtain ⟨z, i, hi, rfl, rfl, hz1, hz2, HZ, m, rfl⟩ := hrel
      by_cases hlt : i < ns.length
      · have hltI : (i : Int) < (ns.length : Int) := by omega
        by_cases hneg : z < 0
        · have HF : Hid (bigZ z0 ns < 0) := Lib.hid (by rw [← HZ.out, bigZ_neg hneg]; exact hneg)
          have hn2 : ¬ 0 ≤ z := by omega
          clear a3 HZ
          go_wp2_with fail
          go_ret
          exact ⟨ret_b (by rw [HB.out, decide_eq_true HF.out]), _, rfl⟩
        · have hge : 0 ≤ z := by omega
          obtain ⟨ga, oa, rfl, ca⟩ := a3 (by omega)
          obtain ⟨a0', a1', a2'⟩ := ca i hlt
          have HS : Hid (bigZ z (ns.drop i) = bigZ (z - min ((ndAt ns i).p.length : Int) 10000 - min ((ndAt ns i).d.length : Int) 10000) (ns.drop (i + 1))) := Lib.hid (bigZ_step hlt hge)
          obtain ⟨p, hp⟩ : ∃ p, (ndAt ns i).p = p := ⟨_, rfl⟩
          obtain ⟨d, hd⟩ : ∃ d, (ndAt ns i).d = d := ⟨_, rfl⟩
          obtain ⟨x, hx⟩ : ∃ x : Int, min (p.length : Int) 10000 = x := ⟨_, rfl⟩
          obtain ⟨y, hy⟩ : ∃ y : Int, min (d.length : Int) 10000 = y := ⟨_, rfl⟩
          have hx1 : 0 ≤ x ∧ x ≤ 10000 := by omega
          have hy1 : 0 ≤ y ∧ y ≤ 10000 := by omega
          rw [hp] at a0' HS
          rw [hd] at a2' HS
          rw [hx, hy] at HS
          have mx : ∀ w ty, (Builtin.min_ #[3, 3] ty #[.int .i64 (p.length : Int), .int .i64 10000]).run Tryd.prog w = .ok (.int .i64 x) w := fun w ty => by
            rw [← hx]; go_simp; try (split <;> simp <;> omega)
          have my : ∀ w ty, (Builtin.min_ #[3, 3] ty #[.int .i64 (d.length : Int), .int .i64 10000]).run Tryd.prog w = .ok (.int .i64 y) w := fun w ty => by
            rw [← hy]; go_simp; try (split <;> simp <;> omega)
          have HZ2 : Hid (bigZ (z - x - y) (ns.drop (i + 1)) = bigZ z0 ns) := Lib.hid (by rw [← HS.out, HZ.out])
          clear hx hy hp hd HS HZ ca a3
          go_wp2_with fail
          go_region
          go_wp2_with fail
          exact ⟨⟨z - x - y, i + 1, by omega, rfl, by go_num, by omega, by omega, HZ2, _, by first | rfl | (rw [World.drewN_drewN])⟩, by simp [intOf]; omega⟩
      · obtain rfl : i = ns.length := by omega
        have HF : Hid (bigZ z0 ns = z) := Lib.hid (by rw [← HZ.out, List.drop_length]; rfl)
        clear a3 HZ
        go_wp2_with fail
        go_ret
        exact ⟨ret_b (by rw [HB.out, HF.out]), _, rfl⟩
end Go.Proofs.YtedfgikikjggaaaDoor
end
/- The walk of TreeTurns. -/
section
set_option linter.unusedVariables false
set_option linter.unusedSimpArgs false
namespace Go.Proofs.YtedfgikikjggaaaDoor
open Go.RowKit

theorem bigZ_le : ∀ (ns : List Nd) (z : Int), bigZ z ns ≤ z ∧ (0 ≤ bigZ z ns → ∀ n ∈ ns, min (n.p.length : Int) 10000 ≤ z ∧ min (n.d.length : Int) 10000 ≤ z) := by
  intro ns
  induction ns with
  | nil => intro z; exact ⟨Int.le_refl _, fun _ n hn => by cases hn⟩
  | cons n l ih =>
    intro z
    unfold bigZ
    by_cases hz : z < 0
    · rw [if_pos hz]
      exact ⟨Int.le_refl _, fun h => by omega⟩
    · rw [if_neg hz]
      obtain ⟨h1, h2⟩ := ih (z - min (n.p.length : Int) 10000 - min (n.d.length : Int) 10000)
      refine ⟨by omega, fun h m hm => ?_⟩
      rcases List.mem_cons.1 hm with rfl | hm
      · omega
      · have := h2 h m hm; omega
theorem bigN_f {ns : List Nd} (h : bigN 3000 ns = false) : ns.length ≤ 40 ∧ ∀ n ∈ ns, n.p.length ≤ 3000 ∧ n.d.length ≤ 3000 := by
  unfold bigN at h
  rw [Bool.or_eq_false_iff, decide_eq_false_iff_not, decide_eq_false_iff_not] at h
  refine ⟨by omega, fun n hn => ?_⟩
  have := (bigZ_le ns 3000).2 (by omega) n hn
  omega
theorem nodup_len : ∀ (l m : List Bts), l.Nodup → (∀ x ∈ l, x ∈ m) → l.length ≤ m.length
  | [], m, _, _ => Nat.zero_le _
  | a :: l, m, h, hs => by
    rw [List.nodup_cons] at h
    have ha := hs a (List.mem_cons_self ..)
    have h1 := nodup_len l (m.erase a) h.2 (fun x hx => (List.mem_erase_of_ne (by intro e; subst e; exact h.1 hx)).2 (hs x (List.mem_cons_of_mem _ hx)))
    rw [List.length_erase_of_mem ha] at h1
    have := List.length_pos_of_mem ha
    rw [List.length_cons]; omega
theorem whole_len {ns all : List Nd} (h : Whole ns all) : all.length ≤ ns.length + 1 := by
  have h1 : (all.map (·.p)).Nodup := by
    rw [List.nodup_iff_pairwise_ne, List.pairwise_map]
    exact h.1.imp fun {a b} hl e => by rw [e, ltS_irrefl] at hl; cases hl
  have h2 := nodup_len (all.map (·.p)) ((ns ++ [rootN]).map (·.p)) h1 (fun x hx => by
    obtain ⟨n, hn, rfl⟩ := List.mem_map.1 hx
    refine List.mem_map_of_mem (List.mem_append.2 ?_)
    rcases (h.2 n).1 hn with h3 | h3
    · exact .inl h3
    · exact .inr (List.mem_singleton.2 h3))
  simpa using h2
/-- Turned: from a place on, then from the beginning. -/
def turnL (L : Nat) (xs : List Nd) : List Nd := xs.drop L ++ xs.take L
theorem turnL_perm (L : Nat) (xs : List Nd) : (turnL L xs).Perm xs := by
  unfold turnL
  refine List.perm_append_comm.trans ?_
  rw [List.take_append_drop]
theorem turnL_len (L : Nat) (xs : List Nd) : (turnL L xs).length = xs.length := (turnL_perm L xs).length_eq
theorem turnL_at {L i : Nat} {xs : List Nd} (hL : L < xs.length) (hi : i < xs.length) : ndAt (turnL L xs) i = ndAt xs ((i + L) % xs.length) := by
  unfold turnL ndAt
  rw [List.getD_eq_getElem?_getD, List.getD_eq_getElem?_getD]
  congr 1
  by_cases h : i < xs.length - L
  · rw [List.getElem?_append_left (by rw [List.length_drop]; exact h), List.getElem?_drop, Nat.mod_eq_of_lt (by omega), Nat.add_comm]
  · rw [List.getElem?_append_right (by rw [List.length_drop]; omega), List.length_drop, List.getElem?_take, if_pos (by omega)]
    congr 1
    rw [Nat.mod_eq_sub_mod (by omega), Nat.mod_eq_of_lt (by omega)]
    omega
theorem rev_at {xs : List Nd} {k : Nat} (hk : k < xs.length) : ndAt xs.reverse k = ndAt xs (xs.length - 1 - k) := by
  unfold ndAt
  rw [List.getD_eq_getElem?_getD, List.getD_eq_getElem?_getD, List.getElem?_reverse hk]
def turnB (back : Bool) (xs : List Nd) : List Nd := if back = true then xs.reverse else xs
end Go.Proofs.YtedfgikikjggaaaDoor
end
