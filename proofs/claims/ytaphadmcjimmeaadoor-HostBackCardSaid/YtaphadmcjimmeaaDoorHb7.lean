import Derived.Shelf.Strings.IndexAny
import Derived.Shelf.Strings.IndexAnyAll
import Derived.Shelf.Small.Utf8
import Derived.Laws.RangeAny
import Derived.Lib.RuneBytes
import Derived.WalkMore
import Derived.Lib.Hide
import Derived.Lib.OthersKept
import Derived.Lib.IndexLaws
import Derived.Shelf.RegionOpenPlain
import Derived.ScopeJumps
set_option linter.unusedVariables false
set_option linter.unusedSimpArgs false
namespace Go.Vc
open Go Go.Proofs Go.Shelf Go.RowKit Go.Lib
def toJ (J : Nat → Act → World → Prop) (Q : Exit → Act → World → Prop) (e : Exit) (a : Act) (w : World) : Prop :=
  match e with
  | .goto l => J l a w
  | e => Q e a w
section
variable {P : Program} {J : Nat → Act → World → Prop} {Q : Exit → Act → World → Prop} {a : Act} {w : World}
@[go_sem] theorem toJ_normal : toJ J Q .normal a w = Q .normal a w := rfl
@[go_sem] theorem toJ_exit (id : Nat) : toJ J Q (.exit id) a w = Q (.exit id) a w := rfl
@[go_sem] theorem toJ_ret : toJ J Q .ret a w = Q .ret a w := rfl
@[go_sem] theorem toJ_panic (ch : List PanicEntry) : toJ J Q (.panic ch) a w = Q (.panic ch) a w := rfl
theorem wp_scope_labels {c : Code} (J : Nat → Act → World → Prop) (μ : Nat → Act → World → Nat) (first : c.wp P (toJ J Q) a w)
    (pass : ∀ l a w, J l a w → ∃ rest, findLabel c l = some rest ∧ rest.wp P (toJ (fun l' a' w' => J l' a' w' ∧ μ l' a' w' < μ l a w) Q) a w) : (Code.scope c).wp P Q a w := by
  intro b k cs
  have jump : ∀ n l a w rest, μ l a w = n → J l a w → findLabel c l = some rest → ∃ e a' w', Q e a' w' ∧ Arrives P (lone (b.at a (.code rest :: .inScope c :: k)) cs w) b k cs e a' w' := by
    intro n
    induction n using Nat.strongRecOn with
    | _ n ih =>
      intro l a w rest hn hJ hf
      obtain ⟨rest', hf', hp⟩ := pass l a w hJ
      obtain rfl : rest = rest' := Option.some.inj (hf.symm.trans hf')
      obtain ⟨e, a1, w1, hq, har⟩ := hp b (.inScope c :: k) cs
      cases e with
      | normal => exact ⟨.normal, a1, w1, hq, Steps.trans har (.one step_inScope)⟩
      | exit id => exact ⟨.exit id, a1, w1, hq, fun k' hk => har k' (by simp [exitTo, hk])⟩
      | goto l2 =>
        obtain ⟨hJ2, hlt⟩ := hq
        obtain ⟨rest2, hf2, _⟩ := pass l2 a1 w1 hJ2
        obtain ⟨e2, a2, w2, hq2, har2⟩ := ih _ (by omega) l2 a1 w1 rest2 rfl hJ2 hf2
        exact ⟨e2, a2, w2, hq2, .of_steps (har _ (by simp [gotoIn, hf2])) har2⟩
      | ret => exact ⟨_, a1, w1, hq, har⟩
      | panic ch => exact ⟨_, a1, w1, hq, har⟩
      | outgrown => exact ⟨_, a1, w1, hq, har⟩
  obtain ⟨e, a1, w1, hq, har⟩ := first b (.inScope c :: k) cs
  cases e with
  | normal => exact ⟨.normal, a1, w1, hq, .head step_scope (Steps.trans har (.one step_inScope))⟩
  | exit id => exact ⟨.exit id, a1, w1, hq, fun k' hk => .head step_scope (har k' (by simp [exitTo, hk]))⟩
  | goto l2 =>
    have hJ2 : J l2 a1 w1 := hq
    obtain ⟨rest2, hf2, _⟩ := pass l2 a1 w1 hJ2
    obtain ⟨e2, a2, w2, hq2, har2⟩ := jump _ l2 a1 w1 rest2 rfl hJ2 hf2
    exact ⟨e2, a2, w2, hq2, .of_steps (.head step_scope (har _ (by simp [gotoIn, hf2]))) har2⟩
  | ret => exact ⟨_, a1, w1, hq, .of_steps (.one step_scope) har⟩
  | panic ch => exact ⟨_, a1, w1, hq, .of_steps (.one step_scope) har⟩
  | outgrown => exact ⟨_, a1, w1, hq, .of_steps (.one step_scope) har⟩
theorem wp_scope_none {c : Code} (h : c.wp P (toJ (fun _ _ _ => False) Q) a w) : (Code.scope c).wp P Q a w := wp_scope_labels (fun _ _ _ => False) (fun _ _ _ => 0) h (fun _ _ _ h => h.elim)
end
variable {P : Program} {ρ : Ren}
set_option maxHeartbeats 4000000 in
set_option maxRecDepth 1000000 in
theorem idxRune_far (L : Lays.n152 P ρ) (s : ByteArray) (r : Int) (w : World) (ha : ∀ (j : Nat) b, s.data.toList[j]? = some b → b.toNat < 128) (h0 : 128 ≤ r) (h1 : r ≤ 2147483647) :
    Calls P (ρ.f 152) #[.string s, .int .i32 r] w fun e w' => e = .returned (.int .i64 (-1)) ∧ Below w.heap.size w w' := by
  have HA : Aside (∀ (j : Nat) b, s.data.toList[j]? = some b → b.toNat < 128) := ha
  clear ha
  have t3 := L.t3; have a3 := L.a3; have z3 := L.z3; have v3 := L.v3
  have t4 := L.t4; have a4 := L.a4; have z4 := L.z4; have v4 := L.v4
  have t5 := L.t5; have a5 := L.a5; have z5 := L.z5; have v5 := L.v5
  have t9 := L.t9; have a9 := L.a9; have z9 := L.z9; have v9 := L.v9
  have t21 := L.t21; have a21 := L.a21; have z21 := L.z21; have v21 := L.v21
  have mixed := L.mixed
  have e137 : ∀ args w, (callFunc (ρ.f 137) args).run P w = .ok (.enter (ρ.f 137) args) w := enters_of L.f137 (by kernel_rfl) rfl
  have e119 : ∀ args w, (callFunc (ρ.f 119) args).run P w = .ok (.enter (ρ.f 119) args) w := enters_of L.f119 (by kernel_rfl) rfl
  have hn : ¬ r < 128 := by omega
  have hp : (0 : Int) ≤ r := by omega
  by_cases c1 : r = 65533
  · subst c1
    go_enter L.f152, Body.n152_ntmps ρ
    go_wp2
    go_loopg [5, 6] s.size (fun g _ _ wx => ∃ i : Nat, i + g = s.size ∧ wx = w.iter s i)
    case atStart => exact ⟨0, by omega, rfl⟩
    case round =>
      obtain ⟨i, hig, rfl⟩ := hrel
      cases gk with
      | zero =>
        obtain rfl : i = s.size := by omega
        have hnx := run_next_end (P := P) w s s.size
        go_wp2
        go_ret
        exact ⟨rfl, (Below.refl _ _).alloc (Nat.le_refl _) _⟩
      | succ g =>
        have hi : i < s.size := by omega
        obtain ⟨x, hx⟩ : ∃ x : UInt8, s[i]'hi = x := ⟨_, rfl⟩
        have hxl : s.data.toList[i]? = some x := by rw [← hx]; exact Lib.data_getElem? s i hi
        have hx128 : x.toNat < 128 := HA.out i x hxl
        have hnx := fun ty => run_next_ascii (P := P) w s i ty hi (by rw [hx]; exact hx128)
        rw [hx] at hnx
        have hne : ((x.toNat : Int) == 65533) = false := by rw [beq_eq_false_iff_ne]; omega
        go_wp2
        go_roundg g
        case measure => omega
        case rel => exact ⟨i + 1, by omega, rfl⟩
  · have c1' : (r == 65533) = false := by simpa using c1
    by_cases c2 : (55296 ≤ r ∧ r ≤ 57343) ∨ 1114111 < r
    · have hv : Lib.validRune r = false := decide_eq_false (by omega)
      go_enter L.f152, Body.n152_ntmps ρ
      go_wp2_with (go_at_fn (ρ.f 119); refine (Any.utf8_ValidRune { L with } _ _).mono ?_; rintro e w' ⟨rfl, hw⟩; rw [hw, hv])
      go_ret
      exact ⟨rfl, Below.refl _ _⟩
    · have hv : Lib.validRune r = true := decide_eq_true (by omega)
      have hV : Utf8.valid r = true := by
        unfold Utf8.valid
        simp
        omega
      obtain ⟨f1, f2, f3⟩ := encode_facts r hV h0
      have hcv : ∀ w, (convert (ρ.t 21) (ρ.t 9) (.int .i32 r)).run P w = .ok (.string (Utf8.encode r)) w := fun w => run_convert_int_string w _ _ .i32 r (by rw [L.t21]; rfl) L.t9
      obtain ⟨t, ht⟩ : ∃ t, Utf8.encode r = t := ⟨_, rfl⟩
      rw [ht] at f1 f2 f3 hcv
      clear ht
      obtain ⟨m, hm⟩ : ∃ m, t.size = m + 1 := ⟨t.size - 1, by omega⟩
      obtain ⟨c, hc⟩ : ∃ c : UInt8, t[m]'(by omega) = c := ⟨_, rfl⟩
      have hc128 : 128 ≤ c.toNat := by
        have := f3 (by omega)
        rw [← hc]
        simpa [hm] using this
      have hl : IntKind.i64.wrap ((t.size : Int) - 1) = (m : Int) := by
        rw [hm]; push_cast
        rw [show (m : Int) + 1 - 1 = m by omega]
        exact wrap_small (m : Int) (by omega) (by omega)
      clear f3
      have hidx : ∀ u : ByteArray, (∀ x ∈ u.data.toList, x.toNat < 128) → Lib.indexByte u.data.toList c = -1 := fun u hu => by
        rcases Int.lt_or_le (Lib.indexByte u.data.toList c) 0 with h | h
        · have := Lib.indexByte_ge u.data.toList c; omega
        · obtain ⟨o, ho⟩ := Int.eq_ofNat_of_zero_le h
          have h2 := (Lib.indexByte_some ho).1
          have := hu c (List.mem_of_getElem? h2)
          omega
      by_cases hms : m < s.size
      · have hmsZ : (m : Int) < (s.size : Int) := by omega
        obtain ⟨x, hx⟩ : ∃ x : UInt8, s[m]'hms = x := ⟨_, rfl⟩
        have hx128 : x.toNat < 128 := HA.out m x (by rw [← hx]; exact Lib.data_getElem? s m hms)
        have hne : ((x.toNat : Int) == (c.toNat : Int)) = false := by rw [beq_eq_false_iff_ne]; omega
        have hne2 : ((x.toNat : Int) != (c.toNat : Int)) = true := by rw [bne, hne]; rfl
        have hs1 : (m : Int) + 1 ≤ (s.size : Int) := by omega
        have hs2 : (0 : Int) ≤ (m : Int) + 1 := by omega
        have hs3 : ((m : Int) + 1).toNat = m + 1 := by omega
        have hw1 : IntKind.i64.wrap ((m : Int) + 1) = (m : Int) + 1 := wrap_small _ (by omega) (by omega)
        have hs4 : m + 1 ≤ s.size := by omega
        have hs5 : ((m + 1 : Nat) : Int) ≤ (s.size : Int) := by omega
        have hs6 : ¬ ((s.size : Int) < (m : Int) + 1) := by omega
        have hs7 : ¬ ((m : Int) + 1 < 0) := by omega
        have hs8 : (0 : Int) ≤ (m : Int) + 1 ∧ (m : Int) + 1 ≤ (s.size : Int) := ⟨by omega, by omega⟩
        have hcb : ((c.toNat : Int)).toNat.toUInt8 = c := by simp
        have hix : Lib.indexByte (s.extract (m + 1) s.size).data.toList ((c.toNat : Int)).toNat.toUInt8 = -1 := by
          rw [hcb]
          refine hidx _ fun y hy => ?_
          have hy2 : y ∈ s.data.toList := by
            rw [show (s.extract (m + 1) s.size).data = s.data.extract (m + 1) s.size by simp [ByteArray.data_extract]] at hy
            rw [Array.toList_extract] at hy
            exact List.mem_of_mem_drop (List.mem_of_mem_take hy)
          obtain ⟨j, hj⟩ := List.getElem?_of_mem hy2
          exact HA.out j y hj
        have hsl : ∀ w, (Instr.slice (ρ.t 9) (.string s) (some (.int .i64 ((m : Int) + 1))) none none).run P w = .ok (.string (s.extract (m + 1) s.size)) w := fun w => by
          have := run_slice_string_from_if (w := w) (ρ.t 9) s .i64 ((m : Int) + 1) L.t9
          rw [this, if_pos (by omega), hs3]
        go_enter L.f152, Body.n152_ntmps ρ
        go_wp2_with (go_at_fn (ρ.f 119); refine (Any.utf8_ValidRune { L with } _ _).mono ?_; rintro e w' ⟨rfl, hw⟩; rw [hw, hv])
        refine wp_scope_none ?_
        go_wp2
        refine wp_loop_rounds 1 ?_
        rw [rounds_succ]
        go_wp2
        refine wp_scope_none ?_
        go_wp2
        go_region_o
        go_wp2
        go_region_with_o (go_at_fn (ρ.f 137); refine (Any.strings_IndexByte { L with } _ _ _).mono ?_; rintro e w' ⟨rfl, hw⟩; rw [hw, hix])
        go_wp2
        simp only [toJ_ret, Exit.then, Exit.inBlock]
        change toJ (fun _ _ _ => False) (Exit.inBlock 0 _) Exit.ret _ _
        rw [toJ_ret]
        go_ret
        refine ⟨rfl, ?_⟩
        exact (((Below.refl _ _).drew).drew)
      · have hmsZ : ¬ (m : Int) < (s.size : Int) := by omega
        go_enter L.f152, Body.n152_ntmps ρ
        go_wp2_with (go_at_fn (ρ.f 119); refine (Any.utf8_ValidRune { L with } _ _).mono ?_; rintro e w' ⟨rfl, hw⟩; rw [hw, hv])
        refine wp_scope_none ?_
        go_wp2
        refine wp_loop_rounds 1 ?_
        rw [rounds_succ]
        go_wp2
        rw [toJ_ret]
        go_ret
        exact ⟨rfl, Below.refl _ _⟩
theorem decode_run (s : ByteArray) (pos : Nat) (h : pos < s.size) (ha : 128 ≤ (s.get! (pos + 0)).toNat) : pos + (Utf8.decode s pos).2 ≤ s.size ∧ ∀ k, k < (Utf8.decode s pos).2 → 128 ≤ (s.get! (pos + k)).toNat := by
  have hn : ¬ (s.get! (pos + 0)).toNat < 128 := by omega
  have one : ∀ q : Nat × Nat, q.2 = 1 → pos + q.2 ≤ s.size ∧ ∀ k, k < q.2 → 128 ≤ (s.get! (pos + k)).toNat := fun q hq => by
    rw [hq]
    exact ⟨by omega, fun k hk => by obtain rfl : k = 0 := by omega
                                    exact ha⟩
  simp only [Utf8.decode, hn, if_false]
  split
  · rename_i h2
    simp only [Bool.and_eq_true, decide_eq_true_eq, beq_iff_eq] at h2
    split
    · refine ⟨by show pos + 2 ≤ s.size; omega, fun k hk => ?_⟩
      replace hk : k < 2 := hk
      rcases (show k = 0 ∨ k = 1 by omega) with rfl | rfl
      · exact ha
      · omega
    · exact one _ rfl
  · split
    · rename_i h2
      simp only [Bool.and_eq_true, decide_eq_true_eq, beq_iff_eq] at h2
      split
      · refine ⟨by show pos + 3 ≤ s.size; omega, fun k hk => ?_⟩
        replace hk : k < 3 := hk
        rcases (show k = 0 ∨ k = 1 ∨ k = 2 by omega) with rfl | rfl | rfl
        · exact ha
        · omega
        · omega
      · exact one _ rfl
    · split
      · rename_i h2
        simp only [Bool.and_eq_true, decide_eq_true_eq, beq_iff_eq] at h2
        split
        · refine ⟨by show pos + 4 ≤ s.size; omega, fun k hk => ?_⟩
          replace hk : k < 4 := hk
          rcases (show k = 0 ∨ k = 1 ∨ k = 2 ∨ k = 3 by omega) with rfl | rfl | rfl | rfl
          · exact ha
          · omega
          · omega
          · omega
        · exact one _ rfl
      · exact one _ rfl
theorem get_list {s : ByteArray} {i : Nat} (h : i < s.size) : s.data.toList[i]? = some (s.get! i) := by
  rw [Lib.data_getElem? s i h]
  congr 1
  simp [ByteArray.get!, getElem!_pos, h]
  rfl
theorem noAny_run {s chars : List UInt8} {i n : Nat} (h : Lib.NoAny s chars i) (hb : ∀ k, k < n → ∀ b, s[i + k]? = some b → chars.contains b = false) : Lib.NoAny s chars (i + n) := fun j b hj hs => by
  by_cases e : j < i
  · exact h j b e hs
  · exact hb (j - i) (by omega) b (by rw [show i + (j - i) = j by omega]; exact hs)
set_option maxHeartbeats 8000000 in
set_option maxRecDepth 1000000 in
theorem idxAny_short (L : Lays.n153 P ρ) (s chars : ByteArray) (w : World) (h2 : 2 ≤ chars.size) (h8 : s.size ≤ 8) (hac : ∀ (j : Nat) b, chars.data.toList[j]? = some b → b.toNat < 128) :
    Calls P (ρ.f 153) #[.string s, .string chars] w fun e w' => e = .returned (.int .i64 (Lib.indexAny s.data.toList chars.data.toList)) ∧ Below w.heap.size w w' := by
  have HA : Aside (∀ (j : Nat) b, chars.data.toList[j]? = some b → b.toNat < 128) := hac
  clear hac
  have hemp : chars.toList.isEmpty = false := by
    rw [Lib.toList_data]
    have hlen := Lib.size_eq chars
    cases h : chars.data.toList with
    | nil => rw [h, List.length_nil] at hlen; omega
    | cons _ _ => rfl
  have hn1 : ((chars.size : Int) == 1) = false := beq_eq_false_iff_ne.2 (by omega)
  have h8z : decide ((8 : Int) < (s.size : Int)) = false := decide_eq_false (by omega)
  have t3 := L.t3; have a3 := L.a3; have z3 := L.z3; have v3 := L.v3
  have t4 := L.t4; have a4 := L.a4; have z4 := L.z4; have v4 := L.v4
  have t5 := L.t5; have a5 := L.a5; have z5 := L.z5; have v5 := L.v5
  have t9 := L.t9; have a9 := L.a9; have z9 := L.z9; have v9 := L.v9
  have t21 := L.t21; have a21 := L.a21; have z21 := L.z21; have v21 := L.v21
  have e152 : ∀ args w, (callFunc (ρ.f 152) args).run P w = .ok (.enter (ρ.f 152) args) w := enters_of L.f152 (by kernel_rfl) rfl
  have e226 : ∀ args w, (callFunc (ρ.f 226) args).run P w = .ok (.enter (ρ.f 226) args) w := enters_of L.f226 (by kernel_rfl) rfl
  go_enter L.f153, Body.n153_ntmps ρ
  go_wp2_with (go_at_fn (ρ.f 226); refine (Any.strings_shouldUseASCIISet { L with } _ _).mono ?_; rintro e w' ⟨rfl, hw⟩; rw [hw, h8z])
  go_loopg [9, 10] (s.size + 1) (fun g _ _ wx => ∃ i : Nat, i ≤ s.size ∧ s.size + 1 ≤ i + g ∧ wx.heap[w.heap.size]? = some (.stringIter s i) ∧ Hid (Below w.heap.size w wx) ∧ Hid (Lib.NoAny s.data.toList chars.data.toList i))
  case atStart => exact ⟨0, by omega, by omega, by show (w.alloc _).heap[w.heap.size]? = _; exact by unfold World.alloc; simp, Lib.hid ((Below.refl _ _).alloc (Nat.le_refl _) _), Lib.hid (Lib.NoAny.zero _ _)⟩
  case round =>
    obtain ⟨i, hi0, hig, hk, HB, HN⟩ := hrel
    cases gk with
    | zero => omega
    | succ g =>
      by_cases hi : i < s.size
      · have hlt : w.heap.size < wr.heap.size := (Array.getElem?_eq_some_iff.1 hk).1
        have hlen : s.size = s.data.toList.length := Lib.size_eq s
        obtain ⟨x, hx⟩ : ∃ x : UInt8, s.get! i = x := ⟨_, rfl⟩
        have hxl : s.data.toList[i]? = some x := by rw [← hx]; exact get_list hi
        have hsx : s[i]'hi = x := by
          have := Lib.data_getElem? s i hi
          rw [hxl] at this
          exact (Option.some.inj this).symm
        have hnk := iterAt_heap wr w.heap.size s i
        by_cases hx8 : x.toNat < 128
        · have hnx := fun ty => run_next_ascii_at (P := P) wr w.heap.size s i ty hk hi (by rw [hsx]; exact hx8)
          rw [hsx] at hnx
          have Hx : Hid (s.data.toList[i]? = some x) := Lib.hid hxl
          have H2 := Lib.hid (hnk (i + 1) hk)
          have HB2 := Lib.hid (below_iterAt HB.out (Nat.le_refl _) s (i + 1))
          clear hxl hsx hx hnk
          have hcon := Lib.contains_iff_indexByte chars.data.toList x
          have hback : ((x.toNat : Int)).toNat.toUInt8 = x := by simp
          cases hin : chars.data.toList.contains x
          · rw [hin] at hcon
            have hlt2 : ¬ ((0 : Int) ≤ Lib.indexByte chars.data.toList x) := of_decide_eq_false hcon.symm
            clear hcon
            go_wp2_with (go_at_fn (ρ.f 152); refine (Any.strings_IndexRune_ascii { L with } _ _ _ (by omega) (by omega)).mono ?_; rintro e w' ⟨rfl, hw⟩; rw [hw, hback]; dsimp only)
            go_roundg g
            case measure => omega
            case rel => exact ⟨i + 1, by omega, by omega, H2.out, HB2, Lib.hid (HN.out.succ Hx.out hin)⟩
          · rw [hin] at hcon
            have hge : (0 : Int) ≤ Lib.indexByte chars.data.toList x := of_decide_eq_true hcon.symm
            clear hcon
            go_wp2_with (go_at_fn (ρ.f 152); refine (Any.strings_IndexRune_ascii { L with } _ _ _ (by omega) (by omega)).mono ?_; rintro e w' ⟨rfl, hw⟩; rw [hw, hback]; dsimp only)
            go_ret
            exact ⟨by rw [Lib.indexAny_hit HN.out Hx.out hin]; rfl, HB2.out⟩
        · have hg0 : 128 ≤ (s.get! (i + 0)).toNat := by rw [Nat.add_zero, hx]; omega
          obtain ⟨d1, d2⟩ := decode_run s i hi hg0
          obtain ⟨d3, d4⟩ := decode_high s i hi (by rw [hsx]; omega)
          have d5 := decode_le s i
          have hnx := fun ty => run_next_any_at (P := P) wr w.heap.size s i ty hk hi
          obtain ⟨q, hq⟩ : ∃ q, Utf8.decode s i = q := ⟨_, rfl⟩
          rw [hq] at hnx d1 d2 d3 d4 d5
          obtain ⟨rn, n⟩ := q
          dsimp only at hnx d1 d2 d3 d4 d5
          have H2 := Lib.hid (hnk (i + n) hk)
          have HB2 := Lib.hid (below_iterAt HB.out (Nat.le_refl _) s (i + n))
          have hsz2 : (wr.iterAt w.heap.size s (i + n)).heap.size = wr.heap.size := iterAt_size _ _ _ _
          obtain ⟨w2, hw2⟩ : ∃ w2, wr.iterAt w.heap.size s (i + n) = w2 := ⟨_, rfl⟩
          rw [hw2] at hnx H2 HB2 hsz2
          have HR : Hid (Lib.NoAny s.data.toList chars.data.toList (i + n)) := Lib.hid (noAny_run HN.out fun k hk b hb => by
            have hb2 : b = s.get! (i + k) := by
              rw [get_list (by omega)] at hb
              exact (Option.some.inj hb).symm
            have := d2 k hk
            rw [← hb2] at this
            cases hc : chars.data.toList.contains b with
            | false => rfl
            | true =>
              obtain ⟨j, hj⟩ := List.getElem?_of_mem (List.contains_iff_mem.1 hc)
              have := HA.out j b hj
              omega)
          clear d2 hq hnk hsx hx hxl
          have HF : Hid (∀ w, Calls P (ρ.f 152) #[.string chars, .int .i32 rn] w fun e w' => e = .returned (.int .i64 (-1)) ∧ Below w.heap.size w w') := Lib.hid fun w => idxRune_far { L with } chars rn w HA.out (by omega) (by omega)
          go_wp2_with fail
          refine (HF.out _).mono ?_
          rintro e w3 ⟨rfl, hb3⟩
          dsimp only
          have HB3 := Lib.hid hb3
          clear hb3
          go_wp2_with fail
          go_roundg g
          case measure => omega
          case rel => exact ⟨i + n, by omega, by omega, by rw [HB3.out.block _ (by omega)]; exact H2.out, Lib.hid (HB2.out.trans (HB3.out.mono HB2.out.size)), HR⟩
      · obtain rfl : i = s.size := by omega
        have hnx := fun ty => run_next_end_at (P := P) wr w.heap.size s s.size ty hk hi
        go_wp2
        go_ret
        exact ⟨by rw [Lib.indexAny_none (by rw [← Lib.size_eq]; exact HN.out)]; rfl, HB.out⟩
theorem idxAny (L : Lays.n153 P ρ) (h116 : (P.info? (ρ.t 116)).map (fun i => (i.zero, i.size)) = some (some (.agg (Array.replicate 256 (.bool false))), 256)) (s chars : ByteArray) (w : World) (hs : s.size < 4294967281) (hcs : chars.size < 4294967281)
    (hac : ∀ (j : Nat) b, chars.data.toList[j]? = some b → b.toNat < 128) :
    Calls P (ρ.f 153) #[.string s, .string chars] w fun e w' => e = .returned (.int .i64 (Lib.indexAny s.data.toList chars.data.toList)) ∧ Below w.heap.size w w' := by
  by_cases h0 : chars.size = 0
  · exact (Any.strings_IndexAny_none L s chars w h0).mono fun e w' ⟨h1, h2⟩ => ⟨h1, h2 ▸ Below.refl _ _⟩
  by_cases h1 : chars.size = 1
  · exact (Any.strings_IndexAny_one L s chars w h1 hac).mono fun e w' ⟨h1, h2⟩ => ⟨h1, h2 ▸ Below.refl _ _⟩
  by_cases h8 : s.size ≤ 8
  · exact idxAny_short L s chars w (by omega) h8 hac
  · refine (Any.strings_IndexAny_long L (zero_of_info h116).1 (zero_of_info h116).2 s chars w (by omega) (by omega) hs hcs hac).mono fun e w' ⟨h1, h2⟩ => ⟨h1, ?_⟩
    rw [h2]
    exact ((Below.refl _ _).alloc (Nat.le_refl _) _).alloc (by simp) _
set_option maxHeartbeats 1000000 in
theorem conAny (L : Lays.n150 P ρ) (h116 : (P.info? (ρ.t 116)).map (fun i => (i.zero, i.size)) = some (some (.agg (Array.replicate 256 (.bool false))), 256)) (s chars : ByteArray) (w : World) (hs : s.size < 4294967281) (hcs : chars.size < 4294967281)
    (hac : ∀ (j : Nat) b, chars.data.toList[j]? = some b → b.toNat < 128) :
    Calls P (ρ.f 150) #[.string s, .string chars] w fun e w' => e = .returned (.bool (Lib.containsAny s.data.toList chars.data.toList)) ∧ Below w.heap.size w w' := by
  have c := idxAny { L with } h116 s chars w hs hcs hac
  have t3 := L.t3; have a3 := L.a3; have z3 := L.z3; have v3 := L.v3
  have t4 := L.t4; have a4 := L.a4; have z4 := L.z4; have v4 := L.v4
  have t9 := L.t9; have a9 := L.a9; have z9 := L.z9; have v9 := L.v9
  have e153 : ∀ args w, (callFunc (ρ.f 153) args).run P w = .ok (.enter (ρ.f 153) args) w := enters_of L.f153 (by kernel_rfl) rfl
  go_enter L.f150, Body.n150_ntmps ρ
  go_wp2_with (go_at_fn (ρ.f 153); refine c.mono ?_; rintro e w' ⟨rfl, hw⟩)
  go_ret
  exact ⟨rfl, hw⟩
set_option maxHeartbeats 2000000 in
set_option maxRecDepth 1000000 in
theorem conRune_far (L : Lays.n151 P ρ) (s : ByteArray) (r : Int) (w : World) (ha : ∀ (j : Nat) b, s.data.toList[j]? = some b → b.toNat < 128) (h0 : 128 ≤ r) (h1 : r ≤ 2147483647) :
    Calls P (ρ.f 151) #[.string s, .int .i32 r] w fun e w' => e = .returned (.bool false) ∧ Below w.heap.size w w' := by
  have c := idxRune_far { L with } s r w ha h0 h1
  have t3 := L.t3; have a3 := L.a3; have z3 := L.z3; have v3 := L.v3
  have t4 := L.t4; have a4 := L.a4; have z4 := L.z4; have v4 := L.v4
  have t9 := L.t9; have a9 := L.a9; have z9 := L.z9; have v9 := L.v9
  have t21 := L.t21; have a21 := L.a21; have z21 := L.z21; have v21 := L.v21
  have e152 : ∀ args w, (callFunc (ρ.f 152) args).run P w = .ok (.enter (ρ.f 152) args) w := enters_of L.f152 (by kernel_rfl) rfl
  go_enter L.f151, Body.n151_ntmps ρ
  go_wp2_with (go_at_fn (ρ.f 152); refine c.mono ?_; rintro e w' ⟨rfl, hw⟩)
  go_ret
  exact ⟨rfl, hw⟩
end Go.Vc
