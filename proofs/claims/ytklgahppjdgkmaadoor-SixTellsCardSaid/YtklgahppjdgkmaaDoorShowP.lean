/- The plain mathematics of addresses' texts: what Parse reads of numbers told by a base. No program. -/
import Derived.Test.YtklgahppjdgkmaaDoorIpC
import Derived.Test.YtklgahppjdgkmaaDoorIpD
import Derived.Test.YtklgahppjdgkmaaDoorIpI
import Derived.Test.YtklgahppjdgkmaaDoorDigits
set_option linter.unusedVariables false
set_option linter.unusedSimpArgs false
namespace Go.Proofs.YtklgahppjdgkmaaDoor
open Go.RowKit

theorem byt_appL {l m : List UInt8} {q : Nat} (h : q < l.length) : byt (l ++ m) q = byt l q := by
  unfold byt; rw [List.getD_eq_getElem?_getD, List.getD_eq_getElem?_getD, List.getElem?_append_left h]
theorem byt_appR (l m : List UInt8) (q : Nat) : byt (l ++ m) (l.length + q) = byt m q := by
  unfold byt; rw [List.getD_eq_getElem?_getD, List.getD_eq_getElem?_getD, List.getElem?_append_right (by omega), Nat.add_sub_cancel_left]
/-- A digit's sign. -/
def sgn (k : Nat) : UInt8 := if k < 10 then UInt8.ofNat (48 + k) else if k = 10 then 97 else if k = 11 then 66 else if k = 12 then 99 else if k = 13 then 68 else if k = 14 then 101 else 70
def sgnTab : List UInt8 := [48, 49, 50, 51, 52, 53, 54, 55, 56, 57, 97, 66, 99, 68, 101, 70]
theorem sgn_tab : ∀ k : Fin 16, (sgnTab.take (k.val + 1)).drop k.val = [sgn k.val] := by decide +kernel
theorem sgn_hex : ∀ k : Fin 16, hexN ((sgn k.val).toNat : Int) = (k.val : Int) := by decide +kernel
theorem sgn_dot : ∀ k : Fin 16, ((sgn k.val).toNat : Int) ≠ 46 ∧ ((sgn k.val).toNat : Int) ≠ 120 ∧ ((sgn k.val).toNat : Int) ≠ 88 ∧ (k.val ≠ 0 → ((sgn k.val).toNat : Int) ≠ 48) := by decide +kernel
/-- A number by a base. -/
def digB (b x : Nat) : List UInt8 := if h : x < b ∨ b < 2 then [sgn x] else digB b (x / b) ++ [sgn (x % b)]
termination_by x
decreasing_by exact Nat.div_lt_self (by omega) (by omega)
theorem digB_small {b x : Nat} (h : x < b) : digB b x = [sgn x] := by rw [digB, dif_pos (.inl h)]
theorem digB_great {b x : Nat} (h : ¬ x < b) (hb : 2 ≤ b) : digB b x = digB b (x / b) ++ [sgn (x % b)] := by rw [digB, dif_neg (by omega)]
theorem digB_dec (x : Nat) : Lib.decDigits x = digB 10 x := by
  induction x using Nat.strongRecOn with
  | _ x ih =>
    by_cases h : x < 10
    · rw [digB_small h, Lib.decDigits_one h]
      unfold sgn
      rw [if_pos h]
    · rw [digB_great h (by decide), dec_great h, ih (x / 10) (by omega), mkB_dig]
      congr 2
      unfold sgn
      rw [if_pos (Nat.mod_lt _ (by decide))]
/-- A base that is told. -/
def isBase (b : Nat) : Prop := b = 8 ∨ b = 10 ∨ b = 16
theorem digB_len {b : Nat} (hb : isBase b) (x : Nat) : 1 ≤ (digB b x).length := by
  by_cases h : x < b
  · rw [digB_small h]; simp
  · rw [digB_great h (by unfold isBase at hb; omega)]; simp
theorem digB_len50 {b : Nat} (hb : isBase b) : ∀ (k x : Nat), x < 8 ^ (k + 1) → (digB b x).length ≤ k + 1 := by
  intro k
  induction k with
  | zero => intro x h; rw [digB_small (by unfold isBase at hb; omega)]; simp
  | succ k ih =>
    intro x h
    by_cases h2 : x < b
    · rw [digB_small h2]; simp
    · have := ih (x / b) (by
        have h3 : x / b ≤ x / 8 := Nat.div_le_div_left (by unfold isBase at hb; omega) (by decide)
        have h4 : x / 8 < 8 ^ (k + 1) := by rw [Nat.div_lt_iff_lt_mul (by decide), ← Nat.pow_succ]; exact h
        omega)
      rw [digB_great h2 (by unfold isBase at hb; omega)]; simp; omega
theorem digB_100 {b : Nat} (hb : isBase b) (x : Nat) (h : x < 1000000000000) : (digB b x).length ≤ 50 := digB_len50 hb 49 x (Nat.lt_trans h (by decide))
theorem onlyB_append (n : Int) (l m : List UInt8) : onlyB n (l ++ m) = (onlyB n l && onlyB n m) := by
  induction l with
  | nil => simp [onlyB]
  | cons b t ih => show (decide _ && onlyB n (t ++ m)) = ((decide _ && onlyB n t) && onlyB n m); rw [ih, Bool.and_assoc]
theorem valV_snoc (n : Int) (l : List UInt8) (c : UInt8) : valV n 0 (l ++ [c]) = stepV n (valV n 0 l) (c.toNat : Int) := by unfold valV; rw [List.foldl_append]; rfl
theorem onlyB_sgn {b k : Nat} (hb : isBase b) (h : k < b) : onlyB b [sgn k] = true := by
  have h1 := sgn_hex ⟨k, by unfold isBase at hb; omega⟩
  have h1 : hexN ((sgn k).toNat : Int) = (k : Int) := h1
  show (decide _ && true) = true
  rw [h1, decide_eq_true ⟨by omega, by omega⟩]; rfl
theorem digB_only {b : Nat} (hb : isBase b) (x : Nat) : onlyB b (digB b x) = true := by
  induction x using Nat.strongRecOn with
  | _ x ih =>
    have h2 : 2 ≤ b := by unfold isBase at hb; omega
    by_cases h : x < b
    · rw [digB_small h]; exact onlyB_sgn hb h
    · rw [digB_great h h2, onlyB_append, ih (x / b) (Nat.div_lt_self (by omega) (by omega)), onlyB_sgn hb (Nat.mod_lt _ (by omega))]; rfl
theorem digB_only10 {b : Nat} (hb : b = 8 ∨ b = 10) (x : Nat) : onlyB 10 (digB b x) = true := by
  have h1 := digB_only (b := b) (by unfold isBase; omega) x
  have : ∀ l : List UInt8, onlyB b l = true → onlyB 10 l = true := by
    intro l
    induction l with
    | nil => intro _; rfl
    | cons c t ih =>
      intro h
      have h' : (decide (0 ≤ hexN (c.toNat : Int) ∧ hexN (c.toNat : Int) < (b : Int)) && onlyB b t) = true := h
      rw [Bool.and_eq_true] at h'
      have h3 := of_decide_eq_true h'.1
      show (decide _ && onlyB 10 t) = true
      rw [ih h'.2, decide_eq_true ⟨h3.1, by omega⟩]; rfl
  exact this _ h1
theorem digB_val {b : Nat} (hb : isBase b) (x : Nat) : valV b 0 (digB b x) = min (x : Int) 4294967296 := by
  induction x using Nat.strongRecOn with
  | _ x ih =>
    have h2 : 2 ≤ b := by unfold isBase at hb; omega
    by_cases h : x < b
    · rw [digB_small h]
      have h1 : hexN ((sgn x).toNat : Int) = (x : Int) := sgn_hex ⟨x, by unfold isBase at hb; omega⟩
      show stepV b 0 ((sgn x).toNat : Int) = _
      unfold stepV
      rw [h1]; simp
    · have h1 : hexN ((sgn (x % b)).toNat : Int) = ((x % b : Nat) : Int) := sgn_hex ⟨x % b, by have := Nat.mod_lt x (show 0 < b by omega); unfold isBase at hb; omega⟩
      rw [digB_great h h2, valV_snoc, ih (x / b) (Nat.div_lt_self (by omega) (by omega))]
      unfold stepV
      rw [h1]
      rcases hb with rfl | rfl | rfl <;> omega
/-- No sign of a number is a dot, or an x. -/
theorem digB_signs {b : Nat} (hb : isBase b) (x : Nat) : ∀ q, q < (digB b x).length → byt (digB b x) q ≠ 46 ∧ byt (digB b x) q ≠ 120 ∧ byt (digB b x) q ≠ 88 := by
  induction x using Nat.strongRecOn with
  | _ x ih =>
    have h2 : 2 ≤ b := by unfold isBase at hb; omega
    have one : ∀ k, k < b → ∀ q, q < [sgn k].length → byt [sgn k] q ≠ 46 ∧ byt [sgn k] q ≠ 120 ∧ byt [sgn k] q ≠ 88 := by
      intro k hk q hq
      obtain rfl : q = 0 := by simpa using hq
      have := sgn_dot ⟨k, by unfold isBase at hb; omega⟩
      exact ⟨this.1, this.2.1, this.2.2.1⟩
    by_cases h : x < b
    · rw [digB_small h]; exact one x h
    · rw [digB_great h h2]
      intro q hq
      have hi := ih (x / b) (Nat.div_lt_self (by omega) (by omega))
      by_cases hq2 : q < (digB b (x / b)).length
      · have e : byt (digB b (x / b) ++ [sgn (x % b)]) q = byt (digB b (x / b)) q := byt_appL hq2
        rw [e]; exact hi q hq2
      · have hq3 : q = (digB b (x / b)).length := by simp at hq; omega
        have e : byt (digB b (x / b) ++ [sgn (x % b)]) q = byt [sgn (x % b)] 0 := by rw [hq3]; exact byt_appR _ _ 0
        rw [e]; exact one _ (Nat.mod_lt _ (by omega)) 0 (by simp)
theorem digB_first {b : Nat} (hb : isBase b) (x : Nat) (hx : 0 < x) : byt (digB b x) 0 ≠ 48 := by
  induction x using Nat.strongRecOn with
  | _ x ih =>
    have h2 : 2 ≤ b := by unfold isBase at hb; omega
    by_cases h : x < b
    · rw [digB_small h]
      exact (sgn_dot ⟨x, by unfold isBase at hb; omega⟩).2.2.2 (by show x ≠ 0; omega)
    · have hp : 0 < x / b := Nat.div_pos (by omega) (by omega)
      have hi := ih (x / b) (Nat.div_lt_self (by omega) (by omega)) hp
      have hl := digB_len hb (x / b)
      rw [digB_great h h2]
      have e : byt (digB b (x / b) ++ [sgn (x % b)]) 0 = byt (digB b (x / b)) 0 := byt_appL (by omega)
      rw [e]; exact hi
/-- A text that is a number, of at most 2^32, and has no dot. -/
structure NumT (t : List UInt8) (v : Int) : Prop where
  o : numO t = true
  v : numV t = v
  d : ∀ q, q < t.length → byt t q ≠ 46
  l : 1 ≤ t.length
  m : t.length ≤ 60
theorem numT_dec (x : Nat) (hx : x < 1000000000000) : NumT (digB 10 x) (min (x : Int) 4294967296) := by
  have hb : isBase 10 := .inr (.inl rfl)
  have hl := digB_len hb x
  have hs := digB_signs hb x
  have hp : hexP (digB 10 x) = false := by
    unfold hexP
    rw [decide_eq_false_iff_not]
    rintro ⟨h1, h2, h3⟩
    have := hs 1 (by omega)
    rcases h3 with h3 | h3
    · exact this.2.1 h3
    · exact this.2.2 h3
  have hbase : baseN (digB 10 x) = 10 := by
    unfold baseN
    rw [if_neg (by rw [hp]; simp), if_neg]
    rintro ⟨h1, h2⟩
    by_cases h0 : 0 < x
    · exact digB_first hb x h0 h2
    · obtain rfl : x = 0 := by omega
      rw [digB_small (by decide)] at h1; simp at h1
  have hbody : bodyL (digB 10 x) = digB 10 x := by unfold bodyL; rw [if_neg (by rw [hp]; simp)]
  have ho : numO (digB 10 x) = true := by
    unfold numO
    rw [hbase, hbody, show onlyB 10 (digB 10 x) = true from digB_only hb x, decide_eq_true (show 0 < (digB 10 x).length by omega)]; simp
  refine ⟨ho, ?_, fun q hq => (hs q hq).1, hl, by have := digB_100 hb x hx; omega⟩
  · unfold numV; rw [if_pos ho, hbase, hbody]; exact digB_val hb x
/-- Texts with dots between. -/
def joinD : List (List UInt8) → List UInt8
  | [] => []
  | [p] => p
  | p :: q :: ps => p ++ 46 :: joinD (q :: ps)
theorem joinD_cons (p : List UInt8) {ps : List (List UInt8)} (h : ps ≠ []) : joinD (p :: ps) = p ++ 46 :: joinD ps := by
  cases ps with
  | nil => exact absurd rfl h
  | cons q ps => rfl
theorem splitB_joinD : ∀ (ps : List (List UInt8)), ps ≠ [] → (∀ p ∈ ps, ∀ q, q < p.length → byt p q ≠ 46) → splitB 46 (joinD ps) = ps := by
  intro ps
  induction ps with
  | nil => intro h; exact absurd rfl h
  | cons p ps ih =>
    intro _ hd
    have he : splitB 46 p = [p] := splitB_end 46 p (hd p List.mem_cons_self)
    by_cases h : ps = []
    · subst h; exact he
    · rw [joinD_cons p h, splitB_joins 46 46 rfl, he, ih h (fun q hq => hd q (List.mem_cons_of_mem _ hq))]; rfl
theorem joinD_snoc : ∀ (ps : List (List UInt8)) (p : List UInt8), ps ≠ [] → joinD (ps ++ [p]) = joinD ps ++ 46 :: p := by
  intro ps
  induction ps with
  | nil => intro p h; exact absurd rfl h
  | cons a ps ih =>
    intro p _
    by_cases h : ps = []
    · subst h; rfl
    · rw [List.cons_append, joinD_cons a (by simp), joinD_cons a h, ih p h]; simp
/-- The parts of a text that ends with a part that is not empty, with a dot behind it or none. -/
theorem parts_of (ps : List (List UInt8)) (p : List UInt8) (dot : Bool) (hp : ∀ r ∈ ps ++ [p], ∀ q, q < r.length → byt r q ≠ 46) (hl : 1 ≤ p.length) :
    splitB 46 (trimL (joinD (ps ++ [p]) ++ if dot then [46] else [])) = ps ++ [p] := by
  have hs := splitB_joinD (ps ++ [p]) (by simp) hp
  have ht : trimL (joinD (ps ++ [p]) ++ if dot then [46] else []) = joinD (ps ++ [p]) := by
    cases dot with
    | true =>
      generalize joinD (ps ++ [p]) = s
      unfold trimL
      have e : byt (s ++ [46]) (s.length + 0) = 46 := by rw [byt_appR]; rfl
      show (if 0 < (s ++ [46]).length ∧ byt (s ++ [46]) ((s ++ [46]).length - 1) = 46 then (s ++ [46]).take ((s ++ [46]).length - 1) else s ++ [46]) = s
      have e2 : (s ++ [(46 : UInt8)]).length - 1 = s.length := by simp
      rw [if_pos ⟨by simp, by rw [e2]; exact e⟩, e2]
      simp
    | false =>
      have hj : ∃ r, joinD (ps ++ [p]) = r ++ p := by
        by_cases h : ps = []
        · subst h; exact ⟨[], rfl⟩
        · exact ⟨joinD ps ++ [46], by rw [joinD_snoc ps p h]; simp⟩
      obtain ⟨r, hr⟩ := hj
      rw [hr]
      have hlast := hp p (by simp) (p.length - 1) (by omega)
      unfold trimL
      rw [if_neg]
      · simp
      · rintro ⟨_, h2⟩
        have e : byt (r ++ p) ((r ++ p).length - 1) = byt p (p.length - 1) := by
          rw [show (r ++ p).length - 1 = r.length + (p.length - 1) by simp; omega]
          exact byt_appR _ _ _
        apply hlast
        rw [← e]
        simpa using h2
  rw [ht, hs]
/-- What Show tells is read as it was. -/
theorem show_join (n : Nat) : showL n = joinD ([digB 10 (q0 n), digB 10 (q1 n), digB 10 (q2 n)] ++ [digB 10 (q3 n)]) := by
  unfold showL
  rw [digB_dec, digB_dec, digB_dec, digB_dec]
  show _ = digB 10 (q0 n) ++ 46 :: (digB 10 (q1 n) ++ 46 :: (digB 10 (q2 n) ++ 46 :: digB 10 (q3 n)))
  simp
theorem show_parts (n : Nat) (hn : n < 4294967296) : splitB 46 (trimL (showL n)) = [digB 10 (q0 n), digB 10 (q1 n), digB 10 (q2 n), digB 10 (q3 n)] := by
  have a0 := numT_dec (q0 n) (by unfold q0; omega)
  have a1 := numT_dec (q1 n) (by unfold q1; omega)
  have a2 := numT_dec (q2 n) (by unfold q2; omega)
  have a3 := numT_dec (q3 n) (by unfold q3; omega)
  have := parts_of [digB 10 (q0 n), digB 10 (q1 n), digB 10 (q2 n)] (digB 10 (q3 n)) false (by
    intro r hr
    simp at hr
    rcases hr with rfl | rfl | rfl | rfl
    · exact a0.d
    · exact a1.d
    · exact a2.d
    · exact a3.d) a3.l
  rw [← show_join] at this
  simpa using this
theorem show_reads (n : Nat) (hn : n < 4294967296) : parseL (splitB 46 (trimL (showL n))) 4 0 = ((n : Int), true) := by
  have a0 := numT_dec (q0 n) (by unfold q0; omega)
  have a1 := numT_dec (q1 n) (by unfold q1; omega)
  have a2 := numT_dec (q2 n) (by unfold q2; omega)
  have a3 := numT_dec (q3 n) (by unfold q3; omega)
  have hs := show_parts n hn
  rw [hs, parse_on a0.o (by simp), if_neg (by rw [a0.v]; unfold q0; omega), parse_on a1.o (by simp), if_neg (by rw [a1.v]; unfold q1; omega), parse_on a2.o (by simp), if_neg (by rw [a2.v]; unfold q2; omega),
    parse_end a3.o, if_neg (by rw [a3.v]; unfold q3; simp; omega), a0.v, a1.v, a2.v, a3.v]
  congr 1
  unfold q0 q1 q2 q3
  simp; omega
end Go.Proofs.YtklgahppjdgkmaaDoor
