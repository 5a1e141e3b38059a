import Derived.Test.YtaklcjnfjchebaaProg
import Derived.ProofKit
import Derived.Test.YtaklcjnfjchebaaSt96
import Derived.Test.YtaklcjnfjchebaaSt97
import Derived.Test.YtaklcjnfjchebaaSt910
import Derived.Test.YtaklcjnfjchebaaSt911
set_option linter.unusedVariables false
set_option linter.unusedSimpArgs false
set_option maxRecDepth 100000
set_option maxHeartbeats 4000000
namespace Go.Proofs.Ytaklcjnfjchebaa
open Go Go.Proofs Go.RowKit Go.Vc Go.Proofs.Jv Go.Maps
theorem sl_is8 {F : Nat → Nat → Option Value} {w : World} {nl : Bool} {l : List UInt8} {v : Value} (hF : Fits F w) (h : Sl (bareG F) w nl 0 1 (BRow.bytes l).vals v) : Is8 w v l := by
  rcases h with ⟨he, a, rfl, -, -⟩ | ⟨-, b, o, cap, rfl, ⟨hc1, hc2⟩, hat⟩
  · have : l = [] := by simpa [BRow.vals] using he
    subst this
    exact ⟨a, 0, rfl, Nat.le_refl _, Nat.zero_le _, (fun _ => rfl), fun h => absurd h (by decide)⟩
  · have hl : (BRow.bytes l).vals.length = l.length := by simp [BRow.vals]
    rw [hl] at hc1
    refine ⟨_, cap, by rw [hl], hc1, hc2, (fun h => by cases h), fun _ => ⟨b, o, rfl, fun i hi => ?_⟩⟩
    rcases hat with ⟨-, hat⟩ | ⟨h, -⟩
    · refine hF b (o + i) _ (hat i _ ?_)
      rw [flat_vals (vals_flat _)]
      simp only [BRow.vals, List.getElem?_map]
      rw [List.getElem?_eq_getElem hi]
      unfold u8At byt
      rw [List.getD_eq_getElem?_getD, List.getElem?_eq_getElem hi]
      rfl
    · exact absurd rfl h
theorem len0 {α : Type} (l : List α) : decide (Int.ofNat l.length = (0 : Int)) = l.isEmpty := by
  cases l with
  | nil => rfl
  | cons a l => exact decide_eq_false (by simp only [List.length_cons, Int.ofNat_eq_natCast]; omega)
theorem lenZ0 {α : Type} (l : List α) : decide (lenZ l = (0 : Int)) = l.isEmpty := len0 l
theorem nil0 (l : Bs) : decide (l = []) = l.isEmpty := by cases l <;> simp
theorem cond_and (a b : Bool) : (bif a then b else false) = (a && b) := by cases a <;> rfl
theorem pvs_emp (l : List JV) : (JV.pvs l).isEmpty = l.isEmpty := by cases l <;> rfl
theorem key_le : ∀ {ks : List Bs} {s : Bs}, s ∈ ks → s.length ≤ (ks.map fun k => 1 + k.length).sum
  | k :: ks, s, h => by
    rw [List.map_cons, List.sum_cons]
    rcases List.mem_cons.1 h with e | h
    · subst e; omega
    · have := key_le h; omega
theorem keys_le : ∀ ks : List Bs, ks.length ≤ (ks.map fun k => 1 + k.length).sum
  | [] => Nat.le_refl _
  | k :: ks => by
    have := keys_le ks
    rw [List.map_cons, List.sum_cons, List.length_cons]; omega
theorem sizeJs_memL : ∀ {l : List JV} {x : JV}, x ∈ l → sizeJ x ≤ sizeJs l
  | y :: l, x, h => by
    rw [sizeJs]
    rcases List.mem_cons.1 h with e | h
    · subst e; omega
    · have := sizeJs_memL h; omega
theorem mayJs_drop {num val : Bs → Bool} {l : List JV} {i d : Nat} (h : i < l.length) : mayJs num val (l.drop i) d = (mayJ num val l[i] d && mayJs num val (l.drop (i + 1)) d) := by rw [List.drop_eq_getElem_cons h, mayJs]
theorem any_contains (L : List Bs) (x : Bs) : (L.map Lit.string).any (fun y => y.sameKey (.string x)) = L.contains x := by
  induction L with
  | nil => rfl
  | cons y L ih =>
    rw [List.map_cons, List.any_cons, ih, List.contains_cons]
    congr 1
    by_cases e : y = x
    · subst e; simp [WideAt.sameKey_self (show WideAt.IsKeyLit (.string y) from trivial)]
    · rw [sameKey_ne (fun h => e (by injection h))]
      simpa using fun h => e h.symm
theorem fold_le : ∀ (ks L : List Bs), ((ks.map Lit.string).foldl addKey (L.map Lit.string)).length ≤ L.length + ks.length
  | [], L => by simp
  | k :: ks, L => by
    rw [List.map_cons, List.foldl_cons]
    unfold addKey
    rw [any_contains]
    cases h : L.contains k
    · have := fold_le ks (L ++ [k])
      simp only [List.map_append, List.map_cons, List.map_nil, List.length_append, List.length_cons, List.length_nil] at this ⊢
      simp only [Bool.false_eq_true, if_false]
      unfold addKey at this
      omega
    · have := fold_le ks L
      simp only [if_true, List.length_cons]
      unfold addKey at this
      omega
theorem all_app : ∀ (ks L : List Bs) (k : Bs), (ks.all fun x => !(L ++ [k]).contains x) = ((!ks.contains k) && ks.all fun x => !L.contains x)
  | [], L, k => rfl
  | y :: ks, L, k => by
    rw [List.all_cons, List.all_cons, all_app ks L k, List.contains_cons]
    have : (L ++ [k]).contains y = (L.contains y || (k == y)) := by
      rw [List.contains_eq_any_beq, List.contains_eq_any_beq, List.any_append, List.any_cons, List.any_nil, Bool.or_false, BEq.comm (a := y)]
    rw [this]
    cases L.contains y <;> cases (k == y) <;> cases ks.contains k <;> simp
theorem fold_eq : ∀ (ks L : List Bs), decide (((ks.map Lit.string).foldl addKey (L.map Lit.string)).length = L.length + ks.length) = (nodupJ ks && ks.all fun k => !L.contains k)
  | [], L => by simp [nodupJ]
  | k :: ks, L => by
    have h0 := fold_le ks L
    have h1 := fold_eq ks (L ++ [k])
    rw [List.map_cons, List.foldl_cons]
    have e : addKey (L.map Lit.string) (.string k) = if L.contains k then L.map Lit.string else (L ++ [k]).map Lit.string := by
      unfold addKey
      rw [any_contains, List.map_append]
      rfl
    rw [e]
    cases h : L.contains k
    · simp only [Bool.false_eq_true, if_false, List.length_cons]
      rw [show L.length + (ks.length + 1) = (L ++ [k]).length + ks.length by simp; omega, h1, nodupJ, List.all_cons, h]
      rw [all_app ks L k]
      simp only [Bool.not_false, Bool.true_and]
      cases nodupJ ks <;> cases ks.contains k <;> rfl
    · simp only [if_true, List.length_cons]
      rw [decide_eq_false (by omega), List.all_cons, h]
      simp
theorem nodup_size (ks : List Bs) : decide (Maps.size (Sk (H := Unit) ks ks.length) = ks.length) = nodupJ ks := by
  unfold Sk keysK
  rw [List.take_length, size_setOf _ _ (fun x hx => by obtain ⟨y, -, rfl⟩ := List.mem_map.1 hx; trivial)]
  have h := fold_eq ks []
  simp only [List.map_nil, List.length_nil, Nat.zero_add] at h
  rw [h, show (ks.all fun k => !([] : List Bs).contains k) = true from List.all_eq_true.2 fun _ _ => rfl, Bool.and_true]
theorem ok_uvalid (nl : Bool) (l : Bs) : FuncOk Try.prog noT 29 [.row nl (.bytes l) 0] ⟨l.length ≤ 1000000, .bool (validL l)⟩ :=
  FuncOk.of_calls Try.func29 (by kernel_rfl) rfl fun hl F w vs hF _ hw hx => by
    obtain ⟨v, _, rfl, r1, rfl⟩ := hx
    exact ⟨_, (valid_any v l w (sl_is8 hF r1) hl).mono fun e w' ⟨he, n, hn⟩ => ⟨he, hn ▸ ext_drew w n⟩, fun G w => rfl⟩
def ent_uvalid : List PV → Option CallR := fun xs => match xs with | [.row nl (.bytes l) 0] => some ⟨l.length ≤ 1000000, .bool (validL l)⟩ | _ => none
theorem ent_uvalid_ok : ∀ xs c, ent_uvalid xs = some c → FuncOk Try.prog noT 29 xs c := fun xs c h => by
  unfold ent_uvalid at h
  split at h
  · injection h with h; subst h; exact ok_uvalid _ _
  · cases h
theorem ok_isnum (l : Bs) : FuncOk Try.prog noT 28 [.str l] ⟨l.length ≤ 1000000, .bool (isNumM l)⟩ :=
  FuncOk.of_calls Try.func28 (by kernel_rfl) rfl fun hl F w vs hF _ hw hx => by
    obtain ⟨_, _, rfl, r1, rfl⟩ := hx
    obtain rfl := r1
    exact ⟨_, isNum_any l w hl, fun G w => rfl⟩
def ent_isnum : List PV → Option CallR := fun xs => match xs with | [.str l] => some ⟨l.length ≤ 1000000, .bool (isNumM l)⟩ | _ => none
theorem ent_isnum_ok : ∀ xs c, ent_isnum xs = some c → FuncOk Try.prog noT 28 xs c := fun xs c h => by
  unfold ent_isnum at h
  split at h
  · injection h with h; subst h; exact ok_isnum _
  · cases h
theorem ok_mkeys (nk : Bool) (ks : List Bs) : FuncOk Try.prog noT 31 [.row nk (.strs ks) 0] ⟨ks.length ≤ 1000000 ∧ ∀ s ∈ ks, s.length ≤ 1000000, .bool (ks.all validL && nodupJ ks)⟩ :=
  FuncOk.of_calls Try.func31 (by kernel_rfl) rfl fun ⟨hl, hk⟩ F w vs hF _ hw hx => by
    obtain ⟨v, _, rfl, r1, rfl⟩ := hx
    refine ⟨.bool (ks.all validL && nodupJ ks), ?_, fun G w => rfl⟩
    have r1 : Sl (bareG F) w nk 0 1 (BRow.strs ks).vals v := r1
    rcases r1 with ⟨he, a, rfl, -, -⟩ | ⟨-, b, o, cap, rfl, ⟨hc1, hc2⟩, hat⟩
    · have : ks = [] := by simpa [BRow.vals] using he
      subst this
      exact mayKeys_none a 0 w
    · have hl : (BRow.strs ks).vals.length = ks.length := by simp [BRow.vals]
      rw [hl]
      rcases hat with ⟨-, hat⟩ | ⟨h, -⟩
      · have hc : ∀ j, j < ks.length → w.cell? ⟨b, o + j, none⟩ = some (.string ⟨(ks.getD j []).toArray⟩) := fun j hj => by
          refine hF b (o + j) _ (hat j _ ?_)
          rw [flat_vals (vals_flat _)]
          simp only [BRow.vals, List.getElem?_map]
          rw [List.getElem?_eq_getElem hj, List.getD_eq_getElem?_getD, List.getElem?_eq_getElem hj]
          rfl
        by_cases h0 : ks.length = 0
        · have : ks = [] := List.eq_nil_of_length_eq_zero h0
          subst this
          exact mayKeys_none _ cap w
        · rw [← nodup_size]
          exact mayKeys_any b o cap ks w (by assumption) (World.block_lt_of_cell? w _ (hc 0 (by omega))) hc hk
      · exact absurd rfl h
def ent_mkeys : List PV → Option CallR := fun xs => match xs with | [.row nk (.strs ks) 0] => some ⟨ks.length ≤ 1000000 ∧ ∀ s ∈ ks, s.length ≤ 1000000, .bool (ks.all validL && nodupJ ks)⟩ | _ => none
theorem ent_mkeys_ok : ∀ xs c, ent_mkeys xs = some c → FuncOk Try.prog noT 31 xs c := fun xs c h => by
  unfold ent_mkeys at h
  split at h
  · injection h with h; subst h; exact ok_mkeys _ _
  · cases h
end Go.Proofs.Ytaklcjnfjchebaa
namespace Go.Proofs.Ytaklcjnfjchebaa
open Go Go.Proofs Go.RowKit Go.Vc
open Go.Proofs.Jv
section
def X_bare : Tbl := tblX []
def H_bare (kd : Int) (bv : Bool) (sv : Bs) (nk : Bool) (ks : List Bs) (nl : Bool) (ls : List PV) : Loops := fun i => none
theorem X_bare_ok : XOk Try.prog noT X_bare := tblX_nil
theorem vc_bare (kd : Int) (bv : Bool) (sv : Bs) (nk : Bool) (ks : List Bs) (nl : Bool) (ls : List PV) (k : PV → Prop) : evF Try.prog X_bare noT (H_bare kd bv sv nk ks nl ls) 1000 Try.f27 [.agg [.int .i64 kd, .bool bv, .str sv, .row nk (.strs ks) 0, .vec nl 5 ls 0]] k = (
  k (PV.bool (bif decide (Int.ofNat ks.length = (0 : Int)) then decide (lenZ ls = (0 : Int)) else false))) := by kernel_rfl
attribute [local irreducible] Go.Vc.evF
theorem ok_bare (kd : Int) (bv : Bool) (sv : Bs) (nk : Bool) (ks : List Bs) (nl : Bool) (ls : List PV) : FuncOk Try.prog noT 27 [.agg [.int .i64 kd, .bool bv, .str sv, .row nk (.strs ks) 0, .vec nl 5 ls 0]] ⟨True, .bool (ks.isEmpty && ls.isEmpty)⟩ := evF_ok (by kernel_rfl) X_bare_ok (H := H_bare kd bv sv nk ks nl ls) (fuel := 1000) Try.func27 (by kernel_rfl) fun hpre => (vc_bare kd bv sv nk ks nl ls _).mpr (by
  show PV.bool _ = PV.bool _
  congr 1
  rw [len0, lenZ0, cond_and])
def ent_bare : List PV → Option CallR := fun xs => match xs with
  | [.agg [.int .i64 kd, .bool bv, .str sv, .row nk (.strs ks) 0, .vec nl 5 ls 0]] => some ⟨True, .bool (ks.isEmpty && ls.isEmpty)⟩
  | _ => none
theorem ent_bare_ok : ∀ xs c, ent_bare xs = some c → FuncOk Try.prog noT 27 xs c := fun xs c h => by
  unfold ent_bare at h
  split at h
  · injection h with h; subst h; exact ok_bare _ _ _ _ _ _ _
  · cases h
end
section
def ent_may (dn : Nat) : List PV → Option CallR := fun xs => match xs with
  | [.agg [.int .i64 kd, .bool bv, .str sv, .row nk (.strs ks) 0, .vec nl 5 ls 0], .int .i64 d] => some ⟨isJs ls ∧ okJ (dn) (.mk kd bv sv nk ks nl (jdecs ls)) ∧ sizeJ (.mk kd bv sv nk ks nl (jdecs ls)) ≤ 600000 ∧ 0 ≤ d ∧ d ≤ 128, .bool (mayJ isNumM validL (.mk kd bv sv nk ks nl (jdecs ls)) d.toNat)⟩
  | _ => none
def X_mayall (m : Nat) : Tbl := tblX [(20, ent_may m)]
def H_mayall (m : Nat) (nl : Bool) (ls : List PV) (d : Int) : Loops := fun i => bif Nat.beq i 4 then some ⟨(Int), (fun s x => ((((s.put 10 (.int .i64 x)).put 5 .undef).put 11 .undef).put 20 .undef)), (fun s => s.int 10), (fun s x => let i := x; 0 ≤ i ∧ i ≤ ls.length ∧ mayJs isNumM validL ((jdecs ls).drop i.toNat) (d.toNat - 1) = mayJs isNumM validL (jdecs ls) (d.toNat - 1)), (fun s x => let i := x; ((ls.length : Int) - i).toNat), [5, 11, 20]⟩ else none
theorem X_mayall_ok (m : Nat) (h_may : ∀ xs c, ent_may m xs = some c → FuncOk Try.prog noT 20 xs c) : XOk Try.prog noT (X_mayall m) := tblX_cons h_may (tblX_nil)
theorem vc_mayall (m : Nat) (nl : Bool) (ls : List PV) (d : Int) (k : PV → Prop) : evF Try.prog (X_mayall m) noT (H_mayall m nl ls d) 1000 Try.f30 [.vec nl 5 ls 0, .int .i64 d] k = (
  (decide (d = (0 : Int)) = true → k (PV.bool false)) ∧
 (decide (d = (0 : Int)) = false →
 VS.mk []
 [(0, PV.vec nl (5 : Nat) ls (0 : Nat)), (1, PV.int .i64 d), (4, PV.bool false),
 ((5 : Nat), PV.undef), (7, PV.bool (decide (d = (0 : Int)))), (9, PV.int .i64 (lenZ ls)),
 (10, PV.int .i64 (0 : Int)), ((11 : Nat), PV.undef), ((20 : Nat), PV.undef)]
 [] =
 VS.mk []
 [(0, PV.vec nl (5 : Nat) ls (0 : Nat)), (1, PV.int .i64 d), (4, PV.bool false),
 ((5 : Nat), PV.undef), (7, PV.bool (decide (d = (0 : Int)))), (9, PV.int .i64 (lenZ ls)),
 ((10 : Nat), PV.int .i64 (0 : Int)), ((11 : Nat), PV.undef), ((20 : Nat), PV.undef)]
 [] ∧
 ((0 : Int) ≤ (0 : Int) ∧
 (0 : Int) ≤ ↑ls.length ∧
 mayJs isNumM validL (List.drop (Int.toNat (0 : Int)) (jdecs ls))
 (d.toNat - (1 : Nat)) =
 mayJs isNumM validL (jdecs ls) (d.toNat - (1 : Nat))) ∧
 ∀ (x : Int),
 (0 : Int) ≤ x ∧
 x ≤ ↑ls.length ∧
 mayJs isNumM validL (List.drop x.toNat (jdecs ls))
 (d.toNat - (1 : Nat)) =
 mayJs isNumM validL (jdecs ls) (d.toNat - (1 : Nat)) →
 (decide (x < lenZ ls) = true →
 within x (lenZ ls) ∧
 eltV ls x =
 PV.agg
 [PV.int .i64 ((eltV ls x).part (0 : Nat)).asInt,
 PV.bool ((eltV ls x).part (1 : Nat)).asBool,
 PV.str ((eltV ls x).part (2 : Nat)).asStr,
 PV.row
 ((eltV ls x).part (3 : Nat)).asNil
 (BRow.strs
 ((eltV ls x).part
 (3 : Nat)).asStrs)
 (0 : Nat),
 PV.vec
 ((eltV ls x).part
 (4 : Nat)).asNil
 (nat_lit 5)
 ((eltV ls x).part
 (4 : Nat)).asVec
 (0 : Nat)] ∧
 inI64 (d - (1 : Int)) ∧
 (isJs
 ((eltV ls x).part
 (4 : Nat)).asVec ∧
 okJ m
 (JV.mk ((eltV ls x).part (0 : Nat)).asInt
 ((eltV ls x).part (1 : Nat)).asBool
 ((eltV ls x).part (2 : Nat)).asStr
 ((eltV ls x).part
 (3 : Nat)).asNil
 ((eltV ls x).part
 (3 : Nat)).asStrs
 ((eltV ls x).part
 (4 : Nat)).asNil
 (jdecs
 ((eltV ls x).part
 (4 : Nat)).asVec)) ∧
 sizeJ
 (JV.mk ((eltV ls x).part (0 : Nat)).asInt
 ((eltV ls x).part (1 : Nat)).asBool
 ((eltV ls x).part (2 : Nat)).asStr
 ((eltV ls x).part
 (3 : Nat)).asNil
 ((eltV ls x).part
 (3 : Nat)).asStrs
 ((eltV ls x).part
 (4 : Nat)).asNil
 (jdecs
 ((eltV ls x).part
 (4 : Nat)).asVec)) ≤
 (600000 : Nat) ∧
 (0 : Int) ≤ d - (1 : Int) ∧ d - (1 : Int) ≤ (128 : Int)) ∧
 ((!mayJ isNumM validL
 (JV.mk ((eltV ls x).part (0 : Nat)).asInt
 ((eltV ls x).part (1 : Nat)).asBool
 ((eltV ls x).part (2 : Nat)).asStr
 ((eltV ls x).part
 (3 : Nat)).asNil
 ((eltV ls x).part
 (3 : Nat)).asStrs
 ((eltV ls x).part
 (4 : Nat)).asNil
 (jdecs
 ((eltV ls x).part
 (4 : Nat)).asVec))
 (d - (1 : Int)).toNat) =
 true →
 k (PV.bool false)) ∧
 ((!mayJ isNumM validL
 (JV.mk ((eltV ls x).part (0 : Nat)).asInt
 ((eltV ls x).part (1 : Nat)).asBool
 ((eltV ls x).part (2 : Nat)).asStr
 ((eltV ls x).part
 (3 : Nat)).asNil
 ((eltV ls x).part
 (3 : Nat)).asStrs
 ((eltV ls x).part
 (4 : Nat)).asNil
 (jdecs
 ((eltV ls x).part
 (4 : Nat)).asVec))
 (d - (1 : Int)).toNat) =
 false →
 inI64 (x + (1 : Int)) ∧
 VS.mk []
 [(0, PV.vec nl (5 : Nat) ls (0 : Nat)), (1, PV.int .i64 d),
 (4, PV.bool false), ((5 : Nat), PV.undef), (7, PV.bool (decide (d = (0 : Int)))),
 (9, PV.int .i64 (lenZ ls)), ((10 : Nat), PV.int .i64 (x + (1 : Int))),
 ((11 : Nat), PV.undef), ((20 : Nat), PV.undef)]
 [] =
 VS.mk []
 [(0, PV.vec nl (5 : Nat) ls (0 : Nat)), (1, PV.int .i64 d),
 (4, PV.bool false), ((5 : Nat), PV.undef), (7, PV.bool (decide (d = (0 : Int)))),
 (9, PV.int .i64 (lenZ ls)), ((10 : Nat), PV.int .i64 (x + (1 : Int))),
 ((11 : Nat), PV.undef), ((20 : Nat), PV.undef)]
 [] ∧
 ((0 : Int) ≤ x + (1 : Int) ∧
 x + (1 : Int) ≤ ↑ls.length ∧
 mayJs isNumM validL
 (List.drop (x + (1 : Int)).toNat (jdecs ls)) (d.toNat - (1 : Nat)) =
 mayJs isNumM validL (jdecs ls)
 (d.toNat - (1 : Nat))) ∧
 (↑ls.length - (x + (1 : Int))).toNat < (↑ls.length - x).toNat)) ∧
 (decide (x < lenZ ls) = false → k (PV.bool true)))) := by kernel_rfl
attribute [local irreducible] Go.Vc.evF
theorem ok_mayall (m : Nat) (h_may : ∀ xs c, ent_may m xs = some c → FuncOk Try.prog noT 20 xs c) (nl : Bool) (ls : List PV) (d : Int) : FuncOk Try.prog noT 30 [.vec nl 5 ls 0, .int .i64 d] ⟨isJs ls ∧ (∀ y ∈ jdecs ls, okJ m y) ∧ ls.length ≤ bigJ ∧ sizeJs (jdecs ls) ≤ 600000 ∧ 0 ≤ d ∧ d ≤ 128, .bool (decide (0 < d.toNat) && mayJs isNumM validL (jdecs ls) (d.toNat - 1))⟩ := evF_ok (by kernel_rfl) (X_mayall_ok m h_may) (H := H_mayall m nl ls d) (fuel := 1000) Try.func30 (by kernel_rfl) fun hpre => (vc_mayall m nl ls d _).mpr (by
  obtain ⟨⟨js, rfl⟩, hj, hls, hsz, hd0, hd1⟩ := hpre
  rw [jdecs_pvs] at hj hsz
  rw [pvs_length] at hls
  have hml : bigJ = 140737488355328 := rfl
  simp only [jdecs_pvs, pvs_lenZ, pvs_length]
  refine ⟨fun h => ?_, fun h => ?_⟩
  · have h := of_decide_eq_true h
    subst h
    rfl
  have h := of_decide_eq_false h
  refine ⟨trivial, ⟨by omega, by omega, rfl⟩, fun x hx => ?_⟩
  obtain ⟨h0, h1, h2⟩ := hx
  obtain ⟨n, rfl⟩ := Int.eq_ofNat_of_zero_le h0
  rw [Int.toNat_natCast] at h2
  refine ⟨fun g => ?_, fun g => ?_⟩
  · have g1 : n < js.length := by have := of_decide_eq_true g; omega
    have y1 := hj _ (List.getElem_mem g1)
    have z1 := sizeJs_memL (List.getElem_mem g1)
    have ed : (d - 1).toNat = d.toNat - 1 := by omega
    simp only [elt_jv g1, jp0, jp1, jp2, jp3, jp3', jp4, jp4', jdecs_pvs, JV.eta', ed]
    refine ⟨⟨by omega, by omega⟩, JV.pv_eq _, by unfold inI64; omega, ⟨isJs_of _, y1, by omega, by omega, by omega⟩, fun f => ?_, fun f => ?_⟩
    · show PV.bool _ = PV.bool _
      have f : mayJ isNumM validL js[n] (d.toNat - 1) = false := by simpa using f
      rw [← h2, mayJs_drop g1, f]; simp
    · refine ⟨by unfold inI64; omega, trivial, ⟨by omega, by omega, ?_⟩, by omega⟩
      have f : mayJ isNumM validL js[n] (d.toNat - 1) = true := by simpa using f
      rw [show ((n : Int) + 1).toNat = n + 1 by omega, ← h2, mayJs_drop g1, f]; rfl
  · have : ¬ (n : Int) < js.length := of_decide_eq_false g
    show PV.bool _ = PV.bool _
    rw [← h2, List.drop_of_length_le (by omega), mayJs, decide_eq_true (show 0 < d.toNat by omega)]; rfl)
def ent_mayall (dn : Nat) : List PV → Option CallR := fun xs => match xs with
  | [.vec nl 5 ls 0, .int .i64 d] => some ⟨isJs ls ∧ (∀ y ∈ jdecs ls, okJ dn y) ∧ ls.length ≤ bigJ ∧ sizeJs (jdecs ls) ≤ 600000 ∧ 0 ≤ d ∧ d ≤ 128, .bool (decide (0 < d.toNat) && mayJs isNumM validL (jdecs ls) (d.toNat - 1))⟩
  | _ => none
theorem ent_mayall_ok (m : Nat) (h_may : ∀ xs c, ent_may m xs = some c → FuncOk Try.prog noT 20 xs c) : ∀ xs c, ent_mayall m xs = some c → FuncOk Try.prog noT 30 xs c := fun xs c h => by
  unfold ent_mayall at h
  split at h
  · injection h with h; subst h; exact ok_mayall m h_may _ _ _
  · cases h
end
section
def X_may (m : Nat) : Tbl := tblX [(28, ent_isnum), (29, ent_uvalid), (27, ent_bare), (31, ent_mkeys), (30, ent_mayall m)]
def H_may (m : Nat) (kd : Int) (bv : Bool) (sv : Bs) (nk : Bool) (ks : List Bs) (nl : Bool) (ls : List PV) (d : Int) : Loops := fun i => none
theorem X_may_ok (m : Nat) (ih : ∀ xs c, ent_may m xs = some c → FuncOk Try.prog noT 20 xs c) : XOk Try.prog noT (X_may m) := tblX_cons ent_isnum_ok (tblX_cons ent_uvalid_ok (tblX_cons ent_bare_ok (tblX_cons ent_mkeys_ok (tblX_cons (ent_mayall_ok m ih) (tblX_nil)))))
theorem vc_may (m : Nat) (kd : Int) (bv : Bool) (sv : Bs) (nk : Bool) (ks : List Bs) (nl : Bool) (ls : List PV) (d : Int) (k : PV → Prop) : evF Try.prog (X_may m) noT (H_may m kd bv sv nk ks nl ls d) 1000 Try.f20 [.agg [.int .i64 kd, .bool bv, .str sv, .row nk (.strs ks) 0, .vec nl 5 ls 0], .int .i64 d] k = (
  (decide (kd = (0 : Int)) = true →
 ((bif !bv then decide (sv = (ByteArray.mk #[]).data.toList) else false) = true → True) ∧
 k (PV.bool (bif bif !bv then decide (sv = (ByteArray.mk #[]).data.toList) else false then ks.isEmpty && ls.isEmpty else false))) ∧
 (decide (kd = (0 : Int)) = false →
 (decide (kd = (1 : Int)) = true →
 (decide (sv = (ByteArray.mk #[]).data.toList) = true → True) ∧
 k (PV.bool (bif decide (sv = (ByteArray.mk #[]).data.toList) then ks.isEmpty && ls.isEmpty else false))) ∧
 (decide (kd = (1 : Int)) = false →
 (decide (kd = (2 : Int)) = true →
 ((!bv) = true → (List.length sv).le (1000000 : Nat)) ∧
 ((bif !bv then isNumM sv else false) = true → True) ∧
 k (PV.bool (bif bif !bv then isNumM sv else false then ks.isEmpty && ls.isEmpty else false))) ∧
 (decide (kd = (2 : Int)) = false →
 (decide (kd = (3 : Int)) = true →
 ((!bv) = true → List.length sv ≤ Go.Vc.maxLen) ∧
 ((!bv) = true → (List.length sv).le (1000000 : Nat)) ∧
 ((bif !bv then validL sv else false) = true → True) ∧
 k (PV.bool (bif bif !bv then validL sv else false then ks.isEmpty && ls.isEmpty else false))) ∧
 (decide (kd = (3 : Int)) = false →
 (decide (kd = (4 : Int)) = true →
 ((bif bif !bv then decide (sv = (ByteArray.mk #[]).data.toList) else false then decide (Int.ofNat ks.length = (0 : Int)) else false) =
 true →
 isJs ls ∧
 (∀ (y : JV), y ∈ jdecs ls → okJ m y) ∧
 ls.length ≤ bigJ ∧ sizeJs (jdecs ls) ≤ (600000 : Nat) ∧ (0 : Int) ≤ d ∧ d ≤ (128 : Int)) ∧
 k
 (PV.bool
 (bif
 bif bif !bv then decide (sv = (ByteArray.mk #[]).data.toList) else false then decide (Int.ofNat ks.length = (0 : Int))
 else false then
 decide ((0 : Nat) < d.toNat) &&
 mayJs isNumM validL (jdecs ls)
 (d.toNat - (1 : Nat))
 else false))) ∧
 (decide (kd = (4 : Int)) = false →
 (decide (kd = (5 : Int)) = true →
 ((bif bif !bv then decide (sv = (ByteArray.mk #[]).data.toList) else false then decide (Int.ofNat ks.length = lenZ ls)
 else false) =
 true →
 ks.length ≤ (1000000 : Nat) ∧ ∀ (s : List UInt8), s ∈ ks → s.length ≤ (1000000 : Nat)) ∧
 ((bif
 bif bif !bv then decide (sv = (ByteArray.mk #[]).data.toList) else false then decide (Int.ofNat ks.length = lenZ ls)
 else false then
 ks.all validL && nodupJ ks
 else false) =
 true →
 isJs ls ∧
 (∀ (y : JV), y ∈ jdecs ls → okJ m y) ∧
 ls.length ≤ bigJ ∧
 sizeJs (jdecs ls) ≤ (600000 : Nat) ∧ (0 : Int) ≤ d ∧ d ≤ (128 : Int)) ∧
 k
 (PV.bool
 (bif
 bif
 bif bif !bv then decide (sv = (ByteArray.mk #[]).data.toList) else false then
 decide (Int.ofNat ks.length = lenZ ls)
 else false then
 ks.all validL && nodupJ ks
 else false then
 decide ((0 : Nat) < d.toNat) &&
 mayJs isNumM validL (jdecs ls)
 (d.toNat - (1 : Nat))
 else false))) ∧
 (decide (kd = (5 : Int)) = false → k (PV.bool false)))))))) := by kernel_rfl
attribute [local irreducible] Go.Vc.evF
theorem ok_may (m : Nat) (ih : ∀ xs c, ent_may m xs = some c → FuncOk Try.prog noT 20 xs c) (kd : Int) (bv : Bool) (sv : Bs) (nk : Bool) (ks : List Bs) (nl : Bool) (ls : List PV) (d : Int) : FuncOk Try.prog noT 20 [.agg [.int .i64 kd, .bool bv, .str sv, .row nk (.strs ks) 0, .vec nl 5 ls 0], .int .i64 d] ⟨isJs ls ∧ okJ ((m + 1)) (.mk kd bv sv nk ks nl (jdecs ls)) ∧ sizeJ (.mk kd bv sv nk ks nl (jdecs ls)) ≤ 600000 ∧ 0 ≤ d ∧ d ≤ 128, .bool (mayJ isNumM validL (.mk kd bv sv nk ks nl (jdecs ls)) d.toNat)⟩ := evF_ok (by kernel_rfl) (X_may_ok m ih) (H := H_may m kd bv sv nk ks nl ls d) (fuel := 1000) Try.func20 (by kernel_rfl) fun hpre => (vc_may m kd bv sv nk ks nl ls d _).mpr (by
  obtain ⟨⟨js, rfl⟩, hok, hsz, hd0, hd1⟩ := hpre
  rw [jdecs_pvs] at hok hsz
  rw [sizeJ] at hsz
  obtain ⟨hk, hs, hks, hkl, hls, hj⟩ := hok
  simp only [JV.k, JV.s, JV.ks, JV.ls] at hk hs hks hkl hls hj
  have hml : bigJ = 140737488355328 := rfl
  have e0 : (decide (sv = (ByteArray.mk #[]).data.toList)) = sv.isEmpty := nil0 sv
  have hkn := keys_le ks
  have em : Go.Vc.maxLen = 1099511627776 := rfl
  simp only [e0, cond_and, len0, jdecs_pvs, pvs_lenZ, pvs_length, pvs_emp]
  refine ⟨fun h => ⟨by intros; trivial, ?_⟩, fun h => ?_⟩
  · show PV.bool _ = PV.bool _
    rw [mayJ, if_pos (of_decide_eq_true h)]; simp only [Bool.and_assoc]
  have h := of_decide_eq_false h
  refine ⟨fun g => ⟨by intros; trivial, ?_⟩, fun g => ?_⟩
  · show PV.bool _ = PV.bool _
    rw [mayJ, if_neg h, if_pos (of_decide_eq_true g)]; simp only [Bool.and_assoc]
  have g := of_decide_eq_false g
  refine ⟨fun f => ⟨fun _ => by show sv.length ≤ 1000000; omega, by intros; trivial, ?_⟩, fun f => ?_⟩
  · show PV.bool _ = PV.bool _
    rw [mayJ, if_neg h, if_neg g, if_pos (of_decide_eq_true f)]; simp only [Bool.and_assoc]
  have f := of_decide_eq_false f
  refine ⟨fun e => ⟨fun _ => by omega, fun _ => by show sv.length ≤ 1000000; omega, by intros; trivial, ?_⟩, fun e => ?_⟩
  · show PV.bool _ = PV.bool _
    rw [mayJ, if_neg h, if_neg g, if_neg f, if_pos (of_decide_eq_true e)]; simp only [Bool.and_assoc]
  have e := of_decide_eq_false e
  refine ⟨fun c => ⟨fun _ => ⟨isJs_of _, hj, by omega, by omega, by omega, by omega⟩, ?_⟩, fun c => ?_⟩
  · show PV.bool _ = PV.bool _
    rw [mayJ, if_neg h, if_neg g, if_neg f, if_neg e, if_pos (of_decide_eq_true c)]; simp only [Bool.and_assoc]
  have c := of_decide_eq_false c
  refine ⟨fun b => ⟨fun _ => ⟨by omega, fun s hs => by have := key_le hs; omega⟩, fun _ => ⟨isJs_of _, hj, by omega, by omega, by omega, by omega⟩, ?_⟩, fun b => ?_⟩
  · show PV.bool _ = PV.bool _
    rw [mayJ, if_neg h, if_neg g, if_neg f, if_neg e, if_neg c, if_pos (of_decide_eq_true b)]
    have el : decide (Int.ofNat ks.length = (js.length : Int)) = decide (ks.length = js.length) := by
      rw [decide_eq_decide]; simp only [Int.ofNat_eq_natCast]; omega
    simp only [el, Bool.and_assoc]
  · show PV.bool _ = PV.bool _
    rw [mayJ, if_neg h, if_neg g, if_neg f, if_neg e, if_neg c, if_neg (of_decide_eq_false b)])
theorem ent_may_ok : ∀ (n : Nat) xs c, ent_may n xs = some c → FuncOk Try.prog noT 20 xs c
  | 0, xs, c, h => by
    unfold ent_may at h
    split at h
    · injection h with h; subst h; exact .of_plain ⟨rfl, rfl⟩ fun hp => False.elim (hp.2.1)
    · cases h
  | m + 1, xs, c, h => by
    unfold ent_may at h
    split at h
    · injection h with h; subst h; exact ok_may m (ent_may_ok m) _ _ _ _ _ _ _ _
    · cases h
def entA_may : List PV → Option CallR := fun xs => match xs with
  | [.agg [.int .i64 kd, .bool bv, .str sv, .row nk (.strs ks) 0, .vec nl 5 ls 0], .int .i64 d] => some ⟨∃ dn : Nat, isJs ls ∧ okJ (dn) (.mk kd bv sv nk ks nl (jdecs ls)) ∧ sizeJ (.mk kd bv sv nk ks nl (jdecs ls)) ≤ 600000 ∧ 0 ≤ d ∧ d ≤ 128, .bool (mayJ isNumM validL (.mk kd bv sv nk ks nl (jdecs ls)) d.toNat)⟩
  | _ => none
theorem entA_may_ok : ∀ xs c, entA_may xs = some c → FuncOk Try.prog noT 20 xs c := fun xs c h => by
  unfold entA_may at h
  split at h
  · injection h with h; subst h; exact exI fun n => ent_may_ok n _ _ rfl
  · cases h
end
section
def X_gmay : Tbl := tblX [(20, entA_may)]
def H_gmay (kd : Int) (bv : Bool) (sv : Bs) (nk : Bool) (ks : List Bs) (nl : Bool) (ls : List PV) : Loops := fun i => none
theorem X_gmay_ok : XOk Try.prog noT X_gmay := tblX_cons entA_may_ok (tblX_nil)
theorem vc_gmay (kd : Int) (bv : Bool) (sv : Bs) (nk : Bool) (ks : List Bs) (nl : Bool) (ls : List PV) (k : PV → Prop) : evF Try.prog X_gmay noT (H_gmay kd bv sv nk ks nl ls) 1000 Try.f11 [.agg [.int .i64 kd, .bool bv, .str sv, .row nk (.strs ks) 0, .vec nl 5 ls 0]] k = (
  (∃ (dn : Nat),
 isJs ls ∧
 okJ dn (JV.mk kd bv sv nk ks nl (jdecs ls)) ∧
 sizeJ (JV.mk kd bv sv nk ks nl (jdecs ls)) ≤ (600000 : Nat) ∧
 (0 : Int) ≤ (128 : Int) ∧ (128 : Int) ≤ (128 : Int)) ∧
 k
 (PV.bool
 (mayJ isNumM validL (JV.mk kd bv sv nk ks nl (jdecs ls))
 (Int.toNat (128 : Int))))) := by kernel_rfl
attribute [local irreducible] Go.Vc.evF
theorem ok_gmay (kd : Int) (bv : Bool) (sv : Bs) (nk : Bool) (ks : List Bs) (nl : Bool) (ls : List PV) : FuncOk Try.prog noT 11 [.agg [.int .i64 kd, .bool bv, .str sv, .row nk (.strs ks) 0, .vec nl 5 ls 0]] ⟨isJs ls ∧ (∃ q, okJ q (.mk kd bv sv nk ks nl (jdecs ls))) ∧ sizeJ (.mk kd bv sv nk ks nl (jdecs ls)) ≤ 600000, .bool (mayJ isNumM validL (.mk kd bv sv nk ks nl (jdecs ls)) 128)⟩ := evF_ok (by kernel_rfl) X_gmay_ok (H := H_gmay kd bv sv nk ks nl ls) (fuel := 1000) Try.func11 (by kernel_rfl) fun hpre => (vc_gmay kd bv sv nk ks nl ls _).mpr (by
  obtain ⟨hjs, ⟨q, hok⟩, hsz⟩ := hpre
  exact ⟨⟨q, hjs, hok, hsz, by decide, by decide⟩, rfl⟩)
def ent_gmay : List PV → Option CallR := fun xs => match xs with
  | [.agg [.int .i64 kd, .bool bv, .str sv, .row nk (.strs ks) 0, .vec nl 5 ls 0]] => some ⟨isJs ls ∧ (∃ q, okJ q (.mk kd bv sv nk ks nl (jdecs ls))) ∧ sizeJ (.mk kd bv sv nk ks nl (jdecs ls)) ≤ 600000, .bool (mayJ isNumM validL (.mk kd bv sv nk ks nl (jdecs ls)) 128)⟩
  | _ => none
theorem ent_gmay_ok : ∀ xs c, ent_gmay xs = some c → FuncOk Try.prog noT 11 xs c := fun xs c h => by
  unfold ent_gmay at h
  split at h
  · injection h with h; subst h; exact ok_gmay _ _ _ _ _ _ _
  · cases h
end
section
theorem ok_appnil (kd : Int) (bv : Bool) (sv : Bs) (nk : Bool) (ks : List Bs) (nl : Bool) (ls : List PV) : FuncOk Try.prog noT 22 [.row true (.bytes []) 0, .agg [.int .i64 kd, .bool bv, .str sv, .row nk (.strs ks) 0, .vec nl 5 ls 0]] ⟨∃ dn : Nat, isJs ls ∧ okJ (dn) (.mk kd bv sv nk ks nl (jdecs ls)) ∧ shapeJ (.mk kd bv sv nk ks nl (jdecs ls)) = true ∧ (0 : Nat) + 7 * sizeJ (.mk kd bv sv nk ks nl (jdecs ls)) ≤ 600000, .row false (.bytes (textJ (.mk kd bv sv nk ks nl (jdecs ls)))) 1⟩ :=
  FuncOk.ofNil (xs := [.row true (.bytes []) 1, .agg [.int .i64 kd, .bool bv, .str sv, .row nk (.strs ks) 0, .vec nl 5 ls 0]]) (entA_appvalue_ok _ _ rfl) rfl rfl ⟨rfl, rfl⟩ fun F w vs hx => by
    obtain ⟨v, vs', rfl, h1, h2⟩ := hx
    refine ⟨v, vs', rfl, ?_, h2⟩
    rcases h1 with ⟨h, a, hv, hn, -⟩ | ⟨h, -⟩
    · exact .inl ⟨h, a, hv, hn, .inl (by cases a with | none => rfl | some a => cases hn)⟩
    · cases h
def ent_appnil : List PV → Option CallR := fun xs => match xs with
  | [.row true (.bytes []) 0, .agg [.int .i64 kd, .bool bv, .str sv, .row nk (.strs ks) 0, .vec nl 5 ls 0]] => some ⟨∃ dn : Nat, isJs ls ∧ okJ (dn) (.mk kd bv sv nk ks nl (jdecs ls)) ∧ shapeJ (.mk kd bv sv nk ks nl (jdecs ls)) = true ∧ (0 : Nat) + 7 * sizeJ (.mk kd bv sv nk ks nl (jdecs ls)) ≤ 600000, .row false (.bytes (textJ (.mk kd bv sv nk ks nl (jdecs ls)))) 1⟩
  | _ => none
theorem ent_appnil_ok : ∀ xs c, ent_appnil xs = some c → FuncOk Try.prog noT 22 xs c := fun xs c h => by
  unfold ent_appnil at h
  split at h
  · injection h with h; subst h; exact ok_appnil _ _ _ _ _ _ _
  · cases h
mutual
theorem shape_of_may : ∀ (x : JV) (d : Nat), mayJ isNumM validL x d = true → shapeJ x = true
  | .mk k b s nk ks nl ls, d, h => by
    rw [mayJ] at h
    rw [shapeJ, Bool.and_eq_true, Bool.and_eq_true]
    have h3 : shapeJs ls = true := by
      split at h
      · simp only [Bool.and_eq_true] at h; rw [List.isEmpty_iff.1 h.2]; rfl
      split at h
      · simp only [Bool.and_eq_true] at h; rw [List.isEmpty_iff.1 h.2]; rfl
      split at h
      · simp only [Bool.and_eq_true] at h; rw [List.isEmpty_iff.1 h.2]; rfl
      split at h
      · simp only [Bool.and_eq_true] at h; rw [List.isEmpty_iff.1 h.2]; rfl
      split at h
      · simp only [Bool.and_eq_true] at h; exact shapes_of_may ls _ h.2
      split at h
      · simp only [Bool.and_eq_true] at h; exact shapes_of_may ls _ h.2
      · cases h
    refine ⟨⟨?_, ?_⟩, h3⟩
    · by_cases e : k = 5
      · subst e
        rw [if_neg (by decide), if_neg (by decide), if_neg (by decide), if_neg (by decide), if_neg (by decide), if_pos rfl] at h
        simp only [Bool.and_eq_true, decide_eq_true_eq] at h
        have := h.1.1.1.1.2
        simp; omega
      · simp [e]
    · by_cases e : k = 2
      · subst e
        rw [if_neg (by decide), if_neg (by decide), if_pos rfl] at h
        simp only [Bool.and_eq_true] at h
        have h1 := h.1.1.2
        cases s with
        | nil => exact absurd h1 (by decide +kernel)
        | cons c s => rfl
      · simp [e]
theorem shapes_of_may : ∀ (l : List JV) (d : Nat), mayJs isNumM validL l d = true → shapeJs l = true
  | [], d, h => rfl
  | x :: l, d, h => by
    rw [mayJs, Bool.and_eq_true] at h
    rw [shapeJs, Bool.and_eq_true]
    exact ⟨shape_of_may x d h.1, shapes_of_may l d h.2⟩
end
attribute [local irreducible] Go.Vc.evF Go.Vc.evR
end
section
def X_gshow0 : Tbl := tblX [(11, ent_gmay), (22, ent_appnil)]
def H_gshow0 (kd : Int) (bv : Bool) (sv : Bs) (nk : Bool) (ks : List Bs) (nl : Bool) (ls : List PV) : Loops := fun i => none
theorem X_gshow0_ok : XOk Try.prog noT X_gshow0 := tblX_cons ent_gmay_ok (tblX_cons ent_appnil_ok (tblX_nil))
theorem vc_gshow0 (kd : Int) (bv : Bool) (sv : Bs) (nk : Bool) (ks : List Bs) (nl : Bool) (ls : List PV) (k : PV → Prop) : evF Try.prog X_gshow0 noT (H_gshow0 kd bv sv nk ks nl ls) 1000 Try.f13 [.agg [.int .i64 kd, .bool bv, .str sv, .row nk (.strs ks) 0, .vec nl 5 ls 0]] k = (
  (isJs ls ∧
 (∃ (q : Nat), okJ q (JV.mk kd bv sv nk ks nl (jdecs ls))) ∧
 sizeJ (JV.mk kd bv sv nk ks nl (jdecs ls)) ≤ (600000 : Nat)) ∧
 ((!mayJ isNumM validL (JV.mk kd bv sv nk ks nl (jdecs ls))
 (128 : Nat)) =
 true →
 k (PV.row true (BRow.bytes []) (0 : Nat))) ∧
 ((!mayJ isNumM validL (JV.mk kd bv sv nk ks nl (jdecs ls))
 (128 : Nat)) =
 false →
 (∃ (dn : Nat),
 isJs ls ∧
 okJ dn (JV.mk kd bv sv nk ks nl (jdecs ls)) ∧
 shapeJ (JV.mk kd bv sv nk ks nl (jdecs ls)) = true ∧
 (0 : Nat) + (7 : Nat) * sizeJ (JV.mk kd bv sv nk ks nl (jdecs ls)) ≤ (600000 : Nat)) ∧
 k (PV.row false (BRow.bytes (textJ (JV.mk kd bv sv nk ks nl (jdecs ls)))) (0 : Nat)))) := by kernel_rfl
attribute [local irreducible] Go.Vc.evF
theorem ok_gshow0 (kd : Int) (bv : Bool) (sv : Bs) (nk : Bool) (ks : List Bs) (nl : Bool) (ls : List PV) : FuncOk Try.prog noT 13 [.agg [.int .i64 kd, .bool bv, .str sv, .row nk (.strs ks) 0, .vec nl 5 ls 0]] ⟨isJs ls ∧ (∃ q, okJ q (.mk kd bv sv nk ks nl (jdecs ls))) ∧ sizeJ (.mk kd bv sv nk ks nl (jdecs ls)) ≤ 80000, .row (!mayJ isNumM validL (.mk kd bv sv nk ks nl (jdecs ls)) 128) (.bytes (bif mayJ isNumM validL (.mk kd bv sv nk ks nl (jdecs ls)) 128 then textJ (.mk kd bv sv nk ks nl (jdecs ls)) else [])) 0⟩ := evF_ok (by kernel_rfl) X_gshow0_ok (H := H_gshow0 kd bv sv nk ks nl ls) (fuel := 1000) Try.func13 (by kernel_rfl) fun hpre => (vc_gshow0 kd bv sv nk ks nl ls _).mpr (by
  obtain ⟨⟨js, rfl⟩, ⟨q, hok⟩, hsz⟩ := hpre
  refine ⟨⟨isJs_of _, ⟨q, hok⟩, by omega⟩, fun h => ?_, fun h => ?_⟩
  · have h : mayJ isNumM validL (.mk kd bv sv nk ks nl (jdecs (JV.pvs js))) 128 = false := by simpa using h
    show PV.row _ _ _ = PV.row _ _ _
    rw [h]; rfl
  · have h : mayJ isNumM validL (.mk kd bv sv nk ks nl (jdecs (JV.pvs js))) 128 = true := by simpa using h
    refine ⟨⟨q, isJs_of _, hok, shape_of_may _ _ h, by omega⟩, ?_⟩
    show PV.row _ _ _ = PV.row _ _ _
    rw [h]; rfl)
def ent_gshow0 : List PV → Option CallR := fun xs => match xs with
  | [.agg [.int .i64 kd, .bool bv, .str sv, .row nk (.strs ks) 0, .vec nl 5 ls 0]] => some ⟨isJs ls ∧ (∃ q, okJ q (.mk kd bv sv nk ks nl (jdecs ls))) ∧ sizeJ (.mk kd bv sv nk ks nl (jdecs ls)) ≤ 80000, .row (!mayJ isNumM validL (.mk kd bv sv nk ks nl (jdecs ls)) 128) (.bytes (bif mayJ isNumM validL (.mk kd bv sv nk ks nl (jdecs ls)) 128 then textJ (.mk kd bv sv nk ks nl (jdecs ls)) else [])) 0⟩
  | _ => none
theorem ent_gshow0_ok : ∀ xs c, ent_gshow0 xs = some c → FuncOk Try.prog noT 13 xs c := fun xs c h => by
  unfold ent_gshow0 at h
  split at h
  · injection h with h; subst h; exact ok_gshow0 _ _ _ _ _ _ _
  · cases h
end
end Go.Proofs.Ytaklcjnfjchebaa
namespace Go.Proofs.Ytaklcjnfjchebaa
open Go Go.Proofs Go.RowKit Go.Vc Go.Proofs.Jv Go.Maps
theorem ok_rvalid (nl : Bool) (l : Bs) : FuncOk Try.prog noT 33 [.row nl (.bytes l) 0] ⟨l.length ≤ 1000000, .bool (validL l)⟩ :=
  FuncOk.of_calls Try.func33 (by kernel_rfl) rfl fun hl F w vs hF _ hw hx => by
    obtain ⟨v, _, rfl, r1, rfl⟩ := hx
    exact ⟨_, (rvalid_any v l w (sl_is8 hF r1) hl).mono fun e w' ⟨he, n, hn⟩ => ⟨he, hn ▸ ext_drew w n⟩, fun G w => rfl⟩
def ent_rvalid : List PV → Option CallR := fun xs => match xs with | [.row nl (.bytes l) 0] => some ⟨l.length ≤ 1000000, .bool (validL l)⟩ | _ => none
theorem ent_rvalid_ok : ∀ xs c, ent_rvalid xs = some c → FuncOk Try.prog noT 33 xs c := fun xs c h => by
  unfold ent_rvalid at h
  split at h
  · injection h with h; subst h; exact ok_rvalid _ _
  · cases h
theorem ok_risnum (l : Bs) : FuncOk Try.prog noT 32 [.str l] ⟨l.length ≤ 1000000, .bool (isNumM l)⟩ :=
  FuncOk.of_calls Try.func32 (by kernel_rfl) rfl fun hl F w vs hF _ hw hx => by
    obtain ⟨_, _, rfl, r1, rfl⟩ := hx
    obtain rfl := r1
    exact ⟨_, risNum_any l w hl, fun G w => rfl⟩
def ent_risnum : List PV → Option CallR := fun xs => match xs with | [.str l] => some ⟨l.length ≤ 1000000, .bool (isNumM l)⟩ | _ => none
theorem ent_risnum_ok : ∀ xs c, ent_risnum xs = some c → FuncOk Try.prog noT 32 xs c := fun xs c h => by
  unfold ent_risnum at h
  split at h
  · injection h with h; subst h; exact ok_risnum _
  · cases h
end Go.Proofs.Ytaklcjnfjchebaa
namespace Go.Proofs.Ytaklcjnfjchebaa
open Go Go.Proofs Go.RowKit Go.Vc
open Go.Proofs.Jv
section
theorem rhead (num val : Bs → Bool) (kd : Int) (bv : Bool) (sv : Bs) (nk : Bool) (ks : List Bs) (nl : Bool) (js : List JV) (D : Nat) (C : Bool) (hC : C = (bif bif bif bif bif decide (kd < 0) then true else decide (5 < kd) then true else bif bv then !decide (kd = 1) else false then true else bif bif !sv.isEmpty then !decide (kd = 2) else false then !decide (kd = 3) else false then true else bif bif !js.isEmpty then !decide (kd = 4) else false then !decide (kd = 5) else false then true else bif !ks.isEmpty then !decide (kd = 5) else false)) :
    (C = true → mayJ num val (.mk kd bv sv nk ks nl js) D = false) ∧ (C = false → (kd = 2 → mayJ num val (.mk kd bv sv nk ks nl js) D = num sv) ∧ (kd = 3 → mayJ num val (.mk kd bv sv nk ks nl js) D = val sv) ∧ (kd = 4 → ks = [] ∧ mayJ num val (.mk kd bv sv nk ks nl js) D = (decide (0 < D) && mayJs num val js (D - 1))) ∧
      (kd = 5 → mayJ num val (.mk kd bv sv nk ks nl js) D = (decide (ks.length = js.length) && ks.all val && nodupJ ks && decide (0 < D) && mayJs num val js (D - 1))) ∧ (kd ≠ 2 → kd ≠ 3 → kd ≠ 4 → kd ≠ 5 → ks = [] ∧ js = [] ∧ mayJ num val (.mk kd bv sv nk ks nl js) D = true)) := by
  subst hC
  rcases (show kd < 0 ∨ kd = 0 ∨ kd = 1 ∨ kd = 2 ∨ kd = 3 ∨ kd = 4 ∨ kd = 5 ∨ 5 < kd by omega) with h | rfl | rfl | rfl | rfl | rfl | rfl | h
  · have a0 : kd ≠ 0 := by omega
    have a1 : kd ≠ 1 := by omega
    have a2 : kd ≠ 2 := by omega
    have a3 : kd ≠ 3 := by omega
    have a4 : kd ≠ 4 := by omega
    have a5 : kd ≠ 5 := by omega
    simp [mayJ, a0, a1, a2, a3, a4, a5, h]
  · cases bv <;> cases sv <;> cases js <;> cases ks <;> simp [mayJ]
  · cases bv <;> cases sv <;> cases js <;> cases ks <;> simp [mayJ]
  · cases bv <;> cases sv <;> cases js <;> cases ks <;> simp [mayJ]
  · cases bv <;> cases sv <;> cases js <;> cases ks <;> simp [mayJ]
  · cases bv <;> cases sv <;> cases js <;> cases ks <;> simp [mayJ]
  · cases bv <;> cases sv <;> cases js <;> cases ks <;> simp [mayJ]
  · have a0 : kd ≠ 0 := by omega
    have a1 : kd ≠ 1 := by omega
    have a2 : kd ≠ 2 := by omega
    have a3 : kd ≠ 3 := by omega
    have a4 : kd ≠ 4 := by omega
    have a5 : kd ≠ 5 := by omega
    simp [mayJ, a0, a1, a2, a3, a4, a5, h]
theorem take_contains {l : List Bs} {j : Nat} (h : j < l.length) (x : Bs) : (l.take (j + 1)).contains x = ((l.take j).contains x || x == l[j]) := by
  rw [List.take_add_one, List.getElem?_eq_getElem h]
  show (l.take j ++ [l[j]]).contains x = _
  rw [List.contains_eq_any_beq, List.contains_eq_any_beq, List.any_append, List.any_cons, List.any_nil, Bool.or_false]
theorem nodup_app : ∀ (l : List Bs) (x : Bs), nodupJ (l ++ [x]) = (nodupJ l && !l.contains x)
  | [], x => by simp [nodupJ]
  | k :: l, x => by
    rw [List.cons_append, nodupJ, nodupJ, nodup_app l x, List.contains_cons]
    have : (l ++ [x]).contains k = (l.contains k || k == x) := by rw [List.contains_eq_any_beq, List.contains_eq_any_beq, List.any_append, List.any_cons, List.any_nil, Bool.or_false]
    rw [this, BEq.comm (a := x)]
    cases l.contains k <;> cases (k == x) <;> cases nodupJ l <;> cases l.contains x <;> rfl
theorem nodup_take {l : List Bs} {j : Nat} (h : j < l.length) : nodupJ (l.take (j + 1)) = (nodupJ (l.take j) && !(l.take j).contains l[j]) := by
  rw [List.take_add_one, List.getElem?_eq_getElem h]
  exact nodup_app _ _
theorem nodup_pre : ∀ (a b : List Bs), nodupJ (a ++ b) = true → nodupJ a = true
  | [], b, _ => rfl
  | k :: a, b, h => by
    rw [List.cons_append, nodupJ, Bool.and_eq_true] at h
    rw [nodupJ, Bool.and_eq_true]
    refine ⟨?_, nodup_pre a b h.2⟩
    have h1 := h.1
    simp only [Bool.not_eq_true', List.contains_eq_mem, decide_eq_false_iff_not] at h1 ⊢
    exact fun e => h1 (List.mem_append_left _ e)
theorem nodup_two {l : List Bs} {j n : Nat} (h : j < n) (hn : n < l.length) (e : l[j] = l[n]) : nodupJ l = false := by
  rw [Bool.eq_false_iff]
  intro g
  have g2 := nodup_pre (l.take (n + 1)) (l.drop (n + 1)) (by rw [List.take_append_drop]; exact g)
  rw [nodup_take hn, Bool.and_eq_true] at g2
  have g3 := g2.2
  simp only [Bool.not_eq_true', List.contains_eq_mem, decide_eq_false_iff_not] at g3
  refine g3 ?_
  rw [← e]
  exact List.mem_iff_getElem.2 ⟨j, by rw [List.length_take]; omega, by simp⟩
theorem all_take {l : List Bs} {j : Nat} (h : j < l.length) (p : Bs → Bool) : (l.take (j + 1)).all p = ((l.take j).all p && p l[j]) := by
  rw [List.take_add_one, List.getElem?_eq_getElem h]
  show (l.take j ++ [l[j]]).all p = _
  rw [List.all_append, List.all_cons, List.all_nil, Bool.and_true]
def ent_rmay (dn : Nat) : List PV → Option CallR := fun xs => match xs with
  | [.agg [.int .i64 kd, .bool bv, .str sv, .row nk (.strs ks) 0, .vec nl 5 ls 0], .int .i64 d] => some ⟨isJs ls ∧ okJ (dn) (.mk kd bv sv nk ks nl (jdecs ls)) ∧ sizeJ (.mk kd bv sv nk ks nl (jdecs ls)) ≤ 600000 ∧ 0 ≤ d ∧ d ≤ 128, .bool (mayJ isNumM validL (.mk kd bv sv nk ks nl (jdecs ls)) (128 - d).toNat)⟩
  | _ => none
def X_rmay (m : Nat) : Tbl := tblX [(33, ent_rvalid), (32, ent_risnum), (21, ent_rmay m)]
def H_rmay (m : Nat) (kd : Int) (bv : Bool) (sv : Bs) (nk : Bool) (ks : List Bs) (nl : Bool) (ls : List PV) (d : Int) : Loops := fun i => bif Nat.beq i 13 then some ⟨(Int), (fun s x => ((((((s.put 5 (.int .i64 x)).put 6 .undef).put 103 .undef).put 113 .undef).put 116 .undef).put 129 .undef)), (fun s => s.int 5), (fun s x => let i := x; 0 ≤ i ∧ i ≤ ks.length ∧ (ks.take i.toNat).all validL = true ∧ nodupJ (ks.take i.toNat) = true), (fun s x => let i := x; ((ks.length : Int) - i).toNat), [6, 103, 113, 116, 129]⟩ else bif Nat.beq i 18 then some ⟨(Int), (fun s x => (((s.put 6 (.int .i64 x)).put 116 .undef).put 129 .undef)), (fun s => s.int 6), (fun s x => let j := x; 0 ≤ j ∧ j ≤ s.int 5 ∧ (ks.take j.toNat).contains (strZ ks (s.int 5)) = false), (fun s x => let j := x; (s.int 5 - j).toNat), [116, 129]⟩ else bif Nat.beq i 23 then some ⟨(Int), (fun s x => (((s.put 7 (.int .i64 x)).put 134 .undef).put 145 .undef)), (fun s => s.int 7), (fun s x => let i := x; 0 ≤ i ∧ i ≤ ls.length ∧ mayJs isNumM validL ((jdecs ls).drop i.toNat) (127 - d).toNat = mayJs isNumM validL (jdecs ls) (127 - d).toNat), (fun s x => let i := x; ((ls.length : Int) - i).toNat), [134, 145]⟩ else none
theorem X_rmay_ok (m : Nat) (ih : ∀ xs c, ent_rmay m xs = some c → FuncOk Try.prog noT 21 xs c) : XOk Try.prog noT (X_rmay m) := tblX_cons ent_rvalid_ok (tblX_cons ent_risnum_ok (tblX_cons ih (tblX_nil)))
theorem vc_rmay (m : Nat) (kd : Int) (bv : Bool) (sv : Bs) (nk : Bool) (ks : List Bs) (nl : Bool) (ls : List PV) (d : Int) (k : PV → Prop) : evF Try.prog (X_rmay m) noT (H_rmay m kd bv sv nk ks nl ls d) 1000 Try.f21 [.agg [.int .i64 kd, .bool bv, .str sv, .row nk (.strs ks) 0, .vec nl 5 ls 0], .int .i64 d] k = (
  ((bif
 bif
 bif bif bif decide (kd < (0 : Int)) then true else decide ((5 : Int) < kd) then true else bif bv then !decide (kd = (1 : Int)) else false then
 true
 else bif bif !decide (sv = (ByteArray.mk #[]).data.toList) then !decide (kd = (2 : Int)) else false then !decide (kd = (3 : Int)) else false then
 true
 else bif bif decide ((0 : Int) < lenZ ls) then !decide (kd = (4 : Int)) else false then !decide (kd = (5 : Int)) else false then
 true
 else bif decide ((0 : Int) < Int.ofNat ks.length) then !decide (kd = (5 : Int)) else false) =
 true →
 k (PV.bool false)) ∧
 ((bif
 bif
 bif bif bif decide (kd < (0 : Int)) then true else decide ((5 : Int) < kd) then true else bif bv then !decide (kd = (1 : Int)) else false then
 true
 else bif bif !decide (sv = (ByteArray.mk #[]).data.toList) then !decide (kd = (2 : Int)) else false then !decide (kd = (3 : Int)) else false then
 true
 else bif bif decide ((0 : Int) < lenZ ls) then !decide (kd = (4 : Int)) else false then !decide (kd = (5 : Int)) else false then
 true
 else bif decide ((0 : Int) < Int.ofNat ks.length) then !decide (kd = (5 : Int)) else false) =
 false →
 (decide (kd = (2 : Int)) = true → (List.length sv).le (1000000 : Nat) ∧ k (PV.bool (isNumM sv))) ∧
 (decide (kd = (2 : Int)) = false →
 (decide (kd = (3 : Int)) = true →
 List.length sv ≤ Go.Vc.maxLen ∧ (List.length sv).le (1000000 : Nat) ∧ k (PV.bool (validL sv))) ∧
 (decide (kd = (3 : Int)) = false →
 (decide (kd = (4 : Int)) = true →
 (decide (kd = (4 : Int)) = true →
 ((bif decide ((128 : Int) ≤ d) then true else bif decide (kd = (5 : Int)) then !decide (Int.ofNat ks.length = lenZ ls) else false) =
 true →
 k (PV.bool false)) ∧
 ((bif decide ((128 : Int) ≤ d) then true else bif decide (kd = (5 : Int)) then !decide (Int.ofNat ks.length = lenZ ls) else false) =
 false →
 VS.mk []
 [(0,
 PV.agg
 [PV.int .i64 kd, PV.bool bv, PV.str sv, PV.row nk (BRow.strs ks) (0 : Nat),
 PV.vec nl (5 : Nat) ls (0 : Nat)]),
 (1, PV.int .i64 d), (2, PV.ptr ((2 : Nat) + (32 : Nat)) (0 : Nat)),
 (4, PV.bool false), (5, PV.int .i64 (0 : Int)), ((6 : Nat), PV.undef),
 (7, PV.undef),
 (66,
 PV.bool
 (bif
 bif
 bif
 bif bif decide (kd < (0 : Int)) then true else decide ((5 : Int) < kd) then true
 else bif bv then !decide (kd = (1 : Int)) else false then
 true
 else
 bif bif !decide (sv = (ByteArray.mk #[]).data.toList) then !decide (kd = (2 : Int)) else false then
 !decide (kd = (3 : Int))
 else false then
 true
 else
 bif bif decide ((0 : Int) < lenZ ls) then !decide (kd = (4 : Int)) else false then !decide (kd = (5 : Int))
 else false then
 true
 else bif decide ((0 : Int) < Int.ofNat ks.length) then !decide (kd = (5 : Int)) else false)),
 (68, PV.int .i64 kd), (69, PV.bool (decide (kd = (2 : Int)))),
 (74, PV.bool (decide (kd = (3 : Int)))), (80, PV.bool (decide (kd = (4 : Int)))),
 (98,
 PV.bool
 (bif decide ((128 : Int) ≤ d) then true
 else bif decide (kd = (5 : Int)) then !decide (Int.ofNat ks.length = lenZ ls) else false)),
 ((103 : Nat), PV.undef), ((113 : Nat), PV.undef), ((116 : Nat), PV.undef), ((129 : Nat), PV.undef),
 (134, PV.undef), (145, PV.undef)]
 [((2 : Nat) + (32 : Nat),
 PV.agg
 [PV.int .i64 kd, PV.bool bv, PV.str sv, PV.row nk (BRow.strs ks) (0 : Nat),
 PV.vec nl (5 : Nat) ls (0 : Nat)])] =
 VS.mk []
 [(0,
 PV.agg
 [PV.int .i64 kd, PV.bool bv, PV.str sv, PV.row nk (BRow.strs ks) (0 : Nat),
 PV.vec nl (5 : Nat) ls (0 : Nat)]),
 (1, PV.int .i64 d), (2, PV.ptr ((2 : Nat) + (32 : Nat)) (0 : Nat)),
 (4, PV.bool false), ((5 : Nat), PV.int .i64 (0 : Int)), ((6 : Nat), PV.undef),
 (7, PV.undef),
 (66,
 PV.bool
 (bif
 bif
 bif
 bif bif decide (kd < (0 : Int)) then true else decide ((5 : Int) < kd) then true
 else bif bv then !decide (kd = (1 : Int)) else false then
 true
 else
 bif bif !decide (sv = (ByteArray.mk #[]).data.toList) then !decide (kd = (2 : Int)) else false then
 !decide (kd = (3 : Int))
 else false then
 true
 else
 bif bif decide ((0 : Int) < lenZ ls) then !decide (kd = (4 : Int)) else false then !decide (kd = (5 : Int))
 else false then
 true
 else bif decide ((0 : Int) < Int.ofNat ks.length) then !decide (kd = (5 : Int)) else false)),
 (68, PV.int .i64 kd), (69, PV.bool (decide (kd = (2 : Int)))),
 (74, PV.bool (decide (kd = (3 : Int)))), (80, PV.bool (decide (kd = (4 : Int)))),
 (98,
 PV.bool
 (bif decide ((128 : Int) ≤ d) then true
 else bif decide (kd = (5 : Int)) then !decide (Int.ofNat ks.length = lenZ ls) else false)),
 ((103 : Nat), PV.undef), ((113 : Nat), PV.undef), ((116 : Nat), PV.undef), ((129 : Nat), PV.undef),
 (134, PV.undef), (145, PV.undef)]
 [((2 : Nat) + (32 : Nat),
 PV.agg
 [PV.int .i64 kd, PV.bool bv, PV.str sv, PV.row nk (BRow.strs ks) (0 : Nat),
 PV.vec nl (5 : Nat) ls (0 : Nat)])] ∧
 ((0 : Int) ≤ (0 : Int) ∧
 (0 : Int) ≤ ↑ks.length ∧
 (List.take (Int.toNat (0 : Int)) ks).all validL = true ∧
 nodupJ (List.take (Int.toNat (0 : Int)) ks) = true) ∧
 ∀ (x : Int),
 (0 : Int) ≤ x ∧
 x ≤ ↑ks.length ∧
 (List.take x.toNat ks).all validL = true ∧ nodupJ (List.take x.toNat ks) = true →
 (decide (x < Int.ofNat ks.length) = true →
 within x (Int.ofNat ks.length) ∧
 List.length (strZ ks x) ≤ Go.Vc.maxLen ∧
 (List.length (strZ ks x)).le (1000000 : Nat) ∧
 ((!validL (strZ ks x)) = true → k (PV.bool false)) ∧
 ((!validL (strZ ks x)) = false →
 VS.mk []
 [(0,
 PV.agg
 [PV.int .i64 kd, PV.bool bv, PV.str sv,
 PV.row nk (BRow.strs ks) (0 : Nat), PV.vec nl (5 : Nat) ls (0 : Nat)]),
 (1, PV.int .i64 d), (2, PV.ptr ((2 : Nat) + (32 : Nat)) (0 : Nat)),
 (4, PV.bool false), ((5 : Nat), PV.int .i64 x),
 ((6 : Nat), PV.int .i64 (0 : Int)), (7, PV.undef),
 (66,
 PV.bool
 (bif
 bif
 bif
 bif bif decide (kd < (0 : Int)) then true else decide ((5 : Int) < kd) then true
 else bif bv then !decide (kd = (1 : Int)) else false then
 true
 else
 bif
 bif !decide (sv = (ByteArray.mk #[]).data.toList) then !decide (kd = (2 : Int))
 else false then
 !decide (kd = (3 : Int))
 else false then
 true
 else
 bif bif decide ((0 : Int) < lenZ ls) then !decide (kd = (4 : Int)) else false then
 !decide (kd = (5 : Int))
 else false then
 true
 else bif decide ((0 : Int) < Int.ofNat ks.length) then !decide (kd = (5 : Int)) else false)),
 (68, PV.int .i64 kd), (69, PV.bool (decide (kd = (2 : Int)))),
 (74, PV.bool (decide (kd = (3 : Int)))),
 (80, PV.bool (decide (kd = (4 : Int)))),
 (98,
 PV.bool
 (bif decide ((128 : Int) ≤ d) then true
 else bif decide (kd = (5 : Int)) then !decide (Int.ofNat ks.length = lenZ ls) else false)),
 ((103 : Nat), PV.bool (decide (x < Int.ofNat ks.length))),
 ((113 : Nat), PV.bool !validL (strZ ks x)),
 ((116 : Nat), PV.undef), ((129 : Nat), PV.undef), (134, PV.undef),
 (145, PV.undef)]
 [((2 : Nat) + (32 : Nat),
 PV.agg
 [PV.int .i64 kd, PV.bool bv, PV.str sv,
 PV.row nk (BRow.strs ks) (0 : Nat), PV.vec nl (5 : Nat) ls (0 : Nat)])] =
 VS.mk []
 [(0,
 PV.agg
 [PV.int .i64 kd, PV.bool bv, PV.str sv,
 PV.row nk (BRow.strs ks) (0 : Nat), PV.vec nl (5 : Nat) ls (0 : Nat)]),
 (1, PV.int .i64 d), (2, PV.ptr ((2 : Nat) + (32 : Nat)) (0 : Nat)),
 (4, PV.bool false), ((5 : Nat), PV.int .i64 x),
 ((6 : Nat), PV.int .i64 (0 : Int)), (7, PV.undef),
 (66,
 PV.bool
 (bif
 bif
 bif
 bif bif decide (kd < (0 : Int)) then true else decide ((5 : Int) < kd) then true
 else bif bv then !decide (kd = (1 : Int)) else false then
 true
 else
 bif
 bif !decide (sv = (ByteArray.mk #[]).data.toList) then !decide (kd = (2 : Int))
 else false then
 !decide (kd = (3 : Int))
 else false then
 true
 else
 bif bif decide ((0 : Int) < lenZ ls) then !decide (kd = (4 : Int)) else false then
 !decide (kd = (5 : Int))
 else false then
 true
 else bif decide ((0 : Int) < Int.ofNat ks.length) then !decide (kd = (5 : Int)) else false)),
 (68, PV.int .i64 kd), (69, PV.bool (decide (kd = (2 : Int)))),
 (74, PV.bool (decide (kd = (3 : Int)))),
 (80, PV.bool (decide (kd = (4 : Int)))),
 (98,
 PV.bool
 (bif decide ((128 : Int) ≤ d) then true
 else bif decide (kd = (5 : Int)) then !decide (Int.ofNat ks.length = lenZ ls) else false)),
 ((103 : Nat), PV.bool (decide (x < Int.ofNat ks.length))),
 ((113 : Nat), PV.bool !validL (strZ ks x)),
 ((116 : Nat), PV.undef), ((129 : Nat), PV.undef), (134, PV.undef),
 (145, PV.undef)]
 [((2 : Nat) + (32 : Nat),
 PV.agg
 [PV.int .i64 kd, PV.bool bv, PV.str sv,
 PV.row nk (BRow.strs ks) (0 : Nat), PV.vec nl (5 : Nat) ls (0 : Nat)])] ∧
 ((0 : Int) ≤ (0 : Int) ∧
 (0 : Int) ≤ x ∧ (List.take (Int.toNat (0 : Int)) ks).contains (strZ ks x) = false) ∧
 ∀ (x_1 : Int),
 (0 : Int) ≤ x_1 ∧ x_1 ≤ x ∧ (List.take x_1.toNat ks).contains (strZ ks x) = false →
 (decide (x_1 < x) = true →
 within x_1 (Int.ofNat ks.length) ∧
 within x (Int.ofNat ks.length) ∧
 (decide (strZ ks x_1 = strZ ks x) = true → k (PV.bool false)) ∧
 (decide (strZ ks x_1 = strZ ks x) = false →
 inI64 (x_1 + (1 : Int)) ∧
 VS.mk []
 [(0,
 PV.agg
 [PV.int .i64 kd, PV.bool bv, PV.str sv,
 PV.row nk (BRow.strs ks) (0 : Nat),
 PV.vec nl (5 : Nat) ls (0 : Nat)]),
 (1, PV.int .i64 d),
 (2, PV.ptr ((2 : Nat) + (32 : Nat)) (0 : Nat)),
 (4, PV.bool false), ((5 : Nat), PV.int .i64 x),
 ((6 : Nat), PV.int .i64 (x_1 + (1 : Int))),
 (7, PV.undef),
 (66,
 PV.bool
 (bif
 bif
 bif
 bif
 bif decide (kd < (0 : Int)) then true
 else decide ((5 : Int) < kd) then
 true
 else bif bv then !decide (kd = (1 : Int)) else false then
 true
 else
 bif
 bif !decide (sv = (ByteArray.mk #[]).data.toList) then
 !decide (kd = (2 : Int))
 else false then
 !decide (kd = (3 : Int))
 else false then
 true
 else
 bif
 bif decide ((0 : Int) < lenZ ls) then !decide (kd = (4 : Int))
 else false then
 !decide (kd = (5 : Int))
 else false then
 true
 else
 bif decide ((0 : Int) < Int.ofNat ks.length) then !decide (kd = (5 : Int))
 else false)),
 (68, PV.int .i64 kd),
 (69, PV.bool (decide (kd = (2 : Int)))),
 (74, PV.bool (decide (kd = (3 : Int)))),
 (80, PV.bool (decide (kd = (4 : Int)))),
 (98,
 PV.bool
 (bif decide ((128 : Int) ≤ d) then true
 else
 bif decide (kd = (5 : Int)) then !decide (Int.ofNat ks.length = lenZ ls)
 else false)),
 ((103 : Nat), PV.bool (decide (x < Int.ofNat ks.length))),
 ((113 : Nat), PV.bool !validL (strZ ks x)),
 ((116 : Nat), PV.undef), ((129 : Nat), PV.undef),
 (134, PV.undef), (145, PV.undef)]
 [((2 : Nat) + (32 : Nat),
 PV.agg
 [PV.int .i64 kd, PV.bool bv, PV.str sv,
 PV.row nk (BRow.strs ks) (0 : Nat),
 PV.vec nl (5 : Nat) ls (0 : Nat)])] =
 VS.mk []
 [(0,
 PV.agg
 [PV.int .i64 kd, PV.bool bv, PV.str sv,
 PV.row nk (BRow.strs ks) (0 : Nat),
 PV.vec nl (5 : Nat) ls (0 : Nat)]),
 (1, PV.int .i64 d),
 (2, PV.ptr ((2 : Nat) + (32 : Nat)) (0 : Nat)),
 (4, PV.bool false), ((5 : Nat), PV.int .i64 x),
 ((6 : Nat), PV.int .i64 (x_1 + (1 : Int))),
 (7, PV.undef),
 (66,
 PV.bool
 (bif
 bif
 bif
 bif
 bif decide (kd < (0 : Int)) then true
 else decide ((5 : Int) < kd) then
 true
 else bif bv then !decide (kd = (1 : Int)) else false then
 true
 else
 bif
 bif !decide (sv = (ByteArray.mk #[]).data.toList) then
 !decide (kd = (2 : Int))
 else false then
 !decide (kd = (3 : Int))
 else false then
 true
 else
 bif
 bif decide ((0 : Int) < lenZ ls) then !decide (kd = (4 : Int))
 else false then
 !decide (kd = (5 : Int))
 else false then
 true
 else
 bif decide ((0 : Int) < Int.ofNat ks.length) then !decide (kd = (5 : Int))
 else false)),
 (68, PV.int .i64 kd),
 (69, PV.bool (decide (kd = (2 : Int)))),
 (74, PV.bool (decide (kd = (3 : Int)))),
 (80, PV.bool (decide (kd = (4 : Int)))),
 (98,
 PV.bool
 (bif decide ((128 : Int) ≤ d) then true
 else
 bif decide (kd = (5 : Int)) then !decide (Int.ofNat ks.length = lenZ ls)
 else false)),
 ((103 : Nat), PV.bool (decide (x < Int.ofNat ks.length))),
 ((113 : Nat), PV.bool !validL (strZ ks x)),
 ((116 : Nat), PV.undef), ((129 : Nat), PV.undef),
 (134, PV.undef), (145, PV.undef)]
 [((2 : Nat) + (32 : Nat),
 PV.agg
 [PV.int .i64 kd, PV.bool bv, PV.str sv,
 PV.row nk (BRow.strs ks) (0 : Nat),
 PV.vec nl (5 : Nat) ls (0 : Nat)])] ∧
 ((0 : Int) ≤ x_1 + (1 : Int) ∧
 x_1 + (1 : Int) ≤ x ∧
 (List.take (x_1 + (1 : Int)).toNat ks).contains (strZ ks x) = false) ∧
 (x - (x_1 + (1 : Int))).toNat < (x - x_1).toNat)) ∧
 (decide (x_1 < x) = false →
 inI64 (x + (1 : Int)) ∧
 VS.mk []
 [(0,
 PV.agg
 [PV.int .i64 kd, PV.bool bv, PV.str sv,
 PV.row nk (BRow.strs ks) (0 : Nat),
 PV.vec nl (5 : Nat) ls (0 : Nat)]),
 (1, PV.int .i64 d),
 (2, PV.ptr ((2 : Nat) + (32 : Nat)) (0 : Nat)),
 (4, PV.bool false), ((5 : Nat), PV.int .i64 (x + (1 : Int))),
 ((6 : Nat), PV.undef), (7, PV.undef),
 (66,
 PV.bool
 (bif
 bif
 bif
 bif bif decide (kd < (0 : Int)) then true else decide ((5 : Int) < kd) then
 true
 else bif bv then !decide (kd = (1 : Int)) else false then
 true
 else
 bif
 bif !decide (sv = (ByteArray.mk #[]).data.toList) then
 !decide (kd = (2 : Int))
 else false then
 !decide (kd = (3 : Int))
 else false then
 true
 else
 bif
 bif decide ((0 : Int) < lenZ ls) then !decide (kd = (4 : Int))
 else false then
 !decide (kd = (5 : Int))
 else false then
 true
 else
 bif decide ((0 : Int) < Int.ofNat ks.length) then !decide (kd = (5 : Int))
 else false)),
 (68, PV.int .i64 kd),
 (69, PV.bool (decide (kd = (2 : Int)))),
 (74, PV.bool (decide (kd = (3 : Int)))),
 (80, PV.bool (decide (kd = (4 : Int)))),
 (98,
 PV.bool
 (bif decide ((128 : Int) ≤ d) then true
 else
 bif decide (kd = (5 : Int)) then !decide (Int.ofNat ks.length = lenZ ls)
 else false)),
 ((103 : Nat), PV.undef), ((113 : Nat), PV.undef), ((116 : Nat), PV.undef),
 ((129 : Nat), PV.undef), (134, PV.undef), (145, PV.undef)]
 [((2 : Nat) + (32 : Nat),
 PV.agg
 [PV.int .i64 kd, PV.bool bv, PV.str sv,
 PV.row nk (BRow.strs ks) (0 : Nat),
 PV.vec nl (5 : Nat) ls (0 : Nat)])] =
 VS.mk []
 [(0,
 PV.agg
 [PV.int .i64 kd, PV.bool bv, PV.str sv,
 PV.row nk (BRow.strs ks) (0 : Nat),
 PV.vec nl (5 : Nat) ls (0 : Nat)]),
 (1, PV.int .i64 d),
 (2, PV.ptr ((2 : Nat) + (32 : Nat)) (0 : Nat)),
 (4, PV.bool false), ((5 : Nat), PV.int .i64 (x + (1 : Int))),
 ((6 : Nat), PV.undef), (7, PV.undef),
 (66,
 PV.bool
 (bif
 bif
 bif
 bif bif decide (kd < (0 : Int)) then true else decide ((5 : Int) < kd) then
 true
 else bif bv then !decide (kd = (1 : Int)) else false then
 true
 else
 bif
 bif !decide (sv = (ByteArray.mk #[]).data.toList) then
 !decide (kd = (2 : Int))
 else false then
 !decide (kd = (3 : Int))
 else false then
 true
 else
 bif
 bif decide ((0 : Int) < lenZ ls) then !decide (kd = (4 : Int))
 else false then
 !decide (kd = (5 : Int))
 else false then
 true
 else
 bif decide ((0 : Int) < Int.ofNat ks.length) then !decide (kd = (5 : Int))
 else false)),
 (68, PV.int .i64 kd),
 (69, PV.bool (decide (kd = (2 : Int)))),
 (74, PV.bool (decide (kd = (3 : Int)))),
 (80, PV.bool (decide (kd = (4 : Int)))),
 (98,
 PV.bool
 (bif decide ((128 : Int) ≤ d) then true
 else
 bif decide (kd = (5 : Int)) then !decide (Int.ofNat ks.length = lenZ ls)
 else false)),
 ((103 : Nat), PV.undef), ((113 : Nat), PV.undef), ((116 : Nat), PV.undef),
 ((129 : Nat), PV.undef), (134, PV.undef), (145, PV.undef)]
 [((2 : Nat) + (32 : Nat),
 PV.agg
 [PV.int .i64 kd, PV.bool bv, PV.str sv,
 PV.row nk (BRow.strs ks) (0 : Nat),
 PV.vec nl (5 : Nat) ls (0 : Nat)])] ∧
 ((0 : Int) ≤ x + (1 : Int) ∧
 x + (1 : Int) ≤ ↑ks.length ∧
 (List.take (x + (1 : Int)).toNat ks).all validL = true ∧
 nodupJ (List.take (x + (1 : Int)).toNat ks) = true) ∧
 (↑ks.length - (x + (1 : Int))).toNat < (↑ks.length - x).toNat))) ∧
 (decide (x < Int.ofNat ks.length) = false →
 VS.mk []
 [(0,
 PV.agg
 [PV.int .i64 kd, PV.bool bv, PV.str sv,
 PV.row nk (BRow.strs ks) (0 : Nat), PV.vec nl (5 : Nat) ls (0 : Nat)]),
 (1, PV.int .i64 d), (2, PV.ptr ((2 : Nat) + (32 : Nat)) (0 : Nat)),
 (4, PV.bool false), ((5 : Nat), PV.int .i64 x), ((6 : Nat), PV.undef),
 (7, PV.int .i64 (0 : Int)),
 (66,
 PV.bool
 (bif
 bif
 bif
 bif bif decide (kd < (0 : Int)) then true else decide ((5 : Int) < kd) then true
 else bif bv then !decide (kd = (1 : Int)) else false then
 true
 else
 bif bif !decide (sv = (ByteArray.mk #[]).data.toList) then !decide (kd = (2 : Int)) else false then
 !decide (kd = (3 : Int))
 else false then
 true
 else
 bif bif decide ((0 : Int) < lenZ ls) then !decide (kd = (4 : Int)) else false then
 !decide (kd = (5 : Int))
 else false then
 true
 else bif decide ((0 : Int) < Int.ofNat ks.length) then !decide (kd = (5 : Int)) else false)),
 (68, PV.int .i64 kd), (69, PV.bool (decide (kd = (2 : Int)))),
 (74, PV.bool (decide (kd = (3 : Int)))), (80, PV.bool (decide (kd = (4 : Int)))),
 (98,
 PV.bool
 (bif decide ((128 : Int) ≤ d) then true
 else bif decide (kd = (5 : Int)) then !decide (Int.ofNat ks.length = lenZ ls) else false)),
 ((103 : Nat), PV.bool (decide (x < Int.ofNat ks.length))), ((113 : Nat), PV.undef),
 ((116 : Nat), PV.undef), ((129 : Nat), PV.undef), ((134 : Nat), PV.undef),
 ((145 : Nat), PV.undef)]
 [((2 : Nat) + (32 : Nat),
 PV.agg
 [PV.int .i64 kd, PV.bool bv, PV.str sv,
 PV.row nk (BRow.strs ks) (0 : Nat), PV.vec nl (5 : Nat) ls (0 : Nat)])] =
 VS.mk []
 [(0,
 PV.agg
 [PV.int .i64 kd, PV.bool bv, PV.str sv,
 PV.row nk (BRow.strs ks) (0 : Nat), PV.vec nl (5 : Nat) ls (0 : Nat)]),
 (1, PV.int .i64 d), (2, PV.ptr ((2 : Nat) + (32 : Nat)) (0 : Nat)),
 (4, PV.bool false), ((5 : Nat), PV.int .i64 x), ((6 : Nat), PV.undef),
 ((7 : Nat), PV.int .i64 (0 : Int)),
 (66,
 PV.bool
 (bif
 bif
 bif
 bif bif decide (kd < (0 : Int)) then true else decide ((5 : Int) < kd) then true
 else bif bv then !decide (kd = (1 : Int)) else false then
 true
 else
 bif bif !decide (sv = (ByteArray.mk #[]).data.toList) then !decide (kd = (2 : Int)) else false then
 !decide (kd = (3 : Int))
 else false then
 true
 else
 bif bif decide ((0 : Int) < lenZ ls) then !decide (kd = (4 : Int)) else false then
 !decide (kd = (5 : Int))
 else false then
 true
 else bif decide ((0 : Int) < Int.ofNat ks.length) then !decide (kd = (5 : Int)) else false)),
 (68, PV.int .i64 kd), (69, PV.bool (decide (kd = (2 : Int)))),
 (74, PV.bool (decide (kd = (3 : Int)))), (80, PV.bool (decide (kd = (4 : Int)))),
 (98,
 PV.bool
 (bif decide ((128 : Int) ≤ d) then true
 else bif decide (kd = (5 : Int)) then !decide (Int.ofNat ks.length = lenZ ls) else false)),
 ((103 : Nat), PV.bool (decide (x < Int.ofNat ks.length))), ((113 : Nat), PV.undef),
 ((116 : Nat), PV.undef), ((129 : Nat), PV.undef), ((134 : Nat), PV.undef),
 ((145 : Nat), PV.undef)]
 [((2 : Nat) + (32 : Nat),
 PV.agg
 [PV.int .i64 kd, PV.bool bv, PV.str sv,
 PV.row nk (BRow.strs ks) (0 : Nat), PV.vec nl (5 : Nat) ls (0 : Nat)])] ∧
 ((0 : Int) ≤ (0 : Int) ∧
 (0 : Int) ≤ ↑ls.length ∧
 mayJs isNumM validL
 (List.drop (Int.toNat (0 : Int)) (jdecs ls)) ((127 : Int) - d).toNat =
 mayJs isNumM validL (jdecs ls)
 ((127 : Int) - d).toNat) ∧
 ∀ (x_1 : Int),
 (0 : Int) ≤ x_1 ∧
 x_1 ≤ ↑ls.length ∧
 mayJs isNumM validL
 (List.drop x_1.toNat (jdecs ls)) ((127 : Int) - d).toNat =
 mayJs isNumM validL (jdecs ls)
 ((127 : Int) - d).toNat →
 (decide (x_1 < lenZ ls) = true →
 within x_1 (lenZ ls) ∧
 eltV ls x_1 =
 PV.agg
 [PV.int .i64
 ((eltV ls x_1).part (0 : Nat)).asInt,
 PV.bool
 ((eltV ls x_1).part
 (1 : Nat)).asBool,
 PV.str
 ((eltV ls x_1).part
 (2 : Nat)).asStr,
 PV.row
 ((eltV ls x_1).part
 (3 : Nat)).asNil
 (BRow.strs
 ((eltV ls x_1).part
 (3 : Nat)).asStrs)
 (0 : Nat),
 PV.vec
 ((eltV ls x_1).part
 (4 : Nat)).asNil
 (nat_lit 5)
 ((eltV ls x_1).part
 (4 : Nat)).asVec
 (0 : Nat)] ∧
 inI64 (d + (1 : Int)) ∧
 (isJs
 ((eltV ls x_1).part
 (4 : Nat)).asVec ∧
 okJ m
 (JV.mk
 ((eltV ls x_1).part (0 : Nat)).asInt
 ((eltV ls x_1).part
 (1 : Nat)).asBool
 ((eltV ls x_1).part
 (2 : Nat)).asStr
 ((eltV ls x_1).part
 (3 : Nat)).asNil
 ((eltV ls x_1).part
 (3 : Nat)).asStrs
 ((eltV ls x_1).part
 (4 : Nat)).asNil
 (jdecs
 ((eltV ls x_1).part
 (4 : Nat)).asVec)) ∧
 sizeJ
 (JV.mk
 ((eltV ls x_1).part
 (0 : Nat)).asInt
 ((eltV ls x_1).part
 (1 : Nat)).asBool
 ((eltV ls x_1).part
 (2 : Nat)).asStr
 ((eltV ls x_1).part
 (3 : Nat)).asNil
 ((eltV ls x_1).part
 (3 : Nat)).asStrs
 ((eltV ls x_1).part
 (4 : Nat)).asNil
 (jdecs
 ((eltV ls x_1).part
 (4 : Nat)).asVec)) ≤
 (600000 : Nat) ∧
 (0 : Int) ≤ d + (1 : Int) ∧ d + (1 : Int) ≤ (128 : Int)) ∧
 ((!mayJ isNumM validL
 (JV.mk
 ((eltV ls x_1).part
 (0 : Nat)).asInt
 ((eltV ls x_1).part
 (1 : Nat)).asBool
 ((eltV ls x_1).part
 (2 : Nat)).asStr
 ((eltV ls x_1).part
 (3 : Nat)).asNil
 ((eltV ls x_1).part
 (3 : Nat)).asStrs
 ((eltV ls x_1).part
 (4 : Nat)).asNil
 (jdecs
 ((eltV ls x_1).part
 (4 : Nat)).asVec))
 ((128 : Int) - (d + (1 : Int))).toNat) =
 true →
 k (PV.bool false)) ∧
 ((!mayJ isNumM validL
 (JV.mk
 ((eltV ls x_1).part
 (0 : Nat)).asInt
 ((eltV ls x_1).part
 (1 : Nat)).asBool
 ((eltV ls x_1).part
 (2 : Nat)).asStr
 ((eltV ls x_1).part
 (3 : Nat)).asNil
 ((eltV ls x_1).part
 (3 : Nat)).asStrs
 ((eltV ls x_1).part
 (4 : Nat)).asNil
 (jdecs
 ((eltV ls x_1).part
 (4 : Nat)).asVec))
 ((128 : Int) - (d + (1 : Int))).toNat) =
 false →
 inI64 (x_1 + (1 : Int)) ∧
 VS.mk []
 [(0,
 PV.agg
 [PV.int .i64 kd, PV.bool bv, PV.str sv,
 PV.row nk (BRow.strs ks) (0 : Nat),
 PV.vec nl (5 : Nat) ls (0 : Nat)]),
 (1, PV.int .i64 d),
 (2, PV.ptr ((2 : Nat) + (32 : Nat)) (0 : Nat)),
 (4, PV.bool false), ((5 : Nat), PV.int .i64 x),
 ((6 : Nat), PV.undef), ((7 : Nat), PV.int .i64 (x_1 + (1 : Int))),
 (66,
 PV.bool
 (bif
 bif
 bif
 bif
 bif decide (kd < (0 : Int)) then true
 else decide ((5 : Int) < kd) then
 true
 else bif bv then !decide (kd = (1 : Int)) else false then
 true
 else
 bif
 bif !decide (sv = (ByteArray.mk #[]).data.toList) then
 !decide (kd = (2 : Int))
 else false then
 !decide (kd = (3 : Int))
 else false then
 true
 else
 bif
 bif decide ((0 : Int) < lenZ ls) then !decide (kd = (4 : Int))
 else false then
 !decide (kd = (5 : Int))
 else false then
 true
 else
 bif decide ((0 : Int) < Int.ofNat ks.length) then !decide (kd = (5 : Int))
 else false)),
 (68, PV.int .i64 kd),
 (69, PV.bool (decide (kd = (2 : Int)))),
 (74, PV.bool (decide (kd = (3 : Int)))),
 (80, PV.bool (decide (kd = (4 : Int)))),
 (98,
 PV.bool
 (bif decide ((128 : Int) ≤ d) then true
 else
 bif decide (kd = (5 : Int)) then !decide (Int.ofNat ks.length = lenZ ls)
 else false)),
 ((103 : Nat), PV.bool (decide (x < Int.ofNat ks.length))),
 ((113 : Nat), PV.undef), ((116 : Nat), PV.undef),
 ((129 : Nat), PV.undef), ((134 : Nat), PV.undef),
 ((145 : Nat), PV.undef)]
 [((2 : Nat) + (32 : Nat),
 PV.agg
 [PV.int .i64 kd, PV.bool bv, PV.str sv,
 PV.row nk (BRow.strs ks) (0 : Nat),
 PV.vec nl (5 : Nat) ls (0 : Nat)])] =
 VS.mk []
 [(0,
 PV.agg
 [PV.int .i64 kd, PV.bool bv, PV.str sv,
 PV.row nk (BRow.strs ks) (0 : Nat),
 PV.vec nl (5 : Nat) ls (0 : Nat)]),
 (1, PV.int .i64 d),
 (2, PV.ptr ((2 : Nat) + (32 : Nat)) (0 : Nat)),
 (4, PV.bool false), ((5 : Nat), PV.int .i64 x),
 ((6 : Nat), PV.undef), ((7 : Nat), PV.int .i64 (x_1 + (1 : Int))),
 (66,
 PV.bool
 (bif
 bif
 bif
 bif
 bif decide (kd < (0 : Int)) then true
 else decide ((5 : Int) < kd) then
 true
 else bif bv then !decide (kd = (1 : Int)) else false then
 true
 else
 bif
 bif !decide (sv = (ByteArray.mk #[]).data.toList) then
 !decide (kd = (2 : Int))
 else false then
 !decide (kd = (3 : Int))
 else false then
 true
 else
 bif
 bif decide ((0 : Int) < lenZ ls) then !decide (kd = (4 : Int))
 else false then
 !decide (kd = (5 : Int))
 else false then
 true
 else
 bif decide ((0 : Int) < Int.ofNat ks.length) then !decide (kd = (5 : Int))
 else false)),
 (68, PV.int .i64 kd),
 (69, PV.bool (decide (kd = (2 : Int)))),
 (74, PV.bool (decide (kd = (3 : Int)))),
 (80, PV.bool (decide (kd = (4 : Int)))),
 (98,
 PV.bool
 (bif decide ((128 : Int) ≤ d) then true
 else
 bif decide (kd = (5 : Int)) then !decide (Int.ofNat ks.length = lenZ ls)
 else false)),
 ((103 : Nat), PV.bool (decide (x < Int.ofNat ks.length))),
 ((113 : Nat), PV.undef), ((116 : Nat), PV.undef),
 ((129 : Nat), PV.undef), ((134 : Nat), PV.undef),
 ((145 : Nat), PV.undef)]
 [((2 : Nat) + (32 : Nat),
 PV.agg
 [PV.int .i64 kd, PV.bool bv, PV.str sv,
 PV.row nk (BRow.strs ks) (0 : Nat),
 PV.vec nl (5 : Nat) ls (0 : Nat)])] ∧
 ((0 : Int) ≤ x_1 + (1 : Int) ∧
 x_1 + (1 : Int) ≤ ↑ls.length ∧
 mayJs isNumM validL
 (List.drop (x_1 + (1 : Int)).toNat (jdecs ls)) ((127 : Int) - d).toNat =
 mayJs isNumM validL
 (jdecs ls) ((127 : Int) - d).toNat) ∧
 (↑ls.length - (x_1 + (1 : Int))).toNat < (↑ls.length - x_1).toNat)) ∧
 (decide (x_1 < lenZ ls) = false → k (PV.bool true))))) ∧
 (decide (kd = (4 : Int)) = false →
 VS.mk []
 [(0,
 PV.agg
 [PV.int .i64 kd, PV.bool bv, PV.str sv, PV.row nk (BRow.strs ks) (0 : Nat),
 PV.vec nl (5 : Nat) ls (0 : Nat)]),
 (1, PV.int .i64 d), (2, PV.ptr ((2 : Nat) + (32 : Nat)) (0 : Nat)),
 (4, PV.bool false), (5, PV.int .i64 (0 : Int)), ((6 : Nat), PV.undef),
 (7, PV.undef),
 (66,
 PV.bool
 (bif
 bif
 bif
 bif bif decide (kd < (0 : Int)) then true else decide ((5 : Int) < kd) then true
 else bif bv then !decide (kd = (1 : Int)) else false then
 true
 else
 bif bif !decide (sv = (ByteArray.mk #[]).data.toList) then !decide (kd = (2 : Int)) else false then
 !decide (kd = (3 : Int))
 else false then
 true
 else
 bif bif decide ((0 : Int) < lenZ ls) then !decide (kd = (4 : Int)) else false then !decide (kd = (5 : Int))
 else false then
 true
 else bif decide ((0 : Int) < Int.ofNat ks.length) then !decide (kd = (5 : Int)) else false)),
 (68, PV.int .i64 kd), (69, PV.bool (decide (kd = (2 : Int)))),
 (74, PV.bool (decide (kd = (3 : Int)))), (80, PV.bool (decide (kd = (4 : Int)))),
 (98, PV.undef), ((103 : Nat), PV.undef), ((113 : Nat), PV.undef), ((116 : Nat), PV.undef),
 ((129 : Nat), PV.undef), (134, PV.undef), (145, PV.undef)]
 [((2 : Nat) + (32 : Nat),
 PV.agg
 [PV.int .i64 kd, PV.bool bv, PV.str sv, PV.row nk (BRow.strs ks) (0 : Nat),
 PV.vec nl (5 : Nat) ls (0 : Nat)])] =
 VS.mk []
 [(0,
 PV.agg
 [PV.int .i64 kd, PV.bool bv, PV.str sv, PV.row nk (BRow.strs ks) (0 : Nat),
 PV.vec nl (5 : Nat) ls (0 : Nat)]),
 (1, PV.int .i64 d), (2, PV.ptr ((2 : Nat) + (32 : Nat)) (0 : Nat)),
 (4, PV.bool false), ((5 : Nat), PV.int .i64 (0 : Int)), ((6 : Nat), PV.undef),
 (7, PV.undef),
 (66,
 PV.bool
 (bif
 bif
 bif
 bif bif decide (kd < (0 : Int)) then true else decide ((5 : Int) < kd) then true
 else bif bv then !decide (kd = (1 : Int)) else false then
 true
 else
 bif bif !decide (sv = (ByteArray.mk #[]).data.toList) then !decide (kd = (2 : Int)) else false then
 !decide (kd = (3 : Int))
 else false then
 true
 else
 bif bif decide ((0 : Int) < lenZ ls) then !decide (kd = (4 : Int)) else false then !decide (kd = (5 : Int))
 else false then
 true
 else bif decide ((0 : Int) < Int.ofNat ks.length) then !decide (kd = (5 : Int)) else false)),
 (68, PV.int .i64 kd), (69, PV.bool (decide (kd = (2 : Int)))),
 (74, PV.bool (decide (kd = (3 : Int)))), (80, PV.bool (decide (kd = (4 : Int)))),
 (98, PV.undef), ((103 : Nat), PV.undef), ((113 : Nat), PV.undef), ((116 : Nat), PV.undef),
 ((129 : Nat), PV.undef), (134, PV.undef), (145, PV.undef)]
 [((2 : Nat) + (32 : Nat),
 PV.agg
 [PV.int .i64 kd, PV.bool bv, PV.str sv, PV.row nk (BRow.strs ks) (0 : Nat),
 PV.vec nl (5 : Nat) ls (0 : Nat)])] ∧
 ((0 : Int) ≤ (0 : Int) ∧
 (0 : Int) ≤ ↑ks.length ∧
 (List.take (Int.toNat (0 : Int)) ks).all validL = true ∧
 nodupJ (List.take (Int.toNat (0 : Int)) ks) = true) ∧
 ∀ (x : Int),
 (0 : Int) ≤ x ∧
 x ≤ ↑ks.length ∧
 (List.take x.toNat ks).all validL = true ∧ nodupJ (List.take x.toNat ks) = true →
 (decide (x < Int.ofNat ks.length) = true →
 within x (Int.ofNat ks.length) ∧
 List.length (strZ ks x) ≤ Go.Vc.maxLen ∧
 (List.length (strZ ks x)).le (1000000 : Nat) ∧
 ((!validL (strZ ks x)) = true → k (PV.bool false)) ∧
 ((!validL (strZ ks x)) = false →
 VS.mk []
 [(0,
 PV.agg
 [PV.int .i64 kd, PV.bool bv, PV.str sv,
 PV.row nk (BRow.strs ks) (0 : Nat), PV.vec nl (5 : Nat) ls (0 : Nat)]),
 (1, PV.int .i64 d), (2, PV.ptr ((2 : Nat) + (32 : Nat)) (0 : Nat)),
 (4, PV.bool false), ((5 : Nat), PV.int .i64 x),
 ((6 : Nat), PV.int .i64 (0 : Int)), (7, PV.undef),
 (66,
 PV.bool
 (bif
 bif
 bif
 bif bif decide (kd < (0 : Int)) then true else decide ((5 : Int) < kd) then true
 else bif bv then !decide (kd = (1 : Int)) else false then
 true
 else
 bif
 bif !decide (sv = (ByteArray.mk #[]).data.toList) then !decide (kd = (2 : Int))
 else false then
 !decide (kd = (3 : Int))
 else false then
 true
 else
 bif bif decide ((0 : Int) < lenZ ls) then !decide (kd = (4 : Int)) else false then
 !decide (kd = (5 : Int))
 else false then
 true
 else bif decide ((0 : Int) < Int.ofNat ks.length) then !decide (kd = (5 : Int)) else false)),
 (68, PV.int .i64 kd), (69, PV.bool (decide (kd = (2 : Int)))),
 (74, PV.bool (decide (kd = (3 : Int)))), (80, PV.bool (decide (kd = (4 : Int)))),
 (98, PV.undef), ((103 : Nat), PV.bool (decide (x < Int.ofNat ks.length))),
 ((113 : Nat), PV.bool !validL (strZ ks x)),
 ((116 : Nat), PV.undef), ((129 : Nat), PV.undef), (134, PV.undef),
 (145, PV.undef)]
 [((2 : Nat) + (32 : Nat),
 PV.agg
 [PV.int .i64 kd, PV.bool bv, PV.str sv,
 PV.row nk (BRow.strs ks) (0 : Nat), PV.vec nl (5 : Nat) ls (0 : Nat)])] =
 VS.mk []
 [(0,
 PV.agg
 [PV.int .i64 kd, PV.bool bv, PV.str sv,
 PV.row nk (BRow.strs ks) (0 : Nat), PV.vec nl (5 : Nat) ls (0 : Nat)]),
 (1, PV.int .i64 d), (2, PV.ptr ((2 : Nat) + (32 : Nat)) (0 : Nat)),
 (4, PV.bool false), ((5 : Nat), PV.int .i64 x),
 ((6 : Nat), PV.int .i64 (0 : Int)), (7, PV.undef),
 (66,
 PV.bool
 (bif
 bif
 bif
 bif bif decide (kd < (0 : Int)) then true else decide ((5 : Int) < kd) then true
 else bif bv then !decide (kd = (1 : Int)) else false then
 true
 else
 bif
 bif !decide (sv = (ByteArray.mk #[]).data.toList) then !decide (kd = (2 : Int))
 else false then
 !decide (kd = (3 : Int))
 else false then
 true
 else
 bif bif decide ((0 : Int) < lenZ ls) then !decide (kd = (4 : Int)) else false then
 !decide (kd = (5 : Int))
 else false then
 true
 else bif decide ((0 : Int) < Int.ofNat ks.length) then !decide (kd = (5 : Int)) else false)),
 (68, PV.int .i64 kd), (69, PV.bool (decide (kd = (2 : Int)))),
 (74, PV.bool (decide (kd = (3 : Int)))), (80, PV.bool (decide (kd = (4 : Int)))),
 (98, PV.undef), ((103 : Nat), PV.bool (decide (x < Int.ofNat ks.length))),
 ((113 : Nat), PV.bool !validL (strZ ks x)),
 ((116 : Nat), PV.undef), ((129 : Nat), PV.undef), (134, PV.undef),
 (145, PV.undef)]
 [((2 : Nat) + (32 : Nat),
 PV.agg
 [PV.int .i64 kd, PV.bool bv, PV.str sv,
 PV.row nk (BRow.strs ks) (0 : Nat), PV.vec nl (5 : Nat) ls (0 : Nat)])] ∧
 ((0 : Int) ≤ (0 : Int) ∧ (0 : Int) ≤ x ∧ (List.take (Int.toNat (0 : Int)) ks).contains (strZ ks x) = false) ∧
 ∀ (x_1 : Int),
 (0 : Int) ≤ x_1 ∧ x_1 ≤ x ∧ (List.take x_1.toNat ks).contains (strZ ks x) = false →
 (decide (x_1 < x) = true →
 within x_1 (Int.ofNat ks.length) ∧
 within x (Int.ofNat ks.length) ∧
 (decide (strZ ks x_1 = strZ ks x) = true → k (PV.bool false)) ∧
 (decide (strZ ks x_1 = strZ ks x) = false →
 inI64 (x_1 + (1 : Int)) ∧
 VS.mk []
 [(0,
 PV.agg
 [PV.int .i64 kd, PV.bool bv, PV.str sv,
 PV.row nk (BRow.strs ks) (0 : Nat),
 PV.vec nl (5 : Nat) ls (0 : Nat)]),
 (1, PV.int .i64 d),
 (2, PV.ptr ((2 : Nat) + (32 : Nat)) (0 : Nat)),
 (4, PV.bool false), ((5 : Nat), PV.int .i64 x),
 ((6 : Nat), PV.int .i64 (x_1 + (1 : Int))), (7, PV.undef),
 (66,
 PV.bool
 (bif
 bif
 bif
 bif
 bif decide (kd < (0 : Int)) then true
 else decide ((5 : Int) < kd) then
 true
 else bif bv then !decide (kd = (1 : Int)) else false then
 true
 else
 bif
 bif !decide (sv = (ByteArray.mk #[]).data.toList) then
 !decide (kd = (2 : Int))
 else false then
 !decide (kd = (3 : Int))
 else false then
 true
 else
 bif
 bif decide ((0 : Int) < lenZ ls) then !decide (kd = (4 : Int))
 else false then
 !decide (kd = (5 : Int))
 else false then
 true
 else
 bif decide ((0 : Int) < Int.ofNat ks.length) then !decide (kd = (5 : Int))
 else false)),
 (68, PV.int .i64 kd),
 (69, PV.bool (decide (kd = (2 : Int)))),
 (74, PV.bool (decide (kd = (3 : Int)))),
 (80, PV.bool (decide (kd = (4 : Int)))), (98, PV.undef),
 ((103 : Nat), PV.bool (decide (x < Int.ofNat ks.length))),
 ((113 : Nat), PV.bool !validL (strZ ks x)),
 ((116 : Nat), PV.undef), ((129 : Nat), PV.undef),
 (134, PV.undef), (145, PV.undef)]
 [((2 : Nat) + (32 : Nat),
 PV.agg
 [PV.int .i64 kd, PV.bool bv, PV.str sv,
 PV.row nk (BRow.strs ks) (0 : Nat),
 PV.vec nl (5 : Nat) ls (0 : Nat)])] =
 VS.mk []
 [(0,
 PV.agg
 [PV.int .i64 kd, PV.bool bv, PV.str sv,
 PV.row nk (BRow.strs ks) (0 : Nat),
 PV.vec nl (5 : Nat) ls (0 : Nat)]),
 (1, PV.int .i64 d),
 (2, PV.ptr ((2 : Nat) + (32 : Nat)) (0 : Nat)),
 (4, PV.bool false), ((5 : Nat), PV.int .i64 x),
 ((6 : Nat), PV.int .i64 (x_1 + (1 : Int))), (7, PV.undef),
 (66,
 PV.bool
 (bif
 bif
 bif
 bif
 bif decide (kd < (0 : Int)) then true
 else decide ((5 : Int) < kd) then
 true
 else bif bv then !decide (kd = (1 : Int)) else false then
 true
 else
 bif
 bif !decide (sv = (ByteArray.mk #[]).data.toList) then
 !decide (kd = (2 : Int))
 else false then
 !decide (kd = (3 : Int))
 else false then
 true
 else
 bif
 bif decide ((0 : Int) < lenZ ls) then !decide (kd = (4 : Int))
 else false then
 !decide (kd = (5 : Int))
 else false then
 true
 else
 bif decide ((0 : Int) < Int.ofNat ks.length) then !decide (kd = (5 : Int))
 else false)),
 (68, PV.int .i64 kd),
 (69, PV.bool (decide (kd = (2 : Int)))),
 (74, PV.bool (decide (kd = (3 : Int)))),
 (80, PV.bool (decide (kd = (4 : Int)))), (98, PV.undef),
 ((103 : Nat), PV.bool (decide (x < Int.ofNat ks.length))),
 ((113 : Nat), PV.bool !validL (strZ ks x)),
 ((116 : Nat), PV.undef), ((129 : Nat), PV.undef),
 (134, PV.undef), (145, PV.undef)]
 [((2 : Nat) + (32 : Nat),
 PV.agg
 [PV.int .i64 kd, PV.bool bv, PV.str sv,
 PV.row nk (BRow.strs ks) (0 : Nat),
 PV.vec nl (5 : Nat) ls (0 : Nat)])] ∧
 ((0 : Int) ≤ x_1 + (1 : Int) ∧
 x_1 + (1 : Int) ≤ x ∧
 (List.take (x_1 + (1 : Int)).toNat ks).contains (strZ ks x) = false) ∧
 (x - (x_1 + (1 : Int))).toNat < (x - x_1).toNat)) ∧
 (decide (x_1 < x) = false →
 inI64 (x + (1 : Int)) ∧
 VS.mk []
 [(0,
 PV.agg
 [PV.int .i64 kd, PV.bool bv, PV.str sv,
 PV.row nk (BRow.strs ks) (0 : Nat), PV.vec nl (5 : Nat) ls (0 : Nat)]),
 (1, PV.int .i64 d),
 (2, PV.ptr ((2 : Nat) + (32 : Nat)) (0 : Nat)), (4, PV.bool false),
 ((5 : Nat), PV.int .i64 (x + (1 : Int))), ((6 : Nat), PV.undef),
 (7, PV.undef),
 (66,
 PV.bool
 (bif
 bif
 bif
 bif bif decide (kd < (0 : Int)) then true else decide ((5 : Int) < kd) then true
 else bif bv then !decide (kd = (1 : Int)) else false then
 true
 else
 bif
 bif !decide (sv = (ByteArray.mk #[]).data.toList) then
 !decide (kd = (2 : Int))
 else false then
 !decide (kd = (3 : Int))
 else false then
 true
 else
 bif
 bif decide ((0 : Int) < lenZ ls) then !decide (kd = (4 : Int))
 else false then
 !decide (kd = (5 : Int))
 else false then
 true
 else
 bif decide ((0 : Int) < Int.ofNat ks.length) then !decide (kd = (5 : Int)) else false)),
 (68, PV.int .i64 kd),
 (69, PV.bool (decide (kd = (2 : Int)))),
 (74, PV.bool (decide (kd = (3 : Int)))),
 (80, PV.bool (decide (kd = (4 : Int)))), (98, PV.undef),
 ((103 : Nat), PV.undef), ((113 : Nat), PV.undef), ((116 : Nat), PV.undef),
 ((129 : Nat), PV.undef), (134, PV.undef), (145, PV.undef)]
 [((2 : Nat) + (32 : Nat),
 PV.agg
 [PV.int .i64 kd, PV.bool bv, PV.str sv,
 PV.row nk (BRow.strs ks) (0 : Nat),
 PV.vec nl (5 : Nat) ls (0 : Nat)])] =
 VS.mk []
 [(0,
 PV.agg
 [PV.int .i64 kd, PV.bool bv, PV.str sv,
 PV.row nk (BRow.strs ks) (0 : Nat), PV.vec nl (5 : Nat) ls (0 : Nat)]),
 (1, PV.int .i64 d),
 (2, PV.ptr ((2 : Nat) + (32 : Nat)) (0 : Nat)), (4, PV.bool false),
 ((5 : Nat), PV.int .i64 (x + (1 : Int))), ((6 : Nat), PV.undef),
 (7, PV.undef),
 (66,
 PV.bool
 (bif
 bif
 bif
 bif bif decide (kd < (0 : Int)) then true else decide ((5 : Int) < kd) then true
 else bif bv then !decide (kd = (1 : Int)) else false then
 true
 else
 bif
 bif !decide (sv = (ByteArray.mk #[]).data.toList) then
 !decide (kd = (2 : Int))
 else false then
 !decide (kd = (3 : Int))
 else false then
 true
 else
 bif
 bif decide ((0 : Int) < lenZ ls) then !decide (kd = (4 : Int))
 else false then
 !decide (kd = (5 : Int))
 else false then
 true
 else
 bif decide ((0 : Int) < Int.ofNat ks.length) then !decide (kd = (5 : Int)) else false)),
 (68, PV.int .i64 kd),
 (69, PV.bool (decide (kd = (2 : Int)))),
 (74, PV.bool (decide (kd = (3 : Int)))),
 (80, PV.bool (decide (kd = (4 : Int)))), (98, PV.undef),
 ((103 : Nat), PV.undef), ((113 : Nat), PV.undef), ((116 : Nat), PV.undef),
 ((129 : Nat), PV.undef), (134, PV.undef), (145, PV.undef)]
 [((2 : Nat) + (32 : Nat),
 PV.agg
 [PV.int .i64 kd, PV.bool bv, PV.str sv,
 PV.row nk (BRow.strs ks) (0 : Nat),
 PV.vec nl (5 : Nat) ls (0 : Nat)])] ∧
 ((0 : Int) ≤ x + (1 : Int) ∧
 x + (1 : Int) ≤ ↑ks.length ∧
 (List.take (x + (1 : Int)).toNat ks).all validL = true ∧
 nodupJ (List.take (x + (1 : Int)).toNat ks) = true) ∧
 (↑ks.length - (x + (1 : Int))).toNat < (↑ks.length - x).toNat))) ∧
 (decide (x < Int.ofNat ks.length) = false →
 VS.mk []
 [(0,
 PV.agg
 [PV.int .i64 kd, PV.bool bv, PV.str sv, PV.row nk (BRow.strs ks) (0 : Nat),
 PV.vec nl (5 : Nat) ls (0 : Nat)]),
 (1, PV.int .i64 d), (2, PV.ptr ((2 : Nat) + (32 : Nat)) (0 : Nat)),
 (4, PV.bool false), ((5 : Nat), PV.int .i64 x), ((6 : Nat), PV.undef),
 (7, PV.int .i64 (0 : Int)),
 (66,
 PV.bool
 (bif
 bif
 bif
 bif bif decide (kd < (0 : Int)) then true else decide ((5 : Int) < kd) then true
 else bif bv then !decide (kd = (1 : Int)) else false then
 true
 else
 bif bif !decide (sv = (ByteArray.mk #[]).data.toList) then !decide (kd = (2 : Int)) else false then
 !decide (kd = (3 : Int))
 else false then
 true
 else
 bif bif decide ((0 : Int) < lenZ ls) then !decide (kd = (4 : Int)) else false then
 !decide (kd = (5 : Int))
 else false then
 true
 else bif decide ((0 : Int) < Int.ofNat ks.length) then !decide (kd = (5 : Int)) else false)),
 (68, PV.int .i64 kd), (69, PV.bool (decide (kd = (2 : Int)))),
 (74, PV.bool (decide (kd = (3 : Int)))), (80, PV.bool (decide (kd = (4 : Int)))),
 (98, PV.undef), ((103 : Nat), PV.bool (decide (x < Int.ofNat ks.length))),
 ((113 : Nat), PV.undef), ((116 : Nat), PV.undef), ((129 : Nat), PV.undef),
 ((134 : Nat), PV.undef), ((145 : Nat), PV.undef)]
 [((2 : Nat) + (32 : Nat),
 PV.agg
 [PV.int .i64 kd, PV.bool bv, PV.str sv, PV.row nk (BRow.strs ks) (0 : Nat),
 PV.vec nl (5 : Nat) ls (0 : Nat)])] =
 VS.mk []
 [(0,
 PV.agg
 [PV.int .i64 kd, PV.bool bv, PV.str sv, PV.row nk (BRow.strs ks) (0 : Nat),
 PV.vec nl (5 : Nat) ls (0 : Nat)]),
 (1, PV.int .i64 d), (2, PV.ptr ((2 : Nat) + (32 : Nat)) (0 : Nat)),
 (4, PV.bool false), ((5 : Nat), PV.int .i64 x), ((6 : Nat), PV.undef),
 ((7 : Nat), PV.int .i64 (0 : Int)),
 (66,
 PV.bool
 (bif
 bif
 bif
 bif bif decide (kd < (0 : Int)) then true else decide ((5 : Int) < kd) then true
 else bif bv then !decide (kd = (1 : Int)) else false then
 true
 else
 bif bif !decide (sv = (ByteArray.mk #[]).data.toList) then !decide (kd = (2 : Int)) else false then
 !decide (kd = (3 : Int))
 else false then
 true
 else
 bif bif decide ((0 : Int) < lenZ ls) then !decide (kd = (4 : Int)) else false then
 !decide (kd = (5 : Int))
 else false then
 true
 else bif decide ((0 : Int) < Int.ofNat ks.length) then !decide (kd = (5 : Int)) else false)),
 (68, PV.int .i64 kd), (69, PV.bool (decide (kd = (2 : Int)))),
 (74, PV.bool (decide (kd = (3 : Int)))), (80, PV.bool (decide (kd = (4 : Int)))),
 (98, PV.undef), ((103 : Nat), PV.bool (decide (x < Int.ofNat ks.length))),
 ((113 : Nat), PV.undef), ((116 : Nat), PV.undef), ((129 : Nat), PV.undef),
 ((134 : Nat), PV.undef), ((145 : Nat), PV.undef)]
 [((2 : Nat) + (32 : Nat),
 PV.agg
 [PV.int .i64 kd, PV.bool bv, PV.str sv, PV.row nk (BRow.strs ks) (0 : Nat),
 PV.vec nl (5 : Nat) ls (0 : Nat)])] ∧
 ((0 : Int) ≤ (0 : Int) ∧
 (0 : Int) ≤ ↑ls.length ∧
 mayJs isNumM validL
 (List.drop (Int.toNat (0 : Int)) (jdecs ls)) ((127 : Int) - d).toNat =
 mayJs isNumM validL (jdecs ls)
 ((127 : Int) - d).toNat) ∧
 ∀ (x_1 : Int),
 (0 : Int) ≤ x_1 ∧
 x_1 ≤ ↑ls.length ∧
 mayJs isNumM validL
 (List.drop x_1.toNat (jdecs ls)) ((127 : Int) - d).toNat =
 mayJs isNumM validL (jdecs ls)
 ((127 : Int) - d).toNat →
 (decide (x_1 < lenZ ls) = true →
 within x_1 (lenZ ls) ∧
 eltV ls x_1 =
 PV.agg
 [PV.int .i64
 ((eltV ls x_1).part (0 : Nat)).asInt,
 PV.bool
 ((eltV ls x_1).part
 (1 : Nat)).asBool,
 PV.str
 ((eltV ls x_1).part
 (2 : Nat)).asStr,
 PV.row
 ((eltV ls x_1).part
 (3 : Nat)).asNil
 (BRow.strs
 ((eltV ls x_1).part
 (3 : Nat)).asStrs)
 (0 : Nat),
 PV.vec
 ((eltV ls x_1).part
 (4 : Nat)).asNil
 (nat_lit 5)
 ((eltV ls x_1).part
 (4 : Nat)).asVec
 (0 : Nat)] ∧
 inI64 (d + (1 : Int)) ∧
 (isJs
 ((eltV ls x_1).part
 (4 : Nat)).asVec ∧
 okJ m
 (JV.mk
 ((eltV ls x_1).part (0 : Nat)).asInt
 ((eltV ls x_1).part
 (1 : Nat)).asBool
 ((eltV ls x_1).part
 (2 : Nat)).asStr
 ((eltV ls x_1).part
 (3 : Nat)).asNil
 ((eltV ls x_1).part
 (3 : Nat)).asStrs
 ((eltV ls x_1).part
 (4 : Nat)).asNil
 (jdecs
 ((eltV ls x_1).part
 (4 : Nat)).asVec)) ∧
 sizeJ
 (JV.mk
 ((eltV ls x_1).part (0 : Nat)).asInt
 ((eltV ls x_1).part
 (1 : Nat)).asBool
 ((eltV ls x_1).part
 (2 : Nat)).asStr
 ((eltV ls x_1).part
 (3 : Nat)).asNil
 ((eltV ls x_1).part
 (3 : Nat)).asStrs
 ((eltV ls x_1).part
 (4 : Nat)).asNil
 (jdecs
 ((eltV ls x_1).part
 (4 : Nat)).asVec)) ≤
 (600000 : Nat) ∧
 (0 : Int) ≤ d + (1 : Int) ∧ d + (1 : Int) ≤ (128 : Int)) ∧
 ((!mayJ isNumM validL
 (JV.mk
 ((eltV ls x_1).part (0 : Nat)).asInt
 ((eltV ls x_1).part
 (1 : Nat)).asBool
 ((eltV ls x_1).part
 (2 : Nat)).asStr
 ((eltV ls x_1).part
 (3 : Nat)).asNil
 ((eltV ls x_1).part
 (3 : Nat)).asStrs
 ((eltV ls x_1).part
 (4 : Nat)).asNil
 (jdecs
 ((eltV ls x_1).part
 (4 : Nat)).asVec))
 ((128 : Int) - (d + (1 : Int))).toNat) =
 true →
 k (PV.bool false)) ∧
 ((!mayJ isNumM validL
 (JV.mk
 ((eltV ls x_1).part (0 : Nat)).asInt
 ((eltV ls x_1).part
 (1 : Nat)).asBool
 ((eltV ls x_1).part
 (2 : Nat)).asStr
 ((eltV ls x_1).part
 (3 : Nat)).asNil
 ((eltV ls x_1).part
 (3 : Nat)).asStrs
 ((eltV ls x_1).part
 (4 : Nat)).asNil
 (jdecs
 ((eltV ls x_1).part
 (4 : Nat)).asVec))
 ((128 : Int) - (d + (1 : Int))).toNat) =
 false →
 inI64 (x_1 + (1 : Int)) ∧
 VS.mk []
 [(0,
 PV.agg
 [PV.int .i64 kd, PV.bool bv, PV.str sv,
 PV.row nk (BRow.strs ks) (0 : Nat),
 PV.vec nl (5 : Nat) ls (0 : Nat)]),
 (1, PV.int .i64 d),
 (2, PV.ptr ((2 : Nat) + (32 : Nat)) (0 : Nat)),
 (4, PV.bool false), ((5 : Nat), PV.int .i64 x),
 ((6 : Nat), PV.undef), ((7 : Nat), PV.int .i64 (x_1 + (1 : Int))),
 (66,
 PV.bool
 (bif
 bif
 bif
 bif bif decide (kd < (0 : Int)) then true else decide ((5 : Int) < kd) then
 true
 else bif bv then !decide (kd = (1 : Int)) else false then
 true
 else
 bif
 bif !decide (sv = (ByteArray.mk #[]).data.toList) then
 !decide (kd = (2 : Int))
 else false then
 !decide (kd = (3 : Int))
 else false then
 true
 else
 bif
 bif decide ((0 : Int) < lenZ ls) then !decide (kd = (4 : Int))
 else false then
 !decide (kd = (5 : Int))
 else false then
 true
 else
 bif decide ((0 : Int) < Int.ofNat ks.length) then !decide (kd = (5 : Int)) else false)),
 (68, PV.int .i64 kd),
 (69, PV.bool (decide (kd = (2 : Int)))),
 (74, PV.bool (decide (kd = (3 : Int)))),
 (80, PV.bool (decide (kd = (4 : Int)))), (98, PV.undef),
 ((103 : Nat), PV.bool (decide (x < Int.ofNat ks.length))),
 ((113 : Nat), PV.undef), ((116 : Nat), PV.undef), ((129 : Nat), PV.undef),
 ((134 : Nat), PV.undef), ((145 : Nat), PV.undef)]
 [((2 : Nat) + (32 : Nat),
 PV.agg
 [PV.int .i64 kd, PV.bool bv, PV.str sv,
 PV.row nk (BRow.strs ks) (0 : Nat),
 PV.vec nl (5 : Nat) ls (0 : Nat)])] =
 VS.mk []
 [(0,
 PV.agg
 [PV.int .i64 kd, PV.bool bv, PV.str sv,
 PV.row nk (BRow.strs ks) (0 : Nat),
 PV.vec nl (5 : Nat) ls (0 : Nat)]),
 (1, PV.int .i64 d),
 (2, PV.ptr ((2 : Nat) + (32 : Nat)) (0 : Nat)),
 (4, PV.bool false), ((5 : Nat), PV.int .i64 x),
 ((6 : Nat), PV.undef), ((7 : Nat), PV.int .i64 (x_1 + (1 : Int))),
 (66,
 PV.bool
 (bif
 bif
 bif
 bif bif decide (kd < (0 : Int)) then true else decide ((5 : Int) < kd) then
 true
 else bif bv then !decide (kd = (1 : Int)) else false then
 true
 else
 bif
 bif !decide (sv = (ByteArray.mk #[]).data.toList) then
 !decide (kd = (2 : Int))
 else false then
 !decide (kd = (3 : Int))
 else false then
 true
 else
 bif
 bif decide ((0 : Int) < lenZ ls) then !decide (kd = (4 : Int))
 else false then
 !decide (kd = (5 : Int))
 else false then
 true
 else
 bif decide ((0 : Int) < Int.ofNat ks.length) then !decide (kd = (5 : Int)) else false)),
 (68, PV.int .i64 kd),
 (69, PV.bool (decide (kd = (2 : Int)))),
 (74, PV.bool (decide (kd = (3 : Int)))),
 (80, PV.bool (decide (kd = (4 : Int)))), (98, PV.undef),
 ((103 : Nat), PV.bool (decide (x < Int.ofNat ks.length))),
 ((113 : Nat), PV.undef), ((116 : Nat), PV.undef), ((129 : Nat), PV.undef),
 ((134 : Nat), PV.undef), ((145 : Nat), PV.undef)]
 [((2 : Nat) + (32 : Nat),
 PV.agg
 [PV.int .i64 kd, PV.bool bv, PV.str sv,
 PV.row nk (BRow.strs ks) (0 : Nat),
 PV.vec nl (5 : Nat) ls (0 : Nat)])] ∧
 ((0 : Int) ≤ x_1 + (1 : Int) ∧
 x_1 + (1 : Int) ≤ ↑ls.length ∧
 mayJs isNumM validL
 (List.drop (x_1 + (1 : Int)).toNat (jdecs ls)) ((127 : Int) - d).toNat =
 mayJs isNumM validL
 (jdecs ls) ((127 : Int) - d).toNat) ∧
 (↑ls.length - (x_1 + (1 : Int))).toNat < (↑ls.length - x_1).toNat)) ∧
 (decide (x_1 < lenZ ls) = false → k (PV.bool true))))) ∧
 (decide (kd = (4 : Int)) = false →
 (decide (kd = (5 : Int)) = true →
 ((bif decide ((128 : Int) ≤ d) then true else bif decide (kd = (5 : Int)) then !decide (Int.ofNat ks.length = lenZ ls) else false) =
 true →
 k (PV.bool false)) ∧
 ((bif decide ((128 : Int) ≤ d) then true else bif decide (kd = (5 : Int)) then !decide (Int.ofNat ks.length = lenZ ls) else false) =
 false →
 VS.mk []
 [(0,
 PV.agg
 [PV.int .i64 kd, PV.bool bv, PV.str sv, PV.row nk (BRow.strs ks) (0 : Nat),
 PV.vec nl (5 : Nat) ls (0 : Nat)]),
 (1, PV.int .i64 d), (2, PV.ptr ((2 : Nat) + (32 : Nat)) (0 : Nat)),
 (4, PV.bool false), (5, PV.int .i64 (0 : Int)), ((6 : Nat), PV.undef),
 (7, PV.undef),
 (66,
 PV.bool
 (bif
 bif
 bif
 bif bif decide (kd < (0 : Int)) then true else decide ((5 : Int) < kd) then true
 else bif bv then !decide (kd = (1 : Int)) else false then
 true
 else
 bif bif !decide (sv = (ByteArray.mk #[]).data.toList) then !decide (kd = (2 : Int)) else false then
 !decide (kd = (3 : Int))
 else false then
 true
 else
 bif bif decide ((0 : Int) < lenZ ls) then !decide (kd = (4 : Int)) else false then !decide (kd = (5 : Int))
 else false then
 true
 else bif decide ((0 : Int) < Int.ofNat ks.length) then !decide (kd = (5 : Int)) else false)),
 (68, PV.int .i64 kd), (69, PV.bool (decide (kd = (2 : Int)))),
 (74, PV.bool (decide (kd = (3 : Int)))), (80, PV.bool (decide (kd = (5 : Int)))),
 (98,
 PV.bool
 (bif decide ((128 : Int) ≤ d) then true
 else bif decide (kd = (5 : Int)) then !decide (Int.ofNat ks.length = lenZ ls) else false)),
 ((103 : Nat), PV.undef), ((113 : Nat), PV.undef), ((116 : Nat), PV.undef), ((129 : Nat), PV.undef),
 (134, PV.undef), (145, PV.undef)]
 [((2 : Nat) + (32 : Nat),
 PV.agg
 [PV.int .i64 kd, PV.bool bv, PV.str sv, PV.row nk (BRow.strs ks) (0 : Nat),
 PV.vec nl (5 : Nat) ls (0 : Nat)])] =
 VS.mk []
 [(0,
 PV.agg
 [PV.int .i64 kd, PV.bool bv, PV.str sv, PV.row nk (BRow.strs ks) (0 : Nat),
 PV.vec nl (5 : Nat) ls (0 : Nat)]),
 (1, PV.int .i64 d), (2, PV.ptr ((2 : Nat) + (32 : Nat)) (0 : Nat)),
 (4, PV.bool false), ((5 : Nat), PV.int .i64 (0 : Int)), ((6 : Nat), PV.undef),
 (7, PV.undef),
 (66,
 PV.bool
 (bif
 bif
 bif
 bif bif decide (kd < (0 : Int)) then true else decide ((5 : Int) < kd) then true
 else bif bv then !decide (kd = (1 : Int)) else false then
 true
 else
 bif bif !decide (sv = (ByteArray.mk #[]).data.toList) then !decide (kd = (2 : Int)) else false then
 !decide (kd = (3 : Int))
 else false then
 true
 else
 bif bif decide ((0 : Int) < lenZ ls) then !decide (kd = (4 : Int)) else false then !decide (kd = (5 : Int))
 else false then
 true
 else bif decide ((0 : Int) < Int.ofNat ks.length) then !decide (kd = (5 : Int)) else false)),
 (68, PV.int .i64 kd), (69, PV.bool (decide (kd = (2 : Int)))),
 (74, PV.bool (decide (kd = (3 : Int)))), (80, PV.bool (decide (kd = (5 : Int)))),
 (98,
 PV.bool
 (bif decide ((128 : Int) ≤ d) then true
 else bif decide (kd = (5 : Int)) then !decide (Int.ofNat ks.length = lenZ ls) else false)),
 ((103 : Nat), PV.undef), ((113 : Nat), PV.undef), ((116 : Nat), PV.undef), ((129 : Nat), PV.undef),
 (134, PV.undef), (145, PV.undef)]
 [((2 : Nat) + (32 : Nat),
 PV.agg
 [PV.int .i64 kd, PV.bool bv, PV.str sv, PV.row nk (BRow.strs ks) (0 : Nat),
 PV.vec nl (5 : Nat) ls (0 : Nat)])] ∧
 ((0 : Int) ≤ (0 : Int) ∧
 (0 : Int) ≤ ↑ks.length ∧
 (List.take (Int.toNat (0 : Int)) ks).all validL = true ∧
 nodupJ (List.take (Int.toNat (0 : Int)) ks) = true) ∧
 ∀ (x : Int),
 (0 : Int) ≤ x ∧
 x ≤ ↑ks.length ∧
 (List.take x.toNat ks).all validL = true ∧ nodupJ (List.take x.toNat ks) = true →
 (decide (x < Int.ofNat ks.length) = true →
 within x (Int.ofNat ks.length) ∧
 List.length (strZ ks x) ≤ Go.Vc.maxLen ∧
 (List.length (strZ ks x)).le (1000000 : Nat) ∧
 ((!validL (strZ ks x)) = true → k (PV.bool false)) ∧
 ((!validL (strZ ks x)) = false →
 VS.mk []
 [(0,
 PV.agg
 [PV.int .i64 kd, PV.bool bv, PV.str sv,
 PV.row nk (BRow.strs ks) (0 : Nat), PV.vec nl (5 : Nat) ls (0 : Nat)]),
 (1, PV.int .i64 d), (2, PV.ptr ((2 : Nat) + (32 : Nat)) (0 : Nat)),
 (4, PV.bool false), ((5 : Nat), PV.int .i64 x),
 ((6 : Nat), PV.int .i64 (0 : Int)), (7, PV.undef),
 (66,
 PV.bool
 (bif
 bif
 bif
 bif bif decide (kd < (0 : Int)) then true else decide ((5 : Int) < kd) then true
 else bif bv then !decide (kd = (1 : Int)) else false then
 true
 else
 bif
 bif !decide (sv = (ByteArray.mk #[]).data.toList) then !decide (kd = (2 : Int))
 else false then
 !decide (kd = (3 : Int))
 else false then
 true
 else
 bif bif decide ((0 : Int) < lenZ ls) then !decide (kd = (4 : Int)) else false then
 !decide (kd = (5 : Int))
 else false then
 true
 else bif decide ((0 : Int) < Int.ofNat ks.length) then !decide (kd = (5 : Int)) else false)),
 (68, PV.int .i64 kd), (69, PV.bool (decide (kd = (2 : Int)))),
 (74, PV.bool (decide (kd = (3 : Int)))),
 (80, PV.bool (decide (kd = (5 : Int)))),
 (98,
 PV.bool
 (bif decide ((128 : Int) ≤ d) then true
 else bif decide (kd = (5 : Int)) then !decide (Int.ofNat ks.length = lenZ ls) else false)),
 ((103 : Nat), PV.bool (decide (x < Int.ofNat ks.length))),
 ((113 : Nat), PV.bool !validL (strZ ks x)),
 ((116 : Nat), PV.undef), ((129 : Nat), PV.undef), (134, PV.undef),
 (145, PV.undef)]
 [((2 : Nat) + (32 : Nat),
 PV.agg
 [PV.int .i64 kd, PV.bool bv, PV.str sv,
 PV.row nk (BRow.strs ks) (0 : Nat), PV.vec nl (5 : Nat) ls (0 : Nat)])] =
 VS.mk []
 [(0,
 PV.agg
 [PV.int .i64 kd, PV.bool bv, PV.str sv,
 PV.row nk (BRow.strs ks) (0 : Nat), PV.vec nl (5 : Nat) ls (0 : Nat)]),
 (1, PV.int .i64 d), (2, PV.ptr ((2 : Nat) + (32 : Nat)) (0 : Nat)),
 (4, PV.bool false), ((5 : Nat), PV.int .i64 x),
 ((6 : Nat), PV.int .i64 (0 : Int)), (7, PV.undef),
 (66,
 PV.bool
 (bif
 bif
 bif
 bif bif decide (kd < (0 : Int)) then true else decide ((5 : Int) < kd) then true
 else bif bv then !decide (kd = (1 : Int)) else false then
 true
 else
 bif
 bif !decide (sv = (ByteArray.mk #[]).data.toList) then !decide (kd = (2 : Int))
 else false then
 !decide (kd = (3 : Int))
 else false then
 true
 else
 bif bif decide ((0 : Int) < lenZ ls) then !decide (kd = (4 : Int)) else false then
 !decide (kd = (5 : Int))
 else false then
 true
 else bif decide ((0 : Int) < Int.ofNat ks.length) then !decide (kd = (5 : Int)) else false)),
 (68, PV.int .i64 kd), (69, PV.bool (decide (kd = (2 : Int)))),
 (74, PV.bool (decide (kd = (3 : Int)))),
 (80, PV.bool (decide (kd = (5 : Int)))),
 (98,
 PV.bool
 (bif decide ((128 : Int) ≤ d) then true
 else bif decide (kd = (5 : Int)) then !decide (Int.ofNat ks.length = lenZ ls) else false)),
 ((103 : Nat), PV.bool (decide (x < Int.ofNat ks.length))),
 ((113 : Nat), PV.bool !validL (strZ ks x)),
 ((116 : Nat), PV.undef), ((129 : Nat), PV.undef), (134, PV.undef),
 (145, PV.undef)]
 [((2 : Nat) + (32 : Nat),
 PV.agg
 [PV.int .i64 kd, PV.bool bv, PV.str sv,
 PV.row nk (BRow.strs ks) (0 : Nat), PV.vec nl (5 : Nat) ls (0 : Nat)])] ∧
 ((0 : Int) ≤ (0 : Int) ∧
 (0 : Int) ≤ x ∧ (List.take (Int.toNat (0 : Int)) ks).contains (strZ ks x) = false) ∧
 ∀ (x_1 : Int),
 (0 : Int) ≤ x_1 ∧ x_1 ≤ x ∧ (List.take x_1.toNat ks).contains (strZ ks x) = false →
 (decide (x_1 < x) = true →
 within x_1 (Int.ofNat ks.length) ∧
 within x (Int.ofNat ks.length) ∧
 (decide (strZ ks x_1 = strZ ks x) = true → k (PV.bool false)) ∧
 (decide (strZ ks x_1 = strZ ks x) = false →
 inI64 (x_1 + (1 : Int)) ∧
 VS.mk []
 [(0,
 PV.agg
 [PV.int .i64 kd, PV.bool bv, PV.str sv,
 PV.row nk (BRow.strs ks) (0 : Nat),
 PV.vec nl (5 : Nat) ls (0 : Nat)]),
 (1, PV.int .i64 d),
 (2, PV.ptr ((2 : Nat) + (32 : Nat)) (0 : Nat)),
 (4, PV.bool false), ((5 : Nat), PV.int .i64 x),
 ((6 : Nat), PV.int .i64 (x_1 + (1 : Int))),
 (7, PV.undef),
 (66,
 PV.bool
 (bif
 bif
 bif
 bif
 bif decide (kd < (0 : Int)) then true
 else decide ((5 : Int) < kd) then
 true
 else bif bv then !decide (kd = (1 : Int)) else false then
 true
 else
 bif
 bif !decide (sv = (ByteArray.mk #[]).data.toList) then
 !decide (kd = (2 : Int))
 else false then
 !decide (kd = (3 : Int))
 else false then
 true
 else
 bif
 bif decide ((0 : Int) < lenZ ls) then !decide (kd = (4 : Int))
 else false then
 !decide (kd = (5 : Int))
 else false then
 true
 else
 bif decide ((0 : Int) < Int.ofNat ks.length) then !decide (kd = (5 : Int))
 else false)),
 (68, PV.int .i64 kd),
 (69, PV.bool (decide (kd = (2 : Int)))),
 (74, PV.bool (decide (kd = (3 : Int)))),
 (80, PV.bool (decide (kd = (5 : Int)))),
 (98,
 PV.bool
 (bif decide ((128 : Int) ≤ d) then true
 else
 bif decide (kd = (5 : Int)) then !decide (Int.ofNat ks.length = lenZ ls)
 else false)),
 ((103 : Nat), PV.bool (decide (x < Int.ofNat ks.length))),
 ((113 : Nat), PV.bool !validL (strZ ks x)),
 ((116 : Nat), PV.undef), ((129 : Nat), PV.undef),
 (134, PV.undef), (145, PV.undef)]
 [((2 : Nat) + (32 : Nat),
 PV.agg
 [PV.int .i64 kd, PV.bool bv, PV.str sv,
 PV.row nk (BRow.strs ks) (0 : Nat),
 PV.vec nl (5 : Nat) ls (0 : Nat)])] =
 VS.mk []
 [(0,
 PV.agg
 [PV.int .i64 kd, PV.bool bv, PV.str sv,
 PV.row nk (BRow.strs ks) (0 : Nat),
 PV.vec nl (5 : Nat) ls (0 : Nat)]),
 (1, PV.int .i64 d),
 (2, PV.ptr ((2 : Nat) + (32 : Nat)) (0 : Nat)),
 (4, PV.bool false), ((5 : Nat), PV.int .i64 x),
 ((6 : Nat), PV.int .i64 (x_1 + (1 : Int))),
 (7, PV.undef),
 (66,
 PV.bool
 (bif
 bif
 bif
 bif
 bif decide (kd < (0 : Int)) then true
 else decide ((5 : Int) < kd) then
 true
 else bif bv then !decide (kd = (1 : Int)) else false then
 true
 else
 bif
 bif !decide (sv = (ByteArray.mk #[]).data.toList) then
 !decide (kd = (2 : Int))
 else false then
 !decide (kd = (3 : Int))
 else false then
 true
 else
 bif
 bif decide ((0 : Int) < lenZ ls) then !decide (kd = (4 : Int))
 else false then
 !decide (kd = (5 : Int))
 else false then
 true
 else
 bif decide ((0 : Int) < Int.ofNat ks.length) then !decide (kd = (5 : Int))
 else false)),
 (68, PV.int .i64 kd),
 (69, PV.bool (decide (kd = (2 : Int)))),
 (74, PV.bool (decide (kd = (3 : Int)))),
 (80, PV.bool (decide (kd = (5 : Int)))),
 (98,
 PV.bool
 (bif decide ((128 : Int) ≤ d) then true
 else
 bif decide (kd = (5 : Int)) then !decide (Int.ofNat ks.length = lenZ ls)
 else false)),
 ((103 : Nat), PV.bool (decide (x < Int.ofNat ks.length))),
 ((113 : Nat), PV.bool !validL (strZ ks x)),
 ((116 : Nat), PV.undef), ((129 : Nat), PV.undef),
 (134, PV.undef), (145, PV.undef)]
 [((2 : Nat) + (32 : Nat),
 PV.agg
 [PV.int .i64 kd, PV.bool bv, PV.str sv,
 PV.row nk (BRow.strs ks) (0 : Nat),
 PV.vec nl (5 : Nat) ls (0 : Nat)])] ∧
 ((0 : Int) ≤ x_1 + (1 : Int) ∧
 x_1 + (1 : Int) ≤ x ∧
 (List.take (x_1 + (1 : Int)).toNat ks).contains (strZ ks x) = false) ∧
 (x - (x_1 + (1 : Int))).toNat < (x - x_1).toNat)) ∧
 (decide (x_1 < x) = false →
 inI64 (x + (1 : Int)) ∧
 VS.mk []
 [(0,
 PV.agg
 [PV.int .i64 kd, PV.bool bv, PV.str sv,
 PV.row nk (BRow.strs ks) (0 : Nat),
 PV.vec nl (5 : Nat) ls (0 : Nat)]),
 (1, PV.int .i64 d),
 (2, PV.ptr ((2 : Nat) + (32 : Nat)) (0 : Nat)),
 (4, PV.bool false), ((5 : Nat), PV.int .i64 (x + (1 : Int))),
 ((6 : Nat), PV.undef), (7, PV.undef),
 (66,
 PV.bool
 (bif
 bif
 bif
 bif bif decide (kd < (0 : Int)) then true else decide ((5 : Int) < kd) then
 true
 else bif bv then !decide (kd = (1 : Int)) else false then
 true
 else
 bif
 bif !decide (sv = (ByteArray.mk #[]).data.toList) then
 !decide (kd = (2 : Int))
 else false then
 !decide (kd = (3 : Int))
 else false then
 true
 else
 bif
 bif decide ((0 : Int) < lenZ ls) then !decide (kd = (4 : Int))
 else false then
 !decide (kd = (5 : Int))
 else false then
 true
 else
 bif decide ((0 : Int) < Int.ofNat ks.length) then !decide (kd = (5 : Int))
 else false)),
 (68, PV.int .i64 kd),
 (69, PV.bool (decide (kd = (2 : Int)))),
 (74, PV.bool (decide (kd = (3 : Int)))),
 (80, PV.bool (decide (kd = (5 : Int)))),
 (98,
 PV.bool
 (bif decide ((128 : Int) ≤ d) then true
 else
 bif decide (kd = (5 : Int)) then !decide (Int.ofNat ks.length = lenZ ls)
 else false)),
 ((103 : Nat), PV.undef), ((113 : Nat), PV.undef), ((116 : Nat), PV.undef),
 ((129 : Nat), PV.undef), (134, PV.undef), (145, PV.undef)]
 [((2 : Nat) + (32 : Nat),
 PV.agg
 [PV.int .i64 kd, PV.bool bv, PV.str sv,
 PV.row nk (BRow.strs ks) (0 : Nat),
 PV.vec nl (5 : Nat) ls (0 : Nat)])] =
 VS.mk []
 [(0,
 PV.agg
 [PV.int .i64 kd, PV.bool bv, PV.str sv,
 PV.row nk (BRow.strs ks) (0 : Nat),
 PV.vec nl (5 : Nat) ls (0 : Nat)]),
 (1, PV.int .i64 d),
 (2, PV.ptr ((2 : Nat) + (32 : Nat)) (0 : Nat)),
 (4, PV.bool false), ((5 : Nat), PV.int .i64 (x + (1 : Int))),
 ((6 : Nat), PV.undef), (7, PV.undef),
 (66,
 PV.bool
 (bif
 bif
 bif
 bif bif decide (kd < (0 : Int)) then true else decide ((5 : Int) < kd) then
 true
 else bif bv then !decide (kd = (1 : Int)) else false then
 true
 else
 bif
 bif !decide (sv = (ByteArray.mk #[]).data.toList) then
 !decide (kd = (2 : Int))
 else false then
 !decide (kd = (3 : Int))
 else false then
 true
 else
 bif
 bif decide ((0 : Int) < lenZ ls) then !decide (kd = (4 : Int))
 else false then
 !decide (kd = (5 : Int))
 else false then
 true
 else
 bif decide ((0 : Int) < Int.ofNat ks.length) then !decide (kd = (5 : Int))
 else false)),
 (68, PV.int .i64 kd),
 (69, PV.bool (decide (kd = (2 : Int)))),
 (74, PV.bool (decide (kd = (3 : Int)))),
 (80, PV.bool (decide (kd = (5 : Int)))),
 (98,
 PV.bool
 (bif decide ((128 : Int) ≤ d) then true
 else
 bif decide (kd = (5 : Int)) then !decide (Int.ofNat ks.length = lenZ ls)
 else false)),
 ((103 : Nat), PV.undef), ((113 : Nat), PV.undef), ((116 : Nat), PV.undef),
 ((129 : Nat), PV.undef), (134, PV.undef), (145, PV.undef)]
 [((2 : Nat) + (32 : Nat),
 PV.agg
 [PV.int .i64 kd, PV.bool bv, PV.str sv,
 PV.row nk (BRow.strs ks) (0 : Nat),
 PV.vec nl (5 : Nat) ls (0 : Nat)])] ∧
 ((0 : Int) ≤ x + (1 : Int) ∧
 x + (1 : Int) ≤ ↑ks.length ∧
 (List.take (x + (1 : Int)).toNat ks).all validL = true ∧
 nodupJ (List.take (x + (1 : Int)).toNat ks) = true) ∧
 (↑ks.length - (x + (1 : Int))).toNat < (↑ks.length - x).toNat))) ∧
 (decide (x < Int.ofNat ks.length) = false →
 VS.mk []
 [(0,
 PV.agg
 [PV.int .i64 kd, PV.bool bv, PV.str sv,
 PV.row nk (BRow.strs ks) (0 : Nat), PV.vec nl (5 : Nat) ls (0 : Nat)]),
 (1, PV.int .i64 d), (2, PV.ptr ((2 : Nat) + (32 : Nat)) (0 : Nat)),
 (4, PV.bool false), ((5 : Nat), PV.int .i64 x), ((6 : Nat), PV.undef),
 (7, PV.int .i64 (0 : Int)),
 (66,
 PV.bool
 (bif
 bif
 bif
 bif bif decide (kd < (0 : Int)) then true else decide ((5 : Int) < kd) then true
 else bif bv then !decide (kd = (1 : Int)) else false then
 true
 else
 bif bif !decide (sv = (ByteArray.mk #[]).data.toList) then !decide (kd = (2 : Int)) else false then
 !decide (kd = (3 : Int))
 else false then
 true
 else
 bif bif decide ((0 : Int) < lenZ ls) then !decide (kd = (4 : Int)) else false then
 !decide (kd = (5 : Int))
 else false then
 true
 else bif decide ((0 : Int) < Int.ofNat ks.length) then !decide (kd = (5 : Int)) else false)),
 (68, PV.int .i64 kd), (69, PV.bool (decide (kd = (2 : Int)))),
 (74, PV.bool (decide (kd = (3 : Int)))), (80, PV.bool (decide (kd = (5 : Int)))),
 (98,
 PV.bool
 (bif decide ((128 : Int) ≤ d) then true
 else bif decide (kd = (5 : Int)) then !decide (Int.ofNat ks.length = lenZ ls) else false)),
 ((103 : Nat), PV.bool (decide (x < Int.ofNat ks.length))), ((113 : Nat), PV.undef),
 ((116 : Nat), PV.undef), ((129 : Nat), PV.undef), ((134 : Nat), PV.undef),
 ((145 : Nat), PV.undef)]
 [((2 : Nat) + (32 : Nat),
 PV.agg
 [PV.int .i64 kd, PV.bool bv, PV.str sv,
 PV.row nk (BRow.strs ks) (0 : Nat), PV.vec nl (5 : Nat) ls (0 : Nat)])] =
 VS.mk []
 [(0,
 PV.agg
 [PV.int .i64 kd, PV.bool bv, PV.str sv,
 PV.row nk (BRow.strs ks) (0 : Nat), PV.vec nl (5 : Nat) ls (0 : Nat)]),
 (1, PV.int .i64 d), (2, PV.ptr ((2 : Nat) + (32 : Nat)) (0 : Nat)),
 (4, PV.bool false), ((5 : Nat), PV.int .i64 x), ((6 : Nat), PV.undef),
 ((7 : Nat), PV.int .i64 (0 : Int)),
 (66,
 PV.bool
 (bif
 bif
 bif
 bif bif decide (kd < (0 : Int)) then true else decide ((5 : Int) < kd) then true
 else bif bv then !decide (kd = (1 : Int)) else false then
 true
 else
 bif bif !decide (sv = (ByteArray.mk #[]).data.toList) then !decide (kd = (2 : Int)) else false then
 !decide (kd = (3 : Int))
 else false then
 true
 else
 bif bif decide ((0 : Int) < lenZ ls) then !decide (kd = (4 : Int)) else false then
 !decide (kd = (5 : Int))
 else false then
 true
 else bif decide ((0 : Int) < Int.ofNat ks.length) then !decide (kd = (5 : Int)) else false)),
 (68, PV.int .i64 kd), (69, PV.bool (decide (kd = (2 : Int)))),
 (74, PV.bool (decide (kd = (3 : Int)))), (80, PV.bool (decide (kd = (5 : Int)))),
 (98,
 PV.bool
 (bif decide ((128 : Int) ≤ d) then true
 else bif decide (kd = (5 : Int)) then !decide (Int.ofNat ks.length = lenZ ls) else false)),
 ((103 : Nat), PV.bool (decide (x < Int.ofNat ks.length))), ((113 : Nat), PV.undef),
 ((116 : Nat), PV.undef), ((129 : Nat), PV.undef), ((134 : Nat), PV.undef),
 ((145 : Nat), PV.undef)]
 [((2 : Nat) + (32 : Nat),
 PV.agg
 [PV.int .i64 kd, PV.bool bv, PV.str sv,
 PV.row nk (BRow.strs ks) (0 : Nat), PV.vec nl (5 : Nat) ls (0 : Nat)])] ∧
 ((0 : Int) ≤ (0 : Int) ∧
 (0 : Int) ≤ ↑ls.length ∧
 mayJs isNumM validL
 (List.drop (Int.toNat (0 : Int)) (jdecs ls)) ((127 : Int) - d).toNat =
 mayJs isNumM validL (jdecs ls)
 ((127 : Int) - d).toNat) ∧
 ∀ (x_1 : Int),
 (0 : Int) ≤ x_1 ∧
 x_1 ≤ ↑ls.length ∧
 mayJs isNumM validL
 (List.drop x_1.toNat (jdecs ls)) ((127 : Int) - d).toNat =
 mayJs isNumM validL (jdecs ls)
 ((127 : Int) - d).toNat →
 (decide (x_1 < lenZ ls) = true →
 within x_1 (lenZ ls) ∧
 eltV ls x_1 =
 PV.agg
 [PV.int .i64
 ((eltV ls x_1).part (0 : Nat)).asInt,
 PV.bool
 ((eltV ls x_1).part
 (1 : Nat)).asBool,
 PV.str
 ((eltV ls x_1).part
 (2 : Nat)).asStr,
 PV.row
 ((eltV ls x_1).part
 (3 : Nat)).asNil
 (BRow.strs
 ((eltV ls x_1).part
 (3 : Nat)).asStrs)
 (0 : Nat),
 PV.vec
 ((eltV ls x_1).part
 (4 : Nat)).asNil
 (nat_lit 5)
 ((eltV ls x_1).part
 (4 : Nat)).asVec
 (0 : Nat)] ∧
 inI64 (d + (1 : Int)) ∧
 (isJs
 ((eltV ls x_1).part
 (4 : Nat)).asVec ∧
 okJ m
 (JV.mk
 ((eltV ls x_1).part (0 : Nat)).asInt
 ((eltV ls x_1).part
 (1 : Nat)).asBool
 ((eltV ls x_1).part
 (2 : Nat)).asStr
 ((eltV ls x_1).part
 (3 : Nat)).asNil
 ((eltV ls x_1).part
 (3 : Nat)).asStrs
 ((eltV ls x_1).part
 (4 : Nat)).asNil
 (jdecs
 ((eltV ls x_1).part
 (4 : Nat)).asVec)) ∧
 sizeJ
 (JV.mk
 ((eltV ls x_1).part
 (0 : Nat)).asInt
 ((eltV ls x_1).part
 (1 : Nat)).asBool
 ((eltV ls x_1).part
 (2 : Nat)).asStr
 ((eltV ls x_1).part
 (3 : Nat)).asNil
 ((eltV ls x_1).part
 (3 : Nat)).asStrs
 ((eltV ls x_1).part
 (4 : Nat)).asNil
 (jdecs
 ((eltV ls x_1).part
 (4 : Nat)).asVec)) ≤
 (600000 : Nat) ∧
 (0 : Int) ≤ d + (1 : Int) ∧ d + (1 : Int) ≤ (128 : Int)) ∧
 ((!mayJ isNumM validL
 (JV.mk
 ((eltV ls x_1).part
 (0 : Nat)).asInt
 ((eltV ls x_1).part
 (1 : Nat)).asBool
 ((eltV ls x_1).part
 (2 : Nat)).asStr
 ((eltV ls x_1).part
 (3 : Nat)).asNil
 ((eltV ls x_1).part
 (3 : Nat)).asStrs
 ((eltV ls x_1).part
 (4 : Nat)).asNil
 (jdecs
 ((eltV ls x_1).part
 (4 : Nat)).asVec))
 ((128 : Int) - (d + (1 : Int))).toNat) =
 true →
 k (PV.bool false)) ∧
 ((!mayJ isNumM validL
 (JV.mk
 ((eltV ls x_1).part
 (0 : Nat)).asInt
 ((eltV ls x_1).part
 (1 : Nat)).asBool
 ((eltV ls x_1).part
 (2 : Nat)).asStr
 ((eltV ls x_1).part
 (3 : Nat)).asNil
 ((eltV ls x_1).part
 (3 : Nat)).asStrs
 ((eltV ls x_1).part
 (4 : Nat)).asNil
 (jdecs
 ((eltV ls x_1).part
 (4 : Nat)).asVec))
 ((128 : Int) - (d + (1 : Int))).toNat) =
 false →
 inI64 (x_1 + (1 : Int)) ∧
 VS.mk []
 [(0,
 PV.agg
 [PV.int .i64 kd, PV.bool bv, PV.str sv,
 PV.row nk (BRow.strs ks) (0 : Nat),
 PV.vec nl (5 : Nat) ls (0 : Nat)]),
 (1, PV.int .i64 d),
 (2, PV.ptr ((2 : Nat) + (32 : Nat)) (0 : Nat)),
 (4, PV.bool false), ((5 : Nat), PV.int .i64 x),
 ((6 : Nat), PV.undef), ((7 : Nat), PV.int .i64 (x_1 + (1 : Int))),
 (66,
 PV.bool
 (bif
 bif
 bif
 bif
 bif decide (kd < (0 : Int)) then true
 else decide ((5 : Int) < kd) then
 true
 else bif bv then !decide (kd = (1 : Int)) else false then
 true
 else
 bif
 bif !decide (sv = (ByteArray.mk #[]).data.toList) then
 !decide (kd = (2 : Int))
 else false then
 !decide (kd = (3 : Int))
 else false then
 true
 else
 bif
 bif decide ((0 : Int) < lenZ ls) then !decide (kd = (4 : Int))
 else false then
 !decide (kd = (5 : Int))
 else false then
 true
 else
 bif decide ((0 : Int) < Int.ofNat ks.length) then !decide (kd = (5 : Int))
 else false)),
 (68, PV.int .i64 kd),
 (69, PV.bool (decide (kd = (2 : Int)))),
 (74, PV.bool (decide (kd = (3 : Int)))),
 (80, PV.bool (decide (kd = (5 : Int)))),
 (98,
 PV.bool
 (bif decide ((128 : Int) ≤ d) then true
 else
 bif decide (kd = (5 : Int)) then !decide (Int.ofNat ks.length = lenZ ls)
 else false)),
 ((103 : Nat), PV.bool (decide (x < Int.ofNat ks.length))),
 ((113 : Nat), PV.undef), ((116 : Nat), PV.undef),
 ((129 : Nat), PV.undef), ((134 : Nat), PV.undef),
 ((145 : Nat), PV.undef)]
 [((2 : Nat) + (32 : Nat),
 PV.agg
 [PV.int .i64 kd, PV.bool bv, PV.str sv,
 PV.row nk (BRow.strs ks) (0 : Nat),
 PV.vec nl (5 : Nat) ls (0 : Nat)])] =
 VS.mk []
 [(0,
 PV.agg
 [PV.int .i64 kd, PV.bool bv, PV.str sv,
 PV.row nk (BRow.strs ks) (0 : Nat),
 PV.vec nl (5 : Nat) ls (0 : Nat)]),
 (1, PV.int .i64 d),
 (2, PV.ptr ((2 : Nat) + (32 : Nat)) (0 : Nat)),
 (4, PV.bool false), ((5 : Nat), PV.int .i64 x),
 ((6 : Nat), PV.undef), ((7 : Nat), PV.int .i64 (x_1 + (1 : Int))),
 (66,
 PV.bool
 (bif
 bif
 bif
 bif
 bif decide (kd < (0 : Int)) then true
 else decide ((5 : Int) < kd) then
 true
 else bif bv then !decide (kd = (1 : Int)) else false then
 true
 else
 bif
 bif !decide (sv = (ByteArray.mk #[]).data.toList) then
 !decide (kd = (2 : Int))
 else false then
 !decide (kd = (3 : Int))
 else false then
 true
 else
 bif
 bif decide ((0 : Int) < lenZ ls) then !decide (kd = (4 : Int))
 else false then
 !decide (kd = (5 : Int))
 else false then
 true
 else
 bif decide ((0 : Int) < Int.ofNat ks.length) then !decide (kd = (5 : Int))
 else false)),
 (68, PV.int .i64 kd),
 (69, PV.bool (decide (kd = (2 : Int)))),
 (74, PV.bool (decide (kd = (3 : Int)))),
 (80, PV.bool (decide (kd = (5 : Int)))),
 (98,
 PV.bool
 (bif decide ((128 : Int) ≤ d) then true
 else
 bif decide (kd = (5 : Int)) then !decide (Int.ofNat ks.length = lenZ ls)
 else false)),
 ((103 : Nat), PV.bool (decide (x < Int.ofNat ks.length))),
 ((113 : Nat), PV.undef), ((116 : Nat), PV.undef),
 ((129 : Nat), PV.undef), ((134 : Nat), PV.undef),
 ((145 : Nat), PV.undef)]
 [((2 : Nat) + (32 : Nat),
 PV.agg
 [PV.int .i64 kd, PV.bool bv, PV.str sv,
 PV.row nk (BRow.strs ks) (0 : Nat),
 PV.vec nl (5 : Nat) ls (0 : Nat)])] ∧
 ((0 : Int) ≤ x_1 + (1 : Int) ∧
 x_1 + (1 : Int) ≤ ↑ls.length ∧
 mayJs isNumM validL
 (List.drop (x_1 + (1 : Int)).toNat (jdecs ls)) ((127 : Int) - d).toNat =
 mayJs isNumM validL
 (jdecs ls) ((127 : Int) - d).toNat) ∧
 (↑ls.length - (x_1 + (1 : Int))).toNat < (↑ls.length - x_1).toNat)) ∧
 (decide (x_1 < lenZ ls) = false → k (PV.bool true))))) ∧
 (decide (kd = (5 : Int)) = false →
 VS.mk []
 [(0,
 PV.agg
 [PV.int .i64 kd, PV.bool bv, PV.str sv, PV.row nk (BRow.strs ks) (0 : Nat),
 PV.vec nl (5 : Nat) ls (0 : Nat)]),
 (1, PV.int .i64 d), (2, PV.ptr ((2 : Nat) + (32 : Nat)) (0 : Nat)),
 (4, PV.bool false), (5, PV.int .i64 (0 : Int)), ((6 : Nat), PV.undef),
 (7, PV.undef),
 (66,
 PV.bool
 (bif
 bif
 bif
 bif bif decide (kd < (0 : Int)) then true else decide ((5 : Int) < kd) then true
 else bif bv then !decide (kd = (1 : Int)) else false then
 true
 else
 bif bif !decide (sv = (ByteArray.mk #[]).data.toList) then !decide (kd = (2 : Int)) else false then
 !decide (kd = (3 : Int))
 else false then
 true
 else
 bif bif decide ((0 : Int) < lenZ ls) then !decide (kd = (4 : Int)) else false then !decide (kd = (5 : Int))
 else false then
 true
 else bif decide ((0 : Int) < Int.ofNat ks.length) then !decide (kd = (5 : Int)) else false)),
 (68, PV.int .i64 kd), (69, PV.bool (decide (kd = (2 : Int)))),
 (74, PV.bool (decide (kd = (3 : Int)))), (80, PV.bool (decide (kd = (5 : Int)))),
 (98, PV.undef), ((103 : Nat), PV.undef), ((113 : Nat), PV.undef), ((116 : Nat), PV.undef),
 ((129 : Nat), PV.undef), (134, PV.undef), (145, PV.undef)]
 [((2 : Nat) + (32 : Nat),
 PV.agg
 [PV.int .i64 kd, PV.bool bv, PV.str sv, PV.row nk (BRow.strs ks) (0 : Nat),
 PV.vec nl (5 : Nat) ls (0 : Nat)])] =
 VS.mk []
 [(0,
 PV.agg
 [PV.int .i64 kd, PV.bool bv, PV.str sv, PV.row nk (BRow.strs ks) (0 : Nat),
 PV.vec nl (5 : Nat) ls (0 : Nat)]),
 (1, PV.int .i64 d), (2, PV.ptr ((2 : Nat) + (32 : Nat)) (0 : Nat)),
 (4, PV.bool false), ((5 : Nat), PV.int .i64 (0 : Int)), ((6 : Nat), PV.undef),
 (7, PV.undef),
 (66,
 PV.bool
 (bif
 bif
 bif
 bif bif decide (kd < (0 : Int)) then true else decide ((5 : Int) < kd) then true
 else bif bv then !decide (kd = (1 : Int)) else false then
 true
 else
 bif bif !decide (sv = (ByteArray.mk #[]).data.toList) then !decide (kd = (2 : Int)) else false then
 !decide (kd = (3 : Int))
 else false then
 true
 else
 bif bif decide ((0 : Int) < lenZ ls) then !decide (kd = (4 : Int)) else false then !decide (kd = (5 : Int))
 else false then
 true
 else bif decide ((0 : Int) < Int.ofNat ks.length) then !decide (kd = (5 : Int)) else false)),
 (68, PV.int .i64 kd), (69, PV.bool (decide (kd = (2 : Int)))),
 (74, PV.bool (decide (kd = (3 : Int)))), (80, PV.bool (decide (kd = (5 : Int)))),
 (98, PV.undef), ((103 : Nat), PV.undef), ((113 : Nat), PV.undef), ((116 : Nat), PV.undef),
 ((129 : Nat), PV.undef), (134, PV.undef), (145, PV.undef)]
 [((2 : Nat) + (32 : Nat),
 PV.agg
 [PV.int .i64 kd, PV.bool bv, PV.str sv, PV.row nk (BRow.strs ks) (0 : Nat),
 PV.vec nl (5 : Nat) ls (0 : Nat)])] ∧
 ((0 : Int) ≤ (0 : Int) ∧
 (0 : Int) ≤ ↑ks.length ∧
 (List.take (Int.toNat (0 : Int)) ks).all validL = true ∧
 nodupJ (List.take (Int.toNat (0 : Int)) ks) = true) ∧
 ∀ (x : Int),
 (0 : Int) ≤ x ∧
 x ≤ ↑ks.length ∧
 (List.take x.toNat ks).all validL = true ∧ nodupJ (List.take x.toNat ks) = true →
 (decide (x < Int.ofNat ks.length) = true →
 within x (Int.ofNat ks.length) ∧
 List.length (strZ ks x) ≤ Go.Vc.maxLen ∧
 (List.length (strZ ks x)).le (1000000 : Nat) ∧
 ((!validL (strZ ks x)) = true → k (PV.bool false)) ∧
 ((!validL (strZ ks x)) = false →
 VS.mk []
 [(0,
 PV.agg
 [PV.int .i64 kd, PV.bool bv, PV.str sv,
 PV.row nk (BRow.strs ks) (0 : Nat), PV.vec nl (5 : Nat) ls (0 : Nat)]),
 (1, PV.int .i64 d), (2, PV.ptr ((2 : Nat) + (32 : Nat)) (0 : Nat)),
 (4, PV.bool false), ((5 : Nat), PV.int .i64 x),
 ((6 : Nat), PV.int .i64 (0 : Int)), (7, PV.undef),
 (66,
 PV.bool
 (bif
 bif
 bif
 bif bif decide (kd < (0 : Int)) then true else decide ((5 : Int) < kd) then true
 else bif bv then !decide (kd = (1 : Int)) else false then
 true
 else
 bif
 bif !decide (sv = (ByteArray.mk #[]).data.toList) then !decide (kd = (2 : Int))
 else false then
 !decide (kd = (3 : Int))
 else false then
 true
 else
 bif bif decide ((0 : Int) < lenZ ls) then !decide (kd = (4 : Int)) else false then
 !decide (kd = (5 : Int))
 else false then
 true
 else bif decide ((0 : Int) < Int.ofNat ks.length) then !decide (kd = (5 : Int)) else false)),
 (68, PV.int .i64 kd), (69, PV.bool (decide (kd = (2 : Int)))),
 (74, PV.bool (decide (kd = (3 : Int)))), (80, PV.bool (decide (kd = (5 : Int)))),
 (98, PV.undef), ((103 : Nat), PV.bool (decide (x < Int.ofNat ks.length))),
 ((113 : Nat), PV.bool !validL (strZ ks x)),
 ((116 : Nat), PV.undef), ((129 : Nat), PV.undef), (134, PV.undef),
 (145, PV.undef)]
 [((2 : Nat) + (32 : Nat),
 PV.agg
 [PV.int .i64 kd, PV.bool bv, PV.str sv,
 PV.row nk (BRow.strs ks) (0 : Nat), PV.vec nl (5 : Nat) ls (0 : Nat)])] =
 VS.mk []
 [(0,
 PV.agg
 [PV.int .i64 kd, PV.bool bv, PV.str sv,
 PV.row nk (BRow.strs ks) (0 : Nat), PV.vec nl (5 : Nat) ls (0 : Nat)]),
 (1, PV.int .i64 d), (2, PV.ptr ((2 : Nat) + (32 : Nat)) (0 : Nat)),
 (4, PV.bool false), ((5 : Nat), PV.int .i64 x),
 ((6 : Nat), PV.int .i64 (0 : Int)), (7, PV.undef),
 (66,
 PV.bool
 (bif
 bif
 bif
 bif bif decide (kd < (0 : Int)) then true else decide ((5 : Int) < kd) then true
 else bif bv then !decide (kd = (1 : Int)) else false then
 true
 else
 bif
 bif !decide (sv = (ByteArray.mk #[]).data.toList) then !decide (kd = (2 : Int))
 else false then
 !decide (kd = (3 : Int))
 else false then
 true
 else
 bif bif decide ((0 : Int) < lenZ ls) then !decide (kd = (4 : Int)) else false then
 !decide (kd = (5 : Int))
 else false then
 true
 else bif decide ((0 : Int) < Int.ofNat ks.length) then !decide (kd = (5 : Int)) else false)),
 (68, PV.int .i64 kd), (69, PV.bool (decide (kd = (2 : Int)))),
 (74, PV.bool (decide (kd = (3 : Int)))), (80, PV.bool (decide (kd = (5 : Int)))),
 (98, PV.undef), ((103 : Nat), PV.bool (decide (x < Int.ofNat ks.length))),
 ((113 : Nat), PV.bool !validL (strZ ks x)),
 ((116 : Nat), PV.undef), ((129 : Nat), PV.undef), (134, PV.undef),
 (145, PV.undef)]
 [((2 : Nat) + (32 : Nat),
 PV.agg
 [PV.int .i64 kd, PV.bool bv, PV.str sv,
 PV.row nk (BRow.strs ks) (0 : Nat), PV.vec nl (5 : Nat) ls (0 : Nat)])] ∧
 ((0 : Int) ≤ (0 : Int) ∧ (0 : Int) ≤ x ∧ (List.take (Int.toNat (0 : Int)) ks).contains (strZ ks x) = false) ∧
 ∀ (x_1 : Int),
 (0 : Int) ≤ x_1 ∧ x_1 ≤ x ∧ (List.take x_1.toNat ks).contains (strZ ks x) = false →
 (decide (x_1 < x) = true →
 within x_1 (Int.ofNat ks.length) ∧
 within x (Int.ofNat ks.length) ∧
 (decide (strZ ks x_1 = strZ ks x) = true → k (PV.bool false)) ∧
 (decide (strZ ks x_1 = strZ ks x) = false →
 inI64 (x_1 + (1 : Int)) ∧
 VS.mk []
 [(0,
 PV.agg
 [PV.int .i64 kd, PV.bool bv, PV.str sv,
 PV.row nk (BRow.strs ks) (0 : Nat),
 PV.vec nl (5 : Nat) ls (0 : Nat)]),
 (1, PV.int .i64 d),
 (2, PV.ptr ((2 : Nat) + (32 : Nat)) (0 : Nat)),
 (4, PV.bool false), ((5 : Nat), PV.int .i64 x),
 ((6 : Nat), PV.int .i64 (x_1 + (1 : Int))), (7, PV.undef),
 (66,
 PV.bool
 (bif
 bif
 bif
 bif
 bif decide (kd < (0 : Int)) then true
 else decide ((5 : Int) < kd) then
 true
 else bif bv then !decide (kd = (1 : Int)) else false then
 true
 else
 bif
 bif !decide (sv = (ByteArray.mk #[]).data.toList) then
 !decide (kd = (2 : Int))
 else false then
 !decide (kd = (3 : Int))
 else false then
 true
 else
 bif
 bif decide ((0 : Int) < lenZ ls) then !decide (kd = (4 : Int))
 else false then
 !decide (kd = (5 : Int))
 else false then
 true
 else
 bif decide ((0 : Int) < Int.ofNat ks.length) then !decide (kd = (5 : Int))
 else false)),
 (68, PV.int .i64 kd),
 (69, PV.bool (decide (kd = (2 : Int)))),
 (74, PV.bool (decide (kd = (3 : Int)))),
 (80, PV.bool (decide (kd = (5 : Int)))), (98, PV.undef),
 ((103 : Nat), PV.bool (decide (x < Int.ofNat ks.length))),
 ((113 : Nat), PV.bool !validL (strZ ks x)),
 ((116 : Nat), PV.undef), ((129 : Nat), PV.undef),
 (134, PV.undef), (145, PV.undef)]
 [((2 : Nat) + (32 : Nat),
 PV.agg
 [PV.int .i64 kd, PV.bool bv, PV.str sv,
 PV.row nk (BRow.strs ks) (0 : Nat),
 PV.vec nl (5 : Nat) ls (0 : Nat)])] =
 VS.mk []
 [(0,
 PV.agg
 [PV.int .i64 kd, PV.bool bv, PV.str sv,
 PV.row nk (BRow.strs ks) (0 : Nat),
 PV.vec nl (5 : Nat) ls (0 : Nat)]),
 (1, PV.int .i64 d),
 (2, PV.ptr ((2 : Nat) + (32 : Nat)) (0 : Nat)),
 (4, PV.bool false), ((5 : Nat), PV.int .i64 x),
 ((6 : Nat), PV.int .i64 (x_1 + (1 : Int))), (7, PV.undef),
 (66,
 PV.bool
 (bif
 bif
 bif
 bif
 bif decide (kd < (0 : Int)) then true
 else decide ((5 : Int) < kd) then
 true
 else bif bv then !decide (kd = (1 : Int)) else false then
 true
 else
 bif
 bif !decide (sv = (ByteArray.mk #[]).data.toList) then
 !decide (kd = (2 : Int))
 else false then
 !decide (kd = (3 : Int))
 else false then
 true
 else
 bif
 bif decide ((0 : Int) < lenZ ls) then !decide (kd = (4 : Int))
 else false then
 !decide (kd = (5 : Int))
 else false then
 true
 else
 bif decide ((0 : Int) < Int.ofNat ks.length) then !decide (kd = (5 : Int))
 else false)),
 (68, PV.int .i64 kd),
 (69, PV.bool (decide (kd = (2 : Int)))),
 (74, PV.bool (decide (kd = (3 : Int)))),
 (80, PV.bool (decide (kd = (5 : Int)))), (98, PV.undef),
 ((103 : Nat), PV.bool (decide (x < Int.ofNat ks.length))),
 ((113 : Nat), PV.bool !validL (strZ ks x)),
 ((116 : Nat), PV.undef), ((129 : Nat), PV.undef),
 (134, PV.undef), (145, PV.undef)]
 [((2 : Nat) + (32 : Nat),
 PV.agg
 [PV.int .i64 kd, PV.bool bv, PV.str sv,
 PV.row nk (BRow.strs ks) (0 : Nat),
 PV.vec nl (5 : Nat) ls (0 : Nat)])] ∧
 ((0 : Int) ≤ x_1 + (1 : Int) ∧
 x_1 + (1 : Int) ≤ x ∧
 (List.take (x_1 + (1 : Int)).toNat ks).contains (strZ ks x) = false) ∧
 (x - (x_1 + (1 : Int))).toNat < (x - x_1).toNat)) ∧
 (decide (x_1 < x) = false →
 inI64 (x + (1 : Int)) ∧
 VS.mk []
 [(0,
 PV.agg
 [PV.int .i64 kd, PV.bool bv, PV.str sv,
 PV.row nk (BRow.strs ks) (0 : Nat), PV.vec nl (5 : Nat) ls (0 : Nat)]),
 (1, PV.int .i64 d),
 (2, PV.ptr ((2 : Nat) + (32 : Nat)) (0 : Nat)), (4, PV.bool false),
 ((5 : Nat), PV.int .i64 (x + (1 : Int))), ((6 : Nat), PV.undef),
 (7, PV.undef),
 (66,
 PV.bool
 (bif
 bif
 bif
 bif bif decide (kd < (0 : Int)) then true else decide ((5 : Int) < kd) then true
 else bif bv then !decide (kd = (1 : Int)) else false then
 true
 else
 bif
 bif !decide (sv = (ByteArray.mk #[]).data.toList) then
 !decide (kd = (2 : Int))
 else false then
 !decide (kd = (3 : Int))
 else false then
 true
 else
 bif
 bif decide ((0 : Int) < lenZ ls) then !decide (kd = (4 : Int))
 else false then
 !decide (kd = (5 : Int))
 else false then
 true
 else
 bif decide ((0 : Int) < Int.ofNat ks.length) then !decide (kd = (5 : Int)) else false)),
 (68, PV.int .i64 kd),
 (69, PV.bool (decide (kd = (2 : Int)))),
 (74, PV.bool (decide (kd = (3 : Int)))),
 (80, PV.bool (decide (kd = (5 : Int)))), (98, PV.undef),
 ((103 : Nat), PV.undef), ((113 : Nat), PV.undef), ((116 : Nat), PV.undef),
 ((129 : Nat), PV.undef), (134, PV.undef), (145, PV.undef)]
 [((2 : Nat) + (32 : Nat),
 PV.agg
 [PV.int .i64 kd, PV.bool bv, PV.str sv,
 PV.row nk (BRow.strs ks) (0 : Nat),
 PV.vec nl (5 : Nat) ls (0 : Nat)])] =
 VS.mk []
 [(0,
 PV.agg
 [PV.int .i64 kd, PV.bool bv, PV.str sv,
 PV.row nk (BRow.strs ks) (0 : Nat), PV.vec nl (5 : Nat) ls (0 : Nat)]),
 (1, PV.int .i64 d),
 (2, PV.ptr ((2 : Nat) + (32 : Nat)) (0 : Nat)), (4, PV.bool false),
 ((5 : Nat), PV.int .i64 (x + (1 : Int))), ((6 : Nat), PV.undef),
 (7, PV.undef),
 (66,
 PV.bool
 (bif
 bif
 bif
 bif bif decide (kd < (0 : Int)) then true else decide ((5 : Int) < kd) then true
 else bif bv then !decide (kd = (1 : Int)) else false then
 true
 else
 bif
 bif !decide (sv = (ByteArray.mk #[]).data.toList) then
 !decide (kd = (2 : Int))
 else false then
 !decide (kd = (3 : Int))
 else false then
 true
 else
 bif
 bif decide ((0 : Int) < lenZ ls) then !decide (kd = (4 : Int))
 else false then
 !decide (kd = (5 : Int))
 else false then
 true
 else
 bif decide ((0 : Int) < Int.ofNat ks.length) then !decide (kd = (5 : Int)) else false)),
 (68, PV.int .i64 kd),
 (69, PV.bool (decide (kd = (2 : Int)))),
 (74, PV.bool (decide (kd = (3 : Int)))),
 (80, PV.bool (decide (kd = (5 : Int)))), (98, PV.undef),
 ((103 : Nat), PV.undef), ((113 : Nat), PV.undef), ((116 : Nat), PV.undef),
 ((129 : Nat), PV.undef), (134, PV.undef), (145, PV.undef)]
 [((2 : Nat) + (32 : Nat),
 PV.agg
 [PV.int .i64 kd, PV.bool bv, PV.str sv,
 PV.row nk (BRow.strs ks) (0 : Nat),
 PV.vec nl (5 : Nat) ls (0 : Nat)])] ∧
 ((0 : Int) ≤ x + (1 : Int) ∧
 x + (1 : Int) ≤ ↑ks.length ∧
 (List.take (x + (1 : Int)).toNat ks).all validL = true ∧
 nodupJ (List.take (x + (1 : Int)).toNat ks) = true) ∧
 (↑ks.length - (x + (1 : Int))).toNat < (↑ks.length - x).toNat))) ∧
 (decide (x < Int.ofNat ks.length) = false →
 VS.mk []
 [(0,
 PV.agg
 [PV.int .i64 kd, PV.bool bv, PV.str sv, PV.row nk (BRow.strs ks) (0 : Nat),
 PV.vec nl (5 : Nat) ls (0 : Nat)]),
 (1, PV.int .i64 d), (2, PV.ptr ((2 : Nat) + (32 : Nat)) (0 : Nat)),
 (4, PV.bool false), ((5 : Nat), PV.int .i64 x), ((6 : Nat), PV.undef),
 (7, PV.int .i64 (0 : Int)),
 (66,
 PV.bool
 (bif
 bif
 bif
 bif bif decide (kd < (0 : Int)) then true else decide ((5 : Int) < kd) then true
 else bif bv then !decide (kd = (1 : Int)) else false then
 true
 else
 bif bif !decide (sv = (ByteArray.mk #[]).data.toList) then !decide (kd = (2 : Int)) else false then
 !decide (kd = (3 : Int))
 else false then
 true
 else
 bif bif decide ((0 : Int) < lenZ ls) then !decide (kd = (4 : Int)) else false then
 !decide (kd = (5 : Int))
 else false then
 true
 else bif decide ((0 : Int) < Int.ofNat ks.length) then !decide (kd = (5 : Int)) else false)),
 (68, PV.int .i64 kd), (69, PV.bool (decide (kd = (2 : Int)))),
 (74, PV.bool (decide (kd = (3 : Int)))), (80, PV.bool (decide (kd = (5 : Int)))),
 (98, PV.undef), ((103 : Nat), PV.bool (decide (x < Int.ofNat ks.length))),
 ((113 : Nat), PV.undef), ((116 : Nat), PV.undef), ((129 : Nat), PV.undef),
 ((134 : Nat), PV.undef), ((145 : Nat), PV.undef)]
 [((2 : Nat) + (32 : Nat),
 PV.agg
 [PV.int .i64 kd, PV.bool bv, PV.str sv, PV.row nk (BRow.strs ks) (0 : Nat),
 PV.vec nl (5 : Nat) ls (0 : Nat)])] =
 VS.mk []
 [(0,
 PV.agg
 [PV.int .i64 kd, PV.bool bv, PV.str sv, PV.row nk (BRow.strs ks) (0 : Nat),
 PV.vec nl (5 : Nat) ls (0 : Nat)]),
 (1, PV.int .i64 d), (2, PV.ptr ((2 : Nat) + (32 : Nat)) (0 : Nat)),
 (4, PV.bool false), ((5 : Nat), PV.int .i64 x), ((6 : Nat), PV.undef),
 ((7 : Nat), PV.int .i64 (0 : Int)),
 (66,
 PV.bool
 (bif
 bif
 bif
 bif bif decide (kd < (0 : Int)) then true else decide ((5 : Int) < kd) then true
 else bif bv then !decide (kd = (1 : Int)) else false then
 true
 else
 bif bif !decide (sv = (ByteArray.mk #[]).data.toList) then !decide (kd = (2 : Int)) else false then
 !decide (kd = (3 : Int))
 else false then
 true
 else
 bif bif decide ((0 : Int) < lenZ ls) then !decide (kd = (4 : Int)) else false then
 !decide (kd = (5 : Int))
 else false then
 true
 else bif decide ((0 : Int) < Int.ofNat ks.length) then !decide (kd = (5 : Int)) else false)),
 (68, PV.int .i64 kd), (69, PV.bool (decide (kd = (2 : Int)))),
 (74, PV.bool (decide (kd = (3 : Int)))), (80, PV.bool (decide (kd = (5 : Int)))),
 (98, PV.undef), ((103 : Nat), PV.bool (decide (x < Int.ofNat ks.length))),
 ((113 : Nat), PV.undef), ((116 : Nat), PV.undef), ((129 : Nat), PV.undef),
 ((134 : Nat), PV.undef), ((145 : Nat), PV.undef)]
 [((2 : Nat) + (32 : Nat),
 PV.agg
 [PV.int .i64 kd, PV.bool bv, PV.str sv, PV.row nk (BRow.strs ks) (0 : Nat),
 PV.vec nl (5 : Nat) ls (0 : Nat)])] ∧
 ((0 : Int) ≤ (0 : Int) ∧
 (0 : Int) ≤ ↑ls.length ∧
 mayJs isNumM validL
 (List.drop (Int.toNat (0 : Int)) (jdecs ls)) ((127 : Int) - d).toNat =
 mayJs isNumM validL (jdecs ls)
 ((127 : Int) - d).toNat) ∧
 ∀ (x_1 : Int),
 (0 : Int) ≤ x_1 ∧
 x_1 ≤ ↑ls.length ∧
 mayJs isNumM validL
 (List.drop x_1.toNat (jdecs ls)) ((127 : Int) - d).toNat =
 mayJs isNumM validL (jdecs ls)
 ((127 : Int) - d).toNat →
 (decide (x_1 < lenZ ls) = true →
 within x_1 (lenZ ls) ∧
 eltV ls x_1 =
 PV.agg
 [PV.int .i64
 ((eltV ls x_1).part (0 : Nat)).asInt,
 PV.bool
 ((eltV ls x_1).part
 (1 : Nat)).asBool,
 PV.str
 ((eltV ls x_1).part
 (2 : Nat)).asStr,
 PV.row
 ((eltV ls x_1).part
 (3 : Nat)).asNil
 (BRow.strs
 ((eltV ls x_1).part
 (3 : Nat)).asStrs)
 (0 : Nat),
 PV.vec
 ((eltV ls x_1).part
 (4 : Nat)).asNil
 (nat_lit 5)
 ((eltV ls x_1).part
 (4 : Nat)).asVec
 (0 : Nat)] ∧
 inI64 (d + (1 : Int)) ∧
 (isJs
 ((eltV ls x_1).part
 (4 : Nat)).asVec ∧
 okJ m
 (JV.mk
 ((eltV ls x_1).part (0 : Nat)).asInt
 ((eltV ls x_1).part
 (1 : Nat)).asBool
 ((eltV ls x_1).part
 (2 : Nat)).asStr
 ((eltV ls x_1).part
 (3 : Nat)).asNil
 ((eltV ls x_1).part
 (3 : Nat)).asStrs
 ((eltV ls x_1).part
 (4 : Nat)).asNil
 (jdecs
 ((eltV ls x_1).part
 (4 : Nat)).asVec)) ∧
 sizeJ
 (JV.mk
 ((eltV ls x_1).part (0 : Nat)).asInt
 ((eltV ls x_1).part
 (1 : Nat)).asBool
 ((eltV ls x_1).part
 (2 : Nat)).asStr
 ((eltV ls x_1).part
 (3 : Nat)).asNil
 ((eltV ls x_1).part
 (3 : Nat)).asStrs
 ((eltV ls x_1).part
 (4 : Nat)).asNil
 (jdecs
 ((eltV ls x_1).part
 (4 : Nat)).asVec)) ≤
 (600000 : Nat) ∧
 (0 : Int) ≤ d + (1 : Int) ∧ d + (1 : Int) ≤ (128 : Int)) ∧
 ((!mayJ isNumM validL
 (JV.mk
 ((eltV ls x_1).part (0 : Nat)).asInt
 ((eltV ls x_1).part
 (1 : Nat)).asBool
 ((eltV ls x_1).part
 (2 : Nat)).asStr
 ((eltV ls x_1).part
 (3 : Nat)).asNil
 ((eltV ls x_1).part
 (3 : Nat)).asStrs
 ((eltV ls x_1).part
 (4 : Nat)).asNil
 (jdecs
 ((eltV ls x_1).part
 (4 : Nat)).asVec))
 ((128 : Int) - (d + (1 : Int))).toNat) =
 true →
 k (PV.bool false)) ∧
 ((!mayJ isNumM validL
 (JV.mk
 ((eltV ls x_1).part (0 : Nat)).asInt
 ((eltV ls x_1).part
 (1 : Nat)).asBool
 ((eltV ls x_1).part
 (2 : Nat)).asStr
 ((eltV ls x_1).part
 (3 : Nat)).asNil
 ((eltV ls x_1).part
 (3 : Nat)).asStrs
 ((eltV ls x_1).part
 (4 : Nat)).asNil
 (jdecs
 ((eltV ls x_1).part
 (4 : Nat)).asVec))
 ((128 : Int) - (d + (1 : Int))).toNat) =
 false →
 inI64 (x_1 + (1 : Int)) ∧
 VS.mk []
 [(0,
 PV.agg
 [PV.int .i64 kd, PV.bool bv, PV.str sv,
 PV.row nk (BRow.strs ks) (0 : Nat),
 PV.vec nl (5 : Nat) ls (0 : Nat)]),
 (1, PV.int .i64 d),
 (2, PV.ptr ((2 : Nat) + (32 : Nat)) (0 : Nat)),
 (4, PV.bool false), ((5 : Nat), PV.int .i64 x),
 ((6 : Nat), PV.undef), ((7 : Nat), PV.int .i64 (x_1 + (1 : Int))),
 (66,
 PV.bool
 (bif
 bif
 bif
 bif bif decide (kd < (0 : Int)) then true else decide ((5 : Int) < kd) then
 true
 else bif bv then !decide (kd = (1 : Int)) else false then
 true
 else
 bif
 bif !decide (sv = (ByteArray.mk #[]).data.toList) then
 !decide (kd = (2 : Int))
 else false then
 !decide (kd = (3 : Int))
 else false then
 true
 else
 bif
 bif decide ((0 : Int) < lenZ ls) then !decide (kd = (4 : Int))
 else false then
 !decide (kd = (5 : Int))
 else false then
 true
 else
 bif decide ((0 : Int) < Int.ofNat ks.length) then !decide (kd = (5 : Int)) else false)),
 (68, PV.int .i64 kd),
 (69, PV.bool (decide (kd = (2 : Int)))),
 (74, PV.bool (decide (kd = (3 : Int)))),
 (80, PV.bool (decide (kd = (5 : Int)))), (98, PV.undef),
 ((103 : Nat), PV.bool (decide (x < Int.ofNat ks.length))),
 ((113 : Nat), PV.undef), ((116 : Nat), PV.undef), ((129 : Nat), PV.undef),
 ((134 : Nat), PV.undef), ((145 : Nat), PV.undef)]
 [((2 : Nat) + (32 : Nat),
 PV.agg
 [PV.int .i64 kd, PV.bool bv, PV.str sv,
 PV.row nk (BRow.strs ks) (0 : Nat),
 PV.vec nl (5 : Nat) ls (0 : Nat)])] =
 VS.mk []
 [(0,
 PV.agg
 [PV.int .i64 kd, PV.bool bv, PV.str sv,
 PV.row nk (BRow.strs ks) (0 : Nat),
 PV.vec nl (5 : Nat) ls (0 : Nat)]),
 (1, PV.int .i64 d),
 (2, PV.ptr ((2 : Nat) + (32 : Nat)) (0 : Nat)),
 (4, PV.bool false), ((5 : Nat), PV.int .i64 x),
 ((6 : Nat), PV.undef), ((7 : Nat), PV.int .i64 (x_1 + (1 : Int))),
 (66,
 PV.bool
 (bif
 bif
 bif
 bif bif decide (kd < (0 : Int)) then true else decide ((5 : Int) < kd) then
 true
 else bif bv then !decide (kd = (1 : Int)) else false then
 true
 else
 bif
 bif !decide (sv = (ByteArray.mk #[]).data.toList) then
 !decide (kd = (2 : Int))
 else false then
 !decide (kd = (3 : Int))
 else false then
 true
 else
 bif
 bif decide ((0 : Int) < lenZ ls) then !decide (kd = (4 : Int))
 else false then
 !decide (kd = (5 : Int))
 else false then
 true
 else
 bif decide ((0 : Int) < Int.ofNat ks.length) then !decide (kd = (5 : Int)) else false)),
 (68, PV.int .i64 kd),
 (69, PV.bool (decide (kd = (2 : Int)))),
 (74, PV.bool (decide (kd = (3 : Int)))),
 (80, PV.bool (decide (kd = (5 : Int)))), (98, PV.undef),
 ((103 : Nat), PV.bool (decide (x < Int.ofNat ks.length))),
 ((113 : Nat), PV.undef), ((116 : Nat), PV.undef), ((129 : Nat), PV.undef),
 ((134 : Nat), PV.undef), ((145 : Nat), PV.undef)]
 [((2 : Nat) + (32 : Nat),
 PV.agg
 [PV.int .i64 kd, PV.bool bv, PV.str sv,
 PV.row nk (BRow.strs ks) (0 : Nat),
 PV.vec nl (5 : Nat) ls (0 : Nat)])] ∧
 ((0 : Int) ≤ x_1 + (1 : Int) ∧
 x_1 + (1 : Int) ≤ ↑ls.length ∧
 mayJs isNumM validL
 (List.drop (x_1 + (1 : Int)).toNat (jdecs ls)) ((127 : Int) - d).toNat =
 mayJs isNumM validL
 (jdecs ls) ((127 : Int) - d).toNat) ∧
 (↑ls.length - (x_1 + (1 : Int))).toNat < (↑ls.length - x_1).toNat)) ∧
 (decide (x_1 < lenZ ls) = false → k (PV.bool true))))))))) := by kernel_rfl
attribute [local irreducible] Go.Vc.evF
theorem ok_rmay (m : Nat) (ih : ∀ xs c, ent_rmay m xs = some c → FuncOk Try.prog noT 21 xs c) (kd : Int) (bv : Bool) (sv : Bs) (nk : Bool) (ks : List Bs) (nl : Bool) (ls : List PV) (d : Int) : FuncOk Try.prog noT 21 [.agg [.int .i64 kd, .bool bv, .str sv, .row nk (.strs ks) 0, .vec nl 5 ls 0], .int .i64 d] ⟨isJs ls ∧ okJ ((m + 1)) (.mk kd bv sv nk ks nl (jdecs ls)) ∧ sizeJ (.mk kd bv sv nk ks nl (jdecs ls)) ≤ 600000 ∧ 0 ≤ d ∧ d ≤ 128, .bool (mayJ isNumM validL (.mk kd bv sv nk ks nl (jdecs ls)) (128 - d).toNat)⟩ := evF_ok (by kernel_rfl) (X_rmay_ok m ih) (H := H_rmay m kd bv sv nk ks nl ls d) (fuel := 1000) Try.func21 (by kernel_rfl) fun hpre => (vc_rmay m kd bv sv nk ks nl ls d _).mpr (by
  obtain ⟨⟨js, rfl⟩, hok, hsz, hd0, hd1⟩ := hpre
  rw [jdecs_pvs] at hok hsz
  rw [sizeJ] at hsz
  obtain ⟨hk, hs, hks, hkl, hls, hj⟩ := hok
  simp only [JV.k, JV.s, JV.ks, JV.ls] at hk hs hks hkl hls hj
  have hml : bigJ = 140737488355328 := rfl
  have e0 : (decide (sv = (ByteArray.mk #[]).data.toList)) = sv.isEmpty := nil0 sv
  have e1 : decide ((0 : Int) < (js.length : Int)) = !js.isEmpty := by cases js <;> simp
  have e2 : decide ((0 : Int) < Int.ofNat ks.length) = !ks.isEmpty := by cases ks <;> simp
  have hkn := keys_le ks
  have em : Go.Vc.maxLen = 1099511627776 := rfl
  have e3 : decide (Int.ofNat ks.length = (js.length : Int)) = decide (ks.length = js.length) := decide_eq_decide.2 (by simp only [Int.ofNat_eq_natCast]; omega)
  simp only [e0, jdecs_pvs, pvs_lenZ, pvs_length, e1, e2, e3]
  have hH := rhead isNumM validL kd bv sv nk ks nl js (128 - d).toNat _ rfl
  refine ⟨fun h => ?_, fun h => ?_⟩
  · show PV.bool _ = PV.bool _
    rw [hH.1 h]
  obtain ⟨r2, r3, r4, r5, r0⟩ := hH.2 h
  have eD : (128 - d).toNat - 1 = (127 - d).toNat := by omega
  refine ⟨fun k2 => ⟨(by show sv.length ≤ 1000000; omega), ?_⟩, fun k2 => ?_⟩
  · show PV.bool _ = PV.bool _
    rw [r2 (of_decide_eq_true k2)]
  have k2 := of_decide_eq_false k2
  refine ⟨fun k3 => ⟨by omega, (by show sv.length ≤ 1000000; omega), ?_⟩, fun k3 => ?_⟩
  · show PV.bool _ = PV.bool _
    rw [r3 (of_decide_eq_true k3)]
  have k3 := of_decide_eq_false k3
  refine ⟨fun k4 => ⟨fun _ => ⟨fun g => ?_, fun g => ?_⟩, fun k4' => by rw [k4] at k4'; cases k4'⟩, fun k4 => ?_⟩
  · have k4 := of_decide_eq_true k4
    have g1 : 128 ≤ d := by subst k4; simpa using g
    show PV.bool _ = PV.bool _
    rw [(r4 k4).2, decide_eq_false (by omega)]; rfl
  · have k4 := of_decide_eq_true k4
    have g1 : ¬ 128 ≤ d := by subst k4; simpa using g
    obtain ⟨hk0, hR⟩ := r4 k4
    have hR : mayJ isNumM validL (.mk kd bv sv nk ks nl js) (128 - d).toNat = (ks.all validL && (nodupJ ks && mayJs isNumM validL js (127 - d).toNat)) := by
      rw [hR, hk0, decide_eq_true (show 0 < (128 - d).toNat by omega), eD]; rfl
    have hD : 0 < js.length → d ≤ 127 := fun _ => by omega
    refine ⟨by first | rfl | trivial, ⟨by omega, by omega, by first | rfl | simp, by first | rfl | simp [nodupJ]⟩, fun x hx => ?_⟩
    obtain ⟨h0, h1, h2, h3⟩ := hx
    obtain ⟨n, rfl⟩ := Int.eq_ofNat_of_zero_le h0
    rw [Int.toNat_natCast] at h2 h3
    refine ⟨fun g => ?_, fun g => ?_⟩
    · have g1 : n < ks.length := by have := of_decide_eq_true g; simpa using this
      have es := Go.Proofs.Jv.str_at g1
      simp only [es]
      have hl := key_le (List.getElem_mem g1)
      refine ⟨⟨by omega, by simp only [Int.ofNat_eq_natCast]; omega⟩, by omega, (by show ks[n].length ≤ 1000000; omega), fun f => ?_, fun f => ?_⟩
      · show PV.bool _ = PV.bool _
        have f1 : validL ks[n] = false := by simpa using f
        have f2 : ks.all validL = false := by
          rw [Bool.eq_false_iff]; intro e; have := List.all_eq_true.1 e _ (List.getElem_mem g1); rw [f1] at this; cases this
        rw [hR, f2]; rfl
      · have f1 : validL ks[n] = true := by simpa using f
        refine ⟨by first | rfl | trivial, ⟨by omega, by omega, by first | rfl | simp⟩, fun y hy => ?_⟩
        obtain ⟨k0, k1, k2⟩ := hy
        obtain ⟨j, rfl⟩ := Int.eq_ofNat_of_zero_le k0
        rw [Int.toNat_natCast] at k2
        refine ⟨fun q => ?_, fun q => ?_⟩
        · have q1 : j < n := by have := of_decide_eq_true q; omega
          have ej := Go.Proofs.Jv.str_at (l := ks) (n := j) (by omega)
          simp only [ej]
          refine ⟨⟨by omega, by simp only [Int.ofNat_eq_natCast]; omega⟩, ⟨by omega, by simp only [Int.ofNat_eq_natCast]; omega⟩, fun e => ?_, fun e => ?_⟩
          · have e1 := of_decide_eq_true e
            show PV.bool _ = PV.bool _
            rw [hR, nodup_two q1 g1 e1]; simp
          · have e1 := of_decide_eq_false e
            refine ⟨by unfold inI64; omega, by first | rfl | trivial, ⟨by omega, by omega, ?_⟩, by omega⟩
            rw [show ((j : Int) + 1).toNat = j + 1 by omega, take_contains (by omega), k2]
            simpa using fun e => e1 e.symm
        · have q1 : j = n := by have := of_decide_eq_false q; omega
          subst q1
          have en : ((j : Int) + 1).toNat = j + 1 := by omega
          refine ⟨by unfold inI64; omega, by first | rfl | trivial, ⟨by omega, by omega, ?_, ?_⟩, by omega⟩
          · rw [en, all_take g1, h2, f1]; rfl
          · rw [en, nodup_take g1, h3, k2]; rfl
    · have g1 : ks.length ≤ n := by have := of_decide_eq_false g; simp only [Int.ofNat_eq_natCast] at this; omega
      rw [List.take_of_length_le g1] at h2 h3
      rw [h2, h3] at hR
      refine ⟨by first | rfl | trivial, ⟨by omega, by omega, rfl⟩, fun y hy => ?_⟩
      obtain ⟨f0, f1, f2⟩ := hy
      obtain ⟨a, rfl⟩ := Int.eq_ofNat_of_zero_le f0
      rw [Int.toNat_natCast] at f2
      refine ⟨fun q => ?_, fun q => ?_⟩
      · have q1 : a < js.length := by have := of_decide_eq_true q; omega
        have y1 := hj _ (List.getElem_mem q1)
        have z1 := sizeJs_memL (List.getElem_mem q1)
        have hd := hD (by omega)
        have ed : (128 - (d + 1)).toNat = (127 - d).toNat := by omega
        simp only [elt_jv q1, jp0, jp1, jp2, jp3, jp3', jp4, jp4', jdecs_pvs, JV.eta', ed]
        refine ⟨⟨by omega, by omega⟩, JV.pv_eq _, by unfold inI64; omega, ⟨isJs_of _, y1, by omega, by omega, by omega⟩, fun f => ?_, fun f => ?_⟩
        · show PV.bool _ = PV.bool _
          have f : mayJ isNumM validL js[a] (127 - d).toNat = false := by simpa using f
          rw [hR, ← f2, mayJs_drop q1, f]; simp
        · refine ⟨by unfold inI64; omega, by first | rfl | trivial, ⟨by omega, by omega, ?_⟩, by omega⟩
          have f : mayJ isNumM validL js[a] (127 - d).toNat = true := by simpa using f
          rw [show ((a : Int) + 1).toNat = a + 1 by omega, ← f2, mayJs_drop q1, f]; rfl
      · have q1 : ¬ (a : Int) < js.length := of_decide_eq_false q
        show PV.bool _ = PV.bool _
        rw [hR, ← f2, List.drop_of_length_le (by omega), mayJs]; rfl
  have k4 := of_decide_eq_false k4
  refine ⟨fun k5 => ⟨fun g => ?_, fun g => ?_⟩, fun k5 => ?_⟩
  · have k5 := of_decide_eq_true k5
    show PV.bool _ = PV.bool _
    rw [r5 k5]
    rw [decide_eq_true k5] at g
    by_cases g1 : 128 ≤ d
    · rw [decide_eq_false (show ¬ 0 < (128 - d).toNat by omega)]; simp
    · rw [decide_eq_false g1] at g
      have g2 : decide (ks.length = js.length) = false := by simpa using g
      rw [g2]; rfl
  · have k5 := of_decide_eq_true k5
    rw [decide_eq_true k5] at g
    have g1 : ¬ 128 ≤ d := fun e => by rw [decide_eq_true e] at g; cases g
    rw [decide_eq_false g1] at g
    have g2 : decide (ks.length = js.length) = true := by simpa using g
    have hR : mayJ isNumM validL (.mk kd bv sv nk ks nl js) (128 - d).toNat = (ks.all validL && (nodupJ ks && mayJs isNumM validL js (127 - d).toNat)) := by
      rw [r5 k5, g2, decide_eq_true (show 0 < (128 - d).toNat by omega), eD]; simp only [Bool.true_and, Bool.and_true, Bool.and_assoc]
    have hD : 0 < js.length → d ≤ 127 := fun _ => by omega
    refine ⟨by first | rfl | trivial, ⟨by omega, by omega, by first | rfl | simp, by first | rfl | simp [nodupJ]⟩, fun x hx => ?_⟩
    obtain ⟨h0, h1, h2, h3⟩ := hx
    obtain ⟨n, rfl⟩ := Int.eq_ofNat_of_zero_le h0
    rw [Int.toNat_natCast] at h2 h3
    refine ⟨fun g => ?_, fun g => ?_⟩
    · have g1 : n < ks.length := by have := of_decide_eq_true g; simpa using this
      have es := Go.Proofs.Jv.str_at g1
      simp only [es]
      have hl := key_le (List.getElem_mem g1)
      refine ⟨⟨by omega, by simp only [Int.ofNat_eq_natCast]; omega⟩, by omega, (by show ks[n].length ≤ 1000000; omega), fun f => ?_, fun f => ?_⟩
      · show PV.bool _ = PV.bool _
        have f1 : validL ks[n] = false := by simpa using f
        have f2 : ks.all validL = false := by
          rw [Bool.eq_false_iff]; intro e; have := List.all_eq_true.1 e _ (List.getElem_mem g1); rw [f1] at this; cases this
        rw [hR, f2]; rfl
      · have f1 : validL ks[n] = true := by simpa using f
        refine ⟨by first | rfl | trivial, ⟨by omega, by omega, by first | rfl | simp⟩, fun y hy => ?_⟩
        obtain ⟨k0, k1, k2⟩ := hy
        obtain ⟨j, rfl⟩ := Int.eq_ofNat_of_zero_le k0
        rw [Int.toNat_natCast] at k2
        refine ⟨fun q => ?_, fun q => ?_⟩
        · have q1 : j < n := by have := of_decide_eq_true q; omega
          have ej := Go.Proofs.Jv.str_at (l := ks) (n := j) (by omega)
          simp only [ej]
          refine ⟨⟨by omega, by simp only [Int.ofNat_eq_natCast]; omega⟩, ⟨by omega, by simp only [Int.ofNat_eq_natCast]; omega⟩, fun e => ?_, fun e => ?_⟩
          · have e1 := of_decide_eq_true e
            show PV.bool _ = PV.bool _
            rw [hR, nodup_two q1 g1 e1]; simp
          · have e1 := of_decide_eq_false e
            refine ⟨by unfold inI64; omega, by first | rfl | trivial, ⟨by omega, by omega, ?_⟩, by omega⟩
            rw [show ((j : Int) + 1).toNat = j + 1 by omega, take_contains (by omega), k2]
            simpa using fun e => e1 e.symm
        · have q1 : j = n := by have := of_decide_eq_false q; omega
          subst q1
          have en : ((j : Int) + 1).toNat = j + 1 := by omega
          refine ⟨by unfold inI64; omega, by first | rfl | trivial, ⟨by omega, by omega, ?_, ?_⟩, by omega⟩
          · rw [en, all_take g1, h2, f1]; rfl
          · rw [en, nodup_take g1, h3, k2]; rfl
    · have g1 : ks.length ≤ n := by have := of_decide_eq_false g; simp only [Int.ofNat_eq_natCast] at this; omega
      rw [List.take_of_length_le g1] at h2 h3
      rw [h2, h3] at hR
      refine ⟨by first | rfl | trivial, ⟨by omega, by omega, rfl⟩, fun y hy => ?_⟩
      obtain ⟨f0, f1, f2⟩ := hy
      obtain ⟨a, rfl⟩ := Int.eq_ofNat_of_zero_le f0
      rw [Int.toNat_natCast] at f2
      refine ⟨fun q => ?_, fun q => ?_⟩
      · have q1 : a < js.length := by have := of_decide_eq_true q; omega
        have y1 := hj _ (List.getElem_mem q1)
        have z1 := sizeJs_memL (List.getElem_mem q1)
        have hd := hD (by omega)
        have ed : (128 - (d + 1)).toNat = (127 - d).toNat := by omega
        simp only [elt_jv q1, jp0, jp1, jp2, jp3, jp3', jp4, jp4', jdecs_pvs, JV.eta', ed]
        refine ⟨⟨by omega, by omega⟩, JV.pv_eq _, by unfold inI64; omega, ⟨isJs_of _, y1, by omega, by omega, by omega⟩, fun f => ?_, fun f => ?_⟩
        · show PV.bool _ = PV.bool _
          have f : mayJ isNumM validL js[a] (127 - d).toNat = false := by simpa using f
          rw [hR, ← f2, mayJs_drop q1, f]; simp
        · refine ⟨by unfold inI64; omega, by first | rfl | trivial, ⟨by omega, by omega, ?_⟩, by omega⟩
          have f : mayJ isNumM validL js[a] (127 - d).toNat = true := by simpa using f
          rw [show ((a : Int) + 1).toNat = a + 1 by omega, ← f2, mayJs_drop q1, f]; rfl
      · have q1 : ¬ (a : Int) < js.length := of_decide_eq_false q
        show PV.bool _ = PV.bool _
        rw [hR, ← f2, List.drop_of_length_le (by omega), mayJs]; rfl
  have k5 := of_decide_eq_false k5
  obtain ⟨hk0, hl0, hR0⟩ := r0 k2 k3 k4 k5
  have hR : mayJ isNumM validL (.mk kd bv sv nk ks nl js) (128 - d).toNat = (ks.all validL && (nodupJ ks && mayJs isNumM validL js (127 - d).toNat)) := by
    rw [hR0, hk0, hl0, mayJs]; rfl
  have hD : 0 < js.length → d ≤ 127 := fun h => by rw [hl0] at h; simp at h
  refine ⟨by first | rfl | trivial, ⟨by omega, by omega, by first | rfl | simp, by first | rfl | simp [nodupJ]⟩, fun x hx => ?_⟩
  obtain ⟨h0, h1, h2, h3⟩ := hx
  obtain ⟨n, rfl⟩ := Int.eq_ofNat_of_zero_le h0
  rw [Int.toNat_natCast] at h2 h3
  refine ⟨fun g => ?_, fun g => ?_⟩
  · have g1 : n < ks.length := by have := of_decide_eq_true g; simpa using this
    have es := Go.Proofs.Jv.str_at g1
    simp only [es]
    have hl := key_le (List.getElem_mem g1)
    refine ⟨⟨by omega, by simp only [Int.ofNat_eq_natCast]; omega⟩, by omega, (by show ks[n].length ≤ 1000000; omega), fun f => ?_, fun f => ?_⟩
    · show PV.bool _ = PV.bool _
      have f1 : validL ks[n] = false := by simpa using f
      have f2 : ks.all validL = false := by
        rw [Bool.eq_false_iff]; intro e; have := List.all_eq_true.1 e _ (List.getElem_mem g1); rw [f1] at this; cases this
      rw [hR, f2]; rfl
    · have f1 : validL ks[n] = true := by simpa using f
      refine ⟨by first | rfl | trivial, ⟨by omega, by omega, by first | rfl | simp⟩, fun y hy => ?_⟩
      obtain ⟨k0, k1, k2⟩ := hy
      obtain ⟨j, rfl⟩ := Int.eq_ofNat_of_zero_le k0
      rw [Int.toNat_natCast] at k2
      refine ⟨fun q => ?_, fun q => ?_⟩
      · have q1 : j < n := by have := of_decide_eq_true q; omega
        have ej := Go.Proofs.Jv.str_at (l := ks) (n := j) (by omega)
        simp only [ej]
        refine ⟨⟨by omega, by simp only [Int.ofNat_eq_natCast]; omega⟩, ⟨by omega, by simp only [Int.ofNat_eq_natCast]; omega⟩, fun e => ?_, fun e => ?_⟩
        · have e1 := of_decide_eq_true e
          show PV.bool _ = PV.bool _
          rw [hR, nodup_two q1 g1 e1]; simp
        · have e1 := of_decide_eq_false e
          refine ⟨by unfold inI64; omega, by first | rfl | trivial, ⟨by omega, by omega, ?_⟩, by omega⟩
          rw [show ((j : Int) + 1).toNat = j + 1 by omega, take_contains (by omega), k2]
          simpa using fun e => e1 e.symm
      · have q1 : j = n := by have := of_decide_eq_false q; omega
        subst q1
        have en : ((j : Int) + 1).toNat = j + 1 := by omega
        refine ⟨by unfold inI64; omega, by first | rfl | trivial, ⟨by omega, by omega, ?_, ?_⟩, by omega⟩
        · rw [en, all_take g1, h2, f1]; rfl
        · rw [en, nodup_take g1, h3, k2]; rfl
  · have g1 : ks.length ≤ n := by have := of_decide_eq_false g; simp only [Int.ofNat_eq_natCast] at this; omega
    rw [List.take_of_length_le g1] at h2 h3
    rw [h2, h3] at hR
    refine ⟨by first | rfl | trivial, ⟨by omega, by omega, rfl⟩, fun y hy => ?_⟩
    obtain ⟨f0, f1, f2⟩ := hy
    obtain ⟨a, rfl⟩ := Int.eq_ofNat_of_zero_le f0
    rw [Int.toNat_natCast] at f2
    refine ⟨fun q => ?_, fun q => ?_⟩
    · have q1 : a < js.length := by have := of_decide_eq_true q; omega
      have y1 := hj _ (List.getElem_mem q1)
      have z1 := sizeJs_memL (List.getElem_mem q1)
      have hd := hD (by omega)
      have ed : (128 - (d + 1)).toNat = (127 - d).toNat := by omega
      simp only [elt_jv q1, jp0, jp1, jp2, jp3, jp3', jp4, jp4', jdecs_pvs, JV.eta', ed]
      refine ⟨⟨by omega, by omega⟩, JV.pv_eq _, by unfold inI64; omega, ⟨isJs_of _, y1, by omega, by omega, by omega⟩, fun f => ?_, fun f => ?_⟩
      · show PV.bool _ = PV.bool _
        have f : mayJ isNumM validL js[a] (127 - d).toNat = false := by simpa using f
        rw [hR, ← f2, mayJs_drop q1, f]; simp
      · refine ⟨by unfold inI64; omega, by first | rfl | trivial, ⟨by omega, by omega, ?_⟩, by omega⟩
        have f : mayJ isNumM validL js[a] (127 - d).toNat = true := by simpa using f
        rw [show ((a : Int) + 1).toNat = a + 1 by omega, ← f2, mayJs_drop q1, f]; rfl
    · have q1 : ¬ (a : Int) < js.length := of_decide_eq_false q
      show PV.bool _ = PV.bool _
      rw [hR, ← f2, List.drop_of_length_le (by omega), mayJs]; rfl)
theorem ent_rmay_ok : ∀ (n : Nat) xs c, ent_rmay n xs = some c → FuncOk Try.prog noT 21 xs c
  | 0, xs, c, h => by
    unfold ent_rmay at h
    split at h
    · injection h with h; subst h; exact .of_plain ⟨rfl, rfl⟩ fun hp => False.elim (hp.2.1)
    · cases h
  | m + 1, xs, c, h => by
    unfold ent_rmay at h
    split at h
    · injection h with h; subst h; exact ok_rmay m (ent_rmay_ok m) _ _ _ _ _ _ _ _
    · cases h
def entA_rmay : List PV → Option CallR := fun xs => match xs with
  | [.agg [.int .i64 kd, .bool bv, .str sv, .row nk (.strs ks) 0, .vec nl 5 ls 0], .int .i64 d] => some ⟨∃ dn : Nat, isJs ls ∧ okJ (dn) (.mk kd bv sv nk ks nl (jdecs ls)) ∧ sizeJ (.mk kd bv sv nk ks nl (jdecs ls)) ≤ 600000 ∧ 0 ≤ d ∧ d ≤ 128, .bool (mayJ isNumM validL (.mk kd bv sv nk ks nl (jdecs ls)) (128 - d).toNat)⟩
  | _ => none
theorem entA_rmay_ok : ∀ xs c, entA_rmay xs = some c → FuncOk Try.prog noT 21 xs c := fun xs c h => by
  unfold entA_rmay at h
  split at h
  · injection h with h; subst h; exact exI fun n => ent_rmay_ok n _ _ rfl
  · cases h
end
section
def X_rgmay : Tbl := tblX [(21, entA_rmay)]
def H_rgmay (kd : Int) (bv : Bool) (sv : Bs) (nk : Bool) (ks : List Bs) (nl : Bool) (ls : List PV) : Loops := fun i => none
theorem X_rgmay_ok : XOk Try.prog noT X_rgmay := tblX_cons entA_rmay_ok (tblX_nil)
theorem vc_rgmay (kd : Int) (bv : Bool) (sv : Bs) (nk : Bool) (ks : List Bs) (nl : Bool) (ls : List PV) (k : PV → Prop) : evF Try.prog X_rgmay noT (H_rgmay kd bv sv nk ks nl ls) 1000 Try.f12 [.agg [.int .i64 kd, .bool bv, .str sv, .row nk (.strs ks) 0, .vec nl 5 ls 0]] k = (
  (∃ (dn : Nat),
 isJs ls ∧
 okJ dn (JV.mk kd bv sv nk ks nl (jdecs ls)) ∧
 sizeJ (JV.mk kd bv sv nk ks nl (jdecs ls)) ≤ (600000 : Nat) ∧ (0 : Int) ≤ (0 : Int) ∧ (0 : Int) ≤ (128 : Int)) ∧
 k
 (PV.bool
 (mayJ isNumM validL (JV.mk kd bv sv nk ks nl (jdecs ls))
 ((128 : Int) - (0 : Int)).toNat))) := by kernel_rfl
attribute [local irreducible] Go.Vc.evF
theorem ok_rgmay (kd : Int) (bv : Bool) (sv : Bs) (nk : Bool) (ks : List Bs) (nl : Bool) (ls : List PV) : FuncOk Try.prog noT 12 [.agg [.int .i64 kd, .bool bv, .str sv, .row nk (.strs ks) 0, .vec nl 5 ls 0]] ⟨isJs ls ∧ (∃ q, okJ q (.mk kd bv sv nk ks nl (jdecs ls))) ∧ sizeJ (.mk kd bv sv nk ks nl (jdecs ls)) ≤ 600000, .bool (mayJ isNumM validL (.mk kd bv sv nk ks nl (jdecs ls)) 128)⟩ := evF_ok (by kernel_rfl) X_rgmay_ok (H := H_rgmay kd bv sv nk ks nl ls) (fuel := 1000) Try.func12 (by kernel_rfl) fun hpre => (vc_rgmay kd bv sv nk ks nl ls _).mpr (by
  obtain ⟨h1, h2, h3⟩ := hpre
  obtain ⟨q, h2⟩ := h2
  exact ⟨⟨q, h1, h2, h3, by omega, by omega⟩, rfl⟩)
def ent_rgmay : List PV → Option CallR := fun xs => match xs with
  | [.agg [.int .i64 kd, .bool bv, .str sv, .row nk (.strs ks) 0, .vec nl 5 ls 0]] => some ⟨isJs ls ∧ (∃ q, okJ q (.mk kd bv sv nk ks nl (jdecs ls))) ∧ sizeJ (.mk kd bv sv nk ks nl (jdecs ls)) ≤ 600000, .bool (mayJ isNumM validL (.mk kd bv sv nk ks nl (jdecs ls)) 128)⟩
  | _ => none
theorem ent_rgmay_ok : ∀ xs c, ent_rgmay xs = some c → FuncOk Try.prog noT 12 xs c := fun xs c h => by
  unfold ent_rgmay at h
  split at h
  · injection h with h; subst h; exact ok_rgmay _ _ _ _ _ _ _
  · cases h
end
section
def X_rgshow : Tbl := tblX [(12, ent_rgmay), (23, entA_rtext)]
def H_rgshow (kd : Int) (bv : Bool) (sv : Bs) (nk : Bool) (ks : List Bs) (nl : Bool) (ls : List PV) : Loops := fun i => none
theorem X_rgshow_ok : XOk Try.prog noT X_rgshow := tblX_cons ent_rgmay_ok (tblX_cons entA_rtext_ok (tblX_nil))
theorem vc_rgshow (kd : Int) (bv : Bool) (sv : Bs) (nk : Bool) (ks : List Bs) (nl : Bool) (ls : List PV) (k : PV → Prop) : evF Try.prog X_rgshow noT (H_rgshow kd bv sv nk ks nl ls) 1000 Try.f14 [.agg [.int .i64 kd, .bool bv, .str sv, .row nk (.strs ks) 0, .vec nl 5 ls 0]] k = (
  (isJs ls ∧
 (∃ (q : Nat), okJ q (JV.mk kd bv sv nk ks nl (jdecs ls))) ∧
 sizeJ (JV.mk kd bv sv nk ks nl (jdecs ls)) ≤ (600000 : Nat)) ∧
 ((!mayJ isNumM validL (JV.mk kd bv sv nk ks nl (jdecs ls))
 (128 : Nat)) =
 true →
 k (PV.row true (BRow.bytes []) (0 : Nat))) ∧
 ((!mayJ isNumM validL (JV.mk kd bv sv nk ks nl (jdecs ls))
 (128 : Nat)) =
 false →
 (∃ (dn : Nat),
 isJs ls ∧
 okJ dn (JV.mk kd bv sv nk ks nl (jdecs ls)) ∧
 shapeJ (JV.mk kd bv sv nk ks nl (jdecs ls)) = true ∧
 sizeJ (JV.mk kd bv sv nk ks nl (jdecs ls)) ≤ (10000 : Nat)) ∧
 k (PV.row false (BRow.bytes (textJ (JV.mk kd bv sv nk ks nl (jdecs ls)))) (0 : Nat)))) := by kernel_rfl
attribute [local irreducible] Go.Vc.evF
theorem ok_rgshow (kd : Int) (bv : Bool) (sv : Bs) (nk : Bool) (ks : List Bs) (nl : Bool) (ls : List PV) : FuncOk Try.prog noT 14 [.agg [.int .i64 kd, .bool bv, .str sv, .row nk (.strs ks) 0, .vec nl 5 ls 0]] ⟨isJs ls ∧ (∃ q, okJ q (.mk kd bv sv nk ks nl (jdecs ls))) ∧ sizeJ (.mk kd bv sv nk ks nl (jdecs ls)) ≤ 10000, .row (!mayJ isNumM validL (.mk kd bv sv nk ks nl (jdecs ls)) 128) (.bytes (bif mayJ isNumM validL (.mk kd bv sv nk ks nl (jdecs ls)) 128 then textJ (.mk kd bv sv nk ks nl (jdecs ls)) else [])) 0⟩ := evF_ok (by kernel_rfl) X_rgshow_ok (H := H_rgshow kd bv sv nk ks nl ls) (fuel := 1000) Try.func14 (by kernel_rfl) fun hpre => (vc_rgshow kd bv sv nk ks nl ls _).mpr (by
  obtain ⟨⟨js, rfl⟩, ⟨q, hok⟩, hsz⟩ := hpre
  refine ⟨⟨isJs_of _, ⟨q, hok⟩, by omega⟩, fun h => ?_, fun h => ?_⟩
  · have h : mayJ isNumM validL (.mk kd bv sv nk ks nl (jdecs (JV.pvs js))) 128 = false := by simpa using h
    show PV.row _ _ _ = PV.row _ _ _
    rw [h]; rfl
  · have h : mayJ isNumM validL (.mk kd bv sv nk ks nl (jdecs (JV.pvs js))) 128 = true := by simpa using h
    refine ⟨⟨q, isJs_of _, hok, shape_of_may _ _ h, by omega⟩, ?_⟩
    show PV.row _ _ _ = PV.row _ _ _
    rw [h]; rfl)
def ent_rgshow : List PV → Option CallR := fun xs => match xs with
  | [.agg [.int .i64 kd, .bool bv, .str sv, .row nk (.strs ks) 0, .vec nl 5 ls 0]] => some ⟨isJs ls ∧ (∃ q, okJ q (.mk kd bv sv nk ks nl (jdecs ls))) ∧ sizeJ (.mk kd bv sv nk ks nl (jdecs ls)) ≤ 10000, .row (!mayJ isNumM validL (.mk kd bv sv nk ks nl (jdecs ls)) 128) (.bytes (bif mayJ isNumM validL (.mk kd bv sv nk ks nl (jdecs ls)) 128 then textJ (.mk kd bv sv nk ks nl (jdecs ls)) else [])) 0⟩
  | _ => none
theorem ent_rgshow_ok : ∀ xs c, ent_rgshow xs = some c → FuncOk Try.prog noT 14 xs c := fun xs c h => by
  unfold ent_rgshow at h
  split at h
  · injection h with h; subst h; exact ok_rgshow _ _ _ _ _ _ _
  · cases h
end
end Go.Proofs.Ytaklcjnfjchebaa
