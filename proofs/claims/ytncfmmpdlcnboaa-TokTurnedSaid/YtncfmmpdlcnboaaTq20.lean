import Derived.Test.YtncfmmpdlcnboaaProg
import Derived.ProofKit
import Derived.Test.YtncfmmpdlcnboaaTq6
import Derived.Test.YtncfmmpdlcnboaaTq7
import Derived.Test.YtncfmmpdlcnboaaTq10
import Derived.Test.YtncfmmpdlcnboaaTq11
import Derived.Test.YtncfmmpdlcnboaaTq19
set_option linter.unusedVariables false
set_option linter.unusedSimpArgs false
set_option maxRecDepth 100000
set_option maxHeartbeats 4000000
namespace Go.Proofs.Ytncfmmpdlcnboaa
open Go Go.Proofs Go.RowKit Go.Vc Go.Proofs.Jv Go.Maps
theorem ok_rvalid (nl : Bool) (l : Bs) : FuncOk Try.prog noT 32 [.row nl (.bytes l) 0] ⟨l.length ≤ 1000000, .bool (validL l)⟩ :=
  FuncOk.of_calls Try.func32 (by kernel_rfl) rfl fun hl F w vs hF _ hw hx => by
    obtain ⟨v, _, rfl, r1, rfl⟩ := hx
    exact ⟨_, (rvalid_any v l w (sl_is8 hF r1) hl).mono fun e w' ⟨he, n, hn⟩ => ⟨he, hn ▸ ext_drew w n⟩, fun G w => rfl⟩
def ent_rvalid : List PV → Option CallR := fun xs => match xs with | [.row nl (.bytes l) 0] => some ⟨l.length ≤ 1000000, .bool (validL l)⟩ | _ => none
theorem ent_rvalid_ok : ∀ xs c, ent_rvalid xs = some c → FuncOk Try.prog noT 32 xs c := fun xs c h => by
  unfold ent_rvalid at h
  split at h
  · injection h with h; subst h; exact ok_rvalid _ _
  · cases h
theorem ok_risnum (l : Bs) : FuncOk Try.prog noT 31 [.str l] ⟨l.length ≤ 1000000, .bool (isNumM l)⟩ :=
  FuncOk.of_calls Try.func31 (by kernel_rfl) rfl fun hl F w vs hF _ hw hx => by
    obtain ⟨_, _, rfl, r1, rfl⟩ := hx
    obtain rfl := r1
    exact ⟨_, risNum_any l w hl, fun G w => rfl⟩
def ent_risnum : List PV → Option CallR := fun xs => match xs with | [.str l] => some ⟨l.length ≤ 1000000, .bool (isNumM l)⟩ | _ => none
theorem ent_risnum_ok : ∀ xs c, ent_risnum xs = some c → FuncOk Try.prog noT 31 xs c := fun xs c h => by
  unfold ent_risnum at h
  split at h
  · injection h with h; subst h; exact ok_risnum _
  · cases h
end Go.Proofs.Ytncfmmpdlcnboaa
namespace Go.Proofs.Ytncfmmpdlcnboaa
open Go Go.Proofs Go.RowKit Go.Vc
open Go.Proofs.Jv
section
theorem rhead (num val : Bs → Bool) (kd : Int) (bv : Bool) (sv : Bs) (nk : Bool) (ks : List Bs) (nl : Bool) (js : List JV) (D : Nat) (C : Bool) (hC : C = (bif bif bif bif bif decide (kd < 0) then true else decide (5 < kd) then true else bif bv then !decide (kd = 1) else false then true else bif bif !sv.isEmpty then !decide (kd = 2) else false then !decide (kd = 3) else false then true else bif bif !js.isEmpty then !decide (kd = 4) else false then !decide (kd = 5) else false then true else bif !ks.isEmpty then !decide (kd = 5) else false)) :
    (C = true → mayJ num val (.mk kd bv sv nk ks nl js) D = false) ∧ (C = false → (kd = 2 → mayJ num val (.mk kd bv sv nk ks nl js) D = num sv) ∧ (kd = 3 → mayJ num val (.mk kd bv sv nk ks nl js) D = val sv) ∧ (kd = 4 → ks = [] ∧ mayJ num val (.mk kd bv sv nk ks nl js) D = (decide (0 < D) && mayJs num val js (D - 1))) ∧
      (kd = 5 → mayJ num val (.mk kd bv sv nk ks nl js) D = (decide (ks.length = js.length) && ks.all val && nodupJ ks && decide (0 < D) && mayJs num val js (D - 1))) ∧ (kd ≠ 2 → kd ≠ 3 → kd ≠ 4 → kd ≠ 5 → ks = [] ∧ js = [] ∧ mayJ num val (.mk kd bv sv nk ks nl js) D = true)) := by
  subst hC
  rcases (show kd < 0 ∨ kd = 0 ∨ kd = 1 ∨ kd = 2 ∨ kd = 3 ∨ kd = 4 ∨ kd = 5 ∨ 5 < kd by omega) with h | rfl | rfl | rfl | rfl | rfl | rfl | h
  · have a0 : kd ≠ 0 := by omega
    have a1 : kd ≠ 1 := by omega
    have a2 : kd ≠ 2 := by omega
    have a3 : kd ≠ 3 := by omega
    have a4 : kd ≠ 4 := by omega
    have a5 : kd ≠ 5 := by omega
    simp [mayJ, a0, a1, a2, a3, a4, a5, h]
  · cases bv <;> cases sv <;> cases js <;> cases ks <;> simp [mayJ]
  · cases bv <;> cases sv <;> cases js <;> cases ks <;> simp [mayJ]
  · cases bv <;> cases sv <;> cases js <;> cases ks <;> simp [mayJ]
  · cases bv <;> cases sv <;> cases js <;> cases ks <;> simp [mayJ]
  · cases bv <;> cases sv <;> cases js <;> cases ks <;> simp [mayJ]
  · cases bv <;> cases sv <;> cases js <;> cases ks <;> simp [mayJ]
  · have a0 : kd ≠ 0 := by omega
    have a1 : kd ≠ 1 := by omega
    have a2 : kd ≠ 2 := by omega
    have a3 : kd ≠ 3 := by omega
    have a4 : kd ≠ 4 := by omega
    have a5 : kd ≠ 5 := by omega
    simp [mayJ, a0, a1, a2, a3, a4, a5, h]
theorem take_contains {l : List Bs} {j : Nat} (h : j < l.length) (x : Bs) : (l.take (j + 1)).contains x = ((l.take j).contains x || x == l[j]) := by
  rw [List.take_add_one, List.getElem?_eq_getElem h]
  show (l.take j ++ [l[j]]).contains x = _
  rw [List.contains_eq_any_beq, List.contains_eq_any_beq, List.any_append, List.any_cons, List.any_nil, Bool.or_false]
theorem nodup_app : ∀ (l : List Bs) (x : Bs), nodupJ (l ++ [x]) = (nodupJ l && !l.contains x)
  | [], x => by simp [nodupJ]
  | k :: l, x => by
    rw [List.cons_append, nodupJ, nodupJ, nodup_app l x, List.contains_cons]
    have : (l ++ [x]).contains k = (l.contains k || k == x) := by rw [List.contains_eq_any_beq, List.contains_eq_any_beq, List.any_append, List.any_cons, List.any_nil, Bool.or_false]
    rw [this, BEq.comm (a := x)]
    cases l.contains k <;> cases (k == x) <;> cases nodupJ l <;> cases l.contains x <;> rfl
theorem nodup_take {l : List Bs} {j : Nat} (h : j < l.length) : nodupJ (l.take (j + 1)) = (nodupJ (l.take j) && !(l.take j).contains l[j]) := by
  rw [List.take_add_one, List.getElem?_eq_getElem h]
  exact nodup_app _ _
theorem nodup_pre : ∀ (a b : List Bs), nodupJ (a ++ b) = true → nodupJ a = true
  | [], b, _ => rfl
  | k :: a, b, h => by
    rw [List.cons_append, nodupJ, Bool.and_eq_true] at h
    rw [nodupJ, Bool.and_eq_true]
    refine ⟨?_, nodup_pre a b h.2⟩
    have h1 := h.1
    simp only [Bool.not_eq_true', List.contains_eq_mem, decide_eq_false_iff_not] at h1 ⊢
    exact fun e => h1 (List.mem_append_left _ e)
theorem nodup_two {l : List Bs} {j n : Nat} (h : j < n) (hn : n < l.length) (e : l[j] = l[n]) : nodupJ l = false := by
  rw [Bool.eq_false_iff]
  intro g
  have g2 := nodup_pre (l.take (n + 1)) (l.drop (n + 1)) (by rw [List.take_append_drop]; exact g)
  rw [nodup_take hn, Bool.and_eq_true] at g2
  have g3 := g2.2
  simp only [Bool.not_eq_true', List.contains_eq_mem, decide_eq_false_iff_not] at g3
  refine g3 ?_
  rw [← e]
  exact List.mem_iff_getElem.2 ⟨j, by rw [List.length_take]; omega, by simp⟩
theorem all_take {l : List Bs} {j : Nat} (h : j < l.length) (p : Bs → Bool) : (l.take (j + 1)).all p = ((l.take j).all p && p l[j]) := by
  rw [List.take_add_one, List.getElem?_eq_getElem h]
  show (l.take j ++ [l[j]]).all p = _
  rw [List.all_append, List.all_cons, List.all_nil, Bool.and_true]
def ent_rmay (dn : Nat) : List PV → Option CallR := fun xs => match xs with
  | [.agg [.int .i64 kd, .bool bv, .str sv, .row nk (.strs ks) 0, .vec nl 5 ls 0], .int .i64 d] => some ⟨isJs ls ∧ okJ (dn) (.mk kd bv sv nk ks nl (jdecs ls)) ∧ sizeJ (.mk kd bv sv nk ks nl (jdecs ls)) ≤ 600000 ∧ 0 ≤ d ∧ d ≤ 128, .bool (mayJ isNumM validL (.mk kd bv sv nk ks nl (jdecs ls)) (128 - d).toNat)⟩
  | _ => none
def X_rmay (m : Nat) : Tbl := tblX [(32, ent_rvalid), (31, ent_risnum), (20, ent_rmay m)]
def H_rmay (m : Nat) (kd : Int) (bv : Bool) (sv : Bs) (nk : Bool) (ks : List Bs) (nl : Bool) (ls : List PV) (d : Int) : Loops := fun i => bif Nat.beq i 13 then some ⟨(Int), (fun s x => ((((((s.put 5 (.int .i64 x)).put 6 .undef).put 103 .undef).put 113 .undef).put 116 .undef).put 129 .undef)), (fun s => s.int 5), (fun s x => let i := x; 0 ≤ i ∧ i ≤ ks.length ∧ (ks.take i.toNat).all validL = true ∧ nodupJ (ks.take i.toNat) = true), (fun s x => let i := x; ((ks.length : Int) - i).toNat), [6, 103, 113, 116, 129]⟩ else bif Nat.beq i 18 then some ⟨(Int), (fun s x => (((s.put 6 (.int .i64 x)).put 116 .undef).put 129 .undef)), (fun s => s.int 6), (fun s x => let j := x; 0 ≤ j ∧ j ≤ s.int 5 ∧ (ks.take j.toNat).contains (strZ ks (s.int 5)) = false), (fun s x => let j := x; (s.int 5 - j).toNat), [116, 129]⟩ else bif Nat.beq i 23 then some ⟨(Int), (fun s x => (((s.put 7 (.int .i64 x)).put 134 .undef).put 145 .undef)), (fun s => s.int 7), (fun s x => let i := x; 0 ≤ i ∧ i ≤ ls.length ∧ mayJs isNumM validL ((jdecs ls).drop i.toNat) (127 - d).toNat = mayJs isNumM validL (jdecs ls) (127 - d).toNat), (fun s x => let i := x; ((ls.length : Int) - i).toNat), [134, 145]⟩ else none
theorem X_rmay_ok (m : Nat) (ih : ∀ xs c, ent_rmay m xs = some c → FuncOk Try.prog noT 20 xs c) : XOk Try.prog noT (X_rmay m) := tblX_cons ent_rvalid_ok (tblX_cons ent_risnum_ok (tblX_cons ih (tblX_nil)))
theorem vc_rmay (m : Nat) (kd : Int) (bv : Bool) (sv : Bs) (nk : Bool) (ks : List Bs) (nl : Bool) (ls : List PV) (d : Int) (k : PV → Prop) : evF Try.prog (X_rmay m) noT (H_rmay m kd bv sv nk ks nl ls d) 1000 Try.f20 [.agg [.int .i64 kd, .bool bv, .str sv, .row nk (.strs ks) 0, .vec nl 5 ls 0], .int .i64 d] k = (
  ((bif
 bif
 bif bif bif decide (kd < (0 : Int)) then true else decide ((5 : Int) < kd) then true else bif bv then !decide (kd = (1 : Int)) else false then
 true
 else bif bif !decide (sv = (ByteArray.mk #[]).data.toList) then !decide (kd = (2 : Int)) else false then !decide (kd = (3 : Int)) else false then
 true
 else bif bif decide ((0 : Int) < lenZ ls) then !decide (kd = (4 : Int)) else false then !decide (kd = (5 : Int)) else false then
 true
 else bif decide ((0 : Int) < Int.ofNat ks.length) then !decide (kd = (5 : Int)) else false) =
 true →
 k (PV.bool false)) ∧
 ((bif
 bif
 bif bif bif decide (kd < (0 : Int)) then true else decide ((5 : Int) < kd) then true else bif bv then !decide (kd = (1 : Int)) else false then
 true
 else bif bif !decide (sv = (ByteArray.mk #[]).data.toList) then !decide (kd = (2 : Int)) else false then !decide (kd = (3 : Int)) else false then
 true
 else bif bif decide ((0 : Int) < lenZ ls) then !decide (kd = (4 : Int)) else false then !decide (kd = (5 : Int)) else false then
 true
 else bif decide ((0 : Int) < Int.ofNat ks.length) then !decide (kd = (5 : Int)) else false) =
 false →
 (decide (kd = (2 : Int)) = true → (List.length sv).le (1000000 : Nat) ∧ k (PV.bool (isNumM sv))) ∧
 (decide (kd = (2 : Int)) = false →
 (decide (kd = (3 : Int)) = true →
 List.length sv ≤ Go.Vc.maxLen ∧ (List.length sv).le (1000000 : Nat) ∧ k (PV.bool (validL sv))) ∧
 (decide (kd = (3 : Int)) = false →
 (decide (kd = (4 : Int)) = true →
 (decide (kd = (4 : Int)) = true →
 ((bif decide ((128 : Int) ≤ d) then true else bif decide (kd = (5 : Int)) then !decide (Int.ofNat ks.length = lenZ ls) else false) =
 true →
 k (PV.bool false)) ∧
 ((bif decide ((128 : Int) ≤ d) then true else bif decide (kd = (5 : Int)) then !decide (Int.ofNat ks.length = lenZ ls) else false) =
 false →
 VS.mk []
 [(0,
 PV.agg
 [PV.int .i64 kd, PV.bool bv, PV.str sv, PV.row nk (BRow.strs ks) (0 : Nat),
 PV.vec nl (5 : Nat) ls (0 : Nat)]),
 (1, PV.int .i64 d), (2, PV.ptr ((2 : Nat) + (32 : Nat)) (0 : Nat)),
 (4, PV.bool false), (5, PV.int .i64 (0 : Int)), ((6 : Nat), PV.undef),
 (7, PV.undef),
 (66,
 PV.bool
 (bif
 bif
 bif
 bif bif decide (kd < (0 : Int)) then true else decide ((5 : Int) < kd) then true
 else bif bv then !decide (kd = (1 : Int)) else false then
 true
 else
 bif bif !decide (sv = (ByteArray.mk #[]).data.toList) then !decide (kd = (2 : Int)) else false then
 !decide (kd = (3 : Int))
 else false then
 true
 else
 bif bif decide ((0 : Int) < lenZ ls) then !decide (kd = (4 : Int)) else false then !decide (kd = (5 : Int))
 else false then
 true
 else bif decide ((0 : Int) < Int.ofNat ks.length) then !decide (kd = (5 : Int)) else false)),
 (68, PV.int .i64 kd), (69, PV.bool (decide (kd = (2 : Int)))),
 (74, PV.bool (decide (kd = (3 : Int)))), (80, PV.bool (decide (kd = (4 : Int)))),
 (98,
 PV.bool
 (bif decide ((128 : Int) ≤ d) then true
 else bif decide (kd = (5 : Int)) then !decide (Int.ofNat ks.length = lenZ ls) else false)),
 ((103 : Nat), PV.undef), ((113 : Nat), PV.undef), ((116 : Nat), PV.undef), ((129 : Nat), PV.undef),
 (134, PV.undef), (145, PV.undef)]
 [((2 : Nat) + (32 : Nat),
 PV.agg
 [PV.int .i64 kd, PV.bool bv, PV.str sv, PV.row nk (BRow.strs ks) (0 : Nat),
 PV.vec nl (5 : Nat) ls (0 : Nat)])] =
 VS.mk []
 [(0,
 PV.agg
 [PV.int .i64 kd, PV.bool bv, PV.str sv, PV.row nk (BRow.strs ks) (0 : Nat),
 PV.vec nl (5 : Nat) ls (0 : Nat)]),
 (1, PV.int .i64 d), (2, PV.ptr ((2 : Nat) + (32 : Nat)) (0 : Nat)),
 (4, PV.bool false), ((5 : Nat), PV.int .i64 (0 : Int)), ((6 : Nat), PV.undef),
 (7, PV.undef),
 (66,
 PV.bool
 (bif
 bif
 bif
 bif bif decide (kd < (0 : Int)) then true else decide ((5 : Int) < kd) then true
 else bif bv then !decide (kd = (1 : Int)) else false then
 true
 else
 bif bif !decide (sv = (ByteArray.mk #[]).data.toList) then !decide (kd = (2 : Int)) else false then
 !decide (kd = (3 : Int))
 else false then
 true
 else
 bif bif decide ((0 : Int) < lenZ ls) then !decide (kd = (4 : Int)) else false then !decide (kd = (5 : Int))
 else false then
 true
 else bif decide ((0 : Int) < Int.ofNat ks.length) then !decide (kd = (5 : Int)) else false)),
 (68, PV.int .i64 kd), (69, PV.bool (decide (kd = (2 : Int)))),
 (74, PV.bool (decide (kd = (3 : Int)))), (80, PV.bool (decide (kd = (4 : Int)))),
 (98,
 PV.bool
 (bif decide ((128 : Int) ≤ d) then true
 else bif decide (kd = (5 : Int)) then !decide (Int.ofNat ks.length = lenZ ls) else false)),
 ((103 : Nat), PV.undef), ((113 : Nat), PV.undef), ((116 : Nat), PV.undef), ((129 : Nat), PV.undef),
 (134, PV.undef), (145, PV.undef)]
 [((2 : Nat) + (32 : Nat),
 PV.agg
 [PV.int .i64 kd, PV.bool bv, PV.str sv, PV.row nk (BRow.strs ks) (0 : Nat),
 PV.vec nl (5 : Nat) ls (0 : Nat)])] ∧
 ((0 : Int) ≤ (0 : Int) ∧
 (0 : Int) ≤ ↑ks.length ∧
 (List.take (Int.toNat (0 : Int)) ks).all validL = true ∧
 nodupJ (List.take (Int.toNat (0 : Int)) ks) = true) ∧
 ∀ (x : Int),
 (0 : Int) ≤ x ∧
 x ≤ ↑ks.length ∧
 (List.take x.toNat ks).all validL = true ∧ nodupJ (List.take x.toNat ks) = true →
 (decide (x < Int.ofNat ks.length) = true →
 within x (Int.ofNat ks.length) ∧
 List.length (strZ ks x) ≤ Go.Vc.maxLen ∧
 (List.length (strZ ks x)).le (1000000 : Nat) ∧
 ((!validL (strZ ks x)) = true → k (PV.bool false)) ∧
 ((!validL (strZ ks x)) = false →
 VS.mk []
 [(0,
 PV.agg
 [PV.int .i64 kd, PV.bool bv, PV.str sv,
 PV.row nk (BRow.strs ks) (0 : Nat), PV.vec nl (5 : Nat) ls (0 : Nat)]),
 (1, PV.int .i64 d), (2, PV.ptr ((2 : Nat) + (32 : Nat)) (0 : Nat)),
 (4, PV.bool false), ((5 : Nat), PV.int .i64 x),
 ((6 : Nat), PV.int .i64 (0 : Int)), (7, PV.undef),
 (66,
 PV.bool
 (bif
 bif
 bif
 bif bif decide (kd < (0 : Int)) then true else decide ((5 : Int) < kd) then true
 else bif bv then !decide (kd = (1 : Int)) else false then
 true
 else
 bif
 bif !decide (sv = (ByteArray.mk #[]).data.toList) then !decide (kd = (2 : Int))
 else false then
 !decide (kd = (3 : Int))
 else false then
 true
 else
 bif bif decide ((0 : Int) < lenZ ls) then !decide (kd = (4 : Int)) else false then
 !decide (kd = (5 : Int))
 else false then
 true
 else bif decide ((0 : Int) < Int.ofNat ks.length) then !decide (kd = (5 : Int)) else false)),
 (68, PV.int .i64 kd), (69, PV.bool (decide (kd = (2 : Int)))),
 (74, PV.bool (decide (kd = (3 : Int)))),
 (80, PV.bool (decide (kd = (4 : Int)))),
 (98,
 PV.bool
 (bif decide ((128 : Int) ≤ d) then true
 else bif decide (kd = (5 : Int)) then !decide (Int.ofNat ks.length = lenZ ls) else false)),
 ((103 : Nat), PV.bool (decide (x < Int.ofNat ks.length))),
 ((113 : Nat), PV.bool !validL (strZ ks x)),
 ((116 : Nat), PV.undef), ((129 : Nat), PV.undef), (134, PV.undef),
 (145, PV.undef)]
 [((2 : Nat) + (32 : Nat),
 PV.agg
 [PV.int .i64 kd, PV.bool bv, PV.str sv,
 PV.row nk (BRow.strs ks) (0 : Nat), PV.vec nl (5 : Nat) ls (0 : Nat)])] =
 VS.mk []
 [(0,
 PV.agg
 [PV.int .i64 kd, PV.bool bv, PV.str sv,
 PV.row nk (BRow.strs ks) (0 : Nat), PV.vec nl (5 : Nat) ls (0 : Nat)]),
 (1, PV.int .i64 d), (2, PV.ptr ((2 : Nat) + (32 : Nat)) (0 : Nat)),
 (4, PV.bool false), ((5 : Nat), PV.int .i64 x),
 ((6 : Nat), PV.int .i64 (0 : Int)), (7, PV.undef),
 (66,
 PV.bool
 (bif
 bif
 bif
 bif bif decide (kd < (0 : Int)) then true else decide ((5 : Int) < kd) then true
 else bif bv then !decide (kd = (1 : Int)) else false then
 true
 else
 bif
 bif !decide (sv = (ByteArray.mk #[]).data.toList) then !decide (kd = (2 : Int))
 else false then
 !decide (kd = (3 : Int))
 else false then
 true
 else
 bif bif decide ((0 : Int) < lenZ ls) then !decide (kd = (4 : Int)) else false then
 !decide (kd = (5 : Int))
 else false then
 true
 else bif decide ((0 : Int) < Int.ofNat ks.length) then !decide (kd = (5 : Int)) else false)),
 (68, PV.int .i64 kd), (69, PV.bool (decide (kd = (2 : Int)))),
 (74, PV.bool (decide (kd = (3 : Int)))),
 (80, PV.bool (decide (kd = (4 : Int)))),
 (98,
 PV.bool
 (bif decide ((128 : Int) ≤ d) then true
 else bif decide (kd = (5 : Int)) then !decide (Int.ofNat ks.length = lenZ ls) else false)),
 ((103 : Nat), PV.bool (decide (x < Int.ofNat ks.length))),
 ((113 : Nat), PV.bool !validL (strZ ks x)),
 ((116 : Nat), PV.undef), ((129 : Nat), PV.undef), (134, PV.undef),
 (145, PV.undef)]
 [((2 : Nat) + (32 : Nat),
 PV.agg
 [PV.int .i64 kd, PV.bool bv, PV.str sv,
 PV.row nk (BRow.strs ks) (0 : Nat), PV.vec nl (5 : Nat) ls (0 : Nat)])] ∧
 ((0 : Int) ≤ (0 : Int) ∧
 (0 : Int) ≤ x ∧ (List.take (Int.toNat (0 : Int)) ks).contains (strZ ks x) = false) ∧
 ∀ (x_1 : Int),
 (0 : Int) ≤ x_1 ∧ x_1 ≤ x ∧ (List.take x_1.toNat ks).contains (strZ ks x) = false →
 (decide (x_1 < x) = true →
 within x_1 (Int.ofNat ks.length) ∧
 within x (Int.ofNat ks.length) ∧
 (decide (strZ ks x_1 = strZ ks x) = true → k (PV.bool false)) ∧
 (decide (strZ ks x_1 = strZ ks x) = false →
 inI64 (x_1 + (1 : Int)) ∧
 VS.mk []
 [(0,
 PV.agg
 [PV.int .i64 kd, PV.bool bv, PV.str sv,
 PV.row nk (BRow.strs ks) (0 : Nat),
 PV.vec nl (5 : Nat) ls (0 : Nat)]),
 (1, PV.int .i64 d),
 (2, PV.ptr ((2 : Nat) + (32 : Nat)) (0 : Nat)),
 (4, PV.bool false), ((5 : Nat), PV.int .i64 x),
 ((6 : Nat), PV.int .i64 (x_1 + (1 : Int))),
 (7, PV.undef),
 (66,
 PV.bool
 (bif
 bif
 bif
 bif
 bif decide (kd < (0 : Int)) then true
 else decide ((5 : Int) < kd) then
 true
 else bif bv then !decide (kd = (1 : Int)) else false then
 true
 else
 bif
 bif !decide (sv = (ByteArray.mk #[]).data.toList) then
 !decide (kd = (2 : Int))
 else false then
 !decide (kd = (3 : Int))
 else false then
 true
 else
 bif
 bif decide ((0 : Int) < lenZ ls) then !decide (kd = (4 : Int))
 else false then
 !decide (kd = (5 : Int))
 else false then
 true
 else
 bif decide ((0 : Int) < Int.ofNat ks.length) then !decide (kd = (5 : Int))
 else false)),
 (68, PV.int .i64 kd),
 (69, PV.bool (decide (kd = (2 : Int)))),
 (74, PV.bool (decide (kd = (3 : Int)))),
 (80, PV.bool (decide (kd = (4 : Int)))),
 (98,
 PV.bool
 (bif decide ((128 : Int) ≤ d) then true
 else
 bif decide (kd = (5 : Int)) then !decide (Int.ofNat ks.length = lenZ ls)
 else false)),
 ((103 : Nat), PV.bool (decide (x < Int.ofNat ks.length))),
 ((113 : Nat), PV.bool !validL (strZ ks x)),
 ((116 : Nat), PV.undef), ((129 : Nat), PV.undef),
 (134, PV.undef), (145, PV.undef)]
 [((2 : Nat) + (32 : Nat),
 PV.agg
 [PV.int .i64 kd, PV.bool bv, PV.str sv,
 PV.row nk (BRow.strs ks) (0 : Nat),
 PV.vec nl (5 : Nat) ls (0 : Nat)])] =
 VS.mk []
 [(0,
 PV.agg
 [PV.int .i64 kd, PV.bool bv, PV.str sv,
 PV.row nk (BRow.strs ks) (0 : Nat),
 PV.vec nl (5 : Nat) ls (0 : Nat)]),
 (1, PV.int .i64 d),
 (2, PV.ptr ((2 : Nat) + (32 : Nat)) (0 : Nat)),
 (4, PV.bool false), ((5 : Nat), PV.int .i64 x),
 ((6 : Nat), PV.int .i64 (x_1 + (1 : Int))),
 (7, PV.undef),
 (66,
 PV.bool
 (bif
 bif
 bif
 bif
 bif decide (kd < (0 : Int)) then true
 else decide ((5 : Int) < kd) then
 true
 else bif bv then !decide (kd = (1 : Int)) else false then
 true
 else
 bif
 bif !decide (sv = (ByteArray.mk #[]).data.toList) then
 !decide (kd = (2 : Int))
 else false then
 !decide (kd = (3 : Int))
 else false then
 true
 else
 bif
 bif decide ((0 : Int) < lenZ ls) then !decide (kd = (4 : Int))
 else false then
 !decide (kd = (5 : Int))
 else false then
 true
 else
 bif decide ((0 : Int) < Int.ofNat ks.length) then !decide (kd = (5 : Int))
 else false)),
 (68, PV.int .i64 kd),
 (69, PV.bool (decide (kd = (2 : Int)))),
 (74, PV.bool (decide (kd = (3 : Int)))),
 (80, PV.bool (decide (kd = (4 : Int)))),
 (98,
 PV.bool
 (bif decide ((128 : Int) ≤ d) then true
 else
 bif decide (kd = (5 : Int)) then !decide (Int.ofNat ks.length = lenZ ls)
 else false)),
 ((103 : Nat), PV.bool (decide (x < Int.ofNat ks.length))),
 ((113 : Nat), PV.bool !validL (strZ ks x)),
 ((116 : Nat), PV.undef), ((129 : Nat), PV.undef),
 (134, PV.undef), (145, PV.undef)]
 [((2 : Nat) + (32 : Nat),
 PV.agg
 [PV.int .i64 kd, PV.bool bv, PV.str sv,
 PV.row nk (BRow.strs ks) (0 : Nat),
 PV.vec nl (5 : Nat) ls (0 : Nat)])] ∧
 ((0 : Int) ≤ x_1 + (1 : Int) ∧
 x_1 + (1 : Int) ≤ x ∧
 (List.take (x_1 + (1 : Int)).toNat ks).contains (strZ ks x) = false) ∧
 (x - (x_1 + (1 : Int))).toNat < (x - x_1).toNat)) ∧
 (decide (x_1 < x) = false →
 inI64 (x + (1 : Int)) ∧
 VS.mk []
 [(0,
 PV.agg
 [PV.int .i64 kd, PV.bool bv, PV.str sv,
 PV.row nk (BRow.strs ks) (0 : Nat),
 PV.vec nl (5 : Nat) ls (0 : Nat)]),
 (1, PV.int .i64 d),
 (2, PV.ptr ((2 : Nat) + (32 : Nat)) (0 : Nat)),
 (4, PV.bool false), ((5 : Nat), PV.int .i64 (x + (1 : Int))),
 ((6 : Nat), PV.undef), (7, PV.undef),
 (66,
 PV.bool
 (bif
 bif
 bif
 bif bif decide (kd < (0 : Int)) then true else decide ((5 : Int) < kd) then
 true
 else bif bv then !decide (kd = (1 : Int)) else false then
 true
 else
 bif
 bif !decide (sv = (ByteArray.mk #[]).data.toList) then
 !decide (kd = (2 : Int))
 else false then
 !decide (kd = (3 : Int))
 else false then
 true
 else
 bif
 bif decide ((0 : Int) < lenZ ls) then !decide (kd = (4 : Int))
 else false then
 !decide (kd = (5 : Int))
 else false then
 true
 else
 bif decide ((0 : Int) < Int.ofNat ks.length) then !decide (kd = (5 : Int))
 else false)),
 (68, PV.int .i64 kd),
 (69, PV.bool (decide (kd = (2 : Int)))),
 (74, PV.bool (decide (kd = (3 : Int)))),
 (80, PV.bool (decide (kd = (4 : Int)))),
 (98,
 PV.bool
 (bif decide ((128 : Int) ≤ d) then true
 else
 bif decide (kd = (5 : Int)) then !decide (Int.ofNat ks.length = lenZ ls)
 else false)),
 ((103 : Nat), PV.undef), ((113 : Nat), PV.undef), ((116 : Nat), PV.undef),
 ((129 : Nat), PV.undef), (134, PV.undef), (145, PV.undef)]
 [((2 : Nat) + (32 : Nat),
 PV.agg
 [PV.int .i64 kd, PV.bool bv, PV.str sv,
 PV.row nk (BRow.strs ks) (0 : Nat),
 PV.vec nl (5 : Nat) ls (0 : Nat)])] =
 VS.mk []
 [(0,
 PV.agg
 [PV.int .i64 kd, PV.bool bv, PV.str sv,
 PV.row nk (BRow.strs ks) (0 : Nat),
 PV.vec nl (5 : Nat) ls (0 : Nat)]),
 (1, PV.int .i64 d),
 (2, PV.ptr ((2 : Nat) + (32 : Nat)) (0 : Nat)),
 (4, PV.bool false), ((5 : Nat), PV.int .i64 (x + (1 : Int))),
 ((6 : Nat), PV.undef), (7, PV.undef),
 (66,
 PV.bool
 (bif
 bif
 bif
 bif bif decide (kd < (0 : Int)) then true else decide ((5 : Int) < kd) then
 true
 else bif bv then !decide (kd = (1 : Int)) else false then
 true
 else
 bif
 bif !decide (sv = (ByteArray.mk #[]).data.toList) then
 !decide (kd = (2 : Int))
 else false then
 !decide (kd = (3 : Int))
 else false then
 true
 else
 bif
 bif decide ((0 : Int) < lenZ ls) then !decide (kd = (4 : Int))
 else false then
 !decide (kd = (5 : Int))
 else false then
 true
 else
 bif decide ((0 : Int) < Int.ofNat ks.length) then !decide (kd = (5 : Int))
 else false)),
 (68, PV.int .i64 kd),
 (69, PV.bool (decide (kd = (2 : Int)))),
 (74, PV.bool (decide (kd = (3 : Int)))),
 (80, PV.bool (decide (kd = (4 : Int)))),
 (98,
 PV.bool
 (bif decide ((128 : Int) ≤ d) then true
 else
 bif decide (kd = (5 : Int)) then !decide (Int.ofNat ks.length = lenZ ls)
 else false)),
 ((103 : Nat), PV.undef), ((113 : Nat), PV.undef), ((116 : Nat), PV.undef),
 ((129 : Nat), PV.undef), (134, PV.undef), (145, PV.undef)]
 [((2 : Nat) + (32 : Nat),
 PV.agg
 [PV.int .i64 kd, PV.bool bv, PV.str sv,
 PV.row nk (BRow.strs ks) (0 : Nat),
 PV.vec nl (5 : Nat) ls (0 : Nat)])] ∧
 ((0 : Int) ≤ x + (1 : Int) ∧
 x + (1 : Int) ≤ ↑ks.length ∧
 (List.take (x + (1 : Int)).toNat ks).all validL = true ∧
 nodupJ (List.take (x + (1 : Int)).toNat ks) = true) ∧
 (↑ks.length - (x + (1 : Int))).toNat < (↑ks.length - x).toNat))) ∧
 (decide (x < Int.ofNat ks.length) = false →
 VS.mk []
 [(0,
 PV.agg
 [PV.int .i64 kd, PV.bool bv, PV.str sv,
 PV.row nk (BRow.strs ks) (0 : Nat), PV.vec nl (5 : Nat) ls (0 : Nat)]),
 (1, PV.int .i64 d), (2, PV.ptr ((2 : Nat) + (32 : Nat)) (0 : Nat)),
 (4, PV.bool false), ((5 : Nat), PV.int .i64 x), ((6 : Nat), PV.undef),
 (7, PV.int .i64 (0 : Int)),
 (66,
 PV.bool
 (bif
 bif
 bif
 bif bif decide (kd < (0 : Int)) then true else decide ((5 : Int) < kd) then true
 else bif bv then !decide (kd = (1 : Int)) else false then
 true
 else
 bif bif !decide (sv = (ByteArray.mk #[]).data.toList) then !decide (kd = (2 : Int)) else false then
 !decide (kd = (3 : Int))
 else false then
 true
 else
 bif bif decide ((0 : Int) < lenZ ls) then !decide (kd = (4 : Int)) else false then
 !decide (kd = (5 : Int))
 else false then
 true
 else bif decide ((0 : Int) < Int.ofNat ks.length) then !decide (kd = (5 : Int)) else false)),
 (68, PV.int .i64 kd), (69, PV.bool (decide (kd = (2 : Int)))),
 (74, PV.bool (decide (kd = (3 : Int)))), (80, PV.bool (decide (kd = (4 : Int)))),
 (98,
 PV.bool
 (bif decide ((128 : Int) ≤ d) then true
 else bif decide (kd = (5 : Int)) then !decide (Int.ofNat ks.length = lenZ ls) else false)),
 ((103 : Nat), PV.bool (decide (x < Int.ofNat ks.length))), ((113 : Nat), PV.undef),
 ((116 : Nat), PV.undef), ((129 : Nat), PV.undef), ((134 : Nat), PV.undef),
 ((145 : Nat), PV.undef)]
 [((2 : Nat) + (32 : Nat),
 PV.agg
 [PV.int .i64 kd, PV.bool bv, PV.str sv,
 PV.row nk (BRow.strs ks) (0 : Nat), PV.vec nl (5 : Nat) ls (0 : Nat)])] =
 VS.mk []
 [(0,
 PV.agg
 [PV.int .i64 kd, PV.bool bv, PV.str sv,
 PV.row nk (BRow.strs ks) (0 : Nat), PV.vec nl (5 : Nat) ls (0 : Nat)]),
 (1, PV.int .i64 d), (2, PV.ptr ((2 : Nat) + (32 : Nat)) (0 : Nat)),
 (4, PV.bool false), ((5 : Nat), PV.int .i64 x), ((6 : Nat), PV.undef),
 ((7 : Nat), PV.int .i64 (0 : Int)),
 (66,
 PV.bool
 (bif
 bif
 bif
 bif bif decide (kd < (0 : Int)) then true else decide ((5 : Int) < kd) then true
 else bif bv then !decide (kd = (1 : Int)) else false then
 true
 else
 bif bif !decide (sv = (ByteArray.mk #[]).data.toList) then !decide (kd = (2 : Int)) else false then
 !decide (kd = (3 : Int))
 else false then
 true
 else
 bif bif decide ((0 : Int) < lenZ ls) then !decide (kd = (4 : Int)) else false then
 !decide (kd = (5 : Int))
 else false then
 true
 else bif decide ((0 : Int) < Int.ofNat ks.length) then !decide (kd = (5 : Int)) else false)),
 (68, PV.int .i64 kd), (69, PV.bool (decide (kd = (2 : Int)))),
 (74, PV.bool (decide (kd = (3 : Int)))), (80, PV.bool (decide (kd = (4 : Int)))),
 (98,
 PV.bool
 (bif decide ((128 : Int) ≤ d) then true
 else bif decide (kd = (5 : Int)) then !decide (Int.ofNat ks.length = lenZ ls) else false)),
 ((103 : Nat), PV.bool (decide (x < Int.ofNat ks.length))), ((113 : Nat), PV.undef),
 ((116 : Nat), PV.undef), ((129 : Nat), PV.undef), ((134 : Nat), PV.undef),
 ((145 : Nat), PV.undef)]
 [((2 : Nat) + (32 : Nat),
 PV.agg
 [PV.int .i64 kd, PV.bool bv, PV.str sv,
 PV.row nk (BRow.strs ks) (0 : Nat), PV.vec nl (5 : Nat) ls (0 : Nat)])] ∧
 ((0 : Int) ≤ (0 : Int) ∧
 (0 : Int) ≤ ↑ls.length ∧
 mayJs isNumM validL
 (List.drop (Int.toNat (0 : Int)) (jdecs ls)) ((127 : Int) - d).toNat =
 mayJs isNumM validL (jdecs ls)
 ((127 : Int) - d).toNat) ∧
 ∀ (x_1 : Int),
 (0 : Int) ≤ x_1 ∧
 x_1 ≤ ↑ls.length ∧
 mayJs isNumM validL
 (List.drop x_1.toNat (jdecs ls)) ((127 : Int) - d).toNat =
 mayJs isNumM validL (jdecs ls)
 ((127 : Int) - d).toNat →
 (decide (x_1 < lenZ ls) = true →
 within x_1 (lenZ ls) ∧
 eltV ls x_1 =
 PV.agg
 [PV.int .i64
 ((eltV ls x_1).part (0 : Nat)).asInt,
 PV.bool
 ((eltV ls x_1).part
 (1 : Nat)).asBool,
 PV.str
 ((eltV ls x_1).part
 (2 : Nat)).asStr,
 PV.row
 ((eltV ls x_1).part
 (3 : Nat)).asNil
 (BRow.strs
 ((eltV ls x_1).part
 (3 : Nat)).asStrs)
 (0 : Nat),
 PV.vec
 ((eltV ls x_1).part
 (4 : Nat)).asNil
 (nat_lit 5)
 ((eltV ls x_1).part
 (4 : Nat)).asVec
 (0 : Nat)] ∧
 inI64 (d + (1 : Int)) ∧
 (isJs
 ((eltV ls x_1).part
 (4 : Nat)).asVec ∧
 okJ m
 (JV.mk
 ((eltV ls x_1).part (0 : Nat)).asInt
 ((eltV ls x_1).part
 (1 : Nat)).asBool
 ((eltV ls x_1).part
 (2 : Nat)).asStr
 ((eltV ls x_1).part
 (3 : Nat)).asNil
 ((eltV ls x_1).part
 (3 : Nat)).asStrs
 ((eltV ls x_1).part
 (4 : Nat)).asNil
 (jdecs
 ((eltV ls x_1).part
 (4 : Nat)).asVec)) ∧
 sizeJ
 (JV.mk
 ((eltV ls x_1).part
 (0 : Nat)).asInt
 ((eltV ls x_1).part
 (1 : Nat)).asBool
 ((eltV ls x_1).part
 (2 : Nat)).asStr
 ((eltV ls x_1).part
 (3 : Nat)).asNil
 ((eltV ls x_1).part
 (3 : Nat)).asStrs
 ((eltV ls x_1).part
 (4 : Nat)).asNil
 (jdecs
 ((eltV ls x_1).part
 (4 : Nat)).asVec)) ≤
 (600000 : Nat) ∧
 (0 : Int) ≤ d + (1 : Int) ∧ d + (1 : Int) ≤ (128 : Int)) ∧
 ((!mayJ isNumM validL
 (JV.mk
 ((eltV ls x_1).part
 (0 : Nat)).asInt
 ((eltV ls x_1).part
 (1 : Nat)).asBool
 ((eltV ls x_1).part
 (2 : Nat)).asStr
 ((eltV ls x_1).part
 (3 : Nat)).asNil
 ((eltV ls x_1).part
 (3 : Nat)).asStrs
 ((eltV ls x_1).part
 (4 : Nat)).asNil
 (jdecs
 ((eltV ls x_1).part
 (4 : Nat)).asVec))
 ((128 : Int) - (d + (1 : Int))).toNat) =
 true →
 k (PV.bool false)) ∧
 ((!mayJ isNumM validL
 (JV.mk
 ((eltV ls x_1).part
 (0 : Nat)).asInt
 ((eltV ls x_1).part
 (1 : Nat)).asBool
 ((eltV ls x_1).part
 (2 : Nat)).asStr
 ((eltV ls x_1).part
 (3 : Nat)).asNil
 ((eltV ls x_1).part
 (3 : Nat)).asStrs
 ((eltV ls x_1).part
 (4 : Nat)).asNil
 (jdecs
 ((eltV ls x_1).part
 (4 : Nat)).asVec))
 ((128 : Int) - (d + (1 : Int))).toNat) =
 false →
 inI64 (x_1 + (1 : Int)) ∧
 VS.mk []
 [(0,
 PV.agg
 [PV.int .i64 kd, PV.bool bv, PV.str sv,
 PV.row nk (BRow.strs ks) (0 : Nat),
 PV.vec nl (5 : Nat) ls (0 : Nat)]),
 (1, PV.int .i64 d),
 (2, PV.ptr ((2 : Nat) + (32 : Nat)) (0 : Nat)),
 (4, PV.bool false), ((5 : Nat), PV.int .i64 x),
 ((6 : Nat), PV.undef), ((7 : Nat), PV.int .i64 (x_1 + (1 : Int))),
 (66,
 PV.bool
 (bif
 bif
 bif
 bif
 bif decide (kd < (0 : Int)) then true
 else decide ((5 : Int) < kd) then
 true
 else bif bv then !decide (kd = (1 : Int)) else false then
 true
 else
 bif
 bif !decide (sv = (ByteArray.mk #[]).data.toList) then
 !decide (kd = (2 : Int))
 else false then
 !decide (kd = (3 : Int))
 else false then
 true
 else
 bif
 bif decide ((0 : Int) < lenZ ls) then !decide (kd = (4 : Int))
 else false then
 !decide (kd = (5 : Int))
 else false then
 true
 else
 bif decide ((0 : Int) < Int.ofNat ks.length) then !decide (kd = (5 : Int))
 else false)),
 (68, PV.int .i64 kd),
 (69, PV.bool (decide (kd = (2 : Int)))),
 (74, PV.bool (decide (kd = (3 : Int)))),
 (80, PV.bool (decide (kd = (4 : Int)))),
 (98,
 PV.bool
 (bif decide ((128 : Int) ≤ d) then true
 else
 bif decide (kd = (5 : Int)) then !decide (Int.ofNat ks.length = lenZ ls)
 else false)),
 ((103 : Nat), PV.bool (decide (x < Int.ofNat ks.length))),
 ((113 : Nat), PV.undef), ((116 : Nat), PV.undef),
 ((129 : Nat), PV.undef), ((134 : Nat), PV.undef),
 ((145 : Nat), PV.undef)]
 [((2 : Nat) + (32 : Nat),
 PV.agg
 [PV.int .i64 kd, PV.bool bv, PV.str sv,
 PV.row nk (BRow.strs ks) (0 : Nat),
 PV.vec nl (5 : Nat) ls (0 : Nat)])] =
 VS.mk []
 [(0,
 PV.agg
 [PV.int .i64 kd, PV.bool bv, PV.str sv,
 PV.row nk (BRow.strs ks) (0 : Nat),
 PV.vec nl (5 : Nat) ls (0 : Nat)]),
 (1, PV.int .i64 d),
 (2, PV.ptr ((2 : Nat) + (32 : Nat)) (0 : Nat)),
 (4, PV.bool false), ((5 : Nat), PV.int .i64 x),
 ((6 : Nat), PV.undef), ((7 : Nat), PV.int .i64 (x_1 + (1 : Int))),
 (66,
 PV.bool
 (bif
 bif
 bif
 bif
 bif decide (kd < (0 : Int)) then true
 else decide ((5 : Int) < kd) then
 true
 else bif bv then !decide (kd = (1 : Int)) else false then
 true
 else
 bif
 bif !decide (sv = (ByteArray.mk #[]).data.toList) then
 !decide (kd = (2 : Int))
 else false then
 !decide (kd = (3 : Int))
 else false then
 true
 else
 bif
 bif decide ((0 : Int) < lenZ ls) then !decide (kd = (4 : Int))
 else false then
 !decide (kd = (5 : Int))
 else false then
 true
 else
 bif decide ((0 : Int) < Int.ofNat ks.length) then !decide (kd = (5 : Int))
 else false)),
 (68, PV.int .i64 kd),
 (69, PV.bool (decide (kd = (2 : Int)))),
 (74, PV.bool (decide (kd = (3 : Int)))),
 (80, PV.bool (decide (kd = (4 : Int)))),
 (98,
 PV.bool
 (bif decide ((128 : Int) ≤ d) then true
 else
 bif decide (kd = (5 : Int)) then !decide (Int.ofNat ks.length = lenZ ls)
 else false)),
 ((103 : Nat), PV.bool (decide (x < Int.ofNat ks.length))),
 ((113 : Nat), PV.undef), ((116 : Nat), PV.undef),
 ((129 : Nat), PV.undef), ((134 : Nat), PV.undef),
 ((145 : Nat), PV.undef)]
 [((2 : Nat) + (32 : Nat),
 PV.agg
 [PV.int .i64 kd, PV.bool bv, PV.str sv,
 PV.row nk (BRow.strs ks) (0 : Nat),
 PV.vec nl (5 : Nat) ls (0 : Nat)])] ∧
 ((0 : Int) ≤ x_1 + (1 : Int) ∧
 x_1 + (1 : Int) ≤ ↑ls.length ∧
 mayJs isNumM validL
 (List.drop (x_1 + (1 : Int)).toNat (jdecs ls)) ((127 : Int) - d).toNat =
 mayJs isNumM validL
 (jdecs ls) ((127 : Int) - d).toNat) ∧
 (↑ls.length - (x_1 + (1 : Int))).toNat < (↑ls.length - x_1).toNat)) ∧
 (decide (x_1 < lenZ ls) = false → k (PV.bool true))))) ∧
 (decide (kd = (4 : Int)) = false →
 VS.mk []
 [(0,
 PV.agg
 [PV.int .i64 kd, PV.bool bv, PV.str sv, PV.row nk (BRow.strs ks) (0 : Nat),
 PV.vec nl (5 : Nat) ls (0 : Nat)]),
 (1, PV.int .i64 d), (2, PV.ptr ((2 : Nat) + (32 : Nat)) (0 : Nat)),
 (4, PV.bool false), (5, PV.int .i64 (0 : Int)), ((6 : Nat), PV.undef),
 (7, PV.undef),
 (66,
 PV.bool
 (bif
 bif
 bif
 bif bif decide (kd < (0 : Int)) then true else decide ((5 : Int) < kd) then true
 else bif bv then !decide (kd = (1 : Int)) else false then
 true
 else
 bif bif !decide (sv = (ByteArray.mk #[]).data.toList) then !decide (kd = (2 : Int)) else false then
 !decide (kd = (3 : Int))
 else false then
 true
 else
 bif bif decide ((0 : Int) < lenZ ls) then !decide (kd = (4 : Int)) else false then !decide (kd = (5 : Int))
 else false then
 true
 else bif decide ((0 : Int) < Int.ofNat ks.length) then !decide (kd = (5 : Int)) else false)),
 (68, PV.int .i64 kd), (69, PV.bool (decide (kd = (2 : Int)))),
 (74, PV.bool (decide (kd = (3 : Int)))), (80, PV.bool (decide (kd = (4 : Int)))),
 (98, PV.undef), ((103 : Nat), PV.undef), ((113 : Nat), PV.undef), ((116 : Nat), PV.undef),
 ((129 : Nat), PV.undef), (134, PV.undef), (145, PV.undef)]
 [((2 : Nat) + (32 : Nat),
 PV.agg
 [PV.int .i64 kd, PV.bool bv, PV.str sv, PV.row nk (BRow.strs ks) (0 : Nat),
 PV.vec nl (5 : Nat) ls (0 : Nat)])] =
 VS.mk []
 [(0,
 PV.agg
 [PV.int .i64 kd, PV.bool bv, PV.str sv, PV.row nk (BRow.strs ks) (0 : Nat),
 PV.vec nl (5 : Nat) ls (0 : Nat)]),
 (1, PV.int .i64 d), (2, PV.ptr ((2 : Nat) + (32 : Nat)) (0 : Nat)),
 (4, PV.bool false), ((5 : Nat), PV.int .i64 (0 : Int)), ((6 : Nat), PV.undef),
 (7, PV.undef),
 (66,
 PV.bool
 (bif
 bif
 bif
 bif bif decide (kd < (0 : Int)) then true else decide ((5 : Int) < kd) then true
 else bif bv then !decide (kd = (1 : Int)) else false then
 true
 else
 bif bif !decide (sv = (ByteArray.mk #[]).data.toList) then !decide (kd = (2 : Int)) else false then
 !decide (kd = (3 : Int))
 else false then
 true
 else
 bif bif decide ((0 : Int) < lenZ ls) then !decide (kd = (4 : Int)) else false then !decide (kd = (5 : Int))
 else false then
 true
 else bif decide ((0 : Int) < Int.ofNat ks.length) then !decide (kd = (5 : Int)) else false)),
 (68, PV.int .i64 kd), (69, PV.bool (decide (kd = (2 : Int)))),
 (74, PV.bool (decide (kd = (3 : Int)))), (80, PV.bool (decide (kd = (4 : Int)))),
 (98, PV.undef), ((103 : Nat), PV.undef), ((113 : Nat), PV.undef), ((116 : Nat), PV.undef),
 ((129 : Nat), PV.undef), (134, PV.undef), (145, PV.undef)]
 [((2 : Nat) + (32 : Nat),
 PV.agg
 [PV.int .i64 kd, PV.bool bv, PV.str sv, PV.row nk (BRow.strs ks) (0 : Nat),
 PV.vec nl (5 : Nat) ls (0 : Nat)])] ∧
 ((0 : Int) ≤ (0 : Int) ∧
 (0 : Int) ≤ ↑ks.length ∧
 (List.take (Int.toNat (0 : Int)) ks).all validL = true ∧
 nodupJ (List.take (Int.toNat (0 : Int)) ks) = true) ∧
 ∀ (x : Int),
 (0 : Int) ≤ x ∧
 x ≤ ↑ks.length ∧
 (List.take x.toNat ks).all validL = true ∧ nodupJ (List.take x.toNat ks) = true →
 (decide (x < Int.ofNat ks.length) = true →
 within x (Int.ofNat ks.length) ∧
 List.length (strZ ks x) ≤ Go.Vc.maxLen ∧
 (List.length (strZ ks x)).le (1000000 : Nat) ∧
 ((!validL (strZ ks x)) = true → k (PV.bool false)) ∧
 ((!validL (strZ ks x)) = false →
 VS.mk []
 [(0,
 PV.agg
 [PV.int .i64 kd, PV.bool bv, PV.str sv,
 PV.row nk (BRow.strs ks) (0 : Nat), PV.vec nl (5 : Nat) ls (0 : Nat)]),
 (1, PV.int .i64 d), (2, PV.ptr ((2 : Nat) + (32 : Nat)) (0 : Nat)),
 (4, PV.bool false), ((5 : Nat), PV.int .i64 x),
 ((6 : Nat), PV.int .i64 (0 : Int)), (7, PV.undef),
 (66,
 PV.bool
 (bif
 bif
 bif
 bif bif decide (kd < (0 : Int)) then true else decide ((5 : Int) < kd) then true
 else bif bv then !decide (kd = (1 : Int)) else false then
 true
 else
 bif
 bif !decide (sv = (ByteArray.mk #[]).data.toList) then !decide (kd = (2 : Int))
 else false then
 !decide (kd = (3 : Int))
 else false then
 true
 else
 bif bif decide ((0 : Int) < lenZ ls) then !decide (kd = (4 : Int)) else false then
 !decide (kd = (5 : Int))
 else false then
 true
 else bif decide ((0 : Int) < Int.ofNat ks.length) then !decide (kd = (5 : Int)) else false)),
 (68, PV.int .i64 kd), (69, PV.bool (decide (kd = (2 : Int)))),
 (74, PV.bool (decide (kd = (3 : Int)))), (80, PV.bool (decide (kd = (4 : Int)))),
 (98, PV.undef), ((103 : Nat), PV.bool (decide (x < Int.ofNat ks.length))),
 ((113 : Nat), PV.bool !validL (strZ ks x)),
 ((116 : Nat), PV.undef), ((129 : Nat), PV.undef), (134, PV.undef),
 (145, PV.undef)]
 [((2 : Nat) + (32 : Nat),
 PV.agg
 [PV.int .i64 kd, PV.bool bv, PV.str sv,
 PV.row nk (BRow.strs ks) (0 : Nat), PV.vec nl (5 : Nat) ls (0 : Nat)])] =
 VS.mk []
 [(0,
 PV.agg
 [PV.int .i64 kd, PV.bool bv, PV.str sv,
 PV.row nk (BRow.strs ks) (0 : Nat), PV.vec nl (5 : Nat) ls (0 : Nat)]),
 (1, PV.int .i64 d), (2, PV.ptr ((2 : Nat) + (32 : Nat)) (0 : Nat)),
 (4, PV.bool false), ((5 : Nat), PV.int .i64 x),
 ((6 : Nat), PV.int .i64 (0 : Int)), (7, PV.undef),
 (66,
 PV.bool
 (bif
 bif
 bif
 bif bif decide (kd < (0 : Int)) then true else decide ((5 : Int) < kd) then true
 else bif bv then !decide (kd = (1 : Int)) else false then
 true
 else
 bif
 bif !decide (sv = (ByteArray.mk #[]).data.toList) then !decide (kd = (2 : Int))
 else false then
 !decide (kd = (3 : Int))
 else false then
 true
 else
 bif bif decide ((0 : Int) < lenZ ls) then !decide (kd = (4 : Int)) else false then
 !decide (kd = (5 : Int))
 else false then
 true
 else bif decide ((0 : Int) < Int.ofNat ks.length) then !decide (kd = (5 : Int)) else false)),
 (68, PV.int .i64 kd), (69, PV.bool (decide (kd = (2 : Int)))),
 (74, PV.bool (decide (kd = (3 : Int)))), (80, PV.bool (decide (kd = (4 : Int)))),
 (98, PV.undef), ((103 : Nat), PV.bool (decide (x < Int.ofNat ks.length))),
 ((113 : Nat), PV.bool !validL (strZ ks x)),
 ((116 : Nat), PV.undef), ((129 : Nat), PV.undef), (134, PV.undef),
 (145, PV.undef)]
 [((2 : Nat) + (32 : Nat),
 PV.agg
 [PV.int .i64 kd, PV.bool bv, PV.str sv,
 PV.row nk (BRow.strs ks) (0 : Nat), PV.vec nl (5 : Nat) ls (0 : Nat)])] ∧
 ((0 : Int) ≤ (0 : Int) ∧ (0 : Int) ≤ x ∧ (List.take (Int.toNat (0 : Int)) ks).contains (strZ ks x) = false) ∧
 ∀ (x_1 : Int),
 (0 : Int) ≤ x_1 ∧ x_1 ≤ x ∧ (List.take x_1.toNat ks).contains (strZ ks x) = false →
 (decide (x_1 < x) = true →
 within x_1 (Int.ofNat ks.length) ∧
 within x (Int.ofNat ks.length) ∧
 (decide (strZ ks x_1 = strZ ks x) = true → k (PV.bool false)) ∧
 (decide (strZ ks x_1 = strZ ks x) = false →
 inI64 (x_1 + (1 : Int)) ∧
 VS.mk []
 [(0,
 PV.agg
 [PV.int .i64 kd, PV.bool bv, PV.str sv,
 PV.row nk (BRow.strs ks) (0 : Nat),
 PV.vec nl (5 : Nat) ls (0 : Nat)]),
 (1, PV.int .i64 d),
 (2, PV.ptr ((2 : Nat) + (32 : Nat)) (0 : Nat)),
 (4, PV.bool false), ((5 : Nat), PV.int .i64 x),
 ((6 : Nat), PV.int .i64 (x_1 + (1 : Int))), (7, PV.undef),
 (66,
 PV.bool
 (bif
 bif
 bif
 bif
 bif decide (kd < (0 : Int)) then true
 else decide ((5 : Int) < kd) then
 true
 else bif bv then !decide (kd = (1 : Int)) else false then
 true
 else
 bif
 bif !decide (sv = (ByteArray.mk #[]).data.toList) then
 !decide (kd = (2 : Int))
 else false then
 !decide (kd = (3 : Int))
 else false then
 true
 else
 bif
 bif decide ((0 : Int) < lenZ ls) then !decide (kd = (4 : Int))
 else false then
 !decide (kd = (5 : Int))
 else false then
 true
 else
 bif decide ((0 : Int) < Int.ofNat ks.length) then !decide (kd = (5 : Int))
 else false)),
 (68, PV.int .i64 kd),
 (69, PV.bool (decide (kd = (2 : Int)))),
 (74, PV.bool (decide (kd = (3 : Int)))),
 (80, PV.bool (decide (kd = (4 : Int)))), (98, PV.undef),
 ((103 : Nat), PV.bool (decide (x < Int.ofNat ks.length))),
 ((113 : Nat), PV.bool !validL (strZ ks x)),
 ((116 : Nat), PV.undef), ((129 : Nat), PV.undef),
 (134, PV.undef), (145, PV.undef)]
 [((2 : Nat) + (32 : Nat),
 PV.agg
 [PV.int .i64 kd, PV.bool bv, PV.str sv,
 PV.row nk (BRow.strs ks) (0 : Nat),
 PV.vec nl (5 : Nat) ls (0 : Nat)])] =
 VS.mk []
 [(0,
 PV.agg
 [PV.int .i64 kd, PV.bool bv, PV.str sv,
 PV.row nk (BRow.strs ks) (0 : Nat),
 PV.vec nl (5 : Nat) ls (0 : Nat)]),
 (1, PV.int .i64 d),
 (2, PV.ptr ((2 : Nat) + (32 : Nat)) (0 : Nat)),
 (4, PV.bool false), ((5 : Nat), PV.int .i64 x),
 ((6 : Nat), PV.int .i64 (x_1 + (1 : Int))), (7, PV.undef),
 (66,
 PV.bool
 (bif
 bif
 bif
 bif
 bif decide (kd < (0 : Int)) then true
 else decide ((5 : Int) < kd) then
 true
 else bif bv then !decide (kd = (1 : Int)) else false then
 true
 else
 bif
 bif !decide (sv = (ByteArray.mk #[]).data.toList) then
 !decide (kd = (2 : Int))
 else false then
 !decide (kd = (3 : Int))
 else false then
 true
 else
 bif
 bif decide ((0 : Int) < lenZ ls) then !decide (kd = (4 : Int))
 else false then
 !decide (kd = (5 : Int))
 else false then
 true
 else
 bif decide ((0 : Int) < Int.ofNat ks.length) then !decide (kd = (5 : Int))
 else false)),
 (68, PV.int .i64 kd),
 (69, PV.bool (decide (kd = (2 : Int)))),
 (74, PV.bool (decide (kd = (3 : Int)))),
 (80, PV.bool (decide (kd = (4 : Int)))), (98, PV.undef),
 ((103 : Nat), PV.bool (decide (x < Int.ofNat ks.length))),
 ((113 : Nat), PV.bool !validL (strZ ks x)),
 ((116 : Nat), PV.undef), ((129 : Nat), PV.undef),
 (134, PV.undef), (145, PV.undef)]
 [((2 : Nat) + (32 : Nat),
 PV.agg
 [PV.int .i64 kd, PV.bool bv, PV.str sv,
 PV.row nk (BRow.strs ks) (0 : Nat),
 PV.vec nl (5 : Nat) ls (0 : Nat)])] ∧
 ((0 : Int) ≤ x_1 + (1 : Int) ∧
 x_1 + (1 : Int) ≤ x ∧
 (List.take (x_1 + (1 : Int)).toNat ks).contains (strZ ks x) = false) ∧
 (x - (x_1 + (1 : Int))).toNat < (x - x_1).toNat)) ∧
 (decide (x_1 < x) = false →
 inI64 (x + (1 : Int)) ∧
 VS.mk []
 [(0,
 PV.agg
 [PV.int .i64 kd, PV.bool bv, PV.str sv,
 PV.row nk (BRow.strs ks) (0 : Nat), PV.vec nl (5 : Nat) ls (0 : Nat)]),
 (1, PV.int .i64 d),
 (2, PV.ptr ((2 : Nat) + (32 : Nat)) (0 : Nat)), (4, PV.bool false),
 ((5 : Nat), PV.int .i64 (x + (1 : Int))), ((6 : Nat), PV.undef),
 (7, PV.undef),
 (66,
 PV.bool
 (bif
 bif
 bif
 bif bif decide (kd < (0 : Int)) then true else decide ((5 : Int) < kd) then true
 else bif bv then !decide (kd = (1 : Int)) else false then
 true
 else
 bif
 bif !decide (sv = (ByteArray.mk #[]).data.toList) then
 !decide (kd = (2 : Int))
 else false then
 !decide (kd = (3 : Int))
 else false then
 true
 else
 bif
 bif decide ((0 : Int) < lenZ ls) then !decide (kd = (4 : Int))
 else false then
 !decide (kd = (5 : Int))
 else false then
 true
 else
 bif decide ((0 : Int) < Int.ofNat ks.length) then !decide (kd = (5 : Int)) else false)),
 (68, PV.int .i64 kd),
 (69, PV.bool (decide (kd = (2 : Int)))),
 (74, PV.bool (decide (kd = (3 : Int)))),
 (80, PV.bool (decide (kd = (4 : Int)))), (98, PV.undef),
 ((103 : Nat), PV.undef), ((113 : Nat), PV.undef), ((116 : Nat), PV.undef),
 ((129 : Nat), PV.undef), (134, PV.undef), (145, PV.undef)]
 [((2 : Nat) + (32 : Nat),
 PV.agg
 [PV.int .i64 kd, PV.bool bv, PV.str sv,
 PV.row nk (BRow.strs ks) (0 : Nat),
 PV.vec nl (5 : Nat) ls (0 : Nat)])] =
 VS.mk []
 [(0,
 PV.agg
 [PV.int .i64 kd, PV.bool bv, PV.str sv,
 PV.row nk (BRow.strs ks) (0 : Nat), PV.vec nl (5 : Nat) ls (0 : Nat)]),
 (1, PV.int .i64 d),
 (2, PV.ptr ((2 : Nat) + (32 : Nat)) (0 : Nat)), (4, PV.bool false),
 ((5 : Nat), PV.int .i64 (x + (1 : Int))), ((6 : Nat), PV.undef),
 (7, PV.undef),
 (66,
 PV.bool
 (bif
 bif
 bif
 bif bif decide (kd < (0 : Int)) then true else decide ((5 : Int) < kd) then true
 else bif bv then !decide (kd = (1 : Int)) else false then
 true
 else
 bif
 bif !decide (sv = (ByteArray.mk #[]).data.toList) then
 !decide (kd = (2 : Int))
 else false then
 !decide (kd = (3 : Int))
 else false then
 true
 else
 bif
 bif decide ((0 : Int) < lenZ ls) then !decide (kd = (4 : Int))
 else false then
 !decide (kd = (5 : Int))
 else false then
 true
 else
 bif decide ((0 : Int) < Int.ofNat ks.length) then !decide (kd = (5 : Int)) else false)),
 (68, PV.int .i64 kd),
 (69, PV.bool (decide (kd = (2 : Int)))),
 (74, PV.bool (decide (kd = (3 : Int)))),
 (80, PV.bool (decide (kd = (4 : Int)))), (98, PV.undef),
 ((103 : Nat), PV.undef), ((113 : Nat), PV.undef), ((116 : Nat), PV.undef),
 ((129 : Nat), PV.undef), (134, PV.undef), (145, PV.undef)]
 [((2 : Nat) + (32 : Nat),
 PV.agg
 [PV.int .i64 kd, PV.bool bv, PV.str sv,
 PV.row nk (BRow.strs ks) (0 : Nat),
 PV.vec nl (5 : Nat) ls (0 : Nat)])] ∧
 ((0 : Int) ≤ x + (1 : Int) ∧
 x + (1 : Int) ≤ ↑ks.length ∧
 (List.take (x + (1 : Int)).toNat ks).all validL = true ∧
 nodupJ (List.take (x + (1 : Int)).toNat ks) = true) ∧
 (↑ks.length - (x + (1 : Int))).toNat < (↑ks.length - x).toNat))) ∧
 (decide (x < Int.ofNat ks.length) = false →
 VS.mk []
 [(0,
 PV.agg
 [PV.int .i64 kd, PV.bool bv, PV.str sv, PV.row nk (BRow.strs ks) (0 : Nat),
 PV.vec nl (5 : Nat) ls (0 : Nat)]),
 (1, PV.int .i64 d), (2, PV.ptr ((2 : Nat) + (32 : Nat)) (0 : Nat)),
 (4, PV.bool false), ((5 : Nat), PV.int .i64 x), ((6 : Nat), PV.undef),
 (7, PV.int .i64 (0 : Int)),
 (66,
 PV.bool
 (bif
 bif
 bif
 bif bif decide (kd < (0 : Int)) then true else decide ((5 : Int) < kd) then true
 else bif bv then !decide (kd = (1 : Int)) else false then
 true
 else
 bif bif !decide (sv = (ByteArray.mk #[]).data.toList) then !decide (kd = (2 : Int)) else false then
 !decide (kd = (3 : Int))
 else false then
 true
 else
 bif bif decide ((0 : Int) < lenZ ls) then !decide (kd = (4 : Int)) else false then
 !decide (kd = (5 : Int))
 else false then
 true
 else bif decide ((0 : Int) < Int.ofNat ks.length) then !decide (kd = (5 : Int)) else false)),
 (68, PV.int .i64 kd), (69, PV.bool (decide (kd = (2 : Int)))),
 (74, PV.bool (decide (kd = (3 : Int)))), (80, PV.bool (decide (kd = (4 : Int)))),
 (98, PV.undef), ((103 : Nat), PV.bool (decide (x < Int.ofNat ks.length))),
 ((113 : Nat), PV.undef), ((116 : Nat), PV.undef), ((129 : Nat), PV.undef),
 ((134 : Nat), PV.undef), ((145 : Nat), PV.undef)]
 [((2 : Nat) + (32 : Nat),
 PV.agg
 [PV.int .i64 kd, PV.bool bv, PV.str sv, PV.row nk (BRow.strs ks) (0 : Nat),
 PV.vec nl (5 : Nat) ls (0 : Nat)])] =
 VS.mk []
 [(0,
 PV.agg
 [PV.int .i64 kd, PV.bool bv, PV.str sv, PV.row nk (BRow.strs ks) (0 : Nat),
 PV.vec nl (5 : Nat) ls (0 : Nat)]),
 (1, PV.int .i64 d), (2, PV.ptr ((2 : Nat) + (32 : Nat)) (0 : Nat)),
 (4, PV.bool false), ((5 : Nat), PV.int .i64 x), ((6 : Nat), PV.undef),
 ((7 : Nat), PV.int .i64 (0 : Int)),
 (66,
 PV.bool
 (bif
 bif
 bif
 bif bif decide (kd < (0 : Int)) then true else decide ((5 : Int) < kd) then true
 else bif bv then !decide (kd = (1 : Int)) else false then
 true
 else
 bif bif !decide (sv = (ByteArray.mk #[]).data.toList) then !decide (kd = (2 : Int)) else false then
 !decide (kd = (3 : Int))
 else false then
 true
 else
 bif bif decide ((0 : Int) < lenZ ls) then !decide (kd = (4 : Int)) else false then
 !decide (kd = (5 : Int))
 else false then
 true
 else bif decide ((0 : Int) < Int.ofNat ks.length) then !decide (kd = (5 : Int)) else false)),
 (68, PV.int .i64 kd), (69, PV.bool (decide (kd = (2 : Int)))),
 (74, PV.bool (decide (kd = (3 : Int)))), (80, PV.bool (decide (kd = (4 : Int)))),
 (98, PV.undef), ((103 : Nat), PV.bool (decide (x < Int.ofNat ks.length))),
 ((113 : Nat), PV.undef), ((116 : Nat), PV.undef), ((129 : Nat), PV.undef),
 ((134 : Nat), PV.undef), ((145 : Nat), PV.undef)]
 [((2 : Nat) + (32 : Nat),
 PV.agg
 [PV.int .i64 kd, PV.bool bv, PV.str sv, PV.row nk (BRow.strs ks) (0 : Nat),
 PV.vec nl (5 : Nat) ls (0 : Nat)])] ∧
 ((0 : Int) ≤ (0 : Int) ∧
 (0 : Int) ≤ ↑ls.length ∧
 mayJs isNumM validL
 (List.drop (Int.toNat (0 : Int)) (jdecs ls)) ((127 : Int) - d).toNat =
 mayJs isNumM validL (jdecs ls)
 ((127 : Int) - d).toNat) ∧
 ∀ (x_1 : Int),
 (0 : Int) ≤ x_1 ∧
 x_1 ≤ ↑ls.length ∧
 mayJs isNumM validL
 (List.drop x_1.toNat (jdecs ls)) ((127 : Int) - d).toNat =
 mayJs isNumM validL (jdecs ls)
 ((127 : Int) - d).toNat →
 (decide (x_1 < lenZ ls) = true →
 within x_1 (lenZ ls) ∧
 eltV ls x_1 =
 PV.agg
 [PV.int .i64
 ((eltV ls x_1).part (0 : Nat)).asInt,
 PV.bool
 ((eltV ls x_1).part
 (1 : Nat)).asBool,
 PV.str
 ((eltV ls x_1).part
 (2 : Nat)).asStr,
 PV.row
 ((eltV ls x_1).part
 (3 : Nat)).asNil
 (BRow.strs
 ((eltV ls x_1).part
 (3 : Nat)).asStrs)
 (0 : Nat),
 PV.vec
 ((eltV ls x_1).part
 (4 : Nat)).asNil
 (nat_lit 5)
 ((eltV ls x_1).part
 (4 : Nat)).asVec
 (0 : Nat)] ∧
 inI64 (d + (1 : Int)) ∧
 (isJs
 ((eltV ls x_1).part
 (4 : Nat)).asVec ∧
 okJ m
 (JV.mk
 ((eltV ls x_1).part (0 : Nat)).asInt
 ((eltV ls x_1).part
 (1 : Nat)).asBool
 ((eltV ls x_1).part
 (2 : Nat)).asStr
 ((eltV ls x_1).part
 (3 : Nat)).asNil
 ((eltV ls x_1).part
 (3 : Nat)).asStrs
 ((eltV ls x_1).part
 (4 : Nat)).asNil
 (jdecs
 ((eltV ls x_1).part
 (4 : Nat)).asVec)) ∧
 sizeJ
 (JV.mk
 ((eltV ls x_1).part (0 : Nat)).asInt
 ((eltV ls x_1).part
 (1 : Nat)).asBool
 ((eltV ls x_1).part
 (2 : Nat)).asStr
 ((eltV ls x_1).part
 (3 : Nat)).asNil
 ((eltV ls x_1).part
 (3 : Nat)).asStrs
 ((eltV ls x_1).part
 (4 : Nat)).asNil
 (jdecs
 ((eltV ls x_1).part
 (4 : Nat)).asVec)) ≤
 (600000 : Nat) ∧
 (0 : Int) ≤ d + (1 : Int) ∧ d + (1 : Int) ≤ (128 : Int)) ∧
 ((!mayJ isNumM validL
 (JV.mk
 ((eltV ls x_1).part (0 : Nat)).asInt
 ((eltV ls x_1).part
 (1 : Nat)).asBool
 ((eltV ls x_1).part
 (2 : Nat)).asStr
 ((eltV ls x_1).part
 (3 : Nat)).asNil
 ((eltV ls x_1).part
 (3 : Nat)).asStrs
 ((eltV ls x_1).part
 (4 : Nat)).asNil
 (jdecs
 ((eltV ls x_1).part
 (4 : Nat)).asVec))
 ((128 : Int) - (d + (1 : Int))).toNat) =
 true →
 k (PV.bool false)) ∧
 ((!mayJ isNumM validL
 (JV.mk
 ((eltV ls x_1).part (0 : Nat)).asInt
 ((eltV ls x_1).part
 (1 : Nat)).asBool
 ((eltV ls x_1).part
 (2 : Nat)).asStr
 ((eltV ls x_1).part
 (3 : Nat)).asNil
 ((eltV ls x_1).part
 (3 : Nat)).asStrs
 ((eltV ls x_1).part
 (4 : Nat)).asNil
 (jdecs
 ((eltV ls x_1).part
 (4 : Nat)).asVec))
 ((128 : Int) - (d + (1 : Int))).toNat) =
 false →
 inI64 (x_1 + (1 : Int)) ∧
 VS.mk []
 [(0,
 PV.agg
 [PV.int .i64 kd, PV.bool bv, PV.str sv,
 PV.row nk (BRow.strs ks) (0 : Nat),
 PV.vec nl (5 : Nat) ls (0 : Nat)]),
 (1, PV.int .i64 d),
 (2, PV.ptr ((2 : Nat) + (32 : Nat)) (0 : Nat)),
 (4, PV.bool false), ((5 : Nat), PV.int .i64 x),
 ((6 : Nat), PV.undef), ((7 : Nat), PV.int .i64 (x_1 + (1 : Int))),
 (66,
 PV.bool
 (bif
 bif
 bif
 bif bif decide (kd < (0 : Int)) then true else decide ((5 : Int) < kd) then
 true
 else bif bv then !decide (kd = (1 : Int)) else false then
 true
 else
 bif
 bif !decide (sv = (ByteArray.mk #[]).data.toList) then
 !decide (kd = (2 : Int))
 else false then
 !decide (kd = (3 : Int))
 else false then
 true
 else
 bif
 bif decide ((0 : Int) < lenZ ls) then !decide (kd = (4 : Int))
 else false then
 !decide (kd = (5 : Int))
 else false then
 true
 else
 bif decide ((0 : Int) < Int.ofNat ks.length) then !decide (kd = (5 : Int)) else false)),
 (68, PV.int .i64 kd),
 (69, PV.bool (decide (kd = (2 : Int)))),
 (74, PV.bool (decide (kd = (3 : Int)))),
 (80, PV.bool (decide (kd = (4 : Int)))), (98, PV.undef),
 ((103 : Nat), PV.bool (decide (x < Int.ofNat ks.length))),
 ((113 : Nat), PV.undef), ((116 : Nat), PV.undef), ((129 : Nat), PV.undef),
 ((134 : Nat), PV.undef), ((145 : Nat), PV.undef)]
 [((2 : Nat) + (32 : Nat),
 PV.agg
 [PV.int .i64 kd, PV.bool bv, PV.str sv,
 PV.row nk (BRow.strs ks) (0 : Nat),
 PV.vec nl (5 : Nat) ls (0 : Nat)])] =
 VS.mk []
 [(0,
 PV.agg
 [PV.int .i64 kd, PV.bool bv, PV.str sv,
 PV.row nk (BRow.strs ks) (0 : Nat),
 PV.vec nl (5 : Nat) ls (0 : Nat)]),
 (1, PV.int .i64 d),
 (2, PV.ptr ((2 : Nat) + (32 : Nat)) (0 : Nat)),
 (4, PV.bool false), ((5 : Nat), PV.int .i64 x),
 ((6 : Nat), PV.undef), ((7 : Nat), PV.int .i64 (x_1 + (1 : Int))),
 (66,
 PV.bool
 (bif
 bif
 bif
 bif bif decide (kd < (0 : Int)) then true else decide ((5 : Int) < kd) then
 true
 else bif bv then !decide (kd = (1 : Int)) else false then
 true
 else
 bif
 bif !decide (sv = (ByteArray.mk #[]).data.toList) then
 !decide (kd = (2 : Int))
 else false then
 !decide (kd = (3 : Int))
 else false then
 true
 else
 bif
 bif decide ((0 : Int) < lenZ ls) then !decide (kd = (4 : Int))
 else false then
 !decide (kd = (5 : Int))
 else false then
 true
 else
 bif decide ((0 : Int) < Int.ofNat ks.length) then !decide (kd = (5 : Int)) else false)),
 (68, PV.int .i64 kd),
 (69, PV.bool (decide (kd = (2 : Int)))),
 (74, PV.bool (decide (kd = (3 : Int)))),
 (80, PV.bool (decide (kd = (4 : Int)))), (98, PV.undef),
 ((103 : Nat), PV.bool (decide (x < Int.ofNat ks.length))),
 ((113 : Nat), PV.undef), ((116 : Nat), PV.undef), ((129 : Nat), PV.undef),
 ((134 : Nat), PV.undef), ((145 : Nat), PV.undef)]
 [((2 : Nat) + (32 : Nat),
 PV.agg
 [PV.int .i64 kd, PV.bool bv, PV.str sv,
 PV.row nk (BRow.strs ks) (0 : Nat),
 PV.vec nl (5 : Nat) ls (0 : Nat)])] ∧
 ((0 : Int) ≤ x_1 + (1 : Int) ∧
 x_1 + (1 : Int) ≤ ↑ls.length ∧
 mayJs isNumM validL
 (List.drop (x_1 + (1 : Int)).toNat (jdecs ls)) ((127 : Int) - d).toNat =
 mayJs isNumM validL
 (jdecs ls) ((127 : Int) - d).toNat) ∧
 (↑ls.length - (x_1 + (1 : Int))).toNat < (↑ls.length - x_1).toNat)) ∧
 (decide (x_1 < lenZ ls) = false → k (PV.bool true))))) ∧
 (decide (kd = (4 : Int)) = false →
 (decide (kd = (5 : Int)) = true →
 ((bif decide ((128 : Int) ≤ d) then true else bif decide (kd = (5 : Int)) then !decide (Int.ofNat ks.length = lenZ ls) else false) =
 true →
 k (PV.bool false)) ∧
 ((bif decide ((128 : Int) ≤ d) then true else bif decide (kd = (5 : Int)) then !decide (Int.ofNat ks.length = lenZ ls) else false) =
 false →
 VS.mk []
 [(0,
 PV.agg
 [PV.int .i64 kd, PV.bool bv, PV.str sv, PV.row nk (BRow.strs ks) (0 : Nat),
 PV.vec nl (5 : Nat) ls (0 : Nat)]),
 (1, PV.int .i64 d), (2, PV.ptr ((2 : Nat) + (32 : Nat)) (0 : Nat)),
 (4, PV.bool false), (5, PV.int .i64 (0 : Int)), ((6 : Nat), PV.undef),
 (7, PV.undef),
 (66,
 PV.bool
 (bif
 bif
 bif
 bif bif decide (kd < (0 : Int)) then true else decide ((5 : Int) < kd) then true
 else bif bv then !decide (kd = (1 : Int)) else false then
 true
 else
 bif bif !decide (sv = (ByteArray.mk #[]).data.toList) then !decide (kd = (2 : Int)) else false then
 !decide (kd = (3 : Int))
 else false then
 true
 else
 bif bif decide ((0 : Int) < lenZ ls) then !decide (kd = (4 : Int)) else false then !decide (kd = (5 : Int))
 else false then
 true
 else bif decide ((0 : Int) < Int.ofNat ks.length) then !decide (kd = (5 : Int)) else false)),
 (68, PV.int .i64 kd), (69, PV.bool (decide (kd = (2 : Int)))),
 (74, PV.bool (decide (kd = (3 : Int)))), (80, PV.bool (decide (kd = (5 : Int)))),
 (98,
 PV.bool
 (bif decide ((128 : Int) ≤ d) then true
 else bif decide (kd = (5 : Int)) then !decide (Int.ofNat ks.length = lenZ ls) else false)),
 ((103 : Nat), PV.undef), ((113 : Nat), PV.undef), ((116 : Nat), PV.undef), ((129 : Nat), PV.undef),
 (134, PV.undef), (145, PV.undef)]
 [((2 : Nat) + (32 : Nat),
 PV.agg
 [PV.int .i64 kd, PV.bool bv, PV.str sv, PV.row nk (BRow.strs ks) (0 : Nat),
 PV.vec nl (5 : Nat) ls (0 : Nat)])] =
 VS.mk []
 [(0,
 PV.agg
 [PV.int .i64 kd, PV.bool bv, PV.str sv, PV.row nk (BRow.strs ks) (0 : Nat),
 PV.vec nl (5 : Nat) ls (0 : Nat)]),
 (1, PV.int .i64 d), (2, PV.ptr ((2 : Nat) + (32 : Nat)) (0 : Nat)),
 (4, PV.bool false), ((5 : Nat), PV.int .i64 (0 : Int)), ((6 : Nat), PV.undef),
 (7, PV.undef),
 (66,
 PV.bool
 (bif
 bif
 bif
 bif bif decide (kd < (0 : Int)) then true else decide ((5 : Int) < kd) then true
 else bif bv then !decide (kd = (1 : Int)) else false then
 true
 else
 bif bif !decide (sv = (ByteArray.mk #[]).data.toList) then !decide (kd = (2 : Int)) else false then
 !decide (kd = (3 : Int))
 else false then
 true
 else
 bif bif decide ((0 : Int) < lenZ ls) then !decide (kd = (4 : Int)) else false then !decide (kd = (5 : Int))
 else false then
 true
 else bif decide ((0 : Int) < Int.ofNat ks.length) then !decide (kd = (5 : Int)) else false)),
 (68, PV.int .i64 kd), (69, PV.bool (decide (kd = (2 : Int)))),
 (74, PV.bool (decide (kd = (3 : Int)))), (80, PV.bool (decide (kd = (5 : Int)))),
 (98,
 PV.bool
 (bif decide ((128 : Int) ≤ d) then true
 else bif decide (kd = (5 : Int)) then !decide (Int.ofNat ks.length = lenZ ls) else false)),
 ((103 : Nat), PV.undef), ((113 : Nat), PV.undef), ((116 : Nat), PV.undef), ((129 : Nat), PV.undef),
 (134, PV.undef), (145, PV.undef)]
 [((2 : Nat) + (32 : Nat),
 PV.agg
 [PV.int .i64 kd, PV.bool bv, PV.str sv, PV.row nk (BRow.strs ks) (0 : Nat),
 PV.vec nl (5 : Nat) ls (0 : Nat)])] ∧
 ((0 : Int) ≤ (0 : Int) ∧
 (0 : Int) ≤ ↑ks.length ∧
 (List.take (Int.toNat (0 : Int)) ks).all validL = true ∧
 nodupJ (List.take (Int.toNat (0 : Int)) ks) = true) ∧
 ∀ (x : Int),
 (0 : Int) ≤ x ∧
 x ≤ ↑ks.length ∧
 (List.take x.toNat ks).all validL = true ∧ nodupJ (List.take x.toNat ks) = true →
 (decide (x < Int.ofNat ks.length) = true →
 within x (Int.ofNat ks.length) ∧
 List.length (strZ ks x) ≤ Go.Vc.maxLen ∧
 (List.length (strZ ks x)).le (1000000 : Nat) ∧
 ((!validL (strZ ks x)) = true → k (PV.bool false)) ∧
 ((!validL (strZ ks x)) = false →
 VS.mk []
 [(0,
 PV.agg
 [PV.int .i64 kd, PV.bool bv, PV.str sv,
 PV.row nk (BRow.strs ks) (0 : Nat), PV.vec nl (5 : Nat) ls (0 : Nat)]),
 (1, PV.int .i64 d), (2, PV.ptr ((2 : Nat) + (32 : Nat)) (0 : Nat)),
 (4, PV.bool false), ((5 : Nat), PV.int .i64 x),
 ((6 : Nat), PV.int .i64 (0 : Int)), (7, PV.undef),
 (66,
 PV.bool
 (bif
 bif
 bif
 bif bif decide (kd < (0 : Int)) then true else decide ((5 : Int) < kd) then true
 else bif bv then !decide (kd = (1 : Int)) else false then
 true
 else
 bif
 bif !decide (sv = (ByteArray.mk #[]).data.toList) then !decide (kd = (2 : Int))
 else false then
 !decide (kd = (3 : Int))
 else false then
 true
 else
 bif bif decide ((0 : Int) < lenZ ls) then !decide (kd = (4 : Int)) else false then
 !decide (kd = (5 : Int))
 else false then
 true
 else bif decide ((0 : Int) < Int.ofNat ks.length) then !decide (kd = (5 : Int)) else false)),
 (68, PV.int .i64 kd), (69, PV.bool (decide (kd = (2 : Int)))),
 (74, PV.bool (decide (kd = (3 : Int)))),
 (80, PV.bool (decide (kd = (5 : Int)))),
 (98,
 PV.bool
 (bif decide ((128 : Int) ≤ d) then true
 else bif decide (kd = (5 : Int)) then !decide (Int.ofNat ks.length = lenZ ls) else false)),
 ((103 : Nat), PV.bool (decide (x < Int.ofNat ks.length))),
 ((113 : Nat), PV.bool !validL (strZ ks x)),
 ((116 : Nat), PV.undef), ((129 : Nat), PV.undef), (134, PV.undef),
 (145, PV.undef)]
 [((2 : Nat) + (32 : Nat),
 PV.agg
 [PV.int .i64 kd, PV.bool bv, PV.str sv,
 PV.row nk (BRow.strs ks) (0 : Nat), PV.vec nl (5 : Nat) ls (0 : Nat)])] =
 VS.mk []
 [(0,
 PV.agg
 [PV.int .i64 kd, PV.bool bv, PV.str sv,
 PV.row nk (BRow.strs ks) (0 : Nat), PV.vec nl (5 : Nat) ls (0 : Nat)]),
 (1, PV.int .i64 d), (2, PV.ptr ((2 : Nat) + (32 : Nat)) (0 : Nat)),
 (4, PV.bool false), ((5 : Nat), PV.int .i64 x),
 ((6 : Nat), PV.int .i64 (0 : Int)), (7, PV.undef),
 (66,
 PV.bool
 (bif
 bif
 bif
 bif bif decide (kd < (0 : Int)) then true else decide ((5 : Int) < kd) then true
 else bif bv then !decide (kd = (1 : Int)) else false then
 true
 else
 bif
 bif !decide (sv = (ByteArray.mk #[]).data.toList) then !decide (kd = (2 : Int))
 else false then
 !decide (kd = (3 : Int))
 else false then
 true
 else
 bif bif decide ((0 : Int) < lenZ ls) then !decide (kd = (4 : Int)) else false then
 !decide (kd = (5 : Int))
 else false then
 true
 else bif decide ((0 : Int) < Int.ofNat ks.length) then !decide (kd = (5 : Int)) else false)),
 (68, PV.int .i64 kd), (69, PV.bool (decide (kd = (2 : Int)))),
 (74, PV.bool (decide (kd = (3 : Int)))),
 (80, PV.bool (decide (kd = (5 : Int)))),
 (98,
 PV.bool
 (bif decide ((128 : Int) ≤ d) then true
 else bif decide (kd = (5 : Int)) then !decide (Int.ofNat ks.length = lenZ ls) else false)),
 ((103 : Nat), PV.bool (decide (x < Int.ofNat ks.length))),
 ((113 : Nat), PV.bool !validL (strZ ks x)),
 ((116 : Nat), PV.undef), ((129 : Nat), PV.undef), (134, PV.undef),
 (145, PV.undef)]
 [((2 : Nat) + (32 : Nat),
 PV.agg
 [PV.int .i64 kd, PV.bool bv, PV.str sv,
 PV.row nk (BRow.strs ks) (0 : Nat), PV.vec nl (5 : Nat) ls (0 : Nat)])] ∧
 ((0 : Int) ≤ (0 : Int) ∧
 (0 : Int) ≤ x ∧ (List.take (Int.toNat (0 : Int)) ks).contains (strZ ks x) = false) ∧
 ∀ (x_1 : Int),
 (0 : Int) ≤ x_1 ∧ x_1 ≤ x ∧ (List.take x_1.toNat ks).contains (strZ ks x) = false →
 (decide (x_1 < x) = true →
 within x_1 (Int.ofNat ks.length) ∧
 within x (Int.ofNat ks.length) ∧
 (decide (strZ ks x_1 = strZ ks x) = true → k (PV.bool false)) ∧
 (decide (strZ ks x_1 = strZ ks x) = false →
 inI64 (x_1 + (1 : Int)) ∧
 VS.mk []
 [(0,
 PV.agg
 [PV.int .i64 kd, PV.bool bv, PV.str sv,
 PV.row nk (BRow.strs ks) (0 : Nat),
 PV.vec nl (5 : Nat) ls (0 : Nat)]),
 (1, PV.int .i64 d),
 (2, PV.ptr ((2 : Nat) + (32 : Nat)) (0 : Nat)),
 (4, PV.bool false), ((5 : Nat), PV.int .i64 x),
 ((6 : Nat), PV.int .i64 (x_1 + (1 : Int))),
 (7, PV.undef),
 (66,
 PV.bool
 (bif
 bif
 bif
 bif
 bif decide (kd < (0 : Int)) then true
 else decide ((5 : Int) < kd) then
 true
 else bif bv then !decide (kd = (1 : Int)) else false then
 true
 else
 bif
 bif !decide (sv = (ByteArray.mk #[]).data.toList) then
 !decide (kd = (2 : Int))
 else false then
 !decide (kd = (3 : Int))
 else false then
 true
 else
 bif
 bif decide ((0 : Int) < lenZ ls) then !decide (kd = (4 : Int))
 else false then
 !decide (kd = (5 : Int))
 else false then
 true
 else
 bif decide ((0 : Int) < Int.ofNat ks.length) then !decide (kd = (5 : Int))
 else false)),
 (68, PV.int .i64 kd),
 (69, PV.bool (decide (kd = (2 : Int)))),
 (74, PV.bool (decide (kd = (3 : Int)))),
 (80, PV.bool (decide (kd = (5 : Int)))),
 (98,
 PV.bool
 (bif decide ((128 : Int) ≤ d) then true
 else
 bif decide (kd = (5 : Int)) then !decide (Int.ofNat ks.length = lenZ ls)
 else false)),
 ((103 : Nat), PV.bool (decide (x < Int.ofNat ks.length))),
 ((113 : Nat), PV.bool !validL (strZ ks x)),
 ((116 : Nat), PV.undef), ((129 : Nat), PV.undef),
 (134, PV.undef), (145, PV.undef)]
 [((2 : Nat) + (32 : Nat),
 PV.agg
 [PV.int .i64 kd, PV.bool bv, PV.str sv,
 PV.row nk (BRow.strs ks) (0 : Nat),
 PV.vec nl (5 : Nat) ls (0 : Nat)])] =
 VS.mk []
 [(0,
 PV.agg
 [PV.int .i64 kd, PV.bool bv, PV.str sv,
 PV.row nk (BRow.strs ks) (0 : Nat),
 PV.vec nl (5 : Nat) ls (0 : Nat)]),
 (1, PV.int .i64 d),
 (2, PV.ptr ((2 : Nat) + (32 : Nat)) (0 : Nat)),
 (4, PV.bool false), ((5 : Nat), PV.int .i64 x),
 ((6 : Nat), PV.int .i64 (x_1 + (1 : Int))),
 (7, PV.undef),
 (66,
 PV.bool
 (bif
 bif
 bif
 bif
 bif decide (kd < (0 : Int)) then true
 else decide ((5 : Int) < kd) then
 true
 else bif bv then !decide (kd = (1 : Int)) else false then
 true
 else
 bif
 bif !decide (sv = (ByteArray.mk #[]).data.toList) then
 !decide (kd = (2 : Int))
 else false then
 !decide (kd = (3 : Int))
 else false then
 true
 else
 bif
 bif decide ((0 : Int) < lenZ ls) then !decide (kd = (4 : Int))
 else false then
 !decide (kd = (5 : Int))
 else false then
 true
 else
 bif decide ((0 : Int) < Int.ofNat ks.length) then !decide (kd = (5 : Int))
 else false)),
 (68, PV.int .i64 kd),
 (69, PV.bool (decide (kd = (2 : Int)))),
 (74, PV.bool (decide (kd = (3 : Int)))),
 (80, PV.bool (decide (kd = (5 : Int)))),
 (98,
 PV.bool
 (bif decide ((128 : Int) ≤ d) then true
 else
 bif decide (kd = (5 : Int)) then !decide (Int.ofNat ks.length = lenZ ls)
 else false)),
 ((103 : Nat), PV.bool (decide (x < Int.ofNat ks.length))),
 ((113 : Nat), PV.bool !validL (strZ ks x)),
 ((116 : Nat), PV.undef), ((129 : Nat), PV.undef),
 (134, PV.undef), (145, PV.undef)]
 [((2 : Nat) + (32 : Nat),
 PV.agg
 [PV.int .i64 kd, PV.bool bv, PV.str sv,
 PV.row nk (BRow.strs ks) (0 : Nat),
 PV.vec nl (5 : Nat) ls (0 : Nat)])] ∧
 ((0 : Int) ≤ x_1 + (1 : Int) ∧
 x_1 + (1 : Int) ≤ x ∧
 (List.take (x_1 + (1 : Int)).toNat ks).contains (strZ ks x) = false) ∧
 (x - (x_1 + (1 : Int))).toNat < (x - x_1).toNat)) ∧
 (decide (x_1 < x) = false →
 inI64 (x + (1 : Int)) ∧
 VS.mk []
 [(0,
 PV.agg
 [PV.int .i64 kd, PV.bool bv, PV.str sv,
 PV.row nk (BRow.strs ks) (0 : Nat),
 PV.vec nl (5 : Nat) ls (0 : Nat)]),
 (1, PV.int .i64 d),
 (2, PV.ptr ((2 : Nat) + (32 : Nat)) (0 : Nat)),
 (4, PV.bool false), ((5 : Nat), PV.int .i64 (x + (1 : Int))),
 ((6 : Nat), PV.undef), (7, PV.undef),
 (66,
 PV.bool
 (bif
 bif
 bif
 bif bif decide (kd < (0 : Int)) then true else decide ((5 : Int) < kd) then
 true
 else bif bv then !decide (kd = (1 : Int)) else false then
 true
 else
 bif
 bif !decide (sv = (ByteArray.mk #[]).data.toList) then
 !decide (kd = (2 : Int))
 else false then
 !decide (kd = (3 : Int))
 else false then
 true
 else
 bif
 bif decide ((0 : Int) < lenZ ls) then !decide (kd = (4 : Int))
 else false then
 !decide (kd = (5 : Int))
 else false then
 true
 else
 bif decide ((0 : Int) < Int.ofNat ks.length) then !decide (kd = (5 : Int))
 else false)),
 (68, PV.int .i64 kd),
 (69, PV.bool (decide (kd = (2 : Int)))),
 (74, PV.bool (decide (kd = (3 : Int)))),
 (80, PV.bool (decide (kd = (5 : Int)))),
 (98,
 PV.bool
 (bif decide ((128 : Int) ≤ d) then true
 else
 bif decide (kd = (5 : Int)) then !decide (Int.ofNat ks.length = lenZ ls)
 else false)),
 ((103 : Nat), PV.undef), ((113 : Nat), PV.undef), ((116 : Nat), PV.undef),
 ((129 : Nat), PV.undef), (134, PV.undef), (145, PV.undef)]
 [((2 : Nat) + (32 : Nat),
 PV.agg
 [PV.int .i64 kd, PV.bool bv, PV.str sv,
 PV.row nk (BRow.strs ks) (0 : Nat),
 PV.vec nl (5 : Nat) ls (0 : Nat)])] =
 VS.mk []
 [(0,
 PV.agg
 [PV.int .i64 kd, PV.bool bv, PV.str sv,
 PV.row nk (BRow.strs ks) (0 : Nat),
 PV.vec nl (5 : Nat) ls (0 : Nat)]),
 (1, PV.int .i64 d),
 (2, PV.ptr ((2 : Nat) + (32 : Nat)) (0 : Nat)),
 (4, PV.bool false), ((5 : Nat), PV.int .i64 (x + (1 : Int))),
 ((6 : Nat), PV.undef), (7, PV.undef),
 (66,
 PV.bool
 (bif
 bif
 bif
 bif bif decide (kd < (0 : Int)) then true else decide ((5 : Int) < kd) then
 true
 else bif bv then !decide (kd = (1 : Int)) else false then
 true
 else
 bif
 bif !decide (sv = (ByteArray.mk #[]).data.toList) then
 !decide (kd = (2 : Int))
 else false then
 !decide (kd = (3 : Int))
 else false then
 true
 else
 bif
 bif decide ((0 : Int) < lenZ ls) then !decide (kd = (4 : Int))
 else false then
 !decide (kd = (5 : Int))
 else false then
 true
 else
 bif decide ((0 : Int) < Int.ofNat ks.length) then !decide (kd = (5 : Int))
 else false)),
 (68, PV.int .i64 kd),
 (69, PV.bool (decide (kd = (2 : Int)))),
 (74, PV.bool (decide (kd = (3 : Int)))),
 (80, PV.bool (decide (kd = (5 : Int)))),
 (98,
 PV.bool
 (bif decide ((128 : Int) ≤ d) then true
 else
 bif decide (kd = (5 : Int)) then !decide (Int.ofNat ks.length = lenZ ls)
 else false)),
 ((103 : Nat), PV.undef), ((113 : Nat), PV.undef), ((116 : Nat), PV.undef),
 ((129 : Nat), PV.undef), (134, PV.undef), (145, PV.undef)]
 [((2 : Nat) + (32 : Nat),
 PV.agg
 [PV.int .i64 kd, PV.bool bv, PV.str sv,
 PV.row nk (BRow.strs ks) (0 : Nat),
 PV.vec nl (5 : Nat) ls (0 : Nat)])] ∧
 ((0 : Int) ≤ x + (1 : Int) ∧
 x + (1 : Int) ≤ ↑ks.length ∧
 (List.take (x + (1 : Int)).toNat ks).all validL = true ∧
 nodupJ (List.take (x + (1 : Int)).toNat ks) = true) ∧
 (↑ks.length - (x + (1 : Int))).toNat < (↑ks.length - x).toNat))) ∧
 (decide (x < Int.ofNat ks.length) = false →
 VS.mk []
 [(0,
 PV.agg
 [PV.int .i64 kd, PV.bool bv, PV.str sv,
 PV.row nk (BRow.strs ks) (0 : Nat), PV.vec nl (5 : Nat) ls (0 : Nat)]),
 (1, PV.int .i64 d), (2, PV.ptr ((2 : Nat) + (32 : Nat)) (0 : Nat)),
 (4, PV.bool false), ((5 : Nat), PV.int .i64 x), ((6 : Nat), PV.undef),
 (7, PV.int .i64 (0 : Int)),
 (66,
 PV.bool
 (bif
 bif
 bif
 bif bif decide (kd < (0 : Int)) then true else decide ((5 : Int) < kd) then true
 else bif bv then !decide (kd = (1 : Int)) else false then
 true
 else
 bif bif !decide (sv = (ByteArray.mk #[]).data.toList) then !decide (kd = (2 : Int)) else false then
 !decide (kd = (3 : Int))
 else false then
 true
 else
 bif bif decide ((0 : Int) < lenZ ls) then !decide (kd = (4 : Int)) else false then
 !decide (kd = (5 : Int))
 else false then
 true
 else bif decide ((0 : Int) < Int.ofNat ks.length) then !decide (kd = (5 : Int)) else false)),
 (68, PV.int .i64 kd), (69, PV.bool (decide (kd = (2 : Int)))),
 (74, PV.bool (decide (kd = (3 : Int)))), (80, PV.bool (decide (kd = (5 : Int)))),
 (98,
 PV.bool
 (bif decide ((128 : Int) ≤ d) then true
 else bif decide (kd = (5 : Int)) then !decide (Int.ofNat ks.length = lenZ ls) else false)),
 ((103 : Nat), PV.bool (decide (x < Int.ofNat ks.length))), ((113 : Nat), PV.undef),
 ((116 : Nat), PV.undef), ((129 : Nat), PV.undef), ((134 : Nat), PV.undef),
 ((145 : Nat), PV.undef)]
 [((2 : Nat) + (32 : Nat),
 PV.agg
 [PV.int .i64 kd, PV.bool bv, PV.str sv,
 PV.row nk (BRow.strs ks) (0 : Nat), PV.vec nl (5 : Nat) ls (0 : Nat)])] =
 VS.mk []
 [(0,
 PV.agg
 [PV.int .i64 kd, PV.bool bv, PV.str sv,
 PV.row nk (BRow.strs ks) (0 : Nat), PV.vec nl (5 : Nat) ls (0 : Nat)]),
 (1, PV.int .i64 d), (2, PV.ptr ((2 : Nat) + (32 : Nat)) (0 : Nat)),
 (4, PV.bool false), ((5 : Nat), PV.int .i64 x), ((6 : Nat), PV.undef),
 ((7 : Nat), PV.int .i64 (0 : Int)),
 (66,
 PV.bool
 (bif
 bif
 bif
 bif bif decide (kd < (0 : Int)) then true else decide ((5 : Int) < kd) then true
 else bif bv then !decide (kd = (1 : Int)) else false then
 true
 else
 bif bif !decide (sv = (ByteArray.mk #[]).data.toList) then !decide (kd = (2 : Int)) else false then
 !decide (kd = (3 : Int))
 else false then
 true
 else
 bif bif decide ((0 : Int) < lenZ ls) then !decide (kd = (4 : Int)) else false then
 !decide (kd = (5 : Int))
 else false then
 true
 else bif decide ((0 : Int) < Int.ofNat ks.length) then !decide (kd = (5 : Int)) else false)),
 (68, PV.int .i64 kd), (69, PV.bool (decide (kd = (2 : Int)))),
 (74, PV.bool (decide (kd = (3 : Int)))), (80, PV.bool (decide (kd = (5 : Int)))),
 (98,
 PV.bool
 (bif decide ((128 : Int) ≤ d) then true
 else bif decide (kd = (5 : Int)) then !decide (Int.ofNat ks.length = lenZ ls) else false)),
 ((103 : Nat), PV.bool (decide (x < Int.ofNat ks.length))), ((113 : Nat), PV.undef),
 ((116 : Nat), PV.undef), ((129 : Nat), PV.undef), ((134 : Nat), PV.undef),
 ((145 : Nat), PV.undef)]
 [((2 : Nat) + (32 : Nat),
 PV.agg
 [PV.int .i64 kd, PV.bool bv, PV.str sv,
 PV.row nk (BRow.strs ks) (0 : Nat), PV.vec nl (5 : Nat) ls (0 : Nat)])] ∧
 ((0 : Int) ≤ (0 : Int) ∧
 (0 : Int) ≤ ↑ls.length ∧
 mayJs isNumM validL
 (List.drop (Int.toNat (0 : Int)) (jdecs ls)) ((127 : Int) - d).toNat =
 mayJs isNumM validL (jdecs ls)
 ((127 : Int) - d).toNat) ∧
 ∀ (x_1 : Int),
 (0 : Int) ≤ x_1 ∧
 x_1 ≤ ↑ls.length ∧
 mayJs isNumM validL
 (List.drop x_1.toNat (jdecs ls)) ((127 : Int) - d).toNat =
 mayJs isNumM validL (jdecs ls)
 ((127 : Int) - d).toNat →
 (decide (x_1 < lenZ ls) = true →
 within x_1 (lenZ ls) ∧
 eltV ls x_1 =
 PV.agg
 [PV.int .i64
 ((eltV ls x_1).part (0 : Nat)).asInt,
 PV.bool
 ((eltV ls x_1).part
 (1 : Nat)).asBool,
 PV.str
 ((eltV ls x_1).part
 (2 : Nat)).asStr,
 PV.row
 ((eltV ls x_1).part
 (3 : Nat)).asNil
 (BRow.strs
 ((eltV ls x_1).part
 (3 : Nat)).asStrs)
 (0 : Nat),
 PV.vec
 ((eltV ls x_1).part
 (4 : Nat)).asNil
 (nat_lit 5)
 ((eltV ls x_1).part
 (4 : Nat)).asVec
 (0 : Nat)] ∧
 inI64 (d + (1 : Int)) ∧
 (isJs
 ((eltV ls x_1).part
 (4 : Nat)).asVec ∧
 okJ m
 (JV.mk
 ((eltV ls x_1).part (0 : Nat)).asInt
 ((eltV ls x_1).part
 (1 : Nat)).asBool
 ((eltV ls x_1).part
 (2 : Nat)).asStr
 ((eltV ls x_1).part
 (3 : Nat)).asNil
 ((eltV ls x_1).part
 (3 : Nat)).asStrs
 ((eltV ls x_1).part
 (4 : Nat)).asNil
 (jdecs
 ((eltV ls x_1).part
 (4 : Nat)).asVec)) ∧
 sizeJ
 (JV.mk
 ((eltV ls x_1).part
 (0 : Nat)).asInt
 ((eltV ls x_1).part
 (1 : Nat)).asBool
 ((eltV ls x_1).part
 (2 : Nat)).asStr
 ((eltV ls x_1).part
 (3 : Nat)).asNil
 ((eltV ls x_1).part
 (3 : Nat)).asStrs
 ((eltV ls x_1).part
 (4 : Nat)).asNil
 (jdecs
 ((eltV ls x_1).part
 (4 : Nat)).asVec)) ≤
 (600000 : Nat) ∧
 (0 : Int) ≤ d + (1 : Int) ∧ d + (1 : Int) ≤ (128 : Int)) ∧
 ((!mayJ isNumM validL
 (JV.mk
 ((eltV ls x_1).part
 (0 : Nat)).asInt
 ((eltV ls x_1).part
 (1 : Nat)).asBool
 ((eltV ls x_1).part
 (2 : Nat)).asStr
 ((eltV ls x_1).part
 (3 : Nat)).asNil
 ((eltV ls x_1).part
 (3 : Nat)).asStrs
 ((eltV ls x_1).part
 (4 : Nat)).asNil
 (jdecs
 ((eltV ls x_1).part
 (4 : Nat)).asVec))
 ((128 : Int) - (d + (1 : Int))).toNat) =
 true →
 k (PV.bool false)) ∧
 ((!mayJ isNumM validL
 (JV.mk
 ((eltV ls x_1).part
 (0 : Nat)).asInt
 ((eltV ls x_1).part
 (1 : Nat)).asBool
 ((eltV ls x_1).part
 (2 : Nat)).asStr
 ((eltV ls x_1).part
 (3 : Nat)).asNil
 ((eltV ls x_1).part
 (3 : Nat)).asStrs
 ((eltV ls x_1).part
 (4 : Nat)).asNil
 (jdecs
 ((eltV ls x_1).part
 (4 : Nat)).asVec))
 ((128 : Int) - (d + (1 : Int))).toNat) =
 false →
 inI64 (x_1 + (1 : Int)) ∧
 VS.mk []
 [(0,
 PV.agg
 [PV.int .i64 kd, PV.bool bv, PV.str sv,
 PV.row nk (BRow.strs ks) (0 : Nat),
 PV.vec nl (5 : Nat) ls (0 : Nat)]),
 (1, PV.int .i64 d),
 (2, PV.ptr ((2 : Nat) + (32 : Nat)) (0 : Nat)),
 (4, PV.bool false), ((5 : Nat), PV.int .i64 x),
 ((6 : Nat), PV.undef), ((7 : Nat), PV.int .i64 (x_1 + (1 : Int))),
 (66,
 PV.bool
 (bif
 bif
 bif
 bif
 bif decide (kd < (0 : Int)) then true
 else decide ((5 : Int) < kd) then
 true
 else bif bv then !decide (kd = (1 : Int)) else false then
 true
 else
 bif
 bif !decide (sv = (ByteArray.mk #[]).data.toList) then
 !decide (kd = (2 : Int))
 else false then
 !decide (kd = (3 : Int))
 else false then
 true
 else
 bif
 bif decide ((0 : Int) < lenZ ls) then !decide (kd = (4 : Int))
 else false then
 !decide (kd = (5 : Int))
 else false then
 true
 else
 bif decide ((0 : Int) < Int.ofNat ks.length) then !decide (kd = (5 : Int))
 else false)),
 (68, PV.int .i64 kd),
 (69, PV.bool (decide (kd = (2 : Int)))),
 (74, PV.bool (decide (kd = (3 : Int)))),
 (80, PV.bool (decide (kd = (5 : Int)))),
 (98,
 PV.bool
 (bif decide ((128 : Int) ≤ d) then true
 else
 bif decide (kd = (5 : Int)) then !decide (Int.ofNat ks.length = lenZ ls)
 else false)),
 ((103 : Nat), PV.bool (decide (x < Int.ofNat ks.length))),
 ((113 : Nat), PV.undef), ((116 : Nat), PV.undef),
 ((129 : Nat), PV.undef), ((134 : Nat), PV.undef),
 ((145 : Nat), PV.undef)]
 [((2 : Nat) + (32 : Nat),
 PV.agg
 [PV.int .i64 kd, PV.bool bv, PV.str sv,
 PV.row nk (BRow.strs ks) (0 : Nat),
 PV.vec nl (5 : Nat) ls (0 : Nat)])] =
 VS.mk []
 [(0,
 PV.agg
 [PV.int .i64 kd, PV.bool bv, PV.str sv,
 PV.row nk (BRow.strs ks) (0 : Nat),
 PV.vec nl (5 : Nat) ls (0 : Nat)]),
 (1, PV.int .i64 d),
 (2, PV.ptr ((2 : Nat) + (32 : Nat)) (0 : Nat)),
 (4, PV.bool false), ((5 : Nat), PV.int .i64 x),
 ((6 : Nat), PV.undef), ((7 : Nat), PV.int .i64 (x_1 + (1 : Int))),
 (66,
 PV.bool
 (bif
 bif
 bif
 bif
 bif decide (kd < (0 : Int)) then true
 else decide ((5 : Int) < kd) then
 true
 else bif bv then !decide (kd = (1 : Int)) else false then
 true
 else
 bif
 bif !decide (sv = (ByteArray.mk #[]).data.toList) then
 !decide (kd = (2 : Int))
 else false then
 !decide (kd = (3 : Int))
 else false then
 true
 else
 bif
 bif decide ((0 : Int) < lenZ ls) then !decide (kd = (4 : Int))
 else false then
 !decide (kd = (5 : Int))
 else false then
 true
 else
 bif decide ((0 : Int) < Int.ofNat ks.length) then !decide (kd = (5 : Int))
 else false)),
 (68, PV.int .i64 kd),
 (69, PV.bool (decide (kd = (2 : Int)))),
 (74, PV.bool (decide (kd = (3 : Int)))),
 (80, PV.bool (decide (kd = (5 : Int)))),
 (98,
 PV.bool
 (bif decide ((128 : Int) ≤ d) then true
 else
 bif decide (kd = (5 : Int)) then !decide (Int.ofNat ks.length = lenZ ls)
 else false)),
 ((103 : Nat), PV.bool (decide (x < Int.ofNat ks.length))),
 ((113 : Nat), PV.undef), ((116 : Nat), PV.undef),
 ((129 : Nat), PV.undef), ((134 : Nat), PV.undef),
 ((145 : Nat), PV.undef)]
 [((2 : Nat) + (32 : Nat),
 PV.agg
 [PV.int .i64 kd, PV.bool bv, PV.str sv,
 PV.row nk (BRow.strs ks) (0 : Nat),
 PV.vec nl (5 : Nat) ls (0 : Nat)])] ∧
 ((0 : Int) ≤ x_1 + (1 : Int) ∧
 x_1 + (1 : Int) ≤ ↑ls.length ∧
 mayJs isNumM validL
 (List.drop (x_1 + (1 : Int)).toNat (jdecs ls)) ((127 : Int) - d).toNat =
 mayJs isNumM validL
 (jdecs ls) ((127 : Int) - d).toNat) ∧
 (↑ls.length - (x_1 + (1 : Int))).toNat < (↑ls.length - x_1).toNat)) ∧
 (decide (x_1 < lenZ ls) = false → k (PV.bool true))))) ∧
 (decide (kd = (5 : Int)) = false →
 VS.mk []
 [(0,
 PV.agg
 [PV.int .i64 kd, PV.bool bv, PV.str sv, PV.row nk (BRow.strs ks) (0 : Nat),
 PV.vec nl (5 : Nat) ls (0 : Nat)]),
 (1, PV.int .i64 d), (2, PV.ptr ((2 : Nat) + (32 : Nat)) (0 : Nat)),
 (4, PV.bool false), (5, PV.int .i64 (0 : Int)), ((6 : Nat), PV.undef),
 (7, PV.undef),
 (66,
 PV.bool
 (bif
 bif
 bif
 bif bif decide (kd < (0 : Int)) then true else decide ((5 : Int) < kd) then true
 else bif bv then !decide (kd = (1 : Int)) else false then
 true
 else
 bif bif !decide (sv = (ByteArray.mk #[]).data.toList) then !decide (kd = (2 : Int)) else false then
 !decide (kd = (3 : Int))
 else false then
 true
 else
 bif bif decide ((0 : Int) < lenZ ls) then !decide (kd = (4 : Int)) else false then !decide (kd = (5 : Int))
 else false then
 true
 else bif decide ((0 : Int) < Int.ofNat ks.length) then !decide (kd = (5 : Int)) else false)),
 (68, PV.int .i64 kd), (69, PV.bool (decide (kd = (2 : Int)))),
 (74, PV.bool (decide (kd = (3 : Int)))), (80, PV.bool (decide (kd = (5 : Int)))),
 (98, PV.undef), ((103 : Nat), PV.undef), ((113 : Nat), PV.undef), ((116 : Nat), PV.undef),
 ((129 : Nat), PV.undef), (134, PV.undef), (145, PV.undef)]
 [((2 : Nat) + (32 : Nat),
 PV.agg
 [PV.int .i64 kd, PV.bool bv, PV.str sv, PV.row nk (BRow.strs ks) (0 : Nat),
 PV.vec nl (5 : Nat) ls (0 : Nat)])] =
 VS.mk []
 [(0,
 PV.agg
 [PV.int .i64 kd, PV.bool bv, PV.str sv, PV.row nk (BRow.strs ks) (0 : Nat),
 PV.vec nl (5 : Nat) ls (0 : Nat)]),
 (1, PV.int .i64 d), (2, PV.ptr ((2 : Nat) + (32 : Nat)) (0 : Nat)),
 (4, PV.bool false), ((5 : Nat), PV.int .i64 (0 : Int)), ((6 : Nat), PV.undef),
 (7, PV.undef),
 (66,
 PV.bool
 (bif
 bif
 bif
 bif bif decide (kd < (0 : Int)) then true else decide ((5 : Int) < kd) then true
 else bif bv then !decide (kd = (1 : Int)) else false then
 true
 else
 bif bif !decide (sv = (ByteArray.mk #[]).data.toList) then !decide (kd = (2 : Int)) else false then
 !decide (kd = (3 : Int))
 else false then
 true
 else
 bif bif decide ((0 : Int) < lenZ ls) then !decide (kd = (4 : Int)) else false then !decide (kd = (5 : Int))
 else false then
 true
 else bif decide ((0 : Int) < Int.ofNat ks.length) then !decide (kd = (5 : Int)) else false)),
 (68, PV.int .i64 kd), (69, PV.bool (decide (kd = (2 : Int)))),
 (74, PV.bool (decide (kd = (3 : Int)))), (80, PV.bool (decide (kd = (5 : Int)))),
 (98, PV.undef), ((103 : Nat), PV.undef), ((113 : Nat), PV.undef), ((116 : Nat), PV.undef),
 ((129 : Nat), PV.undef), (134, PV.undef), (145, PV.undef)]
 [((2 : Nat) + (32 : Nat),
 PV.agg
 [PV.int .i64 kd, PV.bool bv, PV.str sv, PV.row nk (BRow.strs ks) (0 : Nat),
 PV.vec nl (5 : Nat) ls (0 : Nat)])] ∧
 ((0 : Int) ≤ (0 : Int) ∧
 (0 : Int) ≤ ↑ks.length ∧
 (List.take (Int.toNat (0 : Int)) ks).all validL = true ∧
 nodupJ (List.take (Int.toNat (0 : Int)) ks) = true) ∧
 ∀ (x : Int),
 (0 : Int) ≤ x ∧
 x ≤ ↑ks.length ∧
 (List.take x.toNat ks).all validL = true ∧ nodupJ (List.take x.toNat ks) = true →
 (decide (x < Int.ofNat ks.length) = true →
 within x (Int.ofNat ks.length) ∧
 List.length (strZ ks x) ≤ Go.Vc.maxLen ∧
 (List.length (strZ ks x)).le (1000000 : Nat) ∧
 ((!validL (strZ ks x)) = true → k (PV.bool false)) ∧
 ((!validL (strZ ks x)) = false →
 VS.mk []
 [(0,
 PV.agg
 [PV.int .i64 kd, PV.bool bv, PV.str sv,
 PV.row nk (BRow.strs ks) (0 : Nat), PV.vec nl (5 : Nat) ls (0 : Nat)]),
 (1, PV.int .i64 d), (2, PV.ptr ((2 : Nat) + (32 : Nat)) (0 : Nat)),
 (4, PV.bool false), ((5 : Nat), PV.int .i64 x),
 ((6 : Nat), PV.int .i64 (0 : Int)), (7, PV.undef),
 (66,
 PV.bool
 (bif
 bif
 bif
 bif bif decide (kd < (0 : Int)) then true else decide ((5 : Int) < kd) then true
 else bif bv then !decide (kd = (1 : Int)) else false then
 true
 else
 bif
 bif !decide (sv = (ByteArray.mk #[]).data.toList) then !decide (kd = (2 : Int))
 else false then
 !decide (kd = (3 : Int))
 else false then
 true
 else
 bif bif decide ((0 : Int) < lenZ ls) then !decide (kd = (4 : Int)) else false then
 !decide (kd = (5 : Int))
 else false then
 true
 else bif decide ((0 : Int) < Int.ofNat ks.length) then !decide (kd = (5 : Int)) else false)),
 (68, PV.int .i64 kd), (69, PV.bool (decide (kd = (2 : Int)))),
 (74, PV.bool (decide (kd = (3 : Int)))), (80, PV.bool (decide (kd = (5 : Int)))),
 (98, PV.undef), ((103 : Nat), PV.bool (decide (x < Int.ofNat ks.length))),
 ((113 : Nat), PV.bool !validL (strZ ks x)),
 ((116 : Nat), PV.undef), ((129 : Nat), PV.undef), (134, PV.undef),
 (145, PV.undef)]
 [((2 : Nat) + (32 : Nat),
 PV.agg
 [PV.int .i64 kd, PV.bool bv, PV.str sv,
 PV.row nk (BRow.strs ks) (0 : Nat), PV.vec nl (5 : Nat) ls (0 : Nat)])] =
 VS.mk []
 [(0,
 PV.agg
 [PV.int .i64 kd, PV.bool bv, PV.str sv,
 PV.row nk (BRow.strs ks) (0 : Nat), PV.vec nl (5 : Nat) ls (0 : Nat)]),
 (1, PV.int .i64 d), (2, PV.ptr ((2 : Nat) + (32 : Nat)) (0 : Nat)),
 (4, PV.bool false), ((5 : Nat), PV.int .i64 x),
 ((6 : Nat), PV.int .i64 (0 : Int)), (7, PV.undef),
 (66,
 PV.bool
 (bif
 bif
 bif
 bif bif decide (kd < (0 : Int)) then true else decide ((5 : Int) < kd) then true
 else bif bv then !decide (kd = (1 : Int)) else false then
 true
 else
 bif
 bif !decide (sv = (ByteArray.mk #[]).data.toList) then !decide (kd = (2 : Int))
 else false then
 !decide (kd = (3 : Int))
 else false then
 true
 else
 bif bif decide ((0 : Int) < lenZ ls) then !decide (kd = (4 : Int)) else false then
 !decide (kd = (5 : Int))
 else false then
 true
 else bif decide ((0 : Int) < Int.ofNat ks.length) then !decide (kd = (5 : Int)) else false)),
 (68, PV.int .i64 kd), (69, PV.bool (decide (kd = (2 : Int)))),
 (74, PV.bool (decide (kd = (3 : Int)))), (80, PV.bool (decide (kd = (5 : Int)))),
 (98, PV.undef), ((103 : Nat), PV.bool (decide (x < Int.ofNat ks.length))),
 ((113 : Nat), PV.bool !validL (strZ ks x)),
 ((116 : Nat), PV.undef), ((129 : Nat), PV.undef), (134, PV.undef),
 (145, PV.undef)]
 [((2 : Nat) + (32 : Nat),
 PV.agg
 [PV.int .i64 kd, PV.bool bv, PV.str sv,
 PV.row nk (BRow.strs ks) (0 : Nat), PV.vec nl (5 : Nat) ls (0 : Nat)])] ∧
 ((0 : Int) ≤ (0 : Int) ∧ (0 : Int) ≤ x ∧ (List.take (Int.toNat (0 : Int)) ks).contains (strZ ks x) = false) ∧
 ∀ (x_1 : Int),
 (0 : Int) ≤ x_1 ∧ x_1 ≤ x ∧ (List.take x_1.toNat ks).contains (strZ ks x) = false →
 (decide (x_1 < x) = true →
 within x_1 (Int.ofNat ks.length) ∧
 within x (Int.ofNat ks.length) ∧
 (decide (strZ ks x_1 = strZ ks x) = true → k (PV.bool false)) ∧
 (decide (strZ ks x_1 = strZ ks x) = false →
 inI64 (x_1 + (1 : Int)) ∧
 VS.mk []
 [(0,
 PV.agg
 [PV.int .i64 kd, PV.bool bv, PV.str sv,
 PV.row nk (BRow.strs ks) (0 : Nat),
 PV.vec nl (5 : Nat) ls (0 : Nat)]),
 (1, PV.int .i64 d),
 (2, PV.ptr ((2 : Nat) + (32 : Nat)) (0 : Nat)),
 (4, PV.bool false), ((5 : Nat), PV.int .i64 x),
 ((6 : Nat), PV.int .i64 (x_1 + (1 : Int))), (7, PV.undef),
 (66,
 PV.bool
 (bif
 bif
 bif
 bif
 bif decide (kd < (0 : Int)) then true
 else decide ((5 : Int) < kd) then
 true
 else bif bv then !decide (kd = (1 : Int)) else false then
 true
 else
 bif
 bif !decide (sv = (ByteArray.mk #[]).data.toList) then
 !decide (kd = (2 : Int))
 else false then
 !decide (kd = (3 : Int))
 else false then
 true
 else
 bif
 bif decide ((0 : Int) < lenZ ls) then !decide (kd = (4 : Int))
 else false then
 !decide (kd = (5 : Int))
 else false then
 true
 else
 bif decide ((0 : Int) < Int.ofNat ks.length) then !decide (kd = (5 : Int))
 else false)),
 (68, PV.int .i64 kd),
 (69, PV.bool (decide (kd = (2 : Int)))),
 (74, PV.bool (decide (kd = (3 : Int)))),
 (80, PV.bool (decide (kd = (5 : Int)))), (98, PV.undef),
 ((103 : Nat), PV.bool (decide (x < Int.ofNat ks.length))),
 ((113 : Nat), PV.bool !validL (strZ ks x)),
 ((116 : Nat), PV.undef), ((129 : Nat), PV.undef),
 (134, PV.undef), (145, PV.undef)]
 [((2 : Nat) + (32 : Nat),
 PV.agg
 [PV.int .i64 kd, PV.bool bv, PV.str sv,
 PV.row nk (BRow.strs ks) (0 : Nat),
 PV.vec nl (5 : Nat) ls (0 : Nat)])] =
 VS.mk []
 [(0,
 PV.agg
 [PV.int .i64 kd, PV.bool bv, PV.str sv,
 PV.row nk (BRow.strs ks) (0 : Nat),
 PV.vec nl (5 : Nat) ls (0 : Nat)]),
 (1, PV.int .i64 d),
 (2, PV.ptr ((2 : Nat) + (32 : Nat)) (0 : Nat)),
 (4, PV.bool false), ((5 : Nat), PV.int .i64 x),
 ((6 : Nat), PV.int .i64 (x_1 + (1 : Int))), (7, PV.undef),
 (66,
 PV.bool
 (bif
 bif
 bif
 bif
 bif decide (kd < (0 : Int)) then true
 else decide ((5 : Int) < kd) then
 true
 else bif bv then !decide (kd = (1 : Int)) else false then
 true
 else
 bif
 bif !decide (sv = (ByteArray.mk #[]).data.toList) then
 !decide (kd = (2 : Int))
 else false then
 !decide (kd = (3 : Int))
 else false then
 true
 else
 bif
 bif decide ((0 : Int) < lenZ ls) then !decide (kd = (4 : Int))
 else false then
 !decide (kd = (5 : Int))
 else false then
 true
 else
 bif decide ((0 : Int) < Int.ofNat ks.length) then !decide (kd = (5 : Int))
 else false)),
 (68, PV.int .i64 kd),
 (69, PV.bool (decide (kd = (2 : Int)))),
 (74, PV.bool (decide (kd = (3 : Int)))),
 (80, PV.bool (decide (kd = (5 : Int)))), (98, PV.undef),
 ((103 : Nat), PV.bool (decide (x < Int.ofNat ks.length))),
 ((113 : Nat), PV.bool !validL (strZ ks x)),
 ((116 : Nat), PV.undef), ((129 : Nat), PV.undef),
 (134, PV.undef), (145, PV.undef)]
 [((2 : Nat) + (32 : Nat),
 PV.agg
 [PV.int .i64 kd, PV.bool bv, PV.str sv,
 PV.row nk (BRow.strs ks) (0 : Nat),
 PV.vec nl (5 : Nat) ls (0 : Nat)])] ∧
 ((0 : Int) ≤ x_1 + (1 : Int) ∧
 x_1 + (1 : Int) ≤ x ∧
 (List.take (x_1 + (1 : Int)).toNat ks).contains (strZ ks x) = false) ∧
 (x - (x_1 + (1 : Int))).toNat < (x - x_1).toNat)) ∧
 (decide (x_1 < x) = false →
 inI64 (x + (1 : Int)) ∧
 VS.mk []
 [(0,
 PV.agg
 [PV.int .i64 kd, PV.bool bv, PV.str sv,
 PV.row nk (BRow.strs ks) (0 : Nat), PV.vec nl (5 : Nat) ls (0 : Nat)]),
 (1, PV.int .i64 d),
 (2, PV.ptr ((2 : Nat) + (32 : Nat)) (0 : Nat)), (4, PV.bool false),
 ((5 : Nat), PV.int .i64 (x + (1 : Int))), ((6 : Nat), PV.undef),
 (7, PV.undef),
 (66,
 PV.bool
 (bif
 bif
 bif
 bif bif decide (kd < (0 : Int)) then true else decide ((5 : Int) < kd) then true
 else bif bv then !decide (kd = (1 : Int)) else false then
 true
 else
 bif
 bif !decide (sv = (ByteArray.mk #[]).data.toList) then
 !decide (kd = (2 : Int))
 else false then
 !decide (kd = (3 : Int))
 else false then
 true
 else
 bif
 bif decide ((0 : Int) < lenZ ls) then !decide (kd = (4 : Int))
 else false then
 !decide (kd = (5 : Int))
 else false then
 true
 else
 bif decide ((0 : Int) < Int.ofNat ks.length) then !decide (kd = (5 : Int)) else false)),
 (68, PV.int .i64 kd),
 (69, PV.bool (decide (kd = (2 : Int)))),
 (74, PV.bool (decide (kd = (3 : Int)))),
 (80, PV.bool (decide (kd = (5 : Int)))), (98, PV.undef),
 ((103 : Nat), PV.undef), ((113 : Nat), PV.undef), ((116 : Nat), PV.undef),
 ((129 : Nat), PV.undef), (134, PV.undef), (145, PV.undef)]
 [((2 : Nat) + (32 : Nat),
 PV.agg
 [PV.int .i64 kd, PV.bool bv, PV.str sv,
 PV.row nk (BRow.strs ks) (0 : Nat),
 PV.vec nl (5 : Nat) ls (0 : Nat)])] =
 VS.mk []
 [(0,
 PV.agg
 [PV.int .i64 kd, PV.bool bv, PV.str sv,
 PV.row nk (BRow.strs ks) (0 : Nat), PV.vec nl (5 : Nat) ls (0 : Nat)]),
 (1, PV.int .i64 d),
 (2, PV.ptr ((2 : Nat) + (32 : Nat)) (0 : Nat)), (4, PV.bool false),
 ((5 : Nat), PV.int .i64 (x + (1 : Int))), ((6 : Nat), PV.undef),
 (7, PV.undef),
 (66,
 PV.bool
 (bif
 bif
 bif
 bif bif decide (kd < (0 : Int)) then true else decide ((5 : Int) < kd) then true
 else bif bv then !decide (kd = (1 : Int)) else false then
 true
 else
 bif
 bif !decide (sv = (ByteArray.mk #[]).data.toList) then
 !decide (kd = (2 : Int))
 else false then
 !decide (kd = (3 : Int))
 else false then
 true
 else
 bif
 bif decide ((0 : Int) < lenZ ls) then !decide (kd = (4 : Int))
 else false then
 !decide (kd = (5 : Int))
 else false then
 true
 else
 bif decide ((0 : Int) < Int.ofNat ks.length) then !decide (kd = (5 : Int)) else false)),
 (68, PV.int .i64 kd),
 (69, PV.bool (decide (kd = (2 : Int)))),
 (74, PV.bool (decide (kd = (3 : Int)))),
 (80, PV.bool (decide (kd = (5 : Int)))), (98, PV.undef),
 ((103 : Nat), PV.undef), ((113 : Nat), PV.undef), ((116 : Nat), PV.undef),
 ((129 : Nat), PV.undef), (134, PV.undef), (145, PV.undef)]
 [((2 : Nat) + (32 : Nat),
 PV.agg
 [PV.int .i64 kd, PV.bool bv, PV.str sv,
 PV.row nk (BRow.strs ks) (0 : Nat),
 PV.vec nl (5 : Nat) ls (0 : Nat)])] ∧
 ((0 : Int) ≤ x + (1 : Int) ∧
 x + (1 : Int) ≤ ↑ks.length ∧
 (List.take (x + (1 : Int)).toNat ks).all validL = true ∧
 nodupJ (List.take (x + (1 : Int)).toNat ks) = true) ∧
 (↑ks.length - (x + (1 : Int))).toNat < (↑ks.length - x).toNat))) ∧
 (decide (x < Int.ofNat ks.length) = false →
 VS.mk []
 [(0,
 PV.agg
 [PV.int .i64 kd, PV.bool bv, PV.str sv, PV.row nk (BRow.strs ks) (0 : Nat),
 PV.vec nl (5 : Nat) ls (0 : Nat)]),
 (1, PV.int .i64 d), (2, PV.ptr ((2 : Nat) + (32 : Nat)) (0 : Nat)),
 (4, PV.bool false), ((5 : Nat), PV.int .i64 x), ((6 : Nat), PV.undef),
 (7, PV.int .i64 (0 : Int)),
 (66,
 PV.bool
 (bif
 bif
 bif
 bif bif decide (kd < (0 : Int)) then true else decide ((5 : Int) < kd) then true
 else bif bv then !decide (kd = (1 : Int)) else false then
 true
 else
 bif bif !decide (sv = (ByteArray.mk #[]).data.toList) then !decide (kd = (2 : Int)) else false then
 !decide (kd = (3 : Int))
 else false then
 true
 else
 bif bif decide ((0 : Int) < lenZ ls) then !decide (kd = (4 : Int)) else false then
 !decide (kd = (5 : Int))
 else false then
 true
 else bif decide ((0 : Int) < Int.ofNat ks.length) then !decide (kd = (5 : Int)) else false)),
 (68, PV.int .i64 kd), (69, PV.bool (decide (kd = (2 : Int)))),
 (74, PV.bool (decide (kd = (3 : Int)))), (80, PV.bool (decide (kd = (5 : Int)))),
 (98, PV.undef), ((103 : Nat), PV.bool (decide (x < Int.ofNat ks.length))),
 ((113 : Nat), PV.undef), ((116 : Nat), PV.undef), ((129 : Nat), PV.undef),
 ((134 : Nat), PV.undef), ((145 : Nat), PV.undef)]
 [((2 : Nat) + (32 : Nat),
 PV.agg
 [PV.int .i64 kd, PV.bool bv, PV.str sv, PV.row nk (BRow.strs ks) (0 : Nat),
 PV.vec nl (5 : Nat) ls (0 : Nat)])] =
 VS.mk []
 [(0,
 PV.agg
 [PV.int .i64 kd, PV.bool bv, PV.str sv, PV.row nk (BRow.strs ks) (0 : Nat),
 PV.vec nl (5 : Nat) ls (0 : Nat)]),
 (1, PV.int .i64 d), (2, PV.ptr ((2 : Nat) + (32 : Nat)) (0 : Nat)),
 (4, PV.bool false), ((5 : Nat), PV.int .i64 x), ((6 : Nat), PV.undef),
 ((7 : Nat), PV.int .i64 (0 : Int)),
 (66,
 PV.bool
 (bif
 bif
 bif
 bif bif decide (kd < (0 : Int)) then true else decide ((5 : Int) < kd) then true
 else bif bv then !decide (kd = (1 : Int)) else false then
 true
 else
 bif bif !decide (sv = (ByteArray.mk #[]).data.toList) then !decide (kd = (2 : Int)) else false then
 !decide (kd = (3 : Int))
 else false then
 true
 else
 bif bif decide ((0 : Int) < lenZ ls) then !decide (kd = (4 : Int)) else false then
 !decide (kd = (5 : Int))
 else false then
 true
 else bif decide ((0 : Int) < Int.ofNat ks.length) then !decide (kd = (5 : Int)) else false)),
 (68, PV.int .i64 kd), (69, PV.bool (decide (kd = (2 : Int)))),
 (74, PV.bool (decide (kd = (3 : Int)))), (80, PV.bool (decide (kd = (5 : Int)))),
 (98, PV.undef), ((103 : Nat), PV.bool (decide (x < Int.ofNat ks.length))),
 ((113 : Nat), PV.undef), ((116 : Nat), PV.undef), ((129 : Nat), PV.undef),
 ((134 : Nat), PV.undef), ((145 : Nat), PV.undef)]
 [((2 : Nat) + (32 : Nat),
 PV.agg
 [PV.int .i64 kd, PV.bool bv, PV.str sv, PV.row nk (BRow.strs ks) (0 : Nat),
 PV.vec nl (5 : Nat) ls (0 : Nat)])] ∧
 ((0 : Int) ≤ (0 : Int) ∧
 (0 : Int) ≤ ↑ls.length ∧
 mayJs isNumM validL
 (List.drop (Int.toNat (0 : Int)) (jdecs ls)) ((127 : Int) - d).toNat =
 mayJs isNumM validL (jdecs ls)
 ((127 : Int) - d).toNat) ∧
 ∀ (x_1 : Int),
 (0 : Int) ≤ x_1 ∧
 x_1 ≤ ↑ls.length ∧
 mayJs isNumM validL
 (List.drop x_1.toNat (jdecs ls)) ((127 : Int) - d).toNat =
 mayJs isNumM validL (jdecs ls)
 ((127 : Int) - d).toNat →
 (decide (x_1 < lenZ ls) = true →
 within x_1 (lenZ ls) ∧
 eltV ls x_1 =
 PV.agg
 [PV.int .i64
 ((eltV ls x_1).part (0 : Nat)).asInt,
 PV.bool
 ((eltV ls x_1).part
 (1 : Nat)).asBool,
 PV.str
 ((eltV ls x_1).part
 (2 : Nat)).asStr,
 PV.row
 ((eltV ls x_1).part
 (3 : Nat)).asNil
 (BRow.strs
 ((eltV ls x_1).part
 (3 : Nat)).asStrs)
 (0 : Nat),
 PV.vec
 ((eltV ls x_1).part
 (4 : Nat)).asNil
 (nat_lit 5)
 ((eltV ls x_1).part
 (4 : Nat)).asVec
 (0 : Nat)] ∧
 inI64 (d + (1 : Int)) ∧
 (isJs
 ((eltV ls x_1).part
 (4 : Nat)).asVec ∧
 okJ m
 (JV.mk
 ((eltV ls x_1).part (0 : Nat)).asInt
 ((eltV ls x_1).part
 (1 : Nat)).asBool
 ((eltV ls x_1).part
 (2 : Nat)).asStr
 ((eltV ls x_1).part
 (3 : Nat)).asNil
 ((eltV ls x_1).part
 (3 : Nat)).asStrs
 ((eltV ls x_1).part
 (4 : Nat)).asNil
 (jdecs
 ((eltV ls x_1).part
 (4 : Nat)).asVec)) ∧
 sizeJ
 (JV.mk
 ((eltV ls x_1).part (0 : Nat)).asInt
 ((eltV ls x_1).part
 (1 : Nat)).asBool
 ((eltV ls x_1).part
 (2 : Nat)).asStr
 ((eltV ls x_1).part
 (3 : Nat)).asNil
 ((eltV ls x_1).part
 (3 : Nat)).asStrs
 ((eltV ls x_1).part
 (4 : Nat)).asNil
 (jdecs
 ((eltV ls x_1).part
 (4 : Nat)).asVec)) ≤
 (600000 : Nat) ∧
 (0 : Int) ≤ d + (1 : Int) ∧ d + (1 : Int) ≤ (128 : Int)) ∧
 ((!mayJ isNumM validL
 (JV.mk
 ((eltV ls x_1).part (0 : Nat)).asInt
 ((eltV ls x_1).part
 (1 : Nat)).asBool
 ((eltV ls x_1).part
 (2 : Nat)).asStr
 ((eltV ls x_1).part
 (3 : Nat)).asNil
 ((eltV ls x_1).part
 (3 : Nat)).asStrs
 ((eltV ls x_1).part
 (4 : Nat)).asNil
 (jdecs
 ((eltV ls x_1).part
 (4 : Nat)).asVec))
 ((128 : Int) - (d + (1 : Int))).toNat) =
 true →
 k (PV.bool false)) ∧
 ((!mayJ isNumM validL
 (JV.mk
 ((eltV ls x_1).part (0 : Nat)).asInt
 ((eltV ls x_1).part
 (1 : Nat)).asBool
 ((eltV ls x_1).part
 (2 : Nat)).asStr
 ((eltV ls x_1).part
 (3 : Nat)).asNil
 ((eltV ls x_1).part
 (3 : Nat)).asStrs
 ((eltV ls x_1).part
 (4 : Nat)).asNil
 (jdecs
 ((eltV ls x_1).part
 (4 : Nat)).asVec))
 ((128 : Int) - (d + (1 : Int))).toNat) =
 false →
 inI64 (x_1 + (1 : Int)) ∧
 VS.mk []
 [(0,
 PV.agg
 [PV.int .i64 kd, PV.bool bv, PV.str sv,
 PV.row nk (BRow.strs ks) (0 : Nat),
 PV.vec nl (5 : Nat) ls (0 : Nat)]),
 (1, PV.int .i64 d),
 (2, PV.ptr ((2 : Nat) + (32 : Nat)) (0 : Nat)),
 (4, PV.bool false), ((5 : Nat), PV.int .i64 x),
 ((6 : Nat), PV.undef), ((7 : Nat), PV.int .i64 (x_1 + (1 : Int))),
 (66,
 PV.bool
 (bif
 bif
 bif
 bif bif decide (kd < (0 : Int)) then true else decide ((5 : Int) < kd) then
 true
 else bif bv then !decide (kd = (1 : Int)) else false then
 true
 else
 bif
 bif !decide (sv = (ByteArray.mk #[]).data.toList) then
 !decide (kd = (2 : Int))
 else false then
 !decide (kd = (3 : Int))
 else false then
 true
 else
 bif
 bif decide ((0 : Int) < lenZ ls) then !decide (kd = (4 : Int))
 else false then
 !decide (kd = (5 : Int))
 else false then
 true
 else
 bif decide ((0 : Int) < Int.ofNat ks.length) then !decide (kd = (5 : Int)) else false)),
 (68, PV.int .i64 kd),
 (69, PV.bool (decide (kd = (2 : Int)))),
 (74, PV.bool (decide (kd = (3 : Int)))),
 (80, PV.bool (decide (kd = (5 : Int)))), (98, PV.undef),
 ((103 : Nat), PV.bool (decide (x < Int.ofNat ks.length))),
 ((113 : Nat), PV.undef), ((116 : Nat), PV.undef), ((129 : Nat), PV.undef),
 ((134 : Nat), PV.undef), ((145 : Nat), PV.undef)]
 [((2 : Nat) + (32 : Nat),
 PV.agg
 [PV.int .i64 kd, PV.bool bv, PV.str sv,
 PV.row nk (BRow.strs ks) (0 : Nat),
 PV.vec nl (5 : Nat) ls (0 : Nat)])] =
 VS.mk []
 [(0,
 PV.agg
 [PV.int .i64 kd, PV.bool bv, PV.str sv,
 PV.row nk (BRow.strs ks) (0 : Nat),
 PV.vec nl (5 : Nat) ls (0 : Nat)]),
 (1, PV.int .i64 d),
 (2, PV.ptr ((2 : Nat) + (32 : Nat)) (0 : Nat)),
 (4, PV.bool false), ((5 : Nat), PV.int .i64 x),
 ((6 : Nat), PV.undef), ((7 : Nat), PV.int .i64 (x_1 + (1 : Int))),
 (66,
 PV.bool
 (bif
 bif
 bif
 bif bif decide (kd < (0 : Int)) then true else decide ((5 : Int) < kd) then
 true
 else bif bv then !decide (kd = (1 : Int)) else false then
 true
 else
 bif
 bif !decide (sv = (ByteArray.mk #[]).data.toList) then
 !decide (kd = (2 : Int))
 else false then
 !decide (kd = (3 : Int))
 else false then
 true
 else
 bif
 bif decide ((0 : Int) < lenZ ls) then !decide (kd = (4 : Int))
 else false then
 !decide (kd = (5 : Int))
 else false then
 true
 else
 bif decide ((0 : Int) < Int.ofNat ks.length) then !decide (kd = (5 : Int)) else false)),
 (68, PV.int .i64 kd),
 (69, PV.bool (decide (kd = (2 : Int)))),
 (74, PV.bool (decide (kd = (3 : Int)))),
 (80, PV.bool (decide (kd = (5 : Int)))), (98, PV.undef),
 ((103 : Nat), PV.bool (decide (x < Int.ofNat ks.length))),
 ((113 : Nat), PV.undef), ((116 : Nat), PV.undef), ((129 : Nat), PV.undef),
 ((134 : Nat), PV.undef), ((145 : Nat), PV.undef)]
 [((2 : Nat) + (32 : Nat),
 PV.agg
 [PV.int .i64 kd, PV.bool bv, PV.str sv,
 PV.row nk (BRow.strs ks) (0 : Nat),
 PV.vec nl (5 : Nat) ls (0 : Nat)])] ∧
 ((0 : Int) ≤ x_1 + (1 : Int) ∧
 x_1 + (1 : Int) ≤ ↑ls.length ∧
 mayJs isNumM validL
 (List.drop (x_1 + (1 : Int)).toNat (jdecs ls)) ((127 : Int) - d).toNat =
 mayJs isNumM validL
 (jdecs ls) ((127 : Int) - d).toNat) ∧
 (↑ls.length - (x_1 + (1 : Int))).toNat < (↑ls.length - x_1).toNat)) ∧
 (decide (x_1 < lenZ ls) = false → k (PV.bool true))))))))) := by kernel_rfl
attribute [local irreducible] Go.Vc.evF
theorem ok_rmay (m : Nat) (ih : ∀ xs c, ent_rmay m xs = some c → FuncOk Try.prog noT 20 xs c) (kd : Int) (bv : Bool) (sv : Bs) (nk : Bool) (ks : List Bs) (nl : Bool) (ls : List PV) (d : Int) : FuncOk Try.prog noT 20 [.agg [.int .i64 kd, .bool bv, .str sv, .row nk (.strs ks) 0, .vec nl 5 ls 0], .int .i64 d] ⟨isJs ls ∧ okJ ((m + 1)) (.mk kd bv sv nk ks nl (jdecs ls)) ∧ sizeJ (.mk kd bv sv nk ks nl (jdecs ls)) ≤ 600000 ∧ 0 ≤ d ∧ d ≤ 128, .bool (mayJ isNumM validL (.mk kd bv sv nk ks nl (jdecs ls)) (128 - d).toNat)⟩ := evF_ok (by kernel_rfl) (X_rmay_ok m ih) (H := H_rmay m kd bv sv nk ks nl ls d) (fuel := 1000) Try.func20 (by kernel_rfl) fun hpre => (vc_rmay m kd bv sv nk ks nl ls d _).mpr (by
  obtain ⟨⟨js, rfl⟩, hok, hsz, hd0, hd1⟩ := hpre
  rw [jdecs_pvs] at hok hsz
  rw [sizeJ] at hsz
  obtain ⟨hk, hs, hks, hkl, hls, hj⟩ := hok
  simp only [JV.k, JV.s, JV.ks, JV.ls] at hk hs hks hkl hls hj
  have hml : bigJ = 140737488355328 := rfl
  have e0 : (decide (sv = (ByteArray.mk #[]).data.toList)) = sv.isEmpty := nil0 sv
  have e1 : decide ((0 : Int) < (js.length : Int)) = !js.isEmpty := by cases js <;> simp
  have e2 : decide ((0 : Int) < Int.ofNat ks.length) = !ks.isEmpty := by cases ks <;> simp
  have hkn := keys_le ks
  have em : Go.Vc.maxLen = 1099511627776 := rfl
  have e3 : decide (Int.ofNat ks.length = (js.length : Int)) = decide (ks.length = js.length) := decide_eq_decide.2 (by simp only [Int.ofNat_eq_natCast]; omega)
  simp only [e0, jdecs_pvs, pvs_lenZ, pvs_length, e1, e2, e3]
  have hH := rhead isNumM validL kd bv sv nk ks nl js (128 - d).toNat _ rfl
  refine ⟨fun h => ?_, fun h => ?_⟩
  · show PV.bool _ = PV.bool _
    rw [hH.1 h]
  obtain ⟨r2, r3, r4, r5, r0⟩ := hH.2 h
  have eD : (128 - d).toNat - 1 = (127 - d).toNat := by omega
  refine ⟨fun k2 => ⟨(by show sv.length ≤ 1000000; omega), ?_⟩, fun k2 => ?_⟩
  · show PV.bool _ = PV.bool _
    rw [r2 (of_decide_eq_true k2)]
  have k2 := of_decide_eq_false k2
  refine ⟨fun k3 => ⟨by omega, (by show sv.length ≤ 1000000; omega), ?_⟩, fun k3 => ?_⟩
  · show PV.bool _ = PV.bool _
    rw [r3 (of_decide_eq_true k3)]
  have k3 := of_decide_eq_false k3
  refine ⟨fun k4 => ⟨fun _ => ⟨fun g => ?_, fun g => ?_⟩, fun k4' => by rw [k4] at k4'; cases k4'⟩, fun k4 => ?_⟩
  · have k4 := of_decide_eq_true k4
    have g1 : 128 ≤ d := by subst k4; simpa using g
    show PV.bool _ = PV.bool _
    rw [(r4 k4).2, decide_eq_false (by omega)]; rfl
  · have k4 := of_decide_eq_true k4
    have g1 : ¬ 128 ≤ d := by subst k4; simpa using g
    obtain ⟨hk0, hR⟩ := r4 k4
    have hR : mayJ isNumM validL (.mk kd bv sv nk ks nl js) (128 - d).toNat = (ks.all validL && (nodupJ ks && mayJs isNumM validL js (127 - d).toNat)) := by
      rw [hR, hk0, decide_eq_true (show 0 < (128 - d).toNat by omega), eD]; rfl
    have hD : 0 < js.length → d ≤ 127 := fun _ => by omega
    refine ⟨by first | rfl | trivial, ⟨by omega, by omega, by first | rfl | simp, by first | rfl | simp [nodupJ]⟩, fun x hx => ?_⟩
    obtain ⟨h0, h1, h2, h3⟩ := hx
    obtain ⟨n, rfl⟩ := Int.eq_ofNat_of_zero_le h0
    rw [Int.toNat_natCast] at h2 h3
    refine ⟨fun g => ?_, fun g => ?_⟩
    · have g1 : n < ks.length := by have := of_decide_eq_true g; simpa using this
      have es := Go.Proofs.Jv.str_at g1
      simp only [es]
      have hl := key_le (List.getElem_mem g1)
      refine ⟨⟨by omega, by simp only [Int.ofNat_eq_natCast]; omega⟩, by omega, (by show ks[n].length ≤ 1000000; omega), fun f => ?_, fun f => ?_⟩
      · show PV.bool _ = PV.bool _
        have f1 : validL ks[n] = false := by simpa using f
        have f2 : ks.all validL = false := by
          rw [Bool.eq_false_iff]; intro e; have := List.all_eq_true.1 e _ (List.getElem_mem g1); rw [f1] at this; cases this
        rw [hR, f2]; rfl
      · have f1 : validL ks[n] = true := by simpa using f
        refine ⟨by first | rfl | trivial, ⟨by omega, by omega, by first | rfl | simp⟩, fun y hy => ?_⟩
        obtain ⟨k0, k1, k2⟩ := hy
        obtain ⟨j, rfl⟩ := Int.eq_ofNat_of_zero_le k0
        rw [Int.toNat_natCast] at k2
        refine ⟨fun q => ?_, fun q => ?_⟩
        · have q1 : j < n := by have := of_decide_eq_true q; omega
          have ej := Go.Proofs.Jv.str_at (l := ks) (n := j) (by omega)
          simp only [ej]
          refine ⟨⟨by omega, by simp only [Int.ofNat_eq_natCast]; omega⟩, ⟨by omega, by simp only [Int.ofNat_eq_natCast]; omega⟩, fun e => ?_, fun e => ?_⟩
          · have e1 := of_decide_eq_true e
            show PV.bool _ = PV.bool _
            rw [hR, nodup_two q1 g1 e1]; simp
          · have e1 := of_decide_eq_false e
            refine ⟨by unfold inI64; omega, by first | rfl | trivial, ⟨by omega, by omega, ?_⟩, by omega⟩
            rw [show ((j : Int) + 1).toNat = j + 1 by omega, take_contains (by omega), k2]
            simpa using fun e => e1 e.symm
        · have q1 : j = n := by have := of_decide_eq_false q; omega
          subst q1
          have en : ((j : Int) + 1).toNat = j + 1 := by omega
          refine ⟨by unfold inI64; omega, by first | rfl | trivial, ⟨by omega, by omega, ?_, ?_⟩, by omega⟩
          · rw [en, all_take g1, h2, f1]; rfl
          · rw [en, nodup_take g1, h3, k2]; rfl
    · have g1 : ks.length ≤ n := by have := of_decide_eq_false g; simp only [Int.ofNat_eq_natCast] at this; omega
      rw [List.take_of_length_le g1] at h2 h3
      rw [h2, h3] at hR
      refine ⟨by first | rfl | trivial, ⟨by omega, by omega, rfl⟩, fun y hy => ?_⟩
      obtain ⟨f0, f1, f2⟩ := hy
      obtain ⟨a, rfl⟩ := Int.eq_ofNat_of_zero_le f0
      rw [Int.toNat_natCast] at f2
      refine ⟨fun q => ?_, fun q => ?_⟩
      · have q1 : a < js.length := by have := of_decide_eq_true q; omega
        have y1 := hj _ (List.getElem_mem q1)
        have z1 := sizeJs_memL (List.getElem_mem q1)
        have hd := hD (by omega)
        have ed : (128 - (d + 1)).toNat = (127 - d).toNat := by omega
        simp only [elt_jv q1, jp0, jp1, jp2, jp3, jp3', jp4, jp4', jdecs_pvs, JV.eta', ed]
        refine ⟨⟨by omega, by omega⟩, JV.pv_eq _, by unfold inI64; omega, ⟨isJs_of _, y1, by omega, by omega, by omega⟩, fun f => ?_, fun f => ?_⟩
        · show PV.bool _ = PV.bool _
          have f : mayJ isNumM validL js[a] (127 - d).toNat = false := by simpa using f
          rw [hR, ← f2, mayJs_drop q1, f]; simp
        · refine ⟨by unfold inI64; omega, by first | rfl | trivial, ⟨by omega, by omega, ?_⟩, by omega⟩
          have f : mayJ isNumM validL js[a] (127 - d).toNat = true := by simpa using f
          rw [show ((a : Int) + 1).toNat = a + 1 by omega, ← f2, mayJs_drop q1, f]; rfl
      · have q1 : ¬ (a : Int) < js.length := of_decide_eq_false q
        show PV.bool _ = PV.bool _
        rw [hR, ← f2, List.drop_of_length_le (by omega), mayJs]; rfl
  have k4 := of_decide_eq_false k4
  refine ⟨fun k5 => ⟨fun g => ?_, fun g => ?_⟩, fun k5 => ?_⟩
  · have k5 := of_decide_eq_true k5
    show PV.bool _ = PV.bool _
    rw [r5 k5]
    rw [decide_eq_true k5] at g
    by_cases g1 : 128 ≤ d
    · rw [decide_eq_false (show ¬ 0 < (128 - d).toNat by omega)]; simp
    · rw [decide_eq_false g1] at g
      have g2 : decide (ks.length = js.length) = false := by simpa using g
      rw [g2]; rfl
  · have k5 := of_decide_eq_true k5
    rw [decide_eq_true k5] at g
    have g1 : ¬ 128 ≤ d := fun e => by rw [decide_eq_true e] at g; cases g
    rw [decide_eq_false g1] at g
    have g2 : decide (ks.length = js.length) = true := by simpa using g
    have hR : mayJ isNumM validL (.mk kd bv sv nk ks nl js) (128 - d).toNat = (ks.all validL && (nodupJ ks && mayJs isNumM validL js (127 - d).toNat)) := by
      rw [r5 k5, g2, decide_eq_true (show 0 < (128 - d).toNat by omega), eD]; simp only [Bool.true_and, Bool.and_true, Bool.and_assoc]
    have hD : 0 < js.length → d ≤ 127 := fun _ => by omega
    refine ⟨by first | rfl | trivial, ⟨by omega, by omega, by first | rfl | simp, by first | rfl | simp [nodupJ]⟩, fun x hx => ?_⟩
    obtain ⟨h0, h1, h2, h3⟩ := hx
    obtain ⟨n, rfl⟩ := Int.eq_ofNat_of_zero_le h0
    rw [Int.toNat_natCast] at h2 h3
    refine ⟨fun g => ?_, fun g => ?_⟩
    · have g1 : n < ks.length := by have := of_decide_eq_true g; simpa using this
      have es := Go.Proofs.Jv.str_at g1
      simp only [es]
      have hl := key_le (List.getElem_mem g1)
      refine ⟨⟨by omega, by simp only [Int.ofNat_eq_natCast]; omega⟩, by omega, (by show ks[n].length ≤ 1000000; omega), fun f => ?_, fun f => ?_⟩
      · show PV.bool _ = PV.bool _
        have f1 : validL ks[n] = false := by simpa using f
        have f2 : ks.all validL = false := by
          rw [Bool.eq_false_iff]; intro e; have := List.all_eq_true.1 e _ (List.getElem_mem g1); rw [f1] at this; cases this
        rw [hR, f2]; rfl
      · have f1 : validL ks[n] = true := by simpa using f
        refine ⟨by first | rfl | trivial, ⟨by omega, by omega, by first | rfl | simp⟩, fun y hy => ?_⟩
        obtain ⟨k0, k1, k2⟩ := hy
        obtain ⟨j, rfl⟩ := Int.eq_ofNat_of_zero_le k0
        rw [Int.toNat_natCast] at k2
        refine ⟨fun q => ?_, fun q => ?_⟩
        · have q1 : j < n := by have := of_decide_eq_true q; omega
          have ej := Go.Proofs.Jv.str_at (l := ks) (n := j) (by omega)
          simp only [ej]
          refine ⟨⟨by omega, by simp only [Int.ofNat_eq_natCast]; omega⟩, ⟨by omega, by simp only [Int.ofNat_eq_natCast]; omega⟩, fun e => ?_, fun e => ?_⟩
          · have e1 := of_decide_eq_true e
            show PV.bool _ = PV.bool _
            rw [hR, nodup_two q1 g1 e1]; simp
          · have e1 := of_decide_eq_false e
            refine ⟨by unfold inI64; omega, by first | rfl | trivial, ⟨by omega, by omega, ?_⟩, by omega⟩
            rw [show ((j : Int) + 1).toNat = j + 1 by omega, take_contains (by omega), k2]
            simpa using fun e => e1 e.symm
        · have q1 : j = n := by have := of_decide_eq_false q; omega
          subst q1
          have en : ((j : Int) + 1).toNat = j + 1 := by omega
          refine ⟨by unfold inI64; omega, by first | rfl | trivial, ⟨by omega, by omega, ?_, ?_⟩, by omega⟩
          · rw [en, all_take g1, h2, f1]; rfl
          · rw [en, nodup_take g1, h3, k2]; rfl
    · have g1 : ks.length ≤ n := by have := of_decide_eq_false g; simp only [Int.ofNat_eq_natCast] at this; omega
      rw [List.take_of_length_le g1] at h2 h3
      rw [h2, h3] at hR
      refine ⟨by first | rfl | trivial, ⟨by omega, by omega, rfl⟩, fun y hy => ?_⟩
      obtain ⟨f0, f1, f2⟩ := hy
      obtain ⟨a, rfl⟩ := Int.eq_ofNat_of_zero_le f0
      rw [Int.toNat_natCast] at f2
      refine ⟨fun q => ?_, fun q => ?_⟩
      · have q1 : a < js.length := by have := of_decide_eq_true q; omega
        have y1 := hj _ (List.getElem_mem q1)
        have z1 := sizeJs_memL (List.getElem_mem q1)
        have hd := hD (by omega)
        have ed : (128 - (d + 1)).toNat = (127 - d).toNat := by omega
        simp only [elt_jv q1, jp0, jp1, jp2, jp3, jp3', jp4, jp4', jdecs_pvs, JV.eta', ed]
        refine ⟨⟨by omega, by omega⟩, JV.pv_eq _, by unfold inI64; omega, ⟨isJs_of _, y1, by omega, by omega, by omega⟩, fun f => ?_, fun f => ?_⟩
        · show PV.bool _ = PV.bool _
          have f : mayJ isNumM validL js[a] (127 - d).toNat = false := by simpa using f
          rw [hR, ← f2, mayJs_drop q1, f]; simp
        · refine ⟨by unfold inI64; omega, by first | rfl | trivial, ⟨by omega, by omega, ?_⟩, by omega⟩
          have f : mayJ isNumM validL js[a] (127 - d).toNat = true := by simpa using f
          rw [show ((a : Int) + 1).toNat = a + 1 by omega, ← f2, mayJs_drop q1, f]; rfl
      · have q1 : ¬ (a : Int) < js.length := of_decide_eq_false q
        show PV.bool _ = PV.bool _
        rw [hR, ← f2, List.drop_of_length_le (by omega), mayJs]; rfl
  have k5 := of_decide_eq_false k5
  obtain ⟨hk0, hl0, hR0⟩ := r0 k2 k3 k4 k5
  have hR : mayJ isNumM validL (.mk kd bv sv nk ks nl js) (128 - d).toNat = (ks.all validL && (nodupJ ks && mayJs isNumM validL js (127 - d).toNat)) := by
    rw [hR0, hk0, hl0, mayJs]; rfl
  have hD : 0 < js.length → d ≤ 127 := fun h => by rw [hl0] at h; simp at h
  refine ⟨by first | rfl | trivial, ⟨by omega, by omega, by first | rfl | simp, by first | rfl | simp [nodupJ]⟩, fun x hx => ?_⟩
  obtain ⟨h0, h1, h2, h3⟩ := hx
  obtain ⟨n, rfl⟩ := Int.eq_ofNat_of_zero_le h0
  rw [Int.toNat_natCast] at h2 h3
  refine ⟨fun g => ?_, fun g => ?_⟩
  · have g1 : n < ks.length := by have := of_decide_eq_true g; simpa using this
    have es := Go.Proofs.Jv.str_at g1
    simp only [es]
    have hl := key_le (List.getElem_mem g1)
    refine ⟨⟨by omega, by simp only [Int.ofNat_eq_natCast]; omega⟩, by omega, (by show ks[n].length ≤ 1000000; omega), fun f => ?_, fun f => ?_⟩
    · show PV.bool _ = PV.bool _
      have f1 : validL ks[n] = false := by simpa using f
      have f2 : ks.all validL = false := by
        rw [Bool.eq_false_iff]; intro e; have := List.all_eq_true.1 e _ (List.getElem_mem g1); rw [f1] at this; cases this
      rw [hR, f2]; rfl
    · have f1 : validL ks[n] = true := by simpa using f
      refine ⟨by first | rfl | trivial, ⟨by omega, by omega, by first | rfl | simp⟩, fun y hy => ?_⟩
      obtain ⟨k0, k1, k2⟩ := hy
      obtain ⟨j, rfl⟩ := Int.eq_ofNat_of_zero_le k0
      rw [Int.toNat_natCast] at k2
      refine ⟨fun q => ?_, fun q => ?_⟩
      · have q1 : j < n := by have := of_decide_eq_true q; omega
        have ej := Go.Proofs.Jv.str_at (l := ks) (n := j) (by omega)
        simp only [ej]
        refine ⟨⟨by omega, by simp only [Int.ofNat_eq_natCast]; omega⟩, ⟨by omega, by simp only [Int.ofNat_eq_natCast]; omega⟩, fun e => ?_, fun e => ?_⟩
        · have e1 := of_decide_eq_true e
          show PV.bool _ = PV.bool _
          rw [hR, nodup_two q1 g1 e1]; simp
        · have e1 := of_decide_eq_false e
          refine ⟨by unfold inI64; omega, by first | rfl | trivial, ⟨by omega, by omega, ?_⟩, by omega⟩
          rw [show ((j : Int) + 1).toNat = j + 1 by omega, take_contains (by omega), k2]
          simpa using fun e => e1 e.symm
      · have q1 : j = n := by have := of_decide_eq_false q; omega
        subst q1
        have en : ((j : Int) + 1).toNat = j + 1 := by omega
        refine ⟨by unfold inI64; omega, by first | rfl | trivial, ⟨by omega, by omega, ?_, ?_⟩, by omega⟩
        · rw [en, all_take g1, h2, f1]; rfl
        · rw [en, nodup_take g1, h3, k2]; rfl
  · have g1 : ks.length ≤ n := by have := of_decide_eq_false g; simp only [Int.ofNat_eq_natCast] at this; omega
    rw [List.take_of_length_le g1] at h2 h3
    rw [h2, h3] at hR
    refine ⟨by first | rfl | trivial, ⟨by omega, by omega, rfl⟩, fun y hy => ?_⟩
    obtain ⟨f0, f1, f2⟩ := hy
    obtain ⟨a, rfl⟩ := Int.eq_ofNat_of_zero_le f0
    rw [Int.toNat_natCast] at f2
    refine ⟨fun q => ?_, fun q => ?_⟩
    · have q1 : a < js.length := by have := of_decide_eq_true q; omega
      have y1 := hj _ (List.getElem_mem q1)
      have z1 := sizeJs_memL (List.getElem_mem q1)
      have hd := hD (by omega)
      have ed : (128 - (d + 1)).toNat = (127 - d).toNat := by omega
      simp only [elt_jv q1, jp0, jp1, jp2, jp3, jp3', jp4, jp4', jdecs_pvs, JV.eta', ed]
      refine ⟨⟨by omega, by omega⟩, JV.pv_eq _, by unfold inI64; omega, ⟨isJs_of _, y1, by omega, by omega, by omega⟩, fun f => ?_, fun f => ?_⟩
      · show PV.bool _ = PV.bool _
        have f : mayJ isNumM validL js[a] (127 - d).toNat = false := by simpa using f
        rw [hR, ← f2, mayJs_drop q1, f]; simp
      · refine ⟨by unfold inI64; omega, by first | rfl | trivial, ⟨by omega, by omega, ?_⟩, by omega⟩
        have f : mayJ isNumM validL js[a] (127 - d).toNat = true := by simpa using f
        rw [show ((a : Int) + 1).toNat = a + 1 by omega, ← f2, mayJs_drop q1, f]; rfl
    · have q1 : ¬ (a : Int) < js.length := of_decide_eq_false q
      show PV.bool _ = PV.bool _
      rw [hR, ← f2, List.drop_of_length_le (by omega), mayJs]; rfl)
theorem ent_rmay_ok : ∀ (n : Nat) xs c, ent_rmay n xs = some c → FuncOk Try.prog noT 20 xs c
  | 0, xs, c, h => by
    unfold ent_rmay at h
    split at h
    · injection h with h; subst h; exact .of_plain ⟨rfl, rfl⟩ fun hp => False.elim (hp.2.1)
    · cases h
  | m + 1, xs, c, h => by
    unfold ent_rmay at h
    split at h
    · injection h with h; subst h; exact ok_rmay m (ent_rmay_ok m) _ _ _ _ _ _ _ _
    · cases h
def entA_rmay : List PV → Option CallR := fun xs => match xs with
  | [.agg [.int .i64 kd, .bool bv, .str sv, .row nk (.strs ks) 0, .vec nl 5 ls 0], .int .i64 d] => some ⟨∃ dn : Nat, isJs ls ∧ okJ (dn) (.mk kd bv sv nk ks nl (jdecs ls)) ∧ sizeJ (.mk kd bv sv nk ks nl (jdecs ls)) ≤ 600000 ∧ 0 ≤ d ∧ d ≤ 128, .bool (mayJ isNumM validL (.mk kd bv sv nk ks nl (jdecs ls)) (128 - d).toNat)⟩
  | _ => none
theorem entA_rmay_ok : ∀ xs c, entA_rmay xs = some c → FuncOk Try.prog noT 20 xs c := fun xs c h => by
  unfold entA_rmay at h
  split at h
  · injection h with h; subst h; exact exI fun n => ent_rmay_ok n _ _ rfl
  · cases h
end
section
def X_rgmay : Tbl := tblX [(20, entA_rmay)]
def H_rgmay (kd : Int) (bv : Bool) (sv : Bs) (nk : Bool) (ks : List Bs) (nl : Bool) (ls : List PV) : Loops := fun i => none
theorem X_rgmay_ok : XOk Try.prog noT X_rgmay := tblX_cons entA_rmay_ok (tblX_nil)
theorem vc_rgmay (kd : Int) (bv : Bool) (sv : Bs) (nk : Bool) (ks : List Bs) (nl : Bool) (ls : List PV) (k : PV → Prop) : evF Try.prog X_rgmay noT (H_rgmay kd bv sv nk ks nl ls) 1000 Try.f13 [.agg [.int .i64 kd, .bool bv, .str sv, .row nk (.strs ks) 0, .vec nl 5 ls 0]] k = (
  (∃ (dn : Nat),
 isJs ls ∧
 okJ dn (JV.mk kd bv sv nk ks nl (jdecs ls)) ∧
 sizeJ (JV.mk kd bv sv nk ks nl (jdecs ls)) ≤ (600000 : Nat) ∧ (0 : Int) ≤ (0 : Int) ∧ (0 : Int) ≤ (128 : Int)) ∧
 k
 (PV.bool
 (mayJ isNumM validL (JV.mk kd bv sv nk ks nl (jdecs ls))
 ((128 : Int) - (0 : Int)).toNat))) := by kernel_rfl
attribute [local irreducible] Go.Vc.evF
theorem ok_rgmay (kd : Int) (bv : Bool) (sv : Bs) (nk : Bool) (ks : List Bs) (nl : Bool) (ls : List PV) : FuncOk Try.prog noT 13 [.agg [.int .i64 kd, .bool bv, .str sv, .row nk (.strs ks) 0, .vec nl 5 ls 0]] ⟨isJs ls ∧ (∃ q, okJ q (.mk kd bv sv nk ks nl (jdecs ls))) ∧ sizeJ (.mk kd bv sv nk ks nl (jdecs ls)) ≤ 600000, .bool (mayJ isNumM validL (.mk kd bv sv nk ks nl (jdecs ls)) 128)⟩ := evF_ok (by kernel_rfl) X_rgmay_ok (H := H_rgmay kd bv sv nk ks nl ls) (fuel := 1000) Try.func13 (by kernel_rfl) fun hpre => (vc_rgmay kd bv sv nk ks nl ls _).mpr (by
  obtain ⟨h1, h2, h3⟩ := hpre
  obtain ⟨q, h2⟩ := h2
  exact ⟨⟨q, h1, h2, h3, by omega, by omega⟩, rfl⟩)
def ent_rgmay : List PV → Option CallR := fun xs => match xs with
  | [.agg [.int .i64 kd, .bool bv, .str sv, .row nk (.strs ks) 0, .vec nl 5 ls 0]] => some ⟨isJs ls ∧ (∃ q, okJ q (.mk kd bv sv nk ks nl (jdecs ls))) ∧ sizeJ (.mk kd bv sv nk ks nl (jdecs ls)) ≤ 600000, .bool (mayJ isNumM validL (.mk kd bv sv nk ks nl (jdecs ls)) 128)⟩
  | _ => none
theorem ent_rgmay_ok : ∀ xs c, ent_rgmay xs = some c → FuncOk Try.prog noT 13 xs c := fun xs c h => by
  unfold ent_rgmay at h
  split at h
  · injection h with h; subst h; exact ok_rgmay _ _ _ _ _ _ _
  · cases h
end
section
mutual
theorem shape_of_may : ∀ (x : JV) (d : Nat), mayJ isNumM validL x d = true → shapeJ x = true
  | .mk k b s nk ks nl ls, d, h => by
    rw [mayJ] at h
    rw [shapeJ, Bool.and_eq_true, Bool.and_eq_true]
    have h3 : shapeJs ls = true := by
      split at h
      · simp only [Bool.and_eq_true] at h; rw [List.isEmpty_iff.1 h.2]; rfl
      split at h
      · simp only [Bool.and_eq_true] at h; rw [List.isEmpty_iff.1 h.2]; rfl
      split at h
      · simp only [Bool.and_eq_true] at h; rw [List.isEmpty_iff.1 h.2]; rfl
      split at h
      · simp only [Bool.and_eq_true] at h; rw [List.isEmpty_iff.1 h.2]; rfl
      split at h
      · simp only [Bool.and_eq_true] at h; exact shapes_of_may ls _ h.2
      split at h
      · simp only [Bool.and_eq_true] at h; exact shapes_of_may ls _ h.2
      · cases h
    refine ⟨⟨?_, ?_⟩, h3⟩
    · by_cases e : k = 5
      · subst e
        rw [if_neg (by decide), if_neg (by decide), if_neg (by decide), if_neg (by decide), if_neg (by decide), if_pos rfl] at h
        simp only [Bool.and_eq_true, decide_eq_true_eq] at h
        have := h.1.1.1.1.2
        simp; omega
      · simp [e]
    · by_cases e : k = 2
      · subst e
        rw [if_neg (by decide), if_neg (by decide), if_pos rfl] at h
        simp only [Bool.and_eq_true] at h
        have h1 := h.1.1.2
        cases s with
        | nil => exact absurd h1 (by decide +kernel)
        | cons c s => rfl
      · simp [e]
theorem shapes_of_may : ∀ (l : List JV) (d : Nat), mayJs isNumM validL l d = true → shapeJs l = true
  | [], d, h => rfl
  | x :: l, d, h => by
    rw [mayJs, Bool.and_eq_true] at h
    rw [shapeJs, Bool.and_eq_true]
    exact ⟨shape_of_may x d h.1, shapes_of_may l d h.2⟩
end
def X_rgshow : Tbl := tblX [(13, ent_rgmay), (14, entA_rtext)]
def H_rgshow (kd : Int) (bv : Bool) (sv : Bs) (nk : Bool) (ks : List Bs) (nl : Bool) (ls : List PV) : Loops := fun i => none
theorem X_rgshow_ok : XOk Try.prog noT X_rgshow := tblX_cons ent_rgmay_ok (tblX_cons entA_rtext_ok (tblX_nil))
theorem vc_rgshow (kd : Int) (bv : Bool) (sv : Bs) (nk : Bool) (ks : List Bs) (nl : Bool) (ls : List PV) (k : PV → Prop) : evF Try.prog X_rgshow noT (H_rgshow kd bv sv nk ks nl ls) 1000 Try.f7 [.agg [.int .i64 kd, .bool bv, .str sv, .row nk (.strs ks) 0, .vec nl 5 ls 0]] k = (
  (isJs ls ∧
 (∃ (q : Nat), okJ q (JV.mk kd bv sv nk ks nl (jdecs ls))) ∧
 sizeJ (JV.mk kd bv sv nk ks nl (jdecs ls)) ≤ (600000 : Nat)) ∧
 ((!mayJ isNumM validL (JV.mk kd bv sv nk ks nl (jdecs ls))
 (128 : Nat)) =
 true →
 k (PV.row true (BRow.bytes []) (0 : Nat))) ∧
 ((!mayJ isNumM validL (JV.mk kd bv sv nk ks nl (jdecs ls))
 (128 : Nat)) =
 false →
 (∃ (dn : Nat),
 isJs ls ∧
 okJ dn (JV.mk kd bv sv nk ks nl (jdecs ls)) ∧
 shapeJ (JV.mk kd bv sv nk ks nl (jdecs ls)) = true ∧
 sizeJ (JV.mk kd bv sv nk ks nl (jdecs ls)) ≤ (10000 : Nat)) ∧
 k (PV.row false (BRow.bytes (textJ (JV.mk kd bv sv nk ks nl (jdecs ls)))) (0 : Nat)))) := by kernel_rfl
attribute [local irreducible] Go.Vc.evF
theorem ok_rgshow (kd : Int) (bv : Bool) (sv : Bs) (nk : Bool) (ks : List Bs) (nl : Bool) (ls : List PV) : FuncOk Try.prog noT 7 [.agg [.int .i64 kd, .bool bv, .str sv, .row nk (.strs ks) 0, .vec nl 5 ls 0]] ⟨isJs ls ∧ (∃ q, okJ q (.mk kd bv sv nk ks nl (jdecs ls))) ∧ sizeJ (.mk kd bv sv nk ks nl (jdecs ls)) ≤ 10000, .row (!mayJ isNumM validL (.mk kd bv sv nk ks nl (jdecs ls)) 128) (.bytes (bif mayJ isNumM validL (.mk kd bv sv nk ks nl (jdecs ls)) 128 then textJ (.mk kd bv sv nk ks nl (jdecs ls)) else [])) 0⟩ := evF_ok (by kernel_rfl) X_rgshow_ok (H := H_rgshow kd bv sv nk ks nl ls) (fuel := 1000) Try.func7 (by kernel_rfl) fun hpre => (vc_rgshow kd bv sv nk ks nl ls _).mpr (by
  obtain ⟨⟨js, rfl⟩, ⟨q, hok⟩, hsz⟩ := hpre
  refine ⟨⟨isJs_of _, ⟨q, hok⟩, by omega⟩, fun h => ?_, fun h => ?_⟩
  · have h : mayJ isNumM validL (.mk kd bv sv nk ks nl (jdecs (JV.pvs js))) 128 = false := by simpa using h
    show PV.row _ _ _ = PV.row _ _ _
    rw [h]; rfl
  · have h : mayJ isNumM validL (.mk kd bv sv nk ks nl (jdecs (JV.pvs js))) 128 = true := by simpa using h
    refine ⟨⟨q, isJs_of _, hok, shape_of_may _ _ h, by omega⟩, ?_⟩
    show PV.row _ _ _ = PV.row _ _ _
    rw [h]; rfl)
def ent_rgshow : List PV → Option CallR := fun xs => match xs with
  | [.agg [.int .i64 kd, .bool bv, .str sv, .row nk (.strs ks) 0, .vec nl 5 ls 0]] => some ⟨isJs ls ∧ (∃ q, okJ q (.mk kd bv sv nk ks nl (jdecs ls))) ∧ sizeJ (.mk kd bv sv nk ks nl (jdecs ls)) ≤ 10000, .row (!mayJ isNumM validL (.mk kd bv sv nk ks nl (jdecs ls)) 128) (.bytes (bif mayJ isNumM validL (.mk kd bv sv nk ks nl (jdecs ls)) 128 then textJ (.mk kd bv sv nk ks nl (jdecs ls)) else [])) 0⟩
  | _ => none
theorem ent_rgshow_ok : ∀ xs c, ent_rgshow xs = some c → FuncOk Try.prog noT 7 xs c := fun xs c h => by
  unfold ent_rgshow at h
  split at h
  · injection h with h; subst h; exact ok_rgshow _ _ _ _ _ _ _
  · cases h
end
end Go.Proofs.Ytncfmmpdlcnboaa
namespace Go.Proofs.Ytncfmmpdlcnboaa
open Go Go.Proofs Go.RowKit Go.Vc Go.Proofs.Jv
theorem ok_same5 (nl : Bool) (l : Bs) : FuncOk Try.prog noT 8 [.row nl (.bytes l) 0] ⟨l.length ≤ 1000000, .bool true⟩ :=
  FuncOk.of_calls Try.func8 (by kernel_rfl) rfl fun hl F w vs hF _ hw hx => by
    obtain ⟨v, _, rfl, r1, rfl⟩ := hx
    exact ⟨_, (same_any v l w (sl_is8 hF r1) hl), fun G w => rfl⟩
def ent_same5 : List PV → Option CallR := fun xs => match xs with | [.row nl (.bytes l) 0] => some ⟨l.length ≤ 1000000, .bool true⟩ | _ => none
theorem ent_same5_ok : ∀ xs c, ent_same5 xs = some c → FuncOk Try.prog noT 8 xs c := fun xs c h => by
  unfold ent_same5 at h
  split at h
  · injection h with h; subst h; exact ok_same5 _ _
  · cases h
theorem ok_awake5 : FuncOk Try.prog noT 5 [] ⟨True, .bool true⟩ :=
  FuncOk.of_calls Try.func5 (by kernel_rfl) rfl fun hl F w vs hF _ hw hx => by
    obtain rfl := hx
    exact ⟨_, awake_any w, fun G w => rfl⟩
def ent_awake5 : List PV → Option CallR := fun xs => match xs with | [] => some ⟨True, .bool true⟩ | _ => none
theorem ent_awake5_ok : ∀ xs c, ent_awake5 xs = some c → FuncOk Try.prog noT 5 xs c := fun xs c h => by
  unfold ent_awake5 at h
  split at h
  · injection h with h; subst h; exact ok_awake5
  · cases h
end Go.Proofs.Ytncfmmpdlcnboaa
namespace Go.Proofs.Ytncfmmpdlcnboaa
open Go Go.Proofs Go.RowKit Go.Vc
open Go.Proofs.Jv
section
def X_tokturned : Tbl := tblX [(4, ent_heavy), (7, ent_rgshow), (6, ent_turned), (9, ent_low), (8, ent_same5), (5, ent_awake5)]
def H_tokturned (kd : Int) (bv : Bool) (sv : Bs) (nk : Bool) (ks : List Bs) (nl : Bool) (ls : List PV) (z0 b0 c0 : Int) : Loops := fun i => none
theorem X_tokturned_ok : XOk Try.prog noT X_tokturned := tblX_cons ent_heavy_ok (tblX_cons ent_rgshow_ok (tblX_cons ent_turned_ok (tblX_cons ent_low_ok (tblX_cons ent_same5_ok (tblX_cons ent_awake5_ok (tblX_nil))))))
theorem vc_tokturned (kd : Int) (bv : Bool) (sv : Bs) (nk : Bool) (ks : List Bs) (nl : Bool) (ls : List PV) (z0 b0 c0 : Int) (k : PV → Prop) : evF Try.prog X_tokturned noT (H_tokturned kd bv sv nk ks nl ls z0 b0 c0) 1000 Try.f3 [.agg [.int .i64 kd, .bool bv, .str sv, .row nk (.strs ks) 0, .vec nl 5 ls 0], .int .i64 z0, .int .u8 b0, .int .i64 c0] k = (
  (isJs ls ∧
 (∃ (q : Nat), okJ q (JV.mk kd bv sv nk ks nl (jdecs ls))) ∧
 (0 : Int) ≤ (300 : Int) ∧ (300 : Int) ≤ (1000000 : Int)) ∧
 (decide (wJ (JV.mk kd bv sv nk ks nl (jdecs ls)) (300 : Int) (0 : Int) < (0 : Int)) = true →
 True ∧ k (PV.bool true)) ∧
 (decide (wJ (JV.mk kd bv sv nk ks nl (jdecs ls)) (300 : Int) (0 : Int) < (0 : Int)) = false →
 (isJs ls ∧
 (∃ (q : Nat), okJ q (JV.mk kd bv sv nk ks nl (jdecs ls))) ∧
 sizeJ (JV.mk kd bv sv nk ks nl (jdecs ls)) ≤ (10000 : Nat)) ∧
 (List.length
 (bif
 mayJ isNumM validL
 (JV.mk kd bv sv nk ks nl (jdecs ls)) (128 : Nat) then
 textJ (JV.mk kd bv sv nk ks nl (jdecs ls))
 else []) ≤
 (100000 : Nat) ∧
 (-9223372036854775808 : Int) ≤ z0 ∧ z0 ≤ (9223372036854775807 : Int) ∧ (0 : Int) ≤ b0 ∧ b0 ≤ (255 : Int)) ∧
 List.length
 (turnM
 (bif
 mayJ isNumM validL
 (JV.mk kd bv sv nk ks nl (jdecs ls)) (128 : Nat) then
 textJ (JV.mk kd bv sv nk ks nl (jdecs ls))
 else [])
 z0 b0) ≤
 Go.Vc.maxLen ∧
 (List.length
 (turnM
 (bif
 mayJ isNumM validL
 (JV.mk kd bv sv nk ks nl (jdecs ls)) (128 : Nat) then
 textJ (JV.mk kd bv sv nk ks nl (jdecs ls))
 else [])
 z0 b0)).le
 (1000000 : Nat) ∧
 (true = true →
 inI64
 (lenZ
 (turnM
 (bif
 mayJ isNumM validL
 (JV.mk kd bv sv nk ks nl (jdecs ls)) (128 : Nat) then
 textJ (JV.mk kd bv sv nk ks nl (jdecs ls))
 else [])
 z0 b0) +
 (1 : Int))) ∧
 (true = true →
 (-9223372036854775808 : Int) ≤ c0 ∧
 c0 ≤ (9223372036854775807 : Int) ∧
 (1 : Int) ≤
 lenZ
 (turnM
 (bif
 mayJ isNumM validL
 (JV.mk kd bv sv nk ks nl (jdecs ls)) (128 : Nat) then
 textJ (JV.mk kd bv sv nk ks nl (jdecs ls))
 else [])
 z0 b0) +
 (1 : Int) ∧
 lenZ
 (turnM
 (bif
 mayJ isNumM validL
 (JV.mk kd bv sv nk ks nl (jdecs ls)) (128 : Nat) then
 textJ (JV.mk kd bv sv nk ks nl (jdecs ls))
 else [])
 z0 b0) +
 (1 : Int) ≤
 (4611686018427387904 : Int)) ∧
 (true = true →
 upto (0 : Int)
 (lowZ c0
 (lenZ
 (turnM
 (bif
 mayJ isNumM validL
 (JV.mk kd bv sv nk ks nl (jdecs ls)) (128 : Nat) then
 textJ (JV.mk kd bv sv nk ks nl (jdecs ls))
 else [])
 z0 b0) +
 (1 : Int)))
 (lenZ
 (turnM
 (bif
 mayJ isNumM validL
 (JV.mk kd bv sv nk ks nl (jdecs ls)) (128 : Nat) then
 textJ (JV.mk kd bv sv nk ks nl (jdecs ls))
 else [])
 z0 b0))) ∧
 (true = true →
 (takeZ
 (turnM
 (bif
 mayJ isNumM validL
 (JV.mk kd bv sv nk ks nl (jdecs ls)) (128 : Nat) then
 textJ (JV.mk kd bv sv nk ks nl (jdecs ls))
 else [])
 z0 b0)
 (lowZ c0
 (lenZ
 (turnM
 (bif
 mayJ isNumM validL
 (JV.mk kd bv sv nk ks nl (jdecs ls)) (128 : Nat) then
 textJ (JV.mk kd bv sv nk ks nl (jdecs ls))
 else [])
 z0 b0) +
 (1 : Int)))).length ≤
 Go.Vc.maxLen) ∧
 (true = true →
 (takeZ
 (turnM
 (bif
 mayJ isNumM validL
 (JV.mk kd bv sv nk ks nl (jdecs ls)) (128 : Nat) then
 textJ (JV.mk kd bv sv nk ks nl (jdecs ls))
 else [])
 z0 b0)
 (lowZ c0
 (lenZ
 (turnM
 (bif
 mayJ isNumM validL
 (JV.mk kd bv sv nk ks nl (jdecs ls)) (128 : Nat) then
 textJ (JV.mk kd bv sv nk ks nl (jdecs ls))
 else [])
 z0 b0) +
 (1 : Int)))).length.le
 (1000000 : Nat)) ∧
 (true = true → True) ∧ k (PV.bool true))) := by kernel_rfl
attribute [local irreducible] Go.Vc.evF
theorem ok_tokturned (kd : Int) (bv : Bool) (sv : Bs) (nk : Bool) (ks : List Bs) (nl : Bool) (ls : List PV) (z0 b0 c0 : Int) : FuncOk Try.prog noT 3 [.agg [.int .i64 kd, .bool bv, .str sv, .row nk (.strs ks) 0, .vec nl 5 ls 0], .int .i64 z0, .int .u8 b0, .int .i64 c0] ⟨isJs ls ∧ (∃ q, okJ q (.mk kd bv sv nk ks nl (jdecs ls))) ∧ -9223372036854775808 ≤ z0 ∧ z0 ≤ 9223372036854775807 ∧ 0 ≤ b0 ∧ b0 ≤ 255 ∧ -9223372036854775808 ≤ c0 ∧ c0 ≤ 9223372036854775807, .bool true⟩ := evF_ok (by kernel_rfl) X_tokturned_ok (H := H_tokturned kd bv sv nk ks nl ls z0 b0 c0) (fuel := 1000) Try.func3 (by kernel_rfl) fun hpre => (vc_tokturned kd bv sv nk ks nl ls z0 b0 c0 _).mpr (by
  obtain ⟨i1, ⟨q, hok⟩, hz0, hz1, hb0, hb1, hc0, hc1⟩ := hpre
  have hmx : Go.Vc.maxLen = 1099511627776 := rfl
  have s1 : ¬ wJ (.mk kd bv sv nk ks nl (jdecs ls)) 300 0 < 0 → sizeJ (.mk kd bv sv nk ks nl (jdecs ls)) ≤ 300 := fun h => by
    have := sizeJ_w (.mk kd bv sv nk ks nl (jdecs ls)) 300 0 (by omega); omega
  refine ⟨⟨i1, ⟨q, hok⟩, by omega, by omega⟩, fun _ => ⟨trivial, rfl⟩, fun h => ?_⟩
  have z1 := s1 (of_decide_eq_false h)
  have z2 := textJ_len (.mk kd bv sv nk ks nl (jdecs ls))
  obtain ⟨T, hT⟩ : ∃ T, (bif mayJ isNumM validL (.mk kd bv sv nk ks nl (jdecs ls)) 128 then textJ (.mk kd bv sv nk ks nl (jdecs ls)) else []) = T := ⟨_, rfl⟩
  have hTl : T.length ≤ 3000 := by
    rw [← hT]
    cases mayJ isNumM validL (.mk kd bv sv nk ks nl (jdecs ls)) 128
    · simp
    · show (textJ _).length ≤ 3000; omega
  simp only [hT]
  have hU : (turnM T z0 b0).length = T.length := by
    unfold turnM
    split
    · rename_i e; rw [e]
    · rw [List.length_set]
  obtain ⟨U, hUe⟩ : ∃ U, turnM T z0 b0 = U := ⟨_, rfl⟩
  rw [hUe] at hU
  simp only [hUe]
  have hlz : lenZ U = (U.length : Int) := rfl
  simp only [hlz]
  have r := lowZ_range (x := c0) (n := (U.length : Int) + 1) (by omega)
  obtain ⟨L, hL⟩ : ∃ L, lowZ c0 ((U.length : Int) + 1) = L := ⟨_, rfl⟩
  rw [hL] at r
  simp only [hL]
  have ht : (takeZ U L).length ≤ U.length := by unfold takeZ; rw [List.length_take]; omega
  refine ⟨⟨i1, ⟨q, hok⟩, by omega⟩, ⟨by omega, hz0, hz1, hb0, hb1⟩, by omega, (by show U.length ≤ 1000000; omega), fun _ => by unfold inI64; omega, fun _ => ⟨hc0, hc1, by omega, by omega⟩, fun _ => ⟨by omega, by omega, by omega⟩, fun _ => by omega, fun _ => (by show (takeZ U L).length ≤ 1000000; omega), fun _ => trivial, by first | trivial | rfl⟩)
end
end Go.Proofs.Ytncfmmpdlcnboaa
