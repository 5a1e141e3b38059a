/- A tree in memory: what is looked up, what is counted. -/
import Derived.Test.YtedfgikikjggaaaDoorMapS
import Derived.Test.YtedfgikikjggaaaDoorBox
import Derived.Test.YtedfgikikjggaaaDoorStrs
import Derived.Laws.ResultCell
set_option linter.unusedVariables false
set_option linter.unusedSimpArgs false
namespace Go.Proofs.YtedfgikikjggaaaDoor
open Go.RowKit

def isNdV (v : Value) : Prop := ∃ n : Nd, v = ndV n
def isSlV (v : Value) : Prop := ∃ a l c, v = .slice a l c
def NamesOf (w : World) (g : Bts → Option Value) (all : List Nd) : Prop := ∀ f, match g f with
  | none => namesIn all f = []
  | some v => Own w 0 9 v ((namesIn all f).map strV)
def NamesAt (w : World) (m : Nat) (all : List Nd) : Prop := ∃ n g, MapS isSlV w m n g ∧ NamesOf w g all
def nodeG (all : List Nd) : Bts → Option Value := fun p => (lookN all p).map ndV
/-- A tree of these nodes, so often asked. -/
def TreeIs (w : World) (t : Nat) (all : List Nd) (cnt : Int) : Prop := ∃ m1 m2 sl n, Box w t 59 [.map (some m1), .map (some m2), sl, .int .i64 cnt] ∧ MapS isNdV w m1 n (nodeG all) ∧ NamesAt w m2 all ∧ IsNds w sl all
theorem NamesOf.grown {w w' : World} {g : Bts → Option Value} {all : List Nd} {row : Option Nat} (h : NamesOf w g all) (hg : w.grownBy w' row) (hr : ∀ f v, g f = some v → v.ownBlock = none ∨ v.ownBlock ≠ row) : NamesOf w' g all := by
  intro f
  have h2 := h f
  cases hf : g f with
  | none => rw [hf] at h2; exact h2
  | some v => rw [hf] at h2; exact Own.kept h2 hg (hr f v hf)
theorem NamesAt.below {w w' : World} {m : Nat} {all : List Nd} (h : NamesAt w m all) (hb : Below w.heap.size w w') : NamesAt w' m all := by
  obtain ⟨n, g, h1, h2⟩ := h
  exact ⟨n, g, h1.below hb, h2.grown (grownBy_below hb none) (fun f v _ => by cases v.ownBlock <;> simp)⟩
theorem TreeIs.below {w w' : World} {t : Nat} {all : List Nd} {c : Int} (h : TreeIs w t all c) (hb : Below w.heap.size w w') : TreeIs w' t all c := by
  obtain ⟨m1, m2, sl, n, h1, h2, h3, h4⟩ := h
  exact ⟨m1, m2, sl, n, h1.below hb h1.lt, h2.below hb, h3.below hb, h4.below hb⟩
theorem TreeIs.lt {w : World} {t : Nat} {all : List Nd} {c : Int} (h : TreeIs w t all c) : t < w.heap.size := by
  obtain ⟨m1, m2, sl, n, h1, -⟩ := h
  exact h1.lt
theorem zeroNd (w : World) : (zeroValue 35).run Tryd.prog w = .ok (ndV nd0) w := by kernel_rfl
theorem zeroSl (w : World) : (zeroValue 67).run Tryd.prog w = .ok (.slice none 0 0) w := by kernel_rfl
theorem nodeG_get (all : List Nd) (p : Bts) : (nodeG all p).getD (ndV nd0) = ndV ((lookN all p).getD nd0) ∧ (nodeG all p).isSome = (lookN all p).isSome := by
  unfold nodeG
  cases lookN all p <;> exact ⟨rfl, rfl⟩
theorem tupNB {n n' : Nd} {c c' : Bool} (h1 : n = n') (h3 : c = c') : Ending.returned (.tuple #[ndV n, .bool c]) = .returned (.tuple #[ndV n', .bool c']) := by rw [h1, h3]
theorem results_nd_tmp {fn : Func} {p u : Tmp} (h : fn.results = #[.cell p 35, .tmp u]) (tmps : Array Value) {w : World} {g : Nat} {n : Nd} (hp : tmps.getD p undef = .pointer (some ⟨g, 0, none⟩)) (hb : Box w g 35 (ndC n)) :
    (results fn tmps).run Tryd.prog w = .ok (.tuple #[ndV n, tmps.getD u undef]) w := by
  have c0 : w.cell? ⟨g, 0, none⟩ = some (.string ⟨n.p.toArray⟩) := by rw [hb.cell]; rfl
  have c1 : w.cell? ⟨g, 1, none⟩ = some (.int .i64 n.k) := by rw [hb.cell]; rfl
  have c2 : w.cell? ⟨g, 2, none⟩ = some (.string ⟨n.d.toArray⟩) := by rw [hb.cell]; rfl
  rw [results_cell_tmp h, hp]
  go_simp
  rfl
set_option maxRecDepth 100000 in
set_option maxHeartbeats 2000000 in
theorem Look_any (t : Nat) (all : List Nd) (c : Int) (p : Bts) (w : World) (h : TreeIs w t all c) (hp : p.length ≤ 1000000) :
    Calls Tryd.prog 14 #[.pointer (some ⟨t, 0, none⟩), .string ⟨p.toArray⟩] w fun e w' => e = .returned (.tuple #[ndV ((lookN all p).getD nd0), .bool (lookN all p).isSome]) ∧ Below w.heap.size w w' := by
  obtain ⟨m1, m2, sl, n, h1, h2, h3, h4⟩ := h
  have hlook : ∀ o, (Instr.lookup 51 (.map (some m1)) (.string ⟨p.toArray⟩) true).run Tryd.prog (w.alloc o) = .ok (.tuple #[.agg #[.string ⟨((lookN all p).getD nd0).p.toArray⟩, .int .i64 ((lookN all p).getD nd0).k, .string ⟨((lookN all p).getD nd0).d.toArray⟩], .bool (lookN all p).isSome]) (w.alloc o) := fun o => by
    have := (h2.alloc o).look_ok Tryd.underlying51 (zeroNd _) ⟨nd0, rfl⟩ hp
    rw [(nodeG_get all p).1, (nodeG_get all p).2] at this
    exact this
  have c0 : ∀ o, (w.alloc o).cell? ⟨t, 0, none⟩ = some (.map (some m1)) := fun o => by rw [(h1.alloc o).cell]; rfl
  generalize (lookN all p).getD nd0 = R at *
  generalize (lookN all p).isSome = ok at *
  clear h1 h2 h3 h4
  go_enter Tryd.func14, Tryd.ntmps14
  go_wp2_with fail
  refine bodyPost_ret (results_nd_tmp (n := R) rfl _ rfl ((Box.new w _ (ndC R)).alloc _)) rfl ?_
  exact ⟨rfl, ext_trans (ext_alloc w _) (ext_alloc _ _)⟩
end Go.Proofs.YtedfgikikjggaaaDoor
