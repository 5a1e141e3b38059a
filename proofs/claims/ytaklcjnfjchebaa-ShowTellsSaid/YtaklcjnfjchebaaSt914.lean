import Derived.Test.YtaklcjnfjchebaaProg
import Derived.ProofKit
import Derived.Test.YtaklcjnfjchebaaSt96
import Derived.Test.YtaklcjnfjchebaaSt97
import Derived.Test.YtaklcjnfjchebaaSt912
import Derived.Test.YtaklcjnfjchebaaSt913
set_option linter.unusedVariables false
set_option linter.unusedSimpArgs false
set_option maxRecDepth 100000
set_option maxHeartbeats 4000000
namespace Go.Proofs.Ytaklcjnfjchebaa
open Go Go.Proofs Go.RowKit Go.Vc
open Go.Proofs.Jv
section
def w7a : JV := .mk 2 false [49] true [] true []
def w7b : JV := .mk 1 true [] true [] true []
def w7l : JV := .mk 4 false [] true [] false [w7a, w7b]
def w7 : JV := .mk 5 false [] false [[97]] false [w7l]
theorem isJs_w7 : isJs [JV.pv w7l] := ⟨[w7l], rfl⟩
theorem okJ_leaf (k : Int) (b : Bool) (s : Bs) (nk nl : Bool) (ks : List Bs) (h : (-9223372036854775808 ≤ k ∧ k ≤ 9223372036854775807) ∧ s.length ≤ bigJ ∧ ks.length ≤ bigJ ∧ ∀ s ∈ ks, s.length ≤ bigJ) : okJ 1 (.mk k b s nk ks nl []) := ⟨h.1, h.2.1, h.2.2.1, h.2.2.2, Nat.zero_le _, fun y hy => by cases hy⟩
theorem okJ_w7 : okJ 3 w7 := by
  refine ⟨⟨by decide, by decide⟩, by decide, by decide, by decide, by decide, fun y hy => ?_⟩
  rcases List.mem_cons.1 hy with rfl | hy
  · refine ⟨⟨by decide, by decide⟩, by decide, by decide, by decide, by decide, fun y hy => ?_⟩
    rcases List.mem_cons.1 hy with rfl | hy
    · exact okJ_leaf _ _ _ _ _ _ (by decide)
    rcases List.mem_cons.1 hy with rfl | hy
    · exact okJ_leaf _ _ _ _ _ _ (by decide)
    cases hy
  cases hy
def X_awakeV : Tbl := tblX [(13, ent_gshow0), (11, ent_gmay), (15, ent_gsame)]
def H_awakeV  : Loops := fun i => none
theorem X_awakeV_ok : XOk Try.prog noT X_awakeV := tblX_cons ent_gshow0_ok (tblX_cons ent_gmay_ok (tblX_cons ent_gsame_ok (tblX_nil)))
theorem vc_awakeV  (k : PV → Prop) : evF Try.prog X_awakeV noT (H_awakeV ) 1000 Try.f10 [] k = (
  (isJs
 [PV.agg
 [PV.int .i64 (4 : Int), PV.bool false, PV.str [], PV.row true (BRow.strs []) (nat_lit 0),
 PV.vec false (nat_lit 5)
 [PV.agg
 [PV.int .i64 (2 : Int), PV.bool false, PV.str (ByteArray.mk #[49]).data.toList,
 PV.row true (BRow.strs []) (nat_lit 0), PV.vec true (nat_lit 5) [] (nat_lit 0)],
 PV.agg
 [PV.int .i64 (1 : Int), PV.bool true, PV.str [], PV.row true (BRow.strs []) (nat_lit 0),
 PV.vec true (nat_lit 5) [] (nat_lit 0)]]
 (0 : Nat)]] ∧
 (∃ (q : Nat),
 okJ q
 (JV.mk (5 : Int) false [] false [(ByteArray.mk #[97]).data.toList] false
 (jdecs
 [PV.agg
 [PV.int .i64 (4 : Int), PV.bool false, PV.str [], PV.row true (BRow.strs []) (nat_lit 0),
 PV.vec false (nat_lit 5)
 [PV.agg
 [PV.int .i64 (2 : Int), PV.bool false, PV.str (ByteArray.mk #[49]).data.toList,
 PV.row true (BRow.strs []) (nat_lit 0), PV.vec true (nat_lit 5) [] (nat_lit 0)],
 PV.agg
 [PV.int .i64 (1 : Int), PV.bool true, PV.str [], PV.row true (BRow.strs []) (nat_lit 0),
 PV.vec true (nat_lit 5) [] (nat_lit 0)]]
 (0 : Nat)]]))) ∧
 sizeJ
 (JV.mk (5 : Int) false [] false [(ByteArray.mk #[97]).data.toList] false
 (jdecs
 [PV.agg
 [PV.int .i64 (4 : Int), PV.bool false, PV.str [], PV.row true (BRow.strs []) (nat_lit 0),
 PV.vec false (nat_lit 5)
 [PV.agg
 [PV.int .i64 (2 : Int), PV.bool false, PV.str (ByteArray.mk #[49]).data.toList,
 PV.row true (BRow.strs []) (nat_lit 0), PV.vec true (nat_lit 5) [] (nat_lit 0)],
 PV.agg
 [PV.int .i64 (1 : Int), PV.bool true, PV.str [], PV.row true (BRow.strs []) (nat_lit 0),
 PV.vec true (nat_lit 5) [] (nat_lit 0)]]
 (0 : Nat)]])) ≤
 (80000 : Nat)) ∧
 (decide
 (textJ
 (JV.mk (5 : Int) false [] false [(ByteArray.mk #[97]).data.toList] false
 (jdecs
 [PV.agg
 [PV.int .i64 (4 : Int), PV.bool false, PV.str [], PV.row true (BRow.strs []) (nat_lit 0),
 PV.vec false (nat_lit 5)
 [PV.agg
 [PV.int .i64 (2 : Int), PV.bool false, PV.str (ByteArray.mk #[49]).data.toList,
 PV.row true (BRow.strs []) (nat_lit 0), PV.vec true (nat_lit 5) [] (nat_lit 0)],
 PV.agg
 [PV.int .i64 (1 : Int), PV.bool true, PV.str [], PV.row true (BRow.strs []) (nat_lit 0),
 PV.vec true (nat_lit 5) [] (nat_lit 0)]]
 (0 : Nat)]])) =
 (ByteArray.mk
 #[123, 34, 97, 34, 58, 91, 49, 44, 116, 114, 117, 101, 93, 125]).data.toList) =
 true →
 isJs
 [PV.agg
 [PV.int .i64 (4 : Int), PV.bool false, PV.str [], PV.row true (BRow.strs []) (nat_lit 0),
 PV.vec false (nat_lit 5)
 [PV.agg
 [PV.int .i64 (2 : Int), PV.bool false, PV.str (ByteArray.mk #[49]).data.toList,
 PV.row true (BRow.strs []) (nat_lit 0), PV.vec true (nat_lit 5) [] (nat_lit 0)],
 PV.agg
 [PV.int .i64 (1 : Int), PV.bool true, PV.str [], PV.row true (BRow.strs []) (nat_lit 0),
 PV.vec true (nat_lit 5) [] (nat_lit 0)]]
 (0 : Nat)]] ∧
 (∃ (q : Nat),
 okJ q
 (JV.mk (5 : Int) false [] false [(ByteArray.mk #[97]).data.toList] false
 (jdecs
 [PV.agg
 [PV.int .i64 (4 : Int), PV.bool false, PV.str [], PV.row true (BRow.strs []) (nat_lit 0),
 PV.vec false (nat_lit 5)
 [PV.agg
 [PV.int .i64 (2 : Int), PV.bool false, PV.str (ByteArray.mk #[49]).data.toList,
 PV.row true (BRow.strs []) (nat_lit 0), PV.vec true (nat_lit 5) [] (nat_lit 0)],
 PV.agg
 [PV.int .i64 (1 : Int), PV.bool true, PV.str [], PV.row true (BRow.strs []) (nat_lit 0),
 PV.vec true (nat_lit 5) [] (nat_lit 0)]]
 (0 : Nat)]]))) ∧
 sizeJ
 (JV.mk (5 : Int) false [] false [(ByteArray.mk #[97]).data.toList] false
 (jdecs
 [PV.agg
 [PV.int .i64 (4 : Int), PV.bool false, PV.str [], PV.row true (BRow.strs []) (nat_lit 0),
 PV.vec false (nat_lit 5)
 [PV.agg
 [PV.int .i64 (2 : Int), PV.bool false, PV.str (ByteArray.mk #[49]).data.toList,
 PV.row true (BRow.strs []) (nat_lit 0), PV.vec true (nat_lit 5) [] (nat_lit 0)],
 PV.agg
 [PV.int .i64 (1 : Int), PV.bool true, PV.str [], PV.row true (BRow.strs []) (nat_lit 0),
 PV.vec true (nat_lit 5) [] (nat_lit 0)]]
 (0 : Nat)]])) ≤
 (600000 : Nat)) ∧
 (mayJ isNumM validL
 (JV.mk (5 : Int) false [] false [(ByteArray.mk #[97]).data.toList] false
 (jdecs
 [PV.agg
 [PV.int .i64 (4 : Int), PV.bool false, PV.str [], PV.row true (BRow.strs []) (nat_lit 0),
 PV.vec false (nat_lit 5)
 [PV.agg
 [PV.int .i64 (2 : Int), PV.bool false, PV.str (ByteArray.mk #[49]).data.toList,
 PV.row true (BRow.strs []) (nat_lit 0), PV.vec true (nat_lit 5) [] (nat_lit 0)],
 PV.agg
 [PV.int .i64 (1 : Int), PV.bool true, PV.str [], PV.row true (BRow.strs []) (nat_lit 0),
 PV.vec true (nat_lit 5) [] (nat_lit 0)]]
 (0 : Nat)]]))
 (128 : Nat) =
 true →
 isJs [] ∧
 (∃ (q : Nat), okJ q (JV.mk (9 : Int) false [] true [] true (jdecs []))) ∧
 sizeJ (JV.mk (9 : Int) false [] true [] true (jdecs [])) ≤ (600000 : Nat)) ∧
 ((!mayJ isNumM validL
 (JV.mk (9 : Int) false [] true [] true (jdecs [])) (128 : Nat)) =
 true →
 isJs
 [PV.agg
 [PV.int .i64 (4 : Int), PV.bool false, PV.str [], PV.row true (BRow.strs []) (nat_lit 0),
 PV.vec false (nat_lit 5)
 [PV.agg
 [PV.int .i64 (2 : Int), PV.bool false, PV.str (ByteArray.mk #[49]).data.toList,
 PV.row true (BRow.strs []) (nat_lit 0), PV.vec true (nat_lit 5) [] (nat_lit 0)],
 PV.agg
 [PV.int .i64 (1 : Int), PV.bool true, PV.str [], PV.row true (BRow.strs []) (nat_lit 0),
 PV.vec true (nat_lit 5) [] (nat_lit 0)]]
 (0 : Nat)]] ∧
 okJ (65536 : Nat)
 (JV.mk (5 : Int) false [] false [(ByteArray.mk #[97]).data.toList] false
 (jdecs
 [PV.agg
 [PV.int .i64 (4 : Int), PV.bool false, PV.str [], PV.row true (BRow.strs []) (nat_lit 0),
 PV.vec false (nat_lit 5)
 [PV.agg
 [PV.int .i64 (2 : Int), PV.bool false, PV.str (ByteArray.mk #[49]).data.toList,
 PV.row true (BRow.strs []) (nat_lit 0), PV.vec true (nat_lit 5) [] (nat_lit 0)],
 PV.agg
 [PV.int .i64 (1 : Int), PV.bool true, PV.str [], PV.row true (BRow.strs []) (nat_lit 0),
 PV.vec true (nat_lit 5) [] (nat_lit 0)]]
 (0 : Nat)]])) ∧
 isJs
 [PV.agg
 [PV.int .i64 (4 : Int), PV.bool false, PV.str [], PV.row true (BRow.strs []) (nat_lit 0),
 PV.vec false (nat_lit 5)
 [PV.agg
 [PV.int .i64 (2 : Int), PV.bool false, PV.str (ByteArray.mk #[49]).data.toList,
 PV.row true (BRow.strs []) (nat_lit 0), PV.vec true (nat_lit 5) [] (nat_lit 0)],
 PV.agg
 [PV.int .i64 (1 : Int), PV.bool true, PV.str [], PV.row true (BRow.strs []) (nat_lit 0),
 PV.vec true (nat_lit 5) [] (nat_lit 0)]]
 (0 : Nat)]] ∧
 ∃ (q : Nat),
 okJ q
 (JV.mk (5 : Int) false [] false [(ByteArray.mk #[97]).data.toList] false
 (jdecs
 [PV.agg
 [PV.int .i64 (4 : Int), PV.bool false, PV.str [], PV.row true (BRow.strs []) (nat_lit 0),
 PV.vec false (nat_lit 5)
 [PV.agg
 [PV.int .i64 (2 : Int), PV.bool false, PV.str (ByteArray.mk #[49]).data.toList,
 PV.row true (BRow.strs []) (nat_lit 0), PV.vec true (nat_lit 5) [] (nat_lit 0)],
 PV.agg
 [PV.int .i64 (1 : Int), PV.bool true, PV.str [],
 PV.row true (BRow.strs []) (nat_lit 0), PV.vec true (nat_lit 5) [] (nat_lit 0)]]
 (0 : Nat)]]))) ∧
 (sameJ
 (JV.mk (5 : Int) false [] false [(ByteArray.mk #[97]).data.toList] false
 (jdecs
 [PV.agg
 [PV.int .i64 (4 : Int), PV.bool false, PV.str [], PV.row true (BRow.strs []) (nat_lit 0),
 PV.vec false (nat_lit 5)
 [PV.agg
 [PV.int .i64 (2 : Int), PV.bool false, PV.str (ByteArray.mk #[49]).data.toList,
 PV.row true (BRow.strs []) (nat_lit 0), PV.vec true (nat_lit 5) [] (nat_lit 0)],
 PV.agg
 [PV.int .i64 (1 : Int), PV.bool true, PV.str [], PV.row true (BRow.strs []) (nat_lit 0),
 PV.vec true (nat_lit 5) [] (nat_lit 0)]]
 (0 : Nat)]]))
 (JV.mk (5 : Int) false [] false [(ByteArray.mk #[97]).data.toList] false
 (jdecs
 [PV.agg
 [PV.int .i64 (4 : Int), PV.bool false, PV.str [], PV.row true (BRow.strs []) (nat_lit 0),
 PV.vec false (nat_lit 5)
 [PV.agg
 [PV.int .i64 (2 : Int), PV.bool false, PV.str (ByteArray.mk #[49]).data.toList,
 PV.row true (BRow.strs []) (nat_lit 0), PV.vec true (nat_lit 5) [] (nat_lit 0)],
 PV.agg
 [PV.int .i64 (1 : Int), PV.bool true, PV.str [], PV.row true (BRow.strs []) (nat_lit 0),
 PV.vec true (nat_lit 5) [] (nat_lit 0)]]
 (0 : Nat)]])) =
 true →
 isJs
 [PV.agg
 [PV.int .i64 (4 : Int), PV.bool false, PV.str [], PV.row true (BRow.strs []) (nat_lit 0),
 PV.vec false (nat_lit 5)
 [PV.agg
 [PV.int .i64 (2 : Int), PV.bool false, PV.str (ByteArray.mk #[49]).data.toList,
 PV.row true (BRow.strs []) (nat_lit 0), PV.vec true (nat_lit 5) [] (nat_lit 0)],
 PV.agg
 [PV.int .i64 (1 : Int), PV.bool true, PV.str [], PV.row true (BRow.strs []) (nat_lit 0),
 PV.vec true (nat_lit 5) [] (nat_lit 0)]]
 (0 : Nat)]] ∧
 okJ (65536 : Nat)
 (JV.mk (5 : Int) false [] false [(ByteArray.mk #[97]).data.toList] false
 (jdecs
 [PV.agg
 [PV.int .i64 (4 : Int), PV.bool false, PV.str [], PV.row true (BRow.strs []) (nat_lit 0),
 PV.vec false (nat_lit 5)
 [PV.agg
 [PV.int .i64 (2 : Int), PV.bool false, PV.str (ByteArray.mk #[49]).data.toList,
 PV.row true (BRow.strs []) (nat_lit 0), PV.vec true (nat_lit 5) [] (nat_lit 0)],
 PV.agg
 [PV.int .i64 (1 : Int), PV.bool true, PV.str [],
 PV.row true (BRow.strs []) (nat_lit 0), PV.vec true (nat_lit 5) [] (nat_lit 0)]]
 (0 : Nat)]])) ∧
 isJs [] ∧ ∃ (q : Nat), okJ q (JV.mk (0 : Int) false [] true [] true (jdecs []))) ∧
 k
 (PV.bool
 !sameJ
 (JV.mk (5 : Int) false [] false [(ByteArray.mk #[97]).data.toList] false
 (jdecs
 [PV.agg
 [PV.int .i64 (4 : Int), PV.bool false, PV.str [], PV.row true (BRow.strs []) (nat_lit 0),
 PV.vec false (nat_lit 5)
 [PV.agg
 [PV.int .i64 (2 : Int), PV.bool false, PV.str (ByteArray.mk #[49]).data.toList,
 PV.row true (BRow.strs []) (nat_lit 0), PV.vec true (nat_lit 5) [] (nat_lit 0)],
 PV.agg
 [PV.int .i64 (1 : Int), PV.bool true, PV.str [],
 PV.row true (BRow.strs []) (nat_lit 0), PV.vec true (nat_lit 5) [] (nat_lit 0)]]
 (0 : Nat)]]))
 (JV.mk (0 : Int) false [] true [] true (jdecs [])))) := by kernel_rfl
attribute [local irreducible] Go.Vc.evF
theorem ok_awakeV  : FuncOk Try.prog noT 10 [] ⟨True, .bool true⟩ := evF_ok (by kernel_rfl) X_awakeV_ok (H := H_awakeV ) (fuel := 1000) Try.func10 (by kernel_rfl) fun hpre => (vc_awakeV  _).mpr (by
  have hS : sizeJ w7 ≤ 80000 := by decide +kernel
  have hs0 : sameJ w7 (.mk 0 false [] true [] true []) = false := by decide +kernel
  have hO : okJ 65536 w7 := okJ.up (n := 3) (by decide) okJ_w7
  have hO9 : ∃ q, okJ q (.mk 9 false [] true [] true []) := ⟨1, okJ_leaf _ _ _ _ _ _ (by decide)⟩
  have hO0 : ∃ q, okJ q (.mk 0 false [] true [] true []) := ⟨1, okJ_leaf _ _ _ _ _ _ (by decide)⟩
  have hE : isJs [] := ⟨[], rfl⟩
  refine ⟨⟨isJs_w7, ⟨_, hO⟩, hS⟩, fun _ => ⟨isJs_w7, ⟨_, hO⟩, Nat.le_trans hS (by decide)⟩, fun _ => ⟨hE, hO9, by decide +kernel⟩, fun _ => ⟨isJs_w7, hO, isJs_w7, ⟨_, hO⟩⟩, fun _ => ⟨isJs_w7, hO, hE, hO0⟩, ?_⟩
  show PV.bool (!sameJ w7 (.mk 0 false [] true [] true [])) = PV.bool true
  rw [hs0]; rfl)
def ent_awakeV : List PV → Option CallR := fun xs => match xs with
  | [] => some ⟨True, .bool true⟩
  | _ => none
theorem ent_awakeV_ok : ∀ xs c, ent_awakeV xs = some c → FuncOk Try.prog noT 10 xs c := fun xs c h => by
  unfold ent_awakeV at h
  split at h
  · injection h with h; subst h; exact ok_awakeV 
  · cases h
end
section
def X_showtells : Tbl := tblX [(9, ent_heavy), (11, ent_gmay), (13, ent_gshow0), (12, ent_rgmay), (14, ent_rgshow), (10, ent_awakeV)]
def H_showtells (kd : Int) (bv : Bool) (sv : Bs) (nk : Bool) (ks : List Bs) (nl : Bool) (ls : List PV) : Loops := fun i => none
theorem X_showtells_ok : XOk Try.prog noT X_showtells := tblX_cons ent_heavy_ok (tblX_cons ent_gmay_ok (tblX_cons ent_gshow0_ok (tblX_cons ent_rgmay_ok (tblX_cons ent_rgshow_ok (tblX_cons ent_awakeV_ok (tblX_nil))))))
theorem vc_showtells (kd : Int) (bv : Bool) (sv : Bs) (nk : Bool) (ks : List Bs) (nl : Bool) (ls : List PV) (k : PV → Prop) : evF Try.prog X_showtells noT (H_showtells kd bv sv nk ks nl ls) 1000 Try.f3 [.agg [.int .i64 kd, .bool bv, .str sv, .row nk (.strs ks) 0, .vec nl 5 ls 0]] k = (
  (isJs ls ∧
 (∃ (q : Nat), okJ q (JV.mk kd bv sv nk ks nl (jdecs ls))) ∧
 (0 : Int) ≤ (400 : Int) ∧ (400 : Int) ≤ (1000000 : Int)) ∧
 (decide (wJ (JV.mk kd bv sv nk ks nl (jdecs ls)) (400 : Int) (0 : Int) < (0 : Int)) = true →
 True ∧ k (PV.bool true)) ∧
 (decide (wJ (JV.mk kd bv sv nk ks nl (jdecs ls)) (400 : Int) (0 : Int) < (0 : Int)) = false →
 (isJs ls ∧
 (∃ (q : Nat), okJ q (JV.mk kd bv sv nk ks nl (jdecs ls))) ∧
 sizeJ (JV.mk kd bv sv nk ks nl (jdecs ls)) ≤ (600000 : Nat)) ∧
 (isJs ls ∧
 (∃ (q : Nat), okJ q (JV.mk kd bv sv nk ks nl (jdecs ls))) ∧
 sizeJ (JV.mk kd bv sv nk ks nl (jdecs ls)) ≤ (600000 : Nat)) ∧
 (decide
 (mayJ isNumM validL
 (JV.mk kd bv sv nk ks nl (jdecs ls)) (128 : Nat) =
 mayJ isNumM validL
 (JV.mk kd bv sv nk ks nl (jdecs ls)) (128 : Nat)) =
 true →
 isJs ls ∧
 (∃ (q : Nat), okJ q (JV.mk kd bv sv nk ks nl (jdecs ls))) ∧
 sizeJ (JV.mk kd bv sv nk ks nl (jdecs ls)) ≤ (80000 : Nat)) ∧
 (decide
 (mayJ isNumM validL
 (JV.mk kd bv sv nk ks nl (jdecs ls)) (128 : Nat) =
 mayJ isNumM validL
 (JV.mk kd bv sv nk ks nl (jdecs ls)) (128 : Nat)) =
 true →
 isJs ls ∧
 (∃ (q : Nat), okJ q (JV.mk kd bv sv nk ks nl (jdecs ls))) ∧
 sizeJ (JV.mk kd bv sv nk ks nl (jdecs ls)) ≤ (10000 : Nat)) ∧
 ((bif
 decide
 (mayJ isNumM validL
 (JV.mk kd bv sv nk ks nl (jdecs ls)) (128 : Nat) =
 mayJ isNumM validL
 (JV.mk kd bv sv nk ks nl (jdecs ls)) (128 : Nat)) then
 decide
 ((bif
 mayJ isNumM validL
 (JV.mk kd bv sv nk ks nl (jdecs ls)) (128 : Nat) then
 textJ (JV.mk kd bv sv nk ks nl (jdecs ls))
 else []) =
 bif
 mayJ isNumM validL
 (JV.mk kd bv sv nk ks nl (jdecs ls)) (128 : Nat) then
 textJ (JV.mk kd bv sv nk ks nl (jdecs ls))
 else [])
 else false) =
 true →
 True) ∧
 k
 (PV.bool
 (bif
 bif
 decide
 (mayJ isNumM validL
 (JV.mk kd bv sv nk ks nl (jdecs ls)) (128 : Nat) =
 mayJ isNumM validL
 (JV.mk kd bv sv nk ks nl (jdecs ls)) (128 : Nat)) then
 decide
 ((bif
 mayJ isNumM validL
 (JV.mk kd bv sv nk ks nl (jdecs ls)) (128 : Nat) then
 textJ (JV.mk kd bv sv nk ks nl (jdecs ls))
 else []) =
 bif
 mayJ isNumM validL
 (JV.mk kd bv sv nk ks nl (jdecs ls)) (128 : Nat) then
 textJ (JV.mk kd bv sv nk ks nl (jdecs ls))
 else [])
 else false then
 true
 else false)))) := by kernel_rfl
attribute [local irreducible] Go.Vc.evF
theorem ok_showtells (kd : Int) (bv : Bool) (sv : Bs) (nk : Bool) (ks : List Bs) (nl : Bool) (ls : List PV) : FuncOk Try.prog noT 3 [.agg [.int .i64 kd, .bool bv, .str sv, .row nk (.strs ks) 0, .vec nl 5 ls 0]] ⟨isJs ls ∧ (∃ q, okJ q (.mk kd bv sv nk ks nl (jdecs ls))), .bool true⟩ := evF_ok (by kernel_rfl) X_showtells_ok (H := H_showtells kd bv sv nk ks nl ls) (fuel := 1000) Try.func3 (by kernel_rfl) fun hpre => (vc_showtells kd bv sv nk ks nl ls _).mpr (by
  obtain ⟨i1, ⟨q, hok⟩⟩ := hpre
  have s1 : ¬ wJ (.mk kd bv sv nk ks nl (jdecs ls)) 400 0 < 0 → sizeJ (.mk kd bv sv nk ks nl (jdecs ls)) ≤ 400 := fun h => by
    have := sizeJ_w (.mk kd bv sv nk ks nl (jdecs ls)) 400 0 (by omega); omega
  refine ⟨⟨i1, ⟨q, hok⟩, by omega, by omega⟩, fun _ => ⟨trivial, rfl⟩, fun h => ?_⟩
  have z1 := s1 (of_decide_eq_false h)
  refine ⟨⟨i1, ⟨q, hok⟩, by omega⟩, ⟨i1, ⟨q, hok⟩, by omega⟩, fun _ => ⟨i1, ⟨q, hok⟩, by omega⟩, fun _ => ⟨i1, ⟨q, hok⟩, by omega⟩, fun _ => trivial, ?_⟩
  show PV.bool _ = PV.bool _
  simp)
end
end Go.Proofs.Ytaklcjnfjchebaa
