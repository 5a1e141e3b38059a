/- FourForms. -/
import Derived.Test.YtbjpmpijlddcpaaDoorLaw8c1
import Derived.Test.YtbjpmpijlddcpaaDoorLaw8c2
import Derived.Test.YtbjpmpijlddcpaaDoorLaw8c3
import Derived.Test.YtbjpmpijlddcpaaDoorLaw8c4
set_option linter.unusedVariables false
set_option linter.unusedSimpArgs false
namespace Go.Proofs.YtbjpmpijlddcpaaDoor
open Go.RowKit

theorem FourForms_walk (a0 a1 : Int) (ad : Option Addr) (len cap : Nat) (zs : List Int) (dot : Bool) (w : World) (w0 : (Lit.int .u32 a0).wf = true) (w1 : (Lit.int .i64 a1).wf = true) (w2 : IsRow .i64 w ad len cap zs) (htab : Tab w) :
    Calls Tryd.prog 5 #[.int .u32 a0, .int .i64 a1, .slice ad len cap, .bool dot] w fun e w' => e = .returned (.bool true) ∧ Below w.heap.size w w' := by
  obtain ⟨n0, n1⟩ := wfu32 w0
  obtain ⟨h0, h1⟩ := wf64 w1
  obtain ⟨n, rfl⟩ := Int.eq_ofNat_of_zero_le n0
  obtain ⟨r1, r2, a', cap', e, r4, r5, -, r7⟩ := isRow_sl w2
  cases e
  have hC : 0 < len → ∃ b off, ad = some ⟨b, off, none⟩ ∧ ∀ i, i < len → w.cell? ⟨b, off + i, none⟩ = some (.int .i64 ((zs.take len).getD i 0)) ∧ -9223372036854775808 ≤ (zs.take len).getD i 0 ∧ (zs.take len).getD i 0 ≤ 9223372036854775807 := by
    intro hl
    obtain ⟨b, off, e, hc⟩ := r7 hl
    refine ⟨b, off, e, fun i hi => ⟨hc i hi, ?_⟩⟩
    have hi' : i < (zs.take len).length := by omega
    have := wf64 (r2 ((zs.take len)[i]) (List.getElem_mem _))
    rwa [List.getD_eq_getElem?_getD, List.getElem?_eq_getElem hi']
  have hl := lowN_bd a1 4 (by decide)
  have hn : n < 4294967296 := by omega
  unfold maxLen at r5
  rcases (by omega : lowN a1 4 = 0 ∨ lowN a1 4 = 1 ∨ lowN a1 4 = 2 ∨ lowN a1 4 = 3) with h | h | h | h
  · exact forms_walk1 n a1 ad len cap _ dot w hn h h0 h1 (by omega) hC htab
  · exact forms_walk2 n a1 ad len cap _ dot w hn h h0 h1 (by omega) hC htab
  · exact forms_walk3 n a1 ad len cap _ dot w hn h h0 h1 (by omega) hC htab
  · exact forms_walk4 n a1 ad len cap _ dot w hn h h0 h1 (by omega) hC htab
end Go.Proofs.YtbjpmpijlddcpaaDoor
