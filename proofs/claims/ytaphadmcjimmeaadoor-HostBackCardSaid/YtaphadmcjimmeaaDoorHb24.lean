import Derived.Test.YtaphadmcjimmeaaDoorRows
import Derived.LaidMore
import Derived.LaidHandle
import Derived.MakeChecks
import Derived.Stop.LaidErr
import Derived.Lib.LaidTab
import Derived.Test.YtaphadmcjimmeaaDoorHb18
namespace Go.Proofs.YtaphadmcjimmeaaDoor
open Go
theorem tabZ_at {P : Program} {W : World} {name : String} {k : IntKind} {zs : List Int} {rest : List (String × DataW Unit)} {g : Nat} {t e : TypeId} {n : Nat}
    (hg : P.globalNamed name = some g) (hty : (P.globals[g]?).map (·.type) = some t) (ht : P.underlying t = some (.array n e)) (he : P.underlying e = some (.int k)) (hce : P.cellsOf e = 1) (hct : P.cellsOf t = n) (hn : 0 < zs.length)
    (h : laidMet P ((name, Lib.tabData k zs) :: rest) W) : TabZ W g k zs := by
  have hT := Lib.tabIs_of_head hg hty ht he hce hct h
  obtain ⟨ps, ⟨g', t', cs, fuel, p, q, hg', ht', hvar, hd, hq, hps⟩, hnd, hfz⟩ := h
  obtain rfl := Option.some.inj (hg.symm.trans hg')
  unfold Lib.TabIs at hT
  rw [hvar] at hT
  injection hT with hT
  have hcs : cs.size = zs.length := by rw [hT]; simp
  obtain ⟨⟨c, ty, hb⟩, -⟩ := hfz g 0 (by
    rw [hps]
    refine List.mem_append_left _ (List.mem_append_left _ ?_)
    unfold MemPlace.row
    exact List.mem_map.2 ⟨0, List.mem_range.2 (by omega), rfl⟩)
  refine ⟨ty, ?_⟩
  unfold World.var? at hvar
  rw [hg, Option.bind_some, hb] at hvar
  injection hvar with hvar
  rw [hb, hvar, hT]
end Go.Proofs.YtaphadmcjimmeaaDoor
