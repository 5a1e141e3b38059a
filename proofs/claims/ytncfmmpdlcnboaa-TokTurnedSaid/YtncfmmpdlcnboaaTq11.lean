import Derived.Maps.OwnSet
import Derived.Test.YtncfmmpdlcnboaaTq6
import Derived.Test.YtncfmmpdlcnboaaTq7
import Derived.Test.YtncfmmpdlcnboaaTq10
set_option linter.unusedVariables false
set_option linter.unusedSimpArgs false
namespace Go.Proofs.Ytncfmmpdlcnboaa
open Go Go.Proofs Go.RowKit Go.Vc Go.Proofs.Jv Go.Maps
theorem sl_is8 {F : Nat → Nat → Option Value} {w : World} {nl : Bool} {l : List UInt8} {v : Value} (hF : Fits F w) (h : Sl (bareG F) w nl 0 1 (BRow.bytes l).vals v) : Is8 w v l := by
  rcases h with ⟨he, a, rfl, -, -⟩ | ⟨-, b, o, cap, rfl, ⟨hc1, hc2⟩, hat⟩
  · have : l = [] := by simpa [BRow.vals] using he
    subst this
    exact ⟨a, 0, rfl, Nat.le_refl _, Nat.zero_le _, (fun _ => rfl), fun h => absurd h (by decide)⟩
  · have hl : (BRow.bytes l).vals.length = l.length := by simp [BRow.vals]
    rw [hl] at hc1
    refine ⟨_, cap, by rw [hl], hc1, hc2, (fun h => by cases h), fun _ => ⟨b, o, rfl, fun i hi => ?_⟩⟩
    rcases hat with ⟨-, hat⟩ | ⟨h, -⟩
    · refine hF b (o + i) _ (hat i _ ?_)
      rw [flat_vals (vals_flat _)]
      simp only [BRow.vals, List.getElem?_map]
      rw [List.getElem?_eq_getElem hi]
      unfold u8At byt
      rw [List.getD_eq_getElem?_getD, List.getElem?_eq_getElem hi]
      rfl
    · exact absurd rfl h
theorem nil0 (l : Bs) : decide (l = []) = l.isEmpty := by cases l <;> simp
theorem key_le : ∀ {ks : List Bs} {s : Bs}, s ∈ ks → s.length ≤ (ks.map fun k => 1 + k.length).sum
  | k :: ks, s, h => by
    rw [List.map_cons, List.sum_cons]
    rcases List.mem_cons.1 h with e | h
    · subst e; omega
    · have := key_le h; omega
theorem keys_le : ∀ ks : List Bs, ks.length ≤ (ks.map fun k => 1 + k.length).sum
  | [] => Nat.le_refl _
  | k :: ks => by
    have := keys_le ks
    rw [List.map_cons, List.sum_cons, List.length_cons]; omega
theorem sizeJs_memL : ∀ {l : List JV} {x : JV}, x ∈ l → sizeJ x ≤ sizeJs l
  | y :: l, x, h => by
    rw [sizeJs]
    rcases List.mem_cons.1 h with e | h
    · subst e; omega
    · have := sizeJs_memL h; omega
theorem mayJs_drop {num val : Bs → Bool} {l : List JV} {i d : Nat} (h : i < l.length) : mayJs num val (l.drop i) d = (mayJ num val l[i] d && mayJs num val (l.drop (i + 1)) d) := by rw [List.drop_eq_getElem_cons h, mayJs]
end Go.Proofs.Ytncfmmpdlcnboaa
