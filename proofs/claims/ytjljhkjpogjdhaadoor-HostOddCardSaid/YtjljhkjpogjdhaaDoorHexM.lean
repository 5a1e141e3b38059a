/- A digit of sixteen. No program. -/
import Derived.Lib.Hide
set_option linter.unusedVariables false
set_option linter.unusedSimpArgs false
namespace Go.Proofs.YtjljhkjpogjdhaaDoor

def hexN (c : Int) : Int := if 48 ≤ c ∧ c ≤ 57 then c - 48 else if 97 ≤ c ∧ c ≤ 102 then c - 87 else if 65 ≤ c ∧ c ≤ 70 then c - 55 else -1
theorem hexN_bd (c : Int) : -1 ≤ hexN c ∧ hexN c ≤ 15 := by unfold hexN; (repeat' split) <;> omega
end Go.Proofs.YtjljhkjpogjdhaaDoor
