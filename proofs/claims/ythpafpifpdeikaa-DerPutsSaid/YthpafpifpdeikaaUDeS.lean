/- Whole's contract: an INTEGER's bytes, or not. Own work. -/
import Derived.Test.YthpafpifpdeikaaUDeR
set_option linter.unusedSimpArgs false
set_option linter.unusedVariables false
set_option linter.unusedSectionVars false
namespace Go.De
end Go.De
namespace Go.Proofs.Ythpafpifpdeikaa
open Go.Ev Go.De
set_option maxRecDepth 100000
set_option linter.unusedSimpArgs false
set_option linter.unusedVariables false
variable [Tab]
theorem mark1 {ρ : Nat → Loc3} {N : Nat → Prop} {s : Bool} {n len : Nat} {vs : List Value} (h : Reps ρ N [.slice s n 0 len none 1] vs) : Reps ρ N [.slice true n 0 len none 1] vs := by
  cases h with
  | cons _ _ v0 vs0 h0 hs0 => exact .cons _ _ _ _ ((LeS.slice s true n 0 len none none 1 (Or.inl rfl)).rep h0) hs0
end Go.Proofs.Ythpafpifpdeikaa
