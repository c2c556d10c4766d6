/- Readers: a step walked in the caller's memory. Own work. -/
import Derived.Test.YthpafpifpdeikaaTDeV
import Derived.Test.YthpafpifpdeikaaTEvRenx
set_option linter.unusedSimpArgs false
set_option linter.unusedVariables false
set_option linter.unusedSectionVars false
namespace Go.De
/-- Elements one in the other. -/
def nest (c : List Int) : Nat → List Int
  | 0 => c
  | i + 1 => putB 48 (nest c i)
end Go.De
namespace Go.Proofs.Ythpafpifpdeikaa
open Go.Ev Go.De
set_option maxRecDepth 100000
variable [Tab]
/-- A reader's step that takes an element of that form. -/
noncomputable def stH (j : Nat) (X : CallH) : CallH := inL Try.prog qA (firH j) (fun _ _ => none) 100 33 [false] X
theorem stH_ok {X : CallH} (h : HOk Try.prog X) (j : Nat) : HOk Try.prog (stH j X) := HOk.inL mixed noCount (firH_ok j) h 100 _ _ fun fn c hf hb => LOk.none
end Go.Proofs.Ythpafpifpdeikaa
