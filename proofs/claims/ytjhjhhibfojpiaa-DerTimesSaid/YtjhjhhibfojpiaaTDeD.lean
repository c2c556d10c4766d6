/- The first element of bytes: what Get answers, by its length's form, or that there is none. Own work. -/
import Derived.Test.YtjhjhhibfojpiaaTDeB
import Derived.Test.YtjhjhhibfojpiaaTDeM
set_option linter.unusedSimpArgs false
set_option linter.unusedVariables false
set_option linter.unusedSectionVars false
namespace Go.Proofs.Ytjhjhhibfojpiaa
open Go.Ev Go.De
set_option maxRecDepth 100000
set_option linter.unusedSimpArgs false
variable [Tab]
/-- Bytes begin with no element. -/
def bad (N : Nat) (l : List Int) : Bool := !(gd 1 N l || gd 2 N l || gd 3 N l)
end Go.Proofs.Ytjhjhhibfojpiaa
namespace Go.Proofs.Ytjhjhhibfojpiaa
open Go.Ev Go.De
set_option maxRecDepth 100000
set_option linter.unusedSimpArgs false
variable [Tab]
end Go.Proofs.Ytjhjhhibfojpiaa
