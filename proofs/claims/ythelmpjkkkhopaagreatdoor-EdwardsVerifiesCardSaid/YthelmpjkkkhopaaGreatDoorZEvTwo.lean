/- Contracts of functions that look at a struct whose first part is a slice of another block: plain answers. Own work. -/
import Derived.Test.YthelmpjkkkhopaaGreatDoorZEvOne
set_option linter.unusedSimpArgs false
set_option linter.unusedVariables false
set_option linter.unusedSectionVars false
namespace Go.Ev
variable [Tab]
section
variable {P : Program} {q : FuncId → Bool} {H : d82} {Λ : d8r}
end
end Go.Ev
