/- Contracts of functions that look at a struct whose first part is a slice of another block: plain answers. Own work. -/
import Derived.Test.YtapficdphhfpnaaDoorTEvOne
set_option linter.unusedSimpArgs false
set_option linter.unusedVariables false
set_option linter.unusedSectionVars false
namespace Go.Ev
set_option linter.unusedSectionVars false
variable [Tab]
section
variable {P : Program} {q : FuncId → Bool} {H : CallH} {Λ : LoopH}
end
end Go.Ev
