/- Calls of a function that has loops, walked in the caller's memory, its loops by families that give names anew. Own work. -/
import Derived.Test.YthpafpifpdeikaaUEvIn
import Derived.Test.YthpafpifpdeikaaUEvOne
set_option linter.unusedSimpArgs false
set_option linter.unusedVariables false
set_option linter.unusedSectionVars false
namespace Go.Ev
set_option linter.unusedSectionVars false
variable [Tab]
section
variable {P : Program} {q : FuncId → Bool} {H X : CallH} {Λ : LoopH}
end
end Go.Ev
namespace Go.Ev
set_option linter.unusedSectionVars false
variable [Tab]
section
variable {P : Program} {q : FuncId → Bool} {H : CallH} {Λ : LoopH}
end
end Go.Ev
