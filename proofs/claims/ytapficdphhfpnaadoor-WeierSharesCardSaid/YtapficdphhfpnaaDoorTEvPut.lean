/- Arguments of a law that are put together of slices: opened, and a law's call off them. Own work. -/
import Derived.Test.YtapficdphhfpnaaDoorTEvIn
import Derived.SizedLaws
set_option linter.unusedSimpArgs false
set_option linter.unusedVariables false
set_option linter.unusedSectionVars false
namespace Go.Ev
set_option linter.unusedSectionVars false
variable [Tab]
open Go.ChangeShapes Go.WideShapes Go.ChangeAt Go.RowKit
section
variable {P : Program} {q : FuncId → Bool} {H : CallH} {Λ : LoopH}
end
section
variable {H : Type} {enc : TypeId × Value → H} {P : Program}
end
end Go.Ev
