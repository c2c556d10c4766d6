/- The reference's Natural: the same answer. Own work. -/
import Derived.Test.YthpafpifpdeikaaUDeR0
set_option linter.unusedSimpArgs false
set_option linter.unusedVariables false
set_option linter.unusedSectionVars false
namespace Go.Ev
set_option linter.unusedSectionVars false
variable [Tab]
section
variable {P : Program} {q : FuncId → Bool} {H : CallH} {Λ : LoopH}
end
end Go.Ev
namespace Go.Proofs.Ythpafpifpdeikaa
open Go.Ev Go.De
set_option maxRecDepth 100000
set_option linter.unusedSimpArgs false
set_option linter.unusedVariables false
variable [Tab]
end Go.Proofs.Ythpafpifpdeikaa
