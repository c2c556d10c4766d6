/- Natural's contract: an INTEGER of bytes. Own work. -/
import Derived.Test.YthpafpifpdeikaaUDeP
set_option linter.unusedSimpArgs false
set_option linter.unusedVariables false
set_option linter.unusedSectionVars false
namespace Go.Proofs.Ythpafpifpdeikaa
open Go.Ev Go.De
set_option maxRecDepth 100000
set_option linter.unusedSimpArgs false
set_option linter.unusedVariables false
variable [Tab]
end Go.Proofs.Ythpafpifpdeikaa
namespace Go.Proofs.Ythpafpifpdeikaa
open Go.Ev Go.De
set_option maxRecDepth 100000
variable [Tab]
end Go.Proofs.Ythpafpifpdeikaa
