/- Whole's contract: an INTEGER's bytes, or not. Own work. -/
import Derived.Test.YthpafpifpdeikaaTDeR
set_option linter.unusedSimpArgs false
set_option linter.unusedVariables false
set_option linter.unusedSectionVars false
namespace Go.De
end Go.De
namespace Go.Proofs.Ythpafpifpdeikaa
open Go.Ev Go.De
set_option maxRecDepth 100000
set_option linter.unusedSimpArgs false
set_option linter.unusedVariables false
variable [Tab]
end Go.Proofs.Ythpafpifpdeikaa
namespace Go.De
end Go.De
namespace Go.Proofs.Ythpafpifpdeikaa
open Go.Ev Go.De
set_option maxRecDepth 100000
set_option linter.unusedSimpArgs false
set_option linter.unusedVariables false
variable [Tab]
end Go.Proofs.Ythpafpifpdeikaa
