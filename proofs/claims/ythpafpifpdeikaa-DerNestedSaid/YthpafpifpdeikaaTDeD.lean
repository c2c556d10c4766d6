/- Contracts of Get: the first element, by its length's form; none. Own work. -/
import Derived.Test.YthpafpifpdeikaaTDeC
set_option linter.unusedSimpArgs false
set_option linter.unusedVariables false
set_option linter.unusedSectionVars false
namespace Go.Proofs.Ythpafpifpdeikaa
open Go.Ev Go.De
set_option maxRecDepth 100000
set_option linter.unusedSimpArgs false
variable [Tab]
end Go.Proofs.Ythpafpifpdeikaa
