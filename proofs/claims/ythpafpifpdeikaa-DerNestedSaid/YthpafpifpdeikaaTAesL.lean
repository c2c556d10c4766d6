/- For the laws of layer 5: what a row's frame asks of the program. Own work. -/
import Derived.Test.YthpafpifpdeikaaTEvLawV
import Derived.Test.YthpafpifpdeikaaTTab0
import Derived.Test.YthpafpifpdeikaaRows
import Derived.ProofKit
import Derived.OpenShut
set_option linter.unusedSimpArgs false
set_option linter.unusedVariables false
set_option linter.unusedSectionVars false
namespace Go.Proofs.Ythpafpifpdeikaa
open Go.Ev
open Go.ChangeShapes Go.WideShapes Go.ChangeAt Go.RowKit
set_option maxRecDepth 100000
theorem own : ownKnob Try.prog.godebug = none := by kernel_rfl
theorem laidOut : laidOutB Try.prog = true := by kernel_rfl
end Go.Proofs.Ythpafpifpdeikaa
