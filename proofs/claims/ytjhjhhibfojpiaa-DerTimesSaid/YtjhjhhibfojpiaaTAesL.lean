/- A program whose package variables are not looked at. Own work. -/
import Derived.Test.YtjhjhhibfojpiaaTEvLoop
import Derived.Test.YtjhjhhibfojpiaaTEvLawV
import Derived.Test.YtjhjhhibfojpiaaRows
import Derived.ProofKit
import Derived.OpenShut
set_option linter.unusedSimpArgs false
set_option linter.unusedVariables false
set_option linter.unusedSectionVars false
namespace Go.Ev
instance tab0 : Tab := { T := fun _ => none }
end Go.Ev
namespace Go.Proofs.Ytjhjhhibfojpiaa
open Go.Ev
open Go.ChangeShapes Go.WideShapes Go.ChangeAt Go.RowKit
set_option maxRecDepth 100000
theorem own : ownKnob Try.prog.godebug = none := by kernel_rfl
theorem laidOut : laidOutB Try.prog = true := by kernel_rfl
end Go.Proofs.Ytjhjhhibfojpiaa
