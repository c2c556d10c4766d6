/- A program whose package variables are not looked at. Own work. -/
import Derived.Test.YthpafpifpdeikaaTEvLoop
set_option linter.unusedSimpArgs false
set_option linter.unusedVariables false
set_option linter.unusedSectionVars false
namespace Go.Ev
instance tab0 : Tab := { T := fun _ => none }
end Go.Ev
