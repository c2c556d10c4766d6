/- For the laws of layer 5: what a row's frame asks of the program. Own work. -/
import Derived.Test.YtclkicobnmjpoaaEvLawV
import Derived.Test.YtclkicobnmjpoaaTab0
import Derived.Test.YtclkicobnmjpoaaRows
import Derived.ProofKit
import Derived.OpenShut
namespace Go.Proofs.Ytclkicobnmjpoaa
open Go.Ev
open Go.ChangeShapes Go.WideShapes Go.ChangeAt Go.RowKit
set_option maxRecDepth 100000
theorem own : ownKnob Try.prog.godebug = none := by kernel_rfl
theorem laidOut : laidOutB Try.prog = true := by kernel_rfl
end Go.Proofs.Ytclkicobnmjpoaa
