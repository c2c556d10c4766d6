/- The reference's Put, by its length. Own work. -/
import Derived.Test.YthpafpifpdeikaaSDeQ
set_option linter.unusedSimpArgs false
set_option linter.unusedVariables false
set_option linter.unusedSectionVars false
namespace Go.Proofs.Ythpafpifpdeikaa
open Go.Ev Go.De
set_option maxRecDepth 100000
variable [Tab]
noncomputable def rputH (k : Nat) (X : CallH) : CallH := match k with
  | 1 => turnC Try.prog qA n0 100 13 [false, false, false] X
  | 2 => turnC Try.prog qA n0 100 13 [false, false, true] X
  | _ => turnC Try.prog qA n0 100 13 [false, true] X
theorem rputH_ok {X : CallH} (h : HOk Try.prog X) (k : Nat) : HOk Try.prog (rputH k X) := by
  unfold rputH; split <;> exact HOk.turn mixed noCount n0_ok h _ _ _
end Go.Proofs.Ythpafpifpdeikaa
