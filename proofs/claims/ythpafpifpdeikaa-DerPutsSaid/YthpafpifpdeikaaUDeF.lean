/- The reference's Get, by the length's form; mixed. Own work. -/
import Derived.Test.YthpafpifpdeikaaUDeE
set_option linter.unusedSimpArgs false
set_option linter.unusedVariables false
set_option linter.unusedSectionVars false
namespace Go.Proofs.Ythpafpifpdeikaa
open Go.Ev Go.De
set_option maxRecDepth 100000
variable [Tab]
/-- A length's bytes: one, two, three. -/
noncomputable def lnH (k : Nat) : CallH := match k with
  | 1 => turnC Try.prog qA n0 100 30 [true] n0
  | 2 => turnC Try.prog qA n0 100 30 [false, true] n0
  | _ => turnC Try.prog qA n0 100 30 [false, false] n0
theorem lnH_ok (k : Nat) : HOk Try.prog (lnH k) := by
  unfold lnH; split <;> exact HOk.turn mixed noCount n0_ok n0_ok _ _ _
end Go.Proofs.Ythpafpifpdeikaa
