/- Contracts of functions that write what their arguments point to. Own work. -/
import Derived.Test.YtjhjhhibfojpiaaTEvLoop
set_option linter.unusedSimpArgs false
set_option linter.unusedVariables false
set_option linter.unusedSectionVars false
namespace Go.Ev
set_option linter.unusedSectionVars false
variable [Tab]

def isW : V → Bool
  | .ptw _ => true
  | _ => false
where
  aps (x : V) (n : Option Nat) : List V → List (Option Nat) → Bool
  | y :: ys, k :: ks => (match isW x || isW y, n, k with | true, some a, some b => !(Nat.beq a b) | _, _, _ => true) && aps x n ys ks
  | _, _ => true
section
variable {P : Program} {q : FuncId → Bool} {H : CallH} {Λ : LoopH}
end
end Go.Ev
