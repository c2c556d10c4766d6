/- Families of heads whose round begins by naming a row of a list of lists. Own work. -/
import Derived.Test.YthpafpifpdeikaaUEvFam
import Derived.Test.YthpafpifpdeikaaUEvLists
set_option linter.unusedSimpArgs false
set_option linter.unusedVariables false
set_option linter.unusedSectionVars false
namespace Go.Ev
set_option linter.unusedSectionVars false
set_option linter.unusedVariables false
variable [Tab]
section
variable {P : Program} {q : FuncId → Bool} {H : CallH} {Λ0 Λ : LoopH}
/-- A row is one of three. -/
def RowSh [RowTab] (i : Nat) : Prop := rowX i = .pl .nilslice ∨ rowX i = .empty ∨ ∃ (m : Nat) (l : List Int), rowX i = .buf true .u8 m l ∧ 1 ≤ m ∧ m ≤ reachBytes ∧ l.length = m ∧ ∀ y ∈ l, inR .u8 y = true
end
end Go.Ev
