/- What all texts of layer 12 stand on. Own work. -/
import Derived.Test.YtjhjhhibfojpiaaTEvInN
import Derived.Test.YtjhjhhibfojpiaaTEvNone
import Derived.Test.YtjhjhhibfojpiaaTEvPad
import Derived.Test.YtjhjhhibfojpiaaTEvPut
import Derived.Test.YtjhjhhibfojpiaaRows
set_option linter.unusedSimpArgs false
set_option linter.unusedVariables false
set_option linter.unusedSectionVars false
namespace Go.Proofs.Ytjhjhhibfojpiaa
open Go.Ev
set_option maxRecDepth 100000
theorem mixed : Try.prog.follows .mixedOrders = true := by kernel_rfl
theorem noCount : Go.Ev.noCount Try.prog = true := by kernel_rfl
/-- The functions that write what they are handed. -/
def wrF (f : FuncId) : Bool := Nat.beq f 10 || Nat.beq f 11 || Nat.beq f 20
def qR (f : FuncId) : Bool := !(Nat.beq f 1000000000 || wrF f)
/-- Each guard is owed. -/
def qA (f : FuncId) : Bool := !wrF f
/-- The same, the operations ds and the choices ps left out. -/
def qX (ds ps : List Nat) (f : FuncId) : Bool := !(wrF f || ds.any (fun d => Nat.beq f (2000000000 + d)) || ps.any (fun d => Nat.beq f (4000000000 + d)))
section
variable [Tab]
noncomputable def dH (X : CallH) (n : Nat) : CallH := deep Try.prog qR X 200 n
noncomputable def dA (X : CallH) (n : Nat) : CallH := deep Try.prog qA X 200 n
noncomputable def n0 : CallH := fun _ _ _ => none
theorem n0_ok : HOk Try.prog n0 := HOk.none
theorem dH_ok {X : CallH} (h : HOk Try.prog X) (n : Nat) : HOk Try.prog (dH X n) := h.deep mixed noCount 200 n
theorem dA_ok {X : CallH} (h : HOk Try.prog X) (n : Nat) : HOk Try.prog (dA X n) := h.deep mixed noCount 200 n
/-- A length of one byte, of two, of three: which one is walked. -/
noncomputable def lenH (j : Nat) : CallH := match j with
  | 1 => turnC Try.prog qA n0 100 39 [true] n0
  | 2 => turnC Try.prog qA n0 100 39 [false, true] n0
  | _ => turnC Try.prog (qX [30, 31, 32, 33] [34]) n0 100 39 [false, true] n0
/-- The first element, by its length. -/
noncomputable def firH (j : Nat) : CallH := turnC Try.prog qA (lenH j) 100 33 [false, false] n0
theorem lenH_ok (j : Nat) : HOk Try.prog (lenH j) := by
  unfold lenH; split <;> exact HOk.turn mixed noCount n0_ok n0_ok _ _ _
theorem firH_ok (j : Nat) : HOk Try.prog (firH j) := HOk.turn mixed noCount (lenH_ok j) n0_ok _ _ _
end
end Go.Proofs.Ytjhjhhibfojpiaa
