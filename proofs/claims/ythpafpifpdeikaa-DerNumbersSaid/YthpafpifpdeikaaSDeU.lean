/- The reference's Whole, walked. Own work. -/
import Derived.Test.YthpafpifpdeikaaSDeT
set_option linter.unusedSimpArgs false
set_option linter.unusedVariables false
set_option linter.unusedSectionVars false
namespace Go.Proofs.Ythpafpifpdeikaa
open Go.Ev Go.De
set_option maxRecDepth 100000
variable [Tab]
noncomputable def rwG (X : CallH) : CallH := inL Try.prog qA (hRNat (hRp n0)) (rwΛ (fun _ _ => none)) 100 22 [false] X
noncomputable def rwB (X : CallH) : CallH := inL Try.prog (qX [31, 32, 33, 34] []) (hRNat (hRp n0)) (rwΛ (fun _ _ => none)) 100 22 [] X
theorem rwG_ok {X : CallH} (h : HOk Try.prog X) : HOk Try.prog (rwG X) := HOk.inL mixed noCount (hRNat_ok (hRp_ok n0_ok)) h 100 _ _ fun fn c hf hb => by rw [bodyOf_eq hf hb]; exact rw_lok LOk.none
theorem rwB_ok {X : CallH} (h : HOk Try.prog X) : HOk Try.prog (rwB X) := HOk.inL mixed noCount (hRNat_ok (hRp_ok n0_ok)) h 100 _ _ fun fn c hf hb => by rw [bodyOf_eq hf hb]; exact rw_lok LOk.none
/-- Is it the law's own bytes that are asked of? -/
def isB (_ : FuncId) (xs : List AV) (_ : Mem) : Bool := match xs with
  | .slice _ 1 _ _ _ _ :: _ => true
  | _ => false
noncomputable def nuG : CallH := hS (hWh (hRNat (hNat (hGU (rwG n0)))))
noncomputable def nuB : CallH := hS (chooseH isB (hWhX (hRNat (hNat (hGU (rwB n0))))) (hWh (hRNat (hNat (hGU (rwB n0))))))
theorem nuG_ok : HOk Try.prog nuG := hS_ok (hWh_ok (hRNat_ok (hNat_ok (hGU_ok (rwG_ok n0_ok)))))
theorem nuB_ok : HOk Try.prog nuB := hS_ok (HOk.choose (hWhX_ok (hRNat_ok (hNat_ok (hGU_ok (rwB_ok n0_ok))))) (hWh_ok (hRNat_ok (hNat_ok (hGU_ok (rwB_ok n0_ok))))) _)
end Go.Proofs.Ythpafpifpdeikaa
