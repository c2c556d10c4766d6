/- The anchor of layer 6. Own work. -/
import Derived.Test.YtljndahfackolaaQGcC
import Derived.Test.YtljndahfackolaaQEvTurn
set_option linter.unusedSimpArgs false
set_option linter.unusedVariables false
set_option linter.unusedSectionVars false
namespace Go.Proofs.Ytljndahfackolaa
open Go.Ev Go.Sh Go.As Go.Gc
set_option maxRecDepth 100000
def hg16 : CallH := withV 11 newS16 hg3
def hg32 : CallH := withV 11 newS32 hg3
def hgX : CallH := withV 11 newSX hg3
theorem hg16_ok : HOk Try.prog hg16 := hg3_ok.withV fun _ _ _ _ h ho => new16_ok h ho
theorem hg32_ok : HOk Try.prog hg32 := hg3_ok.withV fun _ _ _ _ h ho => new32_ok h ho
theorem hgX_ok : HOk Try.prog hgX := hg3_ok.withV fun _ _ _ _ h ho => newX_ok h ho
def gsS : List AV → E AV
  | [] => some ([], .bool false true)
  | _ => none
noncomputable def hgO : CallH := turnC Try.prog qP (deep Try.prog qP hgX 100 5) 100 13 [false] hgX
theorem hgO_ok : HOk Try.prog hgO := HOk.turn mixed noCount (hgX_ok.deep mixed noCount 100 5) hgX_ok 100 _ _
theorem gsound_eval : resAll (funcA Try.prog qP (deep Try.prog qP hgO 100 5) 100 8 [] []) = some (true, .bool true true) := by kernel_rfl
theorem gsound_ok {args : List AV} {o : List Bool} {v : AV} (h : gsS args = some (o, v)) : PureCall Try.prog 8 args v := by
  unfold gsS at h
  split at h
  · cases h
    exact pure_of_all mixed noCount (hgO_ok.deep mixed noCount 100 5) (by kernel_rfl) gsound_eval unmark
  · cases h
end Go.Proofs.Ytljndahfackolaa
