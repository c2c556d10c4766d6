/- The anchor of layer 7. Own work. -/
import Derived.Test.YtpbemjifhampcaaQBChW
set_option linter.unusedSimpArgs false
set_option linter.unusedVariables false
set_option linter.unusedSectionVars false
namespace Go.Proofs.Ytpbemjifhampcaa
open Go.Ev Go.Sh Go.Ch
set_option maxRecDepth 100000
def csS : List AV → E AV
  | [] => some ([], .bool false true)
  | _ => none
theorem csound_eval : resAll (funcA Try.prog qD (deep Try.prog qD hoY 100 5) 100 20 [] []) = some (true, .bool true true) := by kernel_rfl
theorem csound_ok {args : List AV} {o : List Bool} {v : AV} (h : csS args = some (o, v)) : PureCall Try.prog 20 args v := by
  unfold csS at h
  split at h
  · cases h
    exact pure_of_all mixed noCount (hoY_ok.deep mixed noCount 100 5) (by kernel_rfl) csound_eval unmark
  · cases h
def hcs : CallH := withC 20 csS hq7
theorem hcs_ok : HOk Try.prog hcs := hq7_ok.withC fun _ _ _ h _ => csound_ok h
end Go.Proofs.Ytpbemjifhampcaa
