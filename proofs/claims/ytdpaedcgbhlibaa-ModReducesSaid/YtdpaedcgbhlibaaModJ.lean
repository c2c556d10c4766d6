/- The anchor of layer 2's laws. Own work. -/
import Derived.Test.YtdpaedcgbhlibaaModI
import Derived.Test.YtdpaedcgbhlibaaWordsR
import Derived.Test.YtdpaedcgbhlibaaEvLawV
namespace Go.Proofs.Ytdpaedcgbhlibaa
open Go.Ev Go.Wn
set_option maxRecDepth 100000
def hmN : CallH := withV 33 newG hm11
theorem hmN_ok : HOk Try.prog hmN := hm11_ok.withV fun _ _ _ _ h ho => newG_ok h ho
theorem msound_eval : resAll (funcA Try.prog qAll (deep Try.prog qAll hmN 100 5) 100 32 [] []) = some (true, .bool true true) := by kernel_rfl
theorem msound_ok {args : List AV} {o : List Bool} {v : AV} (h : soundS args = some (o, v)) : PureCall Try.prog 32 args v := by
  unfold soundS at h
  split at h
  · cases h
    exact pure_of_all mixed noCount (hmN_ok.deep mixed noCount 100 5) (by kernel_rfl) msound_eval unmark
  · cases h
/-- Where the modulus may be. -/
def hmA : CallH := withC 32 soundS hmN
theorem hmA_ok : HOk Try.prog hmA := hmN_ok.withC fun _ _ _ h _ => msound_ok h
/-- Where it may not. -/
def hmB : CallH := withC 32 soundS (withV 33 newB hm11)
theorem hmB_ok : HOk Try.prog hmB := (hm11_ok.withV fun _ _ _ _ h ho => newB_ok h ho).withC fun _ _ _ h _ => msound_ok h
end Go.Proofs.Ytdpaedcgbhlibaa
