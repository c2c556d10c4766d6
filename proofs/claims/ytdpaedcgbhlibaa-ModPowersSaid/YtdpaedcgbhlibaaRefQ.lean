/- The calls of the laws of powers: where the modulus may be, and where it may not. Own work. -/
import Derived.Test.YtdpaedcgbhlibaaRefP
namespace Go.Proofs.Ytdpaedcgbhlibaa
open Go.Ev Go.Wn
def hgA : CallH := withC 32 soundS (withV 33 newG hf5)
theorem hgA_ok : HOk Try.prog hgA := (hf5_ok.withV fun _ _ _ _ h ho => newG_ok h ho).withC fun _ _ _ h _ => msound_ok h
def hgB : CallH := withC 32 soundS (withV 33 newB hf5)
theorem hgB_ok : HOk Try.prog hgB := (hf5_ok.withV fun _ _ _ _ h ho => newB_ok h ho).withC fun _ _ _ h _ => msound_ok h
end Go.Proofs.Ytdpaedcgbhlibaa
