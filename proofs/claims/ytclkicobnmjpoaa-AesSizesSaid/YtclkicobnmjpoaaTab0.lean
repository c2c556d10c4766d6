/- A program whose package variables are not looked at. Own work. -/
import Derived.Test.YtclkicobnmjpoaaEvLoop
namespace Go.Ev
instance tab0 : Tab := ⟨fun _ => none⟩
end Go.Ev
