/- Handlers put together: one of two, by the call; an answer with more names behind it. Own work. -/
import Derived.Test.YtjhjhhibfojpiaaTEvFix
set_option linter.unusedSimpArgs false
set_option linter.unusedVariables false
set_option linter.unusedSectionVars false
namespace Go.Ev
set_option linter.unusedSectionVars false
variable [Tab]
/-- One of two handlers, by what is called. -/
def chooseH (c : FuncId → List AV → Mem → Bool) (X Y : CallH) : CallH := fun f xs m =>
  match c f xs m with
  | true => X f xs m
  | false => Y f xs m
/-- The first that answers. -/
def orH (X Y : CallH) : CallH := fun f xs m =>
  match X f xs m with
  | some r => some r
  | none => Y f xs m
section
variable {P : Program} {X Y : CallH}
theorem HOk.or (hX : HOk P X) (hY : HOk P Y) : HOk P (orH X Y) := by
  refine ⟨@fun f xs m ob v m' h ho => ?_, @fun f xs m ob v m' h ho w0 S ρ w vs ha hi => ?_⟩
  · unfold orH at h
    split at h
    · rename_i r hr; cases h; exact hX.le hr ho
    · exact hY.le h ho
  · unfold orH at h
    split at h
    · rename_i r hr; cases h; exact hX.run hr ho ha hi
    · exact hY.run h ho ha hi
theorem HOk.choose (hX : HOk P X) (hY : HOk P Y) (c : FuncId → List AV → Mem → Bool) : HOk P (chooseH c X Y) := by
  refine ⟨@fun f xs m ob v m' h ho => ?_, @fun f xs m ob v m' h ho w0 S ρ w vs ha hi => ?_⟩
  · unfold chooseH at h
    split at h
    · exact hX.le h ho
    · exact hY.le h ho
  · unfold chooseH at h
    split at h
    · exact hX.run h ho ha hi
    · exact hY.run h ho ha hi
end
end Go.Ev
