/- Handlers put together: one of two, by the call; an answer with more names behind it. Own work. -/
import Derived.Test.YthddlnldjbijmaaDoorTMyRM
import Derived.Test.YthddlnldjbijmaaDoorTMrJ
set_option linter.unusedSimpArgs false
set_option linter.unusedVariables false
set_option linter.unusedSectionVars false
namespace Go.Ev
set_option linter.unusedSectionVars false
variable [Tab]
/-- One of two handlers, by what is called. -/
def chooseH (c : FuncId → List AV → Mem → Bool) (X Y : CallH) : CallH := fun f xs m =>
  match c f xs m with
  | true => X f xs m
  | false => Y f xs m
/-- The first that answers. -/
def orH (X Y : CallH) : CallH := fun f xs m =>
  match X f xs m with
  | some r => some r
  | none => Y f xs m
section
variable {P : Program} {X Y : CallH}
theorem HOk.or (hX : HOk P X) (hY : HOk P Y) : HOk P (orH X Y) := by
  refine ⟨@fun f xs m ob v m' h ho => ?_, @fun f xs m ob v m' h ho w0 S ρ w vs ha hi => ?_⟩
  · unfold orH at h
    split at h
    · rename_i r hr; cases h; exact hX.le hr ho
    · exact hY.le h ho
  · unfold orH at h
    split at h
    · rename_i r hr; cases h; exact hX.run hr ho ha hi
    · exact hY.run h ho ha hi
theorem HOk.choose (hX : HOk P X) (hY : HOk P Y) (c : FuncId → List AV → Mem → Bool) : HOk P (chooseH c X Y) := by
  refine ⟨@fun f xs m ob v m' h ho => ?_, @fun f xs m ob v m' h ho w0 S ρ w vs ha hi => ?_⟩
  · unfold chooseH at h
    split at h
    · exact hX.le h ho
    · exact hY.le h ho
  · unfold chooseH at h
    split at h
    · exact hX.run h ho ha hi
    · exact hY.run h ho ha hi
end
end Go.Ev
namespace Go.Proofs.YthddlnldjbijmaaDoor
open Go.Ev Go.Wn Go.Mo
set_option maxRecDepth 100000
def hy2 (z : Bool) : CallH := withV 28 iszS (hz9 z)
theorem hy2_ok (z : Bool) : HOk Tryd.prog (hy2 z) := (hz9_ok z).withV fun _ _ _ _ h _ => isz_ok h
noncomputable def hyF (z b : Bool) : CallH := turnC Tryd.prog qn (deep Tryd.prog qn (hy2 z) 100 3) 100 12 [b] (hy2 z)
theorem hyF_ok (z b : Bool) : HOk Tryd.prog (hyF z b) := HOk.turn mixed noCount ((hy2_ok z).deep mixed noCount 100 3) (hy2_ok z) 100 _ [b]
/-- Is it the peer's key that is shared with? -/
def peerC (f : FuncId) (xs : List AV) (_ : Mem) : Bool := match Nat.beq f 12 with
  | true => (match xs with
    | [_, .slice _ i _ _ _ _] => Nat.beq i 2
    | _ => false)
  | false => false
noncomputable def hpS (z b : Bool) : CallH := chooseH peerC (hyF z b) (hyF z false)
theorem hpS_ok (z b : Bool) : HOk Tryd.prog (hpS z b) := HOk.choose (hyF_ok z b) (hyF_ok z false) peerC
end Go.Proofs.YthddlnldjbijmaaDoor
