/- The anchor of layer 12. Own work. -/
import Derived.Test.YtjhjhhibfojpiaaTDeD
import Derived.Test.YtjhjhhibfojpiaaTEvRen
set_option linter.unusedSimpArgs false
set_option linter.unusedVariables false
set_option linter.unusedSectionVars false
namespace Go.Ev
variable [Tab]
theorem pure_of_goAll {P : Program} {q : FuncId → Bool} {H : CallH} (hm : P.follows .mixedOrders = true) (hng : noCount P = true) (hH : HOk P H) {n : Nat} {g : FuncId} {args : List AV} {v v' : AV} (hp : args.all plainA = true) (ds : List Bool)
    (h : resAll ((funcA P q H n g args []).go ds) = some (true, v)) (hv : ∀ {ρ ρ' : Nat → Loc3} {N N' : Nat → Prop} {u : Value}, Rep ρ N v u → Rep ρ' N' v' u) : PureCall P g args v' := by
  obtain ⟨o, h1, h2⟩ := res_all h
  exact pure_of_eval hm hng hH hp (go_sound (sat_plain h1 h2 hv))
end Go.Ev
namespace Go.Proofs.Ytjhjhhibfojpiaa
open Go.Ev Go.De
set_option maxRecDepth 100000
variable [Tab]
noncomputable def sH1 : CallH := turnC Try.prog qR n0 100 40 [true, true, true, true, true, true, true, false] n0
noncomputable def sH2 : CallH := turnC Try.prog qR (dH sH1 7) 100 34 [true] (firH 1)
noncomputable def sH3 : CallH := turnC Try.prog qR (dH n0 7) 100 12 [true] sH2
theorem sH3_ok : HOk Try.prog sH3 := HOk.turn mixed noCount (dH_ok n0_ok 7) (HOk.turn mixed noCount (dH_ok (HOk.turn mixed noCount n0_ok n0_ok _ _ _) 7) (firH_ok 1) _ _ _) _ _ _
def ssS : List AV → E AV
  | [] => some ([], .bool false true)
  | _ => none
theorem ssound_eval : resAll ((funcA Try.prog qA (dA sH3 9) 300 5 [] []).go []) = some (true, .bool true true) := by kernel_rfl
theorem ssound_ok {args : List AV} {o : List Bool} {v : AV} (h : ssS args = some (o, v)) : PureCall Try.prog 5 args v := by
  unfold ssS at h
  split at h
  · cases h
    exact pure_of_goAll mixed noCount (dA_ok sH3_ok 9) rfl [] ssound_eval fun h => by cases h; exact .bool _ _
  · cases h
/-- The anchor's answer, and another's. -/
noncomputable def hS (X : CallH) : CallH := withC 5 ssS X
theorem hS_ok {X : CallH} (h : HOk Try.prog X) : HOk Try.prog (hS X) := h.withC fun _ _ _ h _ => ssound_ok h
end Go.Proofs.Ytjhjhhibfojpiaa
namespace Go.Ev
set_option linter.unusedSectionVars false
variable [Tab]
section
variable {P : Program} {Λ : LoopH} {k0 : Nat}
end
end Go.Ev
