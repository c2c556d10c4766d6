/- A law's call, off its text, its loops by their contracts. Own work. -/
import Derived.Test.YtljndahfackolaaQEvOne
set_option linter.unusedSimpArgs false
set_option linter.unusedVariables false
set_option linter.unusedSectionVars false
namespace Go.Ev
set_option linter.unusedSectionVars false
variable [Tab]
open Go.ChangeShapes Go.WideShapes Go.ChangeAt Go.RowKit
section
variable {P : Program} {q : FuncId → Bool} {H : CallH} {Λ : LoopH}
theorem law_of_goN (hm : P.follows .mixedOrders = true) (hH : HOk P H) {n : Nat} {g : FuncId} {xs : List V} (hΛ : ∀ fn c, P.funcs[g]? = some fn → fn.body = some c → LOkN xs.length P c Λ) {s b : Bool} {o : List Bool} (ds : List Bool)
    (h : res ((funcL P q H Λ n g (cArgs 0 xs) (cMem xs)).go ds) = some (o, .bool s b)) (ho : Paid o) (hb : b = true) {vs : List Value} {W : World} (hv : VOks W 0 xs vs) (hw : noW xs = true := by rfl) (hT : TRep W := by first | assumption | exact fun G c h => by cases h) :
    Calls P g vs.toArray W (fun e w' => e = .returned (.bool true) ∧ Below W.heap.size W w') := by
  subst hb
  obtain ⟨ρ, ha, hi⟩ := hv.start hw hT
  have hcm : (cMem xs).length = xs.length := by simp [cMem]
  obtain ⟨_, hc⟩ := funcN_sound hm hH hΛ (Nat.le_of_eq hcm) (go_sound (sat_res h ho)) ha hi
  refine hc.mono fun e w' ⟨u, h1, x', m2, ρ', k1, k2, k3, k4, k5⟩ => ?_
  simp only at k1
  rw [k1] at k2
  cases k2
  exact ⟨h1, ⟨k3.os, k3.tape, k3.output, k3.size, fun k hk => k3.frame k hk (fun h => h)⟩⟩
end
end Go.Ev
