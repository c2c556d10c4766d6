/- Calls of a function that has loops, walked in the caller's memory: its loops by families. Arguments of a law that are put together of slices. Own work. -/
import Derived.Test.YthpafpifpdeikaaTEvTurn
import Derived.Test.YthpafpifpdeikaaTEvLoop
import Derived.Test.YthpafpifpdeikaaTEvLawN
set_option linter.unusedSimpArgs false
set_option linter.unusedVariables false
set_option linter.unusedSectionVars false
namespace Go.Ev
set_option linter.unusedSectionVars false
variable [Tab]
def inL (P : Program) (q : FuncId → Bool) (H : CallH) (Λ : LoopH) (fuel : Nat) (g : FuncId) (ds : List Bool) (X : CallH) : CallH := fun f xs m =>
  match decide (f = g) with
  | true => match ((funcL P q H Λ fuel f xs m).go ds).flat with
    | some (o, (v, m')) => (match decide (m.length ≤ m'.length) with | true => some (o, (v, m')) | false => none)
    | none => X f xs m
  | false => X f xs m
section
variable {P : Program} {q : FuncId → Bool} {H X : CallH} {Λ : LoopH}
theorem HOk.inL (hm : P.follows .mixedOrders = true) (hng : noCount P = true) (hH : HOk P H) (hX : HOk P X) (fuel : Nat) (g : FuncId) (ds : List Bool) (hΛ : ∀ fn c, P.funcs[g]? = some fn → fn.body = some c → LOk P c Λ) : HOk P (inL P q H Λ fuel g ds X) := by
  have both : ∀ {f : FuncId} {xs : List AV} {m : Mem} {ob : List Bool} {v : AV} {m' : Mem}, Go.Ev.inL P q H Λ fuel g ds X f xs m = some (ob, (v, m')) → Paid ob →
      m.length ≤ m'.length ∧ ∀ {w0 : World} {S : Nat → Prop} {ρ : Nat → Loc3} {w : World} {vs : List Value}, Reps ρ (upto m.length) xs vs → Inv w0 S (upto m.length) ρ (getName m) w →
      CallRun P f vs.toArray w (fun u w' => ∃ ρ', Rep ρ' (upto m'.length) v u ∧ Inv w0 S (upto m'.length) ρ' (getName m') w' ∧ Agr ρ ρ' (upto m.length)) := by
    intro f xs m ob v m' h ho
    unfold Go.Ev.inL at h
    split at h
    · rename_i hf
      have hf' := of_decide_eq_true hf
      subst hf'
      split at h
      · rename_i o1 x m1 hflat
        split at h
        case h_2 => cases h
        rename_i hle
        cases h
        have hsat := go_sound (flat_sound hflat ho)
        refine ⟨by simpa using hle, fun {w0 S ρ w vs} ha hi => ?_⟩
        obtain ⟨hf, hc⟩ := funcL_sound hm hH hΛ hsat (w0 := w0) (S := S) ha hi
        refine callRun_of hng hf (hc.mono fun e w' ⟨u, h1, x', m2, ρ', k1, k2, k3, k4, k5⟩ => ⟨u, h1, ρ', ?_⟩)
        cases k1
        exact ⟨k2, k3, k4⟩
      · exact ⟨hX.le h ho, fun ha hi => hX.run h ho ha hi⟩
    · exact ⟨hX.le h ho, fun ha hi => hX.run h ho ha hi⟩
  exact ⟨@fun f xs m ob v m' h ho => (both h ho).1, @fun f xs m ob v m' h ho w0 S ρ w vs ha hi => (both h ho).2 ha hi⟩
end
end Go.Ev
