/- Calls of a function that is walked with its turns given: each turn is owed. Own work. -/
import Derived.Test.YtjhjhhibfojpiaaTEvLawV
set_option linter.unusedSimpArgs false
set_option linter.unusedVariables false
set_option linter.unusedSectionVars false
namespace Go.Ev
set_option linter.unusedSectionVars false
variable [Tab]
def turnC (P : Program) (q : FuncId → Bool) (H : CallH) (fuel : Nat) (g : FuncId) (ds : List Bool) (X : CallH) : CallH := fun f args m =>
  match decide (f = g) with
  | true => match ((funcA P q H fuel f args (roAll m)).go ds).flat with
    | some (o, (v, m')) => some (o, (v, m ++ onlyRw (m'.drop m.length)))
    | none => X f args m
  | false => X f args m
section
variable {P : Program} {q : FuncId → Bool} {H X : CallH}
theorem HOk.turn (hm : P.follows .mixedOrders = true) (hng : noCount P = true) (hH : HOk P H) (hX : HOk P X) (fuel : Nat) (g : FuncId) (ds : List Bool) : HOk P (turnC P q H fuel g ds X) := by
  have both : ∀ {f : FuncId} {xs : List AV} {m : Mem} {ob : List Bool} {v : AV} {m' : Mem}, turnC P q H fuel g ds X f xs m = some (ob, (v, m')) → Paid ob →
      m.length ≤ m'.length ∧ ∀ {w0 : World} {S : Nat → Prop} {ρ : Nat → Loc3} {w : World} {vs : List Value}, Reps ρ (upto m.length) xs vs → Inv w0 S (upto m.length) ρ (getName m) w →
      CallRun P f vs.toArray w (fun u w' => ∃ ρ', Rep ρ' (upto m'.length) v u ∧ Inv w0 S (upto m'.length) ρ' (getName m') w' ∧ Agr ρ ρ' (upto m.length)) := by
    intro f xs m ob v m' h ho
    have hl : (roAll m).length = m.length := by simp [roAll]
    unfold turnC at h
    split at h
    · split at h
      · rename_i o1 x m1 hflat
        cases h
        have hsat := go_sound (flat_sound hflat ho)
        refine ⟨by simp, fun {w0 S ρ w vs} ha hi => ?_⟩
        obtain ⟨hf, hc⟩ := funcA_sound hm hH hsat (w0 := w) (S := fun _ => False) (by rw [hl]; exact ha) (ro_start hi)
        refine callRun_of hng hf (hc.mono fun e w' ⟨u, h1, x', m2, ρ', k1, k2, k3, k4, k5⟩ => ⟨u, h1, ρ', ?_⟩)
        cases k1
        rw [hl] at k4 k5
        have hlen : (m ++ onlyRw (m1.drop m.length)).length = m1.length := by simp [onlyRw]; omega
        rw [hlen]
        refine ⟨k2, hi.join k3 (fun _ h => h.elim) (fun i hi => by simp [upto] at *; omega) (fun _ h => h) k4 (fun _ _ => rfl) fun k b hk => ?_, k4⟩
        rw [getName_app] at hk
        split at hk
        · exact Or.inl ⟨hk, fun h => h⟩
        · right
          obtain ⟨g1, g2⟩ := getName_onlyRw hk
          rw [getName_drop, show m.length + (k - m.length) = k by omega] at g1
          exact ⟨g1, g2⟩
      · exact ⟨hX.le h ho, fun ha hi => hX.run h ho ha hi⟩
    · exact ⟨hX.le h ho, fun ha hi => hX.run h ho ha hi⟩
  exact ⟨@fun f xs m ob v m' h ho => (both h ho).1, @fun f xs m ob v m' h ho w0 S ρ w vs ha hi => (both h ho).2 ha hi⟩
end
end Go.Ev
