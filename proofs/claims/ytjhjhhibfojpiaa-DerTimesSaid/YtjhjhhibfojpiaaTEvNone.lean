/- A contract whose answer needs no memory of its own, whatever the call left behind. Own work. -/
import Derived.Test.YtjhjhhibfojpiaaTEvOne
set_option linter.unusedSimpArgs false
set_option linter.unusedVariables false
set_option linter.unusedSectionVars false
namespace Go.Ev
set_option linter.unusedSectionVars false
variable [Tab]
section
variable {P : Program} {q : FuncId → Bool} {H : CallH} {Λ : LoopH}
theorem viewN_none (hm : P.follows .mixedOrders = true) (hng : noCount P = true) (hH : HOk P H) {n : Nat} {g : FuncId} {xs : List V} (hΛ : ∀ fn c, P.funcs[g]? = some fn → fn.body = some c → LOkN xs.length P c Λ) {o : List Bool} {v v' : AV} {b : Option (Option Blk)} (ds : List Bool) (j : Nat)
    (h : seeV j ((funcL P q H Λ n g (cArgs 0 xs) (cMem xs)).go ds) = some (o, v', b)) (ho : Paid o) (hv : v' = renA id (upA xs.length v)) (hba : bndA (xs.length + 0) (upA xs.length v) = true) (hinj : injB id (xs.length + 0) = true := by rfl) (hfix : fixB id xs.length = true := by rfl) :
    ViewCall P g xs v [] := by
  unfold seeV at h
  split at h
  · rename_i o' v2 m' hf
    simp only [Option.some.injEq, Prod.mk.injEq] at h
    obtain ⟨h1, h2, h3⟩ := h
    subst h1 h2
    have pulls : ∀ (a b : Nat) (M : Mem), Pulls id m' (b + a) M → Pulls id m' b (List.replicate a none ++ M) := by
      intro a
      induction a with
      | zero => intro b M h; exact h
      | succ a ih =>
        intro b M h
        rw [List.replicate_succ, List.cons_append]
        exact ih (b + 1) M (by rw [show b + 1 + a = b + (a + 1) by omega]; exact h)
    have bnd : ∀ (a k' : Nat) (M : Mem), bndM k' M = true → bndM k' (List.replicate a none ++ M) = true := by
      intro a
      induction a with
      | zero => intro k' M h; exact h
      | succ a ih => intro k' M h; rw [List.replicate_succ, List.cons_append]; exact ih k' M h
    intro ρ vs w ha hi
    exact viewN_of_goR (bs := []) hm hng hH hΛ ds id hf ho hv hba (pulls _ 0 _ trivial) (bnd _ _ _ rfl) hinj hfix ha hi
  · cases h
end
end Go.Ev
