/- Contracts of functions that look at a struct whose first part is a slice of another block: plain answers. Own work. -/
import Derived.Test.YtfmgodgakndjcaaQEvOne
set_option linter.unusedSimpArgs false
set_option linter.unusedVariables false
set_option linter.unusedSectionVars false
namespace Go.Ev
set_option linter.unusedSectionVars false
variable [Tab]
/-- The memory that such a function is shown. -/
def tMem (sl : AV) (r : List AV) (d : Cells) : Mem := [some ⟨false, .wide (sl :: r)⟩, some ⟨false, d⟩]
/-- A call that looks at such a struct, and only reckons. -/
def TCall (P : Program) (g : FuncId) (sl : AV) (r : List AV) (d : Cells) (as : List AV) (v : AV) : Prop :=
  ∀ {ρ : Nat → Loc3} {vs : List Value} {w : World}, Reps ρ (upto 2) (.ptr false 0 0 :: as) vs → Inv w (fun _ => False) (upto 2) ρ (getName (tMem sl r d)) w →
    CallRun P g vs.toArray w (fun u w' => (∀ (ρ : Nat → Loc3) (N : Nat → Prop), Rep ρ N v u) ∧ Inv w (fun _ => False) (fun _ => False) (fun _ => ⟨0, 0, 0⟩) (fun _ => Option.none) w')
def withT (g : FuncId) (spec : AV → List AV → Cells → List AV → E AV) (X : CallH) : CallH := fun f args m =>
  match decide (f = g), args with
  | true, .ptr false n 0 :: as => (match getName m n with
    | some ⟨_, .wide (.slice s p o k cap e :: r)⟩ => (match getName m p with
      | some b2 => (match r.all plainN && as.all plainN && plainC b2.c with
        | true => (match spec (.slice s 1 o k cap e) r b2.c as with
          | some (ob, v) => some (ob, (v, m))
          | none => X f args m)
        | false => X f args m)
      | none => X f args m)
    | _ => X f args m)
  | _, _ => X f args m
theorem exp_plainN {l : List AV} (h : l.all plainN = true) : ∀ x ∈ exp l, plainN x = true := by
  induction l with
  | nil => intro x hx; cases hx
  | cons y l ih =>
    simp only [List.all_cons, Bool.and_eq_true] at h
    intro x hx
    have e : exp (y :: l) = exp [y] ++ exp l := by rw [← exp_append]; rfl
    rw [e] at hx
    rcases List.mem_append.1 hx with hx | hx
    · have hy := h.1
      cases y <;> simp only [exp, List.append_nil] at hx <;> try (rw [List.mem_singleton] at hx; subst hx; exact hy)
      simp [spread] at hx
      obtain ⟨_, _, rfl⟩ := hx
      rfl
    · exact ih h.2 x hx
theorem plainL_repN {ρ ρ' : Nat → Loc3} {N N' : Nat → Prop} : ∀ {as : List AV} {vs : List Value}, as.all plainN = true → Reps ρ N as vs → Reps ρ' N' as vs
  | [], _, _, h => by cases h; exact .nil
  | a :: as, _, hp, h => by
    simp only [List.all_cons, Bool.and_eq_true] at hp
    cases h with
    | cons _ _ v vs h hs => exact .cons _ _ _ _ (plainN_rep h hp.1) (plainL_repN hp.2 hs)
section
variable {P : Program} {q : FuncId → Bool} {H : CallH} {Λ : LoopH}
theorem HOk.withT {g : FuncId} {spec : AV → List AV → Cells → List AV → E AV} (hX : HOk P H) (h : ∀ sl r d as o v, spec sl r d as = some (o, v) → Paid o → TCall P g sl r d as v) : HOk P (withT g spec H) := by
  have both : ∀ {f : FuncId} {as : List AV} {m : Mem} {ob : List Bool} {v : AV} {m' : Mem}, Go.Ev.withT g spec H f as m = some (ob, (v, m')) → Paid ob →
      m.length ≤ m'.length ∧ ∀ {w0 : World} {S : Nat → Prop} {ρ : Nat → Loc3} {w : World} {vs : List Value}, Reps ρ (upto m.length) as vs → Inv w0 S (upto m.length) ρ (getName m) w →
      CallRun P f vs.toArray w (fun u w' => ∃ ρ', Rep ρ' (upto m'.length) v u ∧ Inv w0 S (upto m'.length) ρ' (getName m') w' ∧ Agr ρ ρ' (upto m.length)) := by
    intro f as m ob v m' hr ho
    have old : ∀ {f as m ob v m'}, H f as m = some (ob, (v, m')) → Paid ob → m.length ≤ m'.length ∧ ∀ {w0 : World} {S : Nat → Prop} {ρ : Nat → Loc3} {w : World} {vs : List Value}, Reps ρ (upto m.length) as vs → Inv w0 S (upto m.length) ρ (getName m) w →
      CallRun P f vs.toArray w (fun u w' => ∃ ρ', Rep ρ' (upto m'.length) v u ∧ Inv w0 S (upto m'.length) ρ' (getName m') w' ∧ Agr ρ ρ' (upto m.length)) := fun hr ho => ⟨hX.le hr ho, fun ha hi => hX.run hr ho ha hi⟩
    unfold Go.Ev.withT at hr
    split at hr
    · rename_i n as' hf
      simp at hf
      subst hf
      split at hr
      · rename_i rw s p o k cap e r hn
        split at hr
        · rename_i b2 hp
          split at hr
          · rename_i hpl
            simp only [Bool.and_eq_true] at hpl
            obtain ⟨⟨p1, p2⟩, p3⟩ := hpl
            split at hr
            · rename_i o1 v1 hs
              cases hr
              refine ⟨Nat.le_refl _, fun {w0 S ρ w vs} ha hi => ?_⟩
              have hc : TCall P f (.slice s 1 o k cap e) r b2.c as' v := h _ _ _ _ _ _ hs ho
              let ρ2 : Nat → Loc3 := fun x => match x with | 0 => ρ n | _ => ρ p
              obtain ⟨cs, t, lo', hi', b1, b2', b3, b4, b5⟩ := (hi.sim.blk n _ hn).ex
              obtain ⟨cs2, t2, lo2, hi2, c1, c2, c3, c4, c5⟩ := (hi.sim.blk p _ hp).ex
              have k1 : Reps ρ2 (upto 2) (.ptr false 0 0 :: as') vs := by
                cases ha with
                | cons _ _ u us hu hus =>
                  refine .cons _ _ _ _ ?_ (plainL_repN p2 hus)
                  cases hu with
                  | ptr _ _ _ hnn => exact Rep.ptr (ρ := ρ2) (N := upto 2) false 0 0 (show (0 : Nat) < 2 by omega)
              have k2 : Inv w (fun _ => False) (upto 2) ρ2 (getName (tMem (.slice s 1 o k cap e) r b2.c)) w := by
                refine Inv.start _ ⟨fun x b hx => ?_, fun i j bi bj h1 h2 hij hrw => ?_, fun x b hx => getName_lt hx, hi.sim.tab, fun G c hG x b hx hrw => ?_⟩ fun x b hx hrw => ?_
                · match x, hx with
                  | 0, hx =>
                    cases hx
                    refine ⟨cs, t, lo', hi', b1, b2', (fun h => by cases h), b4, ?_⟩
                    refine ⟨WOk.cons (fun k n xs e => by cases e) b5.1.tail, fun i a hia => ?_⟩
                    cases i with
                    | zero =>
                      have hia' : (AV.slice s 1 o k cap e :: exp r)[0]? = some a := hia
                      simp only [List.getElem?_cons_zero, Option.some.injEq] at hia'
                      subst hia'
                      obtain ⟨v0, g1, g2⟩ := b5.2 0 (AV.slice s p o k cap e) rfl
                      refine ⟨v0, g1, ?_⟩
                      cases g2 with
                      | slice _ _ _ _ _ _ c ad hnn hcc hll hww hadd => exact Rep.slice (ρ := ρ2) s 1 o k cap e c ad (show (1 : Nat) < 2 by omega) hcc hll hww hadd
                    | succ i =>
                      have hia' : (exp r)[i]? = some a := hia
                      obtain ⟨v0, g1, g2⟩ := b5.2 (i + 1) a hia'
                      exact ⟨v0, g1, plainN_rep g2 (exp_plainN p1 a (List.mem_of_getElem? hia'))⟩
                  | 1, hx =>
                    cases hx
                    exact ⟨cs2, t2, lo2, hi2, c1, c2, (fun h => by cases h), c4, plainC_rep c5 p3⟩
                · match i, h1 with
                  | 0, h1 => cases h1; cases hrw
                  | 1, h1 => cases h1; cases hrw
                · match x, hx with
                  | 0, hx => cases hx; cases hrw
                  | 1, hx => cases hx; cases hrw
                · match x, hx with
                  | 0, hx => cases hx; cases hrw
                  | 1, hx => cases hx; cases hrw
              exact (hc k1 k2).mono fun u w' ⟨h1, h2⟩ => ⟨ρ, h1 _ _, hi.quiet h2, fun _ _ => rfl⟩
            · exact old hr ho
          · exact old hr ho
        · exact old hr ho
      · exact old hr ho
    · exact old hr ho
  exact ⟨@fun f as m ob v m' h ho => (both h ho).1, @fun f as m ob v m' h ho w0 S ρ w vs ha hi => (both h ho).2 ha hi⟩
/-- Such a contract, off the function's text. -/
theorem tcall_of (hm : P.follows .mixedOrders = true) (hng : noCount P = true) (hH : HOk P H) {n : Nat} {g : FuncId} (hΛ : ∀ fn c, P.funcs[g]? = some fn → fn.body = some c → LOk P c Λ) {sl : AV} {r : List AV} {d : Cells} {as : List AV} {v v' : AV} {o : List Bool} (ds : List Bool)
    (h : res ((funcL P q H Λ n g (.ptr false 0 0 :: as) (tMem sl r d)).go ds) = some (o, v')) (ho : Paid o) (hv : v' = v) (hpl : plainAs v = true) : TCall P g sl r d as v := by
  subst hv
  intro ρ vs w ha hi
  obtain ⟨hf, hc⟩ := funcL_sound hm hH hΛ (go_sound (sat_eq h ho rfl hpl)) (m := tMem sl r d) (w0 := w) (S := fun _ => False) ha hi
  exact callRun_of hng hf (hc.mono fun e w' ⟨u, h1, x', m2, ρ', k1, k2, k3, k4, k5⟩ => ⟨u, h1, fun ρ N => k1 k2, k3.none⟩)
end
end Go.Ev
