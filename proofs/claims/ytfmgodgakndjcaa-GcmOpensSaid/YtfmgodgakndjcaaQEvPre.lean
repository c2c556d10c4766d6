/- Calls of a function that has loops, walked in the caller's memory, its loops by families that give names anew. Own work. -/
import Derived.Test.YtfmgodgakndjcaaQEvIn
set_option linter.unusedSimpArgs false
set_option linter.unusedVariables false
set_option linter.unusedSectionVars false
namespace Go.Ev
set_option linter.unusedSectionVars false
variable [Tab]
def inN (P : Program) (q : FuncId → Bool) (H : CallH) (Λ : LoopH) (fuel k0 : Nat) (g : FuncId) (ds : List Bool) (X : CallH) : CallH := fun f xs m =>
  match decide (f = g) && Nat.ble m.length k0 with
  | true => match ((funcL P q H Λ fuel f xs m).go ds).flat with
    | some (o, (v, m')) => (match decide (m.length ≤ m'.length) with | true => some (o, (v, m')) | false => none)
    | none => X f xs m
  | false => X f xs m
section
variable {P : Program} {q : FuncId → Bool} {H X : CallH} {Λ : LoopH}
theorem HOk.inN (hm : P.follows .mixedOrders = true) (hng : noCount P = true) (hH : HOk P H) (hX : HOk P X) (fuel k0 : Nat) (g : FuncId) (ds : List Bool) (hΛ : ∀ fn c, P.funcs[g]? = some fn → fn.body = some c → LOkN k0 P c Λ) : HOk P (inN P q H Λ fuel k0 g ds X) := by
  have both : ∀ {f : FuncId} {xs : List AV} {m : Mem} {ob : List Bool} {v : AV} {m' : Mem}, Go.Ev.inN P q H Λ fuel k0 g ds X f xs m = some (ob, (v, m')) → Paid ob →
      m.length ≤ m'.length ∧ ∀ {w0 : World} {S : Nat → Prop} {ρ : Nat → Loc3} {w : World} {vs : List Value}, Reps ρ (upto m.length) xs vs → Inv w0 S (upto m.length) ρ (getName m) w →
      CallRun P f vs.toArray w (fun u w' => ∃ ρ', Rep ρ' (upto m'.length) v u ∧ Inv w0 S (upto m'.length) ρ' (getName m') w' ∧ Agr ρ ρ' (upto m.length)) := by
    intro f xs m ob v m' h ho
    unfold Go.Ev.inN at h
    split at h
    · rename_i hf
      simp only [Bool.and_eq_true] at hf
      have hf' := of_decide_eq_true hf.1
      have hl := Nat.le_of_ble_eq_true hf.2
      subst hf'
      split at h
      · rename_i o1 x m1 hflat
        split at h
        case h_2 => cases h
        rename_i hle
        cases h
        have hsat := go_sound (flat_sound hflat ho)
        refine ⟨by simpa using hle, fun {w0 S ρ w vs} ha hi => ?_⟩
        obtain ⟨hf, hc⟩ := funcN_sound hm hH hΛ hl hsat (w0 := w0) (S := S) ha hi
        refine callRun_of hng hf (hc.mono fun e w' ⟨u, h1, x', m2, ρ', k1, k2, k3, k4, k5⟩ => ⟨u, h1, ρ', ?_⟩)
        cases k1
        exact ⟨k2, k3, k4⟩
      · exact ⟨hX.le h ho, fun ha hi => hX.run h ho ha hi⟩
    · exact ⟨hX.le h ho, fun ha hi => hX.run h ho ha hi⟩
  exact ⟨@fun f xs m ob v m' h ho => (both h ho).1, @fun f xs m ob v m' h ho w0 S ρ w vs ha hi => (both h ho).2 ha hi⟩
end
end Go.Ev
namespace Go.Ev
set_option linter.unusedSectionVars false
variable [Tab]
theorem bndM_cons (k : Nat) (b : Option Blk) (m : Mem) : bndM k (b :: m) = (bndM k [b] && bndM k m) := by
  cases b with
  | none => simp [bndM]
  | some b => obtain ⟨r, c⟩ := b; cases c <;> simp [bndM]
theorem bndM_append (k : Nat) : ∀ (a b : Mem), bndM k (a ++ b) = (bndM k a && bndM k b)
  | [], b => by simp [bndM]
  | x :: a, b => by
    rw [List.cons_append, bndM_cons k x (a ++ b), bndM_append k a b, bndM_cons k x a, Bool.and_assoc]
theorem bndM_le {k k' : Nat} (h : k ≤ k') : ∀ {m : Mem}, bndM k m = true → bndM k' m = true
  | [], _ => rfl
  | b :: m, hb => by
    rw [bndM_cons, Bool.and_eq_true] at hb ⊢
    refine ⟨?_, bndM_le h hb.2⟩
    have h1 := hb.1
    cases b with
    | none => rfl
    | some b =>
      obtain ⟨r, c⟩ := b
      cases c <;> simp only [bndM, Bool.and_true] at h1 ⊢
      · exact bndL_le h _ h1
      · exact bndL_le h _ h1
theorem renC_fix {g : Nat → Nat} {k : Nat} (h : ∀ i, i < k → g i = i) {b : Blk} (hb : bndM k [some b] = true) : renC g b.c = b.c := by
  obtain ⟨r, c⟩ := b
  cases c with
  | vals l => simp only [bndM, Bool.and_true] at hb; simp only [renC, renL_fix h l hb]
  | wide l => simp only [bndM, Bool.and_true] at hb; simp only [renC, renL_fix h l hb]
  | ints k' n l => rfl
  | bools n l => rfl
theorem pulls_pre {g : Nat → Nat} {k : Nat} (hg : ∀ i, i < k → g i = i) {m' rest : Mem} : ∀ (pre2 a : Mem), a.length + pre2.length ≤ k → bndM k pre2 = true → Pulls g (a ++ pre2 ++ m') (a.length + pre2.length) rest → Pulls g (a ++ pre2 ++ m') a.length (pre2 ++ rest)
  | [], a, _, _, h => h
  | b :: pre2, a, hl, hb, h => by
    rw [bndM_cons, Bool.and_eq_true] at hb
    have e : a ++ (b :: pre2) ++ m' = (a ++ [b]) ++ pre2 ++ m' := by simp
    have hl' : (a ++ [b]).length = a.length + 1 := by simp
    have ih := pulls_pre hg (m' := m') (rest := rest) pre2 (a ++ [b]) (by rw [hl']; simp at hl; omega) hb.2 (by rw [← e, hl']; simp only [List.length_cons] at h; rw [show a.length + 1 + pre2.length = a.length + (pre2.length + 1) by omega]; exact h)
    rw [← e, hl'] at ih
    cases b with
    | none => exact ih
    | some b =>
      refine ⟨⟨b.c, ?_, ?_⟩, ih⟩
      · rw [hg _ (by simp at hl; omega), List.append_assoc, List.getElem?_append_right (Nat.le_refl _)]
        simp
      · rw [renC_fix hg hb.1]
        exact .refl _
theorem goes_pre {k0 : Nat} {g : Nat → Nat} {ts : List Nat} {avs : List AV} {pre m' rest : Mem} {vals : List AV} (hs : LeG g avs vals) (hl : pre.length = k0) (hb : bndM k0 pre = true) (hp : Pulls g (pre ++ m') k0 rest) (hi : injB g (k0 + rest.length) = true) (hf : fixB g k0 = true)
    (hr : bndM (k0 + rest.length) rest = true) (hv : bndL (k0 + rest.length) vals = true) : Goes k0 g ts avs (pre ++ m') (zipU ts vals) (pre ++ rest) := by
  have hlen : (pre ++ rest).length = k0 + rest.length := by rw [List.length_append, hl]
  have hfx : ∀ i, i < k0 → g i = i := fun i hi => fixB_of hf hi
  refine Goes.zip hs ?_ (by rw [hlen]; exact hi) hf (by rw [hlen]; omega) ?_ (by rw [hlen]; exact hv)
  · have := pulls_pre hfx (m' := m') (rest := rest) pre [] (by simp; omega) hb (by simpa [hl] using hp)
    simpa using this
  · rw [hlen, bndM_append, bndM_le (by omega) hb, hr]; rfl
end Go.Ev
