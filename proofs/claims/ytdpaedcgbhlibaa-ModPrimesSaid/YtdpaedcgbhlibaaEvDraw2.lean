/- Regions that draw their order: the invariant over the operations that have been carried out. Own work. -/
import Derived.Test.YtdpaedcgbhlibaaEvDraw
namespace Go.Ev

inductive Anc (ops : Array Oper) (i : Nat) : Nat → Prop
  | direct (j : Nat) (o : Oper) (e : Edge) (ho : ops[j]? = some o) (he : e ∈ o.after) (hb : Region.binds .any e = true) (hi : e.on = i) : Anc ops i j
  | step (j : Nat) (o : Oper) (e : Edge) (ho : ops[j]? = some o) (he : e ∈ o.after) (hb : Region.binds .any e = true) (h : Anc ops i e.on) : Anc ops i j

theorem mask_fold {ms : List Nat} {i : Nat} : ∀ (l : List Edge) (s : Nat), (l.foldl (fun s e => match Region.binds .any e with | true => s ||| 2 ^ e.on ||| ms.getD e.on 0 | false => s) s).testBit i = true →
    s.testBit i = true ∨ ∃ e ∈ l, Region.binds .any e = true ∧ (e.on = i ∨ (ms.getD e.on 0).testBit i = true)
  | [], s, h => Or.inl h
  | e :: l, s, h => by
    rw [List.foldl_cons] at h
    rcases mask_fold l _ h with h1 | ⟨e', h1, h2, h3⟩
    · cases hb : Region.binds .any e with
      | false => rw [hb] at h1; exact Or.inl h1
      | true =>
        rw [hb] at h1
        simp only [Nat.testBit_or, Bool.or_eq_true, Nat.testBit_two_pow, decide_eq_true_eq] at h1
        rcases h1 with (h1 | h1) | h1
        · exact Or.inl h1
        · exact Or.inr ⟨e, List.mem_cons_self .., hb, Or.inl h1⟩
        · exact Or.inr ⟨e, List.mem_cons_self .., hb, Or.inr h1⟩
    · exact Or.inr ⟨e', List.mem_cons_of_mem _ h1, h2, h3⟩

theorem masks_anc {ops : Array Oper} : ∀ (r : List Oper) (acc : List Nat), (∀ t : Nat, r[t]? = ops[acc.length + t]?) → (∀ j i, (acc.getD j 0).testBit i = true → Anc ops i j) →
    ∀ j i, ((masks r acc).getD j 0).testBit i = true → Anc ops i j
  | [], acc, _, hacc => hacc
  | o :: r, acc, hr, hacc => by
    unfold masks
    refine masks_anc r (acc ++ [maskOf acc o]) (fun t => by have := hr (t + 1); simp at this ⊢; rw [this]; congr 1; omega) fun j i h => ?_
    by_cases hj : j < acc.length
    · rw [List.getD, List.getElem?_append_left hj] at h
      exact hacc j i h
    · by_cases hj2 : j = acc.length
      · subst hj2
        have hm : (acc ++ [maskOf acc o]).getD acc.length 0 = maskOf acc o := by simp
        rw [hm] at h
        have ho : ops[acc.length]? = some o := by have := hr 0; simpa using this.symm
        rcases mask_fold _ _ h with h1 | ⟨e, h1, h2, h3⟩
        · simp at h1
        · rcases h3 with h3 | h3
          · exact .direct _ o e ho (Array.mem_toList_iff.1 h1) h2 h3
          · exact .step _ o e ho (Array.mem_toList_iff.1 h1) h2 (hacc _ _ h3)
      · rw [List.getD, List.getElem?_eq_none (by simp; omega)] at h
        simp at h

/-- What has been listed is listed with all that it waits for. -/
def Closed (ops : Array Oper) (L : Nat → Bool) : Prop := ∀ (j : Nat) (o : Oper), ops[j]? = some o → L j = true → ∀ e ∈ o.after, Region.binds .any e = true → L e.on = true

theorem anc_listed {ops : Array Oper} {L : Nat → Bool} (hc : Closed ops L) {i j : Nat} (h : Anc ops i j) (hp : ∀ (o : Oper), ops[j]? = some o → ∀ e ∈ o.after, Region.binds .any e = true → L e.on = true) : L i = true := by
  induction h with
  | direct j o e ho he hb hi => rw [← hi]; exact hp o ho e he hb
  | step j o e ho he hb h ih => exact ih fun o' ho' e' he' hb' => hc e.on o' ho' (hp o ho e he hb) e' he' hb'

/-- The value at a place, when those of L have been carried out. -/
def G {γ α : Type} (aff : Nat → γ → Bool) (val : Nat → γ → α) (L : Nat → Bool) : Nat → γ → α
  | 0, c => val 0 c
  | k + 1, c => if L k && aff k c then val (k + 1) c else G aff val L k c

section
variable {γ α : Type} {aff : Nat → γ → Bool} {val : Nat → γ → α} {L L' : Nat → Bool} {n i : Nat} {c : γ}
theorem G_known (hstep : ∀ k, k < n → aff k c = false → val (k + 1) c = val k c) (hi : i ≤ n) (ho : ∀ j, j < n → aff j c = true → (L j = true ↔ j < i)) : G aff val L n c = val i c := by
  have key : ∀ k, k ≤ n → G aff val L k c = val (min k i) c := by
    intro k
    induction k with
    | zero => intro _; simp [G]
    | succ k ih =>
      intro hk
      simp only [G]
      by_cases ha : aff k c = true
      · by_cases hl : L k = true
        · rw [if_pos (by simp [ha, hl])]
          have := (ho k (by omega) ha).1 hl
          rw [show min (k + 1) i = k + 1 by omega]
        · rw [if_neg (by simp [hl]), ih (by omega)]
          have : ¬ k < i := fun h => hl ((ho k (by omega) ha).2 h)
          rw [show min (k + 1) i = min k i by omega]
      · rw [if_neg (by simp [ha]), ih (by omega)]
        by_cases hki : k < i
        · rw [show min (k + 1) i = k + 1 by omega, show min k i = k by omega]
          exact (hstep k (by omega) (by simpa using ha)).symm
        · rw [show min (k + 1) i = min k i by omega]
  rw [key n (Nat.le_refl _), show min n i = i by omega]

theorem G_other (h : ∀ j, j < n → aff j c = true → L' j = L j) : G aff val L' n c = G aff val L n c := by
  induction n with
  | zero => rfl
  | succ k ih =>
    simp only [G]
    rw [ih fun j hj => h j (by omega)]
    by_cases ha : aff k c = true
    · rw [h k (by omega) ha]
    · simp [ha]

theorem G_at (hi : i < n) (hl : L' i = true) (ha : aff i c = true) (ho : ∀ j, i < j → j < n → aff j c = true → L' j = false) : G aff val L' n c = val (i + 1) c := by
  induction n with
  | zero => omega
  | succ k ih =>
    simp only [G]
    by_cases hk : k = i
    · subst hk; rw [if_pos (by simp [hl, ha])]
    · rw [if_neg, ih (by omega) fun j h1 h2 => ho j h1 (by omega)]
      simp only [Bool.and_eq_true, not_and]
      intro h1 h2
      rw [ho k (by omega) (by omega) h2] at h1
      cases h1
end

theorem aside_spec {ops : Array Oper} {mask : Nat} {o : Oper} {f : Fp} : ∀ {gs : List Fp} {xs : List Oper} {j : Nat}, asideOK ops mask o f j xs gs = true → ∀ t g, gs[t]? = some g →
    ∃ x, xs[t]? = some x ∧ (mask.testBit (j + t) = true ∨ (x.apart ops o = true ∧ f.off g = true ∧ g.off f = true))
  | [], _, _, _, t, g, h => by simp at h
  | g0 :: gs, [], _, h, _, _, _ => by simp [asideOK] at h
  | g0 :: gs, x :: xs, j, h, t, g, hg => by
    simp only [asideOK, Bool.and_eq_true, Bool.or_eq_true] at h
    cases t with
    | zero =>
      simp at hg
      subst hg
      exact ⟨x, rfl, h.1.imp id fun h => ⟨h.1.1, h.1.2, h.2⟩⟩
    | succ t =>
      obtain ⟨y, h1, h2⟩ := aside_spec h.2 t g (by simpa using hg)
      exact ⟨y, by simpa using h1, by rwa [show j + (t + 1) = j + 1 + t by omega]⟩

section
variable {P : Program} {q : FuncId → Bool} {H : CallH}

theorem trace {ops : Array Oper} {ms : List Nat} : ∀ {l : List Oper} {i : Nat} {log : List Fp} {st st' : St} {ob : List Bool}, opersD P q H ops ms i log l st = some (ob, st') → Paid ob →
    ∃ (s : Nat → St) (fp : Nat → Fp), s i = st ∧ s (i + l.length) = st' ∧ ∀ (k : Nat) (o : Oper), l[k]? = some o →
      ∃ obk, operD P q H ops (ms.getD (i + k) 0) (log ++ (List.range' i k).map fp) (s (i + k)) o = some (obk, (s (i + k + 1), fp (i + k))) ∧ Paid obk ∧
        asideOK ops (ms.getD (i + k) 0) o (fp (i + k)) 0 ops.toList (log ++ (List.range' i k).map fp) = true
  | [], i, log, st, st', ob, h, _ => by
    unfold opersD at h
    obtain ⟨_, rfl⟩ := pure_some h
    exact ⟨fun _ => st, fun _ => Fp.none, rfl, rfl, fun k o hk => by simp at hk⟩
  | o :: r, i, log, st, st', ob, h, ho => by
    unfold opersD at h
    split at h
    · rename_i o1 st1 f hop
      split at h
      · rename_i has
        split at h
        · rename_i o2 st2 hr
          cases h
          have hp := paid_append.1 ho
          obtain ⟨s, fp, h1, h2, h3⟩ := trace hr hp.2
          refine ⟨fun x => if x = i then st else s x, fun x => if x = i then f else fp x, by simp, ?_, fun k o' hk => ?_⟩
          · dsimp only
            rw [← h2, if_neg (by simp)]
            congr 1
            simp; omega
          · cases k with
            | zero =>
              simp at hk
              subst hk
              refine ⟨o1, ?_, hp.1, ?_⟩
              · dsimp only
                rw [Nat.add_zero, if_pos rfl, if_pos rfl, if_neg (by omega), h1]
                simpa using hop
              · dsimp only
                rw [Nat.add_zero, if_pos rfl]
                simpa using has
            | succ k =>
              obtain ⟨obk, g1, g2, g3⟩ := h3 k o' (by simpa using hk)
              have e1 : i + 1 + k = i + (k + 1) := by omega
              have e2 : (log ++ [f]) ++ (List.range' (i + 1) k).map fp = log ++ (List.range' i (k + 1)).map (fun x => if x = i then f else fp x) := by
                rw [List.range'_succ, List.map_cons, if_pos rfl, List.append_assoc]
                congr 1
                simp only [List.singleton_append, List.cons.injEq, true_and]
                refine List.map_congr_left fun x hx => ?_
                rw [List.mem_range'] at hx
                obtain ⟨y, _, rfl⟩ := hx
                rw [if_neg (by omega)]
              rw [e2, e1] at g1 g3
              refine ⟨obk, ?_, g2, ?_⟩
              · dsimp only
                rw [if_neg (by omega), if_neg (by omega), if_neg (by omega)]; exact g1
              · dsimp only
                rw [if_neg (by omega)]; exact g3
        · cases h
      · cases h
    · cases h
end
end Go.Ev
