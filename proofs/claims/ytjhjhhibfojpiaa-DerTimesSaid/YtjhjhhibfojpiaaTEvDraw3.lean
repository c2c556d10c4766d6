/- Regions that draw their order: the invariant over the operations that have been carried out. Own work. -/
import Derived.Test.YtjhjhhibfojpiaaTEvDraw
import Derived.StillTail
set_option linter.unusedSimpArgs false
set_option linter.unusedVariables false
set_option linter.unusedSectionVars false
namespace Go.Ev
set_option linter.unusedSectionVars false
variable [Tab]

inductive Anc (ops : Array Oper) (i : Nat) : Nat → Prop
  | direct (j : Nat) (o : Oper) (e : Edge) (ho : ops[j]? = some o) (he : e ∈ o.after) (hb : Region.binds .any e = true) (hi : e.on = i) : Anc ops i j
  | step (j : Nat) (o : Oper) (e : Edge) (ho : ops[j]? = some o) (he : e ∈ o.after) (hb : Region.binds .any e = true) (h : Anc ops i e.on) : Anc ops i j

theorem mask_fold {ms : List Nat} {i : Nat} : ∀ (l : List Edge) (s : Nat), (l.foldl (fun s e => match Region.binds .any e with | true => s ||| 2 ^ e.on ||| ms.getD e.on 0 | false => s) s).testBit i = true →
    s.testBit i = true ∨ ∃ e ∈ l, Region.binds .any e = true ∧ (e.on = i ∨ (ms.getD e.on 0).testBit i = true)
  | [], s, h => Or.inl h
  | e :: l, s, h => by
    rw [List.foldl_cons] at h
    rcases mask_fold l _ h with h1 | ⟨e', h1, h2, h3⟩
    · cases hb : Region.binds .any e with
      | false => rw [hb] at h1; exact Or.inl h1
      | true =>
        rw [hb] at h1
        simp only [Nat.testBit_or, Bool.or_eq_true, Nat.testBit_two_pow, decide_eq_true_eq] at h1
        rcases h1 with (h1 | h1) | h1
        · exact Or.inl h1
        · exact Or.inr ⟨e, List.mem_cons_self .., hb, Or.inl h1⟩
        · exact Or.inr ⟨e, List.mem_cons_self .., hb, Or.inr h1⟩
    · exact Or.inr ⟨e', List.mem_cons_of_mem _ h1, h2, h3⟩

theorem masks_anc {ops : Array Oper} : ∀ (r : List Oper) (acc : List Nat), (∀ t : Nat, r[t]? = ops[acc.length + t]?) → (∀ j i, (acc.getD j 0).testBit i = true → Anc ops i j) →
    ∀ j i, ((masks r acc).getD j 0).testBit i = true → Anc ops i j
  | [], acc, _, hacc => hacc
  | o :: r, acc, hr, hacc => by
    unfold masks
    refine masks_anc r (acc ++ [maskOf acc o]) (fun t => by have := hr (t + 1); simp at this ⊢; rw [this]; congr 1; omega) fun j i h => ?_
    by_cases hj : j < acc.length
    · rw [List.getD, List.getElem?_append_left hj] at h
      exact hacc j i h
    · by_cases hj2 : j = acc.length
      · subst hj2
        have hm : (acc ++ [maskOf acc o]).getD acc.length 0 = maskOf acc o := by simp
        rw [hm] at h
        have ho : ops[acc.length]? = some o := by have := hr 0; simpa using this.symm
        rcases mask_fold _ _ h with h1 | ⟨e, h1, h2, h3⟩
        · simp at h1
        · rcases h3 with h3 | h3
          · exact .direct _ o e ho (Array.mem_toList_iff.1 h1) h2 h3
          · exact .step _ o e ho (Array.mem_toList_iff.1 h1) h2 (hacc _ _ h3)
      · rw [List.getD, List.getElem?_eq_none (by simp; omega)] at h
        simp at h

/-- What has been listed is listed with all that it waits for. -/
def Closed (ops : Array Oper) (L : Nat → Bool) : Prop := ∀ (j : Nat) (o : Oper), ops[j]? = some o → L j = true → ∀ e ∈ o.after, Region.binds .any e = true → L e.on = true

theorem anc_listed {ops : Array Oper} {L : Nat → Bool} (hc : Closed ops L) {i j : Nat} (h : Anc ops i j) (hp : ∀ (o : Oper), ops[j]? = some o → ∀ e ∈ o.after, Region.binds .any e = true → L e.on = true) : L i = true := by
  induction h with
  | direct j o e ho he hb hi => rw [← hi]; exact hp o ho e he hb
  | step j o e ho he hb h ih => exact ih fun o' ho' e' he' hb' => hc e.on o' ho' (hp o ho e he hb) e' he' hb'

/-- The value at a place, when those of L have been carried out. -/
def G {γ α : Type} (aff : Nat → γ → Bool) (val : Nat → γ → α) (L : Nat → Bool) : Nat → γ → α
  | 0, c => val 0 c
  | k + 1, c => if L k && aff k c then val (k + 1) c else G aff val L k c

section
variable {γ α : Type} {aff : Nat → γ → Bool} {val : Nat → γ → α} {L L' : Nat → Bool} {n i : Nat} {c : γ}
theorem G_known (hstep : ∀ k, k < n → aff k c = false → val (k + 1) c = val k c) (hi : i ≤ n) (ho : ∀ j, j < n → aff j c = true → (L j = true ↔ j < i)) : G aff val L n c = val i c := by
  have key : ∀ k, k ≤ n → G aff val L k c = val (min k i) c := by
    intro k
    induction k with
    | zero => intro _; simp [G]
    | succ k ih =>
      intro hk
      simp only [G]
      by_cases ha : aff k c = true
      · by_cases hl : L k = true
        · rw [if_pos (by simp [ha, hl])]
          have := (ho k (by omega) ha).1 hl
          rw [show min (k + 1) i = k + 1 by omega]
        · rw [if_neg (by simp [hl]), ih (by omega)]
          have : ¬ k < i := fun h => hl ((ho k (by omega) ha).2 h)
          rw [show min (k + 1) i = min k i by omega]
      · rw [if_neg (by simp [ha]), ih (by omega)]
        by_cases hki : k < i
        · rw [show min (k + 1) i = k + 1 by omega, show min k i = k by omega]
          exact (hstep k (by omega) (by simpa using ha)).symm
        · rw [show min (k + 1) i = min k i by omega]
  rw [key n (Nat.le_refl _), show min n i = i by omega]

theorem G_other (h : ∀ j, j < n → aff j c = true → L' j = L j) : G aff val L' n c = G aff val L n c := by
  induction n with
  | zero => rfl
  | succ k ih =>
    simp only [G]
    rw [ih fun j hj => h j (by omega)]
    by_cases ha : aff k c = true
    · rw [h k (by omega) ha]
    · simp [ha]

theorem G_at (hi : i < n) (hl : L' i = true) (ha : aff i c = true) (ho : ∀ j, i < j → j < n → aff j c = true → L' j = false) : G aff val L' n c = val (i + 1) c := by
  induction n with
  | zero => omega
  | succ k ih =>
    simp only [G]
    by_cases hk : k = i
    · subst hk; rw [if_pos (by simp [hl, ha])]
    · rw [if_neg, ih (by omega) fun j h1 h2 => ho j h1 (by omega)]
      simp only [Bool.and_eq_true, not_and]
      intro h1 h2
      rw [ho k (by omega) (by omega) h2] at h1
      cases h1
end

theorem aside_spec {ops : Array Oper} {mask : Nat} {o : Oper} {f : Fp} : ∀ {gs : List Fp} {xs : List Oper} {j : Nat}, asideOK ops mask o f j xs gs = true → ∀ t g, gs[t]? = some g →
    ∃ x, xs[t]? = some x ∧ (mask.testBit (j + t) = true ∨ (x.apart ops o = true ∧ f.off g = true ∧ g.off f = true))
  | [], _, _, _, t, g, h => by simp at h
  | g0 :: gs, [], _, h, _, _, _ => by simp [asideOK] at h
  | g0 :: gs, x :: xs, j, h, t, g, hg => by
    simp only [asideOK, Bool.and_eq_true, Bool.or_eq_true] at h
    cases t with
    | zero =>
      simp at hg
      subst hg
      exact ⟨x, rfl, h.1.imp id fun h => ⟨h.1.1, h.1.2, h.2⟩⟩
    | succ t =>
      obtain ⟨y, h1, h2⟩ := aside_spec h.2 t g (by simpa using hg)
      exact ⟨y, by simpa using h1, by rwa [show j + (t + 1) = j + 1 + t by omega]⟩

section
variable {P : Program} {q : FuncId → Bool} {H : CallH}

theorem trace {ops : Array Oper} {ms : List Nat} : ∀ {l : List Oper} {i : Nat} {log : List Fp} {st st' : St} {ob : List Bool}, opersD P q H ops ms i log l st = some (ob, st') → Paid ob →
    ∃ (s : Nat → St) (fp : Nat → Fp), s i = st ∧ s (i + l.length) = st' ∧ ∀ (k : Nat) (o : Oper), l[k]? = some o →
      ∃ obk, operD P q H ops (ms.getD (i + k) 0) (log ++ (List.range' i k).map fp) (s (i + k)) o = some (obk, (s (i + k + 1), fp (i + k))) ∧ Paid obk ∧
        asideOK ops (ms.getD (i + k) 0) o (fp (i + k)) 0 ops.toList (log ++ (List.range' i k).map fp) = true
  | [], i, log, st, st', ob, h, _ => by
    unfold opersD at h
    obtain ⟨_, rfl⟩ := pure_some h
    exact ⟨fun _ => st, fun _ => Fp.none, rfl, rfl, fun k o hk => by simp at hk⟩
  | o :: r, i, log, st, st', ob, h, ho => by
    unfold opersD at h
    split at h
    · rename_i o1 st1 f hop
      split at h
      · rename_i has
        split at h
        · rename_i o2 st2 hr
          cases h
          have hp := paid_append.1 ho
          obtain ⟨s, fp, h1, h2, h3⟩ := trace hr hp.2
          refine ⟨fun x => if x = i then st else s x, fun x => if x = i then f else fp x, by simp, ?_, fun k o' hk => ?_⟩
          · dsimp only
            rw [← h2, if_neg (by simp)]
            congr 1
            simp; omega
          · cases k with
            | zero =>
              simp at hk
              subst hk
              refine ⟨o1, ?_, hp.1, ?_⟩
              · dsimp only
                rw [Nat.add_zero, if_pos rfl, if_pos rfl, if_neg (by omega), h1]
                simpa using hop
              · dsimp only
                rw [Nat.add_zero, if_pos rfl]
                simpa using has
            | succ k =>
              obtain ⟨obk, g1, g2, g3⟩ := h3 k o' (by simpa using hk)
              have e1 : i + 1 + k = i + (k + 1) := by omega
              have e2 : (log ++ [f]) ++ (List.range' (i + 1) k).map fp = log ++ (List.range' i (k + 1)).map (fun x => if x = i then f else fp x) := by
                rw [List.range'_succ, List.map_cons, if_pos rfl, List.append_assoc]
                congr 1
                simp only [List.singleton_append, List.cons.injEq, true_and]
                refine List.map_congr_left fun x hx => ?_
                rw [List.mem_range'] at hx
                obtain ⟨y, _, rfl⟩ := hx
                rw [if_neg (by omega)]
              rw [e2, e1] at g1 g3
              refine ⟨obk, ?_, g2, ?_⟩
              · dsimp only
                rw [if_neg (by omega), if_neg (by omega), if_neg (by omega)]; exact g1
              · dsimp only
                rw [if_neg (by omega)]; exact g3
        · cases h
      · cases h
    · cases h
end
end Go.Ev
namespace Go.Ev
set_option linter.unusedSectionVars false
variable [Tab]
section
variable {P : Program} {q : FuncId → Bool} {H : CallH}

/-- What one operation did, in the text's order. -/
structure DStep (P : Program) (q : FuncId → Bool) (H : CallH) (ops : Array Oper) (o : Oper) (st st' : St) (f : Fp) : Prop where
  tm : ∃ v, st'.tm = putA st.tm o.dst v
  le : st.mem.length ≤ st'.mem.length
  frame : ∀ x, f.aff x = false → getName st'.mem x = getName st.mem x
  born : ∀ x, st.mem.length ≤ x → x < st'.mem.length → f.aff x = true
  sound : ∀ {w0 : World} {S N N' : Nat → Prop} {ρ : Nat → Loc3} {M M' : Nat → Option Blk} {w : World} {a : Act} {i : Nat} {K : Act → World → Prop} {Q : Exit → Act → World → Prop}, ops[i]? = some o →
    (∀ t, t ∈ o.looksAt ops → Rep ρ N (st.tm.getD t .top) (a.tmps.getD t undef)) → Inv w0 S N ρ M w →
    (∀ x, f.touch x → x < st.mem.length → M x = getName st.mem x) → (∀ x, f.touch x → x < st.mem.length → N x) → (∀ x, st.mem.length ≤ x → x < st'.mem.length → ¬ N x) → (f.bar = true → ∀ x, N x ↔ x < st.mem.length) →
    (∀ x, N' x ↔ N x ∨ (st.mem.length ≤ x ∧ x < st'.mem.length)) → (∀ x, M' x = if f.aff x = true then getName st'.mem x else M x) →
    (∀ v u w' ρ', st'.tm = putA st.tm o.dst v → Rep ρ' N' v u → Inv w0 S N' ρ' M' w' → Agr ρ ρ' N → K (a.put o.dst u) w') → wpOp P ops Q i K a w

theorem operD_step (hH : HOk P H) {ops : Array Oper} {mask : Nat} {log : List Fp} {st st' : St} {o : Oper} {f : Fp} {ob : List Bool} (h : operD P q H ops mask log st o = some (ob, (st', f))) (ho : Paid ob) :
    DStep P q H ops o st st' f := by
  unfold operD at h
  split at h
  · rename_i owed hwant
    split at h
    rename_i owed2 op hop2
    split at h
    · rename_i o1 v m1 f1 hst
      cases h
      have hp := paid_append.1 ho
      have hp2 := paid_append.1 hp.2
      have hf := stepD_frame hH hst hp2.2
      refine ⟨⟨v, rfl⟩, hf.1, hf.2.1, fun x h1 h2 => ?_, ?_⟩
      · cases hb : f.bar with
        | true => simp [Fp.aff, hb]
        | false => exact hf.2.2.2 x hb h1 h2
      · intro w0 S N N' ρ M M' w a i K Q hoi hr hi hM hT hfr hbar hN' hM' hK
        have hw0 := want_sound (ρ := ρ) (N := N) (st := st) (ops := ops) (o := o) (a := a) (fun g b d h1 h2 => hr d (by simp [Oper.looksAt, h1, h2]))
        have hw := wantQ_sound hw0 hwant
        have hev : ∀ x, Rep ρ N (st.evT (tmpsOf o.op) x) (a.eval x) := fun x => evT_rep (fun t ht => hr t (List.mem_append.2 (Or.inl ht))) x
        refine wpOp_of hoi (fun hf => by rw [hw.1 rfl hp.1] at hf; cases hf) fun _ => ?_
        have := stepD_sound hH (w0 := w0) (rv := a.eval) (o := { o with op := op }) hst hp2.2 hev hi hM hT hfr hbar hN' hM'
        exact Comes1.wp (asmOp_sound hop2 hp2.1 hev (this.mono fun u w' ⟨ρ', r1, r2, r3⟩ => hK _ u w' ρ' rfl r1 r2 r3))
    · cases h
  · rename_i hwant
    cases h
    refine ⟨⟨.grd false .top, rfl⟩, Nat.le_refl _, fun _ _ => rfl, fun x h1 h2 => absurd h2 (Nat.not_lt.2 h1), ?_⟩
    intro w0 S N N' ρ M M' w a i K Q hoi hr hi hM hT hfr hbar hN' hM' hK
    have hw := wantQ_sound (want_sound (ρ := ρ) (N := N) (st := st) (ops := ops) (o := o) (a := a) (fun g b d h1 h2 => hr d (by simp [Oper.looksAt, h1, h2]))) hwant
    have hNN : N' = N := funext fun x => propext (by rw [hN' x]; exact ⟨fun h => h.elim id fun h => absurd h.2 (Nat.not_lt.2 h.1), Or.inl⟩)
    have hMM : M' = M := funext fun x => by rw [hM' x]; simp [Fp.aff, Fp.none]
    refine wpOp_of hoi (fun _ => hK (.grd false .top) undef w ρ rfl (.grdF _) (by rw [hNN, hMM]; exact hi) (fun _ _ => rfl)) fun hf => by rw [hw.2.1 rfl ho] at hf; cases hf
  · rename_i g hwant
    split at h
    · rename_i o2 v m1 f1 hst
      split at h
      · cases h
      · rename_i hfp
        cases h
        simp only [Bool.or_eq_false_iff, decide_eq_false_iff_not] at hfp
        have hno : ∀ x, f.aff x = false := fun x => by
          simp only [Fp.aff, hfp.1, Bool.or_false, Bool.and_eq_false_iff, decide_eq_false_iff_not]
          omega
        refine ⟨⟨_, rfl⟩, Nat.le_refl _, fun _ _ => rfl, fun x h1 h2 => absurd h2 (Nat.not_lt.2 h1), ?_⟩
        intro w0 S N N' ρ M M' w a i K Q hoi hr hi hM hT hfr hbar hN' hM' hK
        have hw := wantQ_sound (want_sound (ρ := ρ) (N := N) (st := st) (ops := ops) (o := o) (a := a) (fun g b d h1 h2 => hr d (by simp [Oper.looksAt, h1, h2]))) hwant
        have hwg := hw.2.2 g rfl
        have hNN : N' = N := funext fun x => propext (by rw [hN' x]; exact ⟨fun h => h.elim id fun h => absurd h.2 (Nat.not_lt.2 h.1), Or.inl⟩)
        have hMM : M' = M := funext fun x => by rw [hM' x, hno x]; simp
        cases g with
        | false => exact wpOp_of hoi (fun _ => hK _ undef w ρ rfl (.grdF _) (by rw [hNN, hMM]; exact hi) (fun _ _ => rfl)) fun hf => by rw [hwg] at hf; cases hf
        | true =>
          have ho2 : Paid (o2 ++ st.owes (stripOf o.op)) := fun p hp => by
            have := ho (!true || p) (List.mem_map.2 ⟨p, hp, rfl⟩)
            simpa using this
          have hfr' := stepD_frame hH hst (paid_append.1 ho2).1
          have hlen : m1.length = st.mem.length := hfr'.2.2.1 hfp.1 (by omega)
          refine wpOp_of hoi (fun hf => by rw [hwg] at hf; cases hf) fun _ => ?_
          have := stepD_sound hH (w0 := w0) (rv := a.eval) (N' := N) (M' := M) hst (paid_append.1 ho2).1 (fun x => evS_rep (fun t ht => hr t (List.mem_append.2 (Or.inl ht))) (paid_append.1 ho2).2 x) hi hM hT
            (fun x h1 h2 => by omega) (fun hb => by rw [hfp.1] at hb; cases hb) (fun x => ⟨Or.inl, fun h => h.elim id fun h => by omega⟩) (fun x => by rw [hno x]; simp)
          exact Comes1.wp (this.mono fun u w' ⟨ρ', r1, r2, r3⟩ => hK _ u w' ρ' rfl (.grdT _ _ (by rw [hNN]; exact r1)) (by rw [hNN, hMM]; exact r2) r3)
    · cases h
  · cases h

/-- How many are still to come. -/
def left (l : List Bool) : Nat := (l.filter fun b => !b).length
theorem left_set : ∀ (l : List Bool) (i : Nat), l[i]? = some false → left (l.set i true) + 1 = left l
  | [], i, h => by simp at h
  | b :: l, 0, h => by simp at h; subst h; simp [left]
  | b :: l, i + 1, h => by
    have := left_set l i (by simpa using h)
    cases b <;> simp [left] at this ⊢ <;> omega
theorem left_zero : ∀ (l : List Bool), left l = 0 → ∀ (i : Nat) b, l[i]? = some b → b = true
  | [], _, i, b, h => by simp at h
  | x :: l, h0, i, b, h => by
    cases x with
    | false => simp [left] at h0
    | true =>
      cases i with
      | zero => simp at h; exact h
      | succ i => exact left_zero l (by simpa [left] using h0) i b (by simpa using h)

theorem edges_spec : ∀ {l : List Oper} {j : Nat}, edgesOK l j = true → ∀ (t : Nat) (o : Oper), l[t]? = some o → ∀ e ∈ o.after, Region.binds .any e = true → e.on < j + t
  | [], _, _, t, o, h => by simp at h
  | x :: l, j, h, t, o, ho => by
    simp only [edgesOK, Bool.and_eq_true] at h
    cases t with
    | zero =>
      simp at ho
      subst ho
      intro e he hb
      have := List.all_eq_true.1 h.1 e (Array.mem_toList_iff.2 he)
      simpa [hb] using this
    | succ t =>
      intro e he hb
      have := edges_spec h.2 t o (by simpa using ho) e he hb
      omega

theorem regionD_sound (hm : P.follows .mixedOrders = true) (hH : HOk P H) {w0 : World} {S : Nat → Prop} {ρ0 : Nat → Loc3} {n0 : Nat} {ds : List Deferred} {ops : Array Oper} {st st' : St} {ob : List Bool}
    (hE : edgesOK ops.toList 0 = true) (h : opersD P q H ops (masks ops.toList []) 0 [] ops.toList st = some (ob, st')) (ho : Paid ob) {a : Act} {w : World} (hs : SInv w0 S ρ0 n0 ds st a w)
    {Q : Exit → Act → World → Prop} (hQ : ∀ a' w', SInv w0 S ρ0 n0 ds st' a' w' → Q .normal a' w') {rid : Nat} : (Code.region rid ops true).wp P Q a w := by
  obtain ⟨s, fp, hs0, hsn, htr⟩ := trace h ho
  simp only [Nat.zero_add, List.nil_append, Array.length_toList] at hs0 hsn htr
  have hn : ∀ (k : Nat) (o : Oper), ops[k]? = some o → k < ops.size := fun k o ho => (Array.getElem?_eq_some_iff.1 ho).1
  have hst : ∀ (k : Nat) (o : Oper), ops[k]? = some o → DStep P q H ops o (s k) (s (k + 1)) (fp k) := fun k o hk => by
    obtain ⟨obk, g1, g2, _⟩ := htr k o (by simpa using hk)
    exact operD_step hH g1 g2
  have hlog : ∀ k t, t < k → ((List.range' 0 k).map fp)[t]? = some (fp t) := fun k t ht => by simp [ht]
  -- two operations: held apart, or with nothing to do with each other
  have hpair : ∀ (t k : Nat) (x o : Oper), t < k → ops[t]? = some x → ops[k]? = some o → Anc ops t k ∨ (x.apart ops o = true ∧ (fp k).off (fp t) = true ∧ (fp t).off (fp k) = true) := fun t k x o htk hx hk => by
    obtain ⟨obk, _, _, g3⟩ := htr k o (by simpa using hk)
    obtain ⟨y, h1, h2⟩ := aside_spec g3 t (fp t) (hlog k t htk)
    have : y = x := by
      have h3 : ops[t]? = some y := by simpa using h1
      rw [hx] at h3; exact (Option.some.inj h3).symm
    subst this
    refine h2.imp (fun h2 => ?_) id
    rw [Nat.zero_add] at h2
    exact masks_anc ops.toList [] (fun t => by simp) (fun j i h => by simp at h) k t h2
  have hmono : ∀ k, k < ops.size → (s k).mem.length ≤ (s (k + 1)).mem.length := fun k hk => (hst k ops[k] (by simp [hk])).le
  have hmono2 : ∀ i j, i ≤ j → j ≤ ops.size → (s i).mem.length ≤ (s j).mem.length := by
    intro i j hij hj
    induction j with
    | zero => have : i = 0 := by omega
              subst this; exact Nat.le_refl _
    | succ j ih =>
      by_cases hi : i = j + 1
      · subst hi; exact Nat.le_refl _
      · exact Nat.le_trans (ih (by omega) (by omega)) (hmono j (by omega))
  have htl : ∀ k, k ≤ ops.size → (s k).tm.length = st.tm.length := by
    intro k
    induction k with
    | zero => intro _; rw [hs0]
    | succ k ih =>
      intro hk
      obtain ⟨v, hv⟩ := (hst k ops[k] (by simp [show k < ops.size by omega])).tm
      rw [hv, ← ih (by omega)]
      cases ops[k].dst <;> simp [putA]
  let affT : Nat → Nat → Bool := fun k t => match ops[k]? with | some o => o.dst == some t | none => false
  let valT : Nat → Nat → AV := fun k t => (s k).tm.getD t .top
  let affM : Nat → Nat → Bool := fun k x => (fp k).aff x
  let valM : Nat → Nat → Option Blk := fun k x => getName (s k).mem x
  let D : (Nat → Bool) → Nat → Prop := fun L x => x < st.mem.length ∨ ∃ j, j < ops.size ∧ L j = true ∧ (s j).mem.length ≤ x ∧ x < (s (j + 1)).mem.length
  have hstepT : ∀ t k, k < ops.size → affT k t = false → valT (k + 1) t = valT k t := fun t k hk ha => by
    have hok : ops[k]? = some ops[k] := by simp [hk]
    obtain ⟨v, hv⟩ := (hst k _ hok).tm
    show (s (k + 1)).tm.getD t .top = (s k).tm.getD t .top
    rw [hv]
    have ha' : (ops[k].dst == some t) = false := by simpa [affT, hok] using ha
    cases hd : ops[k].dst with
    | none => rfl
    | some d =>
      rw [hd] at ha'
      simp only [putA]
      rw [getD_set, if_neg]
      rintro ⟨rfl, _⟩
      simp at ha'
  have hstepM : ∀ x k, k < ops.size → affM k x = false → valM (k + 1) x = valM k x := fun x k hk ha => (hst k ops[k] (by simp [hk])).frame x ha
  let I : Array Bool → Act → World → Prop := fun listed a w => ∃ ρ, (∀ t, Rep ρ (D fun j => listed.getD j false) (G affT valT (fun j => listed.getD j false) ops.size t) (a.tmps.getD t undef)) ∧ st.tm.length ≤ a.tmps.size ∧
    Inv w0 S (D fun j => listed.getD j false) ρ (G affM valM (fun j => listed.getD j false) ops.size) w ∧ Agr ρ0 ρ (upto n0) ∧ a.defers = ds
  obtain ⟨⟨ρ, hr, hi, hag⟩, hle, hds⟩ := hs
  -- what is ready
  have hround : ∀ (listed : Array Bool) (a : Act) (w : World) (i : Nat), listed.size = ops.size → Closed ops (fun j => listed.getD j false) → i ∈ Region.ready .any ops listed → I listed a w →
      ∀ {K : Act → World → Prop}, (∀ a' w', I (listed.setIfInBounds i true) a' w' → K a' w') → wpOp P ops Q i K a w := by
    intro listed a w i hsz hc hi ⟨ρ, h1, h2, h3, h4, h5⟩ K hK
    obtain ⟨hun, o, hoi, hpre⟩ := mem_ready.1 hi
    have hlt := hn i o hoi
    have hLi : listed.getD i false = false := getD_both hun
    have hLt : ∀ j, Anc ops j i → listed.getD j false = true := fun j hA => anc_listed hc hA fun o' ho' e he hb => by rw [hoi] at ho'; cases ho'; exact hpre e he hb
    have hGt : ∀ j, j < ops.size → Anc ops i j → listed.getD j false = false := fun j hj hA => by
      cases hl : listed.getD j false with
      | false => rfl
      | true =>
        have := anc_listed hc hA fun o' ho' e he hb => hc j o' ho' hl e he hb
        have h' : listed.getD i false = true := this
        rw [hLi] at h'; cases h'
    have hordT : ∀ t, t ∈ o.looksAt ops → ∀ j, j < ops.size → affT j t = true → (listed.getD j false = true ↔ j < i) := fun t ht j hj ha => by
      have hoj : ops[j]? = some ops[j] := by simp [hj]
      have hd : ops[j].dst = some t := by simpa [affT, hoj] using ha
      rcases Nat.lt_trichotomy j i with hji | hji | hji
      · refine ⟨fun _ => hji, fun _ => ?_⟩
        rcases hpair j i _ o hji hoj hoi with hA | ⟨hA, _, _⟩
        · exact hLt j hA
        · exact absurd ht ((Oper.apart_spec hA).1 t hd)
      · subst hji; rw [hLi]; simp
      · refine ⟨fun hl => ?_, fun h => by omega⟩
        rcases hpair i j o _ hji hoi hoj with hA | ⟨hA, _, _⟩
        · rw [hGt j hj hA] at hl; cases hl
        · exact absurd ht ((Oper.apart_spec hA).2.2 t hd)
    have hordM : ∀ x, (fp i).touch x → ∀ j, j < ops.size → affM j x = true → (listed.getD j false = true ↔ j < i) := fun x hx j hj ha => by
      have hoj : ops[j]? = some ops[j] := by simp [hj]
      rcases Nat.lt_trichotomy j i with hji | hji | hji
      · refine ⟨fun _ => hji, fun _ => ?_⟩
        rcases hpair j i _ o hji hoj hoi with hA | ⟨_, _, hA⟩
        · exact hLt j hA
        · exact absurd hx (Fp.off_spec hA x ha)
      · subst hji; rw [hLi]; simp
      · refine ⟨fun hl => ?_, fun h => by omega⟩
        rcases hpair i j o _ hji hoi hoj with hA | ⟨_, hA, _⟩
        · rw [hGt j hj hA] at hl; cases hl
        · exact absurd hx (Fp.off_spec hA x ha)
    have hset : ∀ j, (listed.setIfInBounds i true).getD j false = if j = i then true else listed.getD j false := fun j => by
      by_cases hj : j = i
      · subst hj; rw [if_pos rfl]; simp [show j < listed.size by omega]
      · rw [if_neg hj, getD_set_ne false (Ne.symm hj)]
    have hDT : ∀ x, (fp i).touch x → x < (s i).mem.length → D (fun j => listed.getD j false) x := fun x hx hxl => by
      have : ∀ k, k ≤ i → x < (s k).mem.length → D (fun j => listed.getD j false) x := by
        intro k
        induction k with
        | zero => intro _ h; rw [hs0] at h; exact Or.inl h
        | succ k ih =>
          intro hk h
          by_cases hxk : x < (s k).mem.length
          · exact ih (by omega) hxk
          · have hok : ops[k]? = some ops[k] := by simp [show k < ops.size by omega]
            have hb := (hst k _ hok).born x (by omega) h
            exact Or.inr ⟨k, by omega, (hordM x hx k (by omega) hb).2 (by omega), by omega, h⟩
      exact this i (Nat.le_refl _) hxl
    have hD' : ∀ x, D (fun j => (listed.setIfInBounds i true).getD j false) x ↔ D (fun j => listed.getD j false) x ∨ ((s i).mem.length ≤ x ∧ x < (s (i + 1)).mem.length) := fun x => by
      constructor
      · rintro (hx | ⟨j, g1, g2, g3, g4⟩)
        · exact Or.inl (Or.inl hx)
        · have g2 : (listed.setIfInBounds i true).getD j false = true := g2
          rw [hset j] at g2
          by_cases hj : j = i
          · subst hj; exact Or.inr ⟨g3, g4⟩
          · rw [if_neg hj] at g2; exact Or.inl (Or.inr ⟨j, g1, g2, g3, g4⟩)
      · rintro ((hx | ⟨j, g1, g2, g3, g4⟩) | ⟨g3, g4⟩)
        · exact Or.inl hx
        · refine Or.inr ⟨j, g1, ?_, g3, g4⟩
          show (listed.setIfInBounds i true).getD j false = true
          rw [hset j]; split
          · rfl
          · exact g2
        · exact Or.inr ⟨i, hlt, by show (listed.setIfInBounds i true).getD i false = true; rw [hset i, if_pos rfl], g3, g4⟩
    have hnotin : ∀ x, (s i).mem.length ≤ x → x < (s (i + 1)).mem.length → ¬ D (fun j => listed.getD j false) x := fun x g1 g2 hx => by
      rcases hx with hx | ⟨j, k1, k2, k3, k4⟩
      · have := hmono2 0 i (by omega) (by omega); rw [hs0] at this; omega
      · rcases Nat.lt_trichotomy j i with hji | hji | hji
        · have := hmono2 (j + 1) i (by omega) (by omega); omega
        · subst hji; have k2 : listed.getD j false = true := k2; rw [hLi] at k2; cases k2
        · have := hmono2 (i + 1) j (by omega) (by omega); omega
    refine (hst i o hoi).sound (N := D fun j => listed.getD j false) (N' := D fun j => (listed.setIfInBounds i true).getD j false) (M := G affM valM (fun j => listed.getD j false) ops.size)
      (M' := G affM valM (fun j => (listed.setIfInBounds i true).getD j false) ops.size) hoi (fun t ht => ?_) h3 (fun x hx hxl => ?_) hDT hnotin (fun hb x => ⟨fun hx => ?_, fun hx => hDT x (Or.inr (Or.inr (Or.inr hb))) hx⟩) hD' (fun x => ?_) ?_
    · have := h1 t
      rwa [G_known (i := i) (hstepT t) (by omega) (hordT t ht)] at this
    · exact G_known (i := i) (hstepM x) (by omega) (hordM x hx)
    · rcases hx with hx | ⟨j, k1, k2, k3, k4⟩
      · have := hmono2 0 i (by omega) (by omega); rw [hs0] at this; omega
      · have hoj : ops[j]? = some ops[j] := by simp [k1]
        have hb' := (hst j _ hoj).born x k3 k4
        have hji := (hordM x (Or.inr (Or.inr (Or.inr hb))) j k1 hb').1 k2
        have := hmono2 (j + 1) i (by omega) (by omega)
        omega
    · split
      · rename_i ha
        have htx : (fp i).touch x := by
          have : (fp i).aff x = true := ha
          simp only [Fp.aff, Bool.or_eq_true, Bool.and_eq_true, decide_eq_true_eq] at this
          exact Or.inr (Or.inr this)
        refine G_at hlt (by show (listed.setIfInBounds i true).getD i false = true; rw [hset i, if_pos rfl]) ha fun j hij hj haj => ?_
        show (listed.setIfInBounds i true).getD j false = false
        rw [hset j, if_neg (by omega)]
        cases hl : listed.getD j false with
        | false => rfl
        | true => have := (hordM x htx j hj haj).1 hl; omega
      · rename_i ha
        refine G_other fun j hj haj => ?_
        show (listed.setIfInBounds i true).getD j false = _
        rw [hset j, if_neg]
        rintro rfl
        exact ha haj
    · intro v u w' ρ' htm hv hi' hag'
      refine hK _ _ ⟨ρ', fun t => ?_, ?_, hi', fun x hx => ?_, by rw [put_defers]; exact h5⟩
      · have hext : Rep ρ' (D fun j => (listed.setIfInBounds i true).getD j false) (G affT valT (fun j => listed.getD j false) ops.size t) (a.tmps.getD t undef) := (h1 t).ext hag' fun x hx => (hD' x).2 (Or.inl hx)
        by_cases hd : o.dst = some t
        · have haff : affT i t = true := by simp [affT, hoi, hd]
          rw [G_at hlt (by show (listed.setIfInBounds i true).getD i false = true; rw [hset i, if_pos rfl]) haff fun j hij hj haj => by
            show (listed.setIfInBounds i true).getD j false = false
            rw [hset j, if_neg (by omega)]
            have hoj : ops[j]? = some ops[j] := by simp [hj]
            have hdj : ops[j].dst = some t := by simpa [affT, hoj] using haj
            rcases hpair i j o _ hij hoi hoj with hA | ⟨hA, _, _⟩
            · exact hGt j hj hA
            · exact absurd hdj ((Oper.apart_spec hA).2.1 t hd)]
          show Rep _ _ ((s (i + 1)).tm.getD t .top) _
          rw [htm, hd]
          simp only [putA, Act.put]
          rw [getD_set, arr_getD_set]
          have hl := htl i (by omega)
          by_cases ht : t < (s i).tm.length
          · rw [if_pos ⟨rfl, ht⟩, if_pos ⟨rfl, by omega⟩]; exact hv
          · rw [if_neg (fun h => ht h.2), List.getD, List.getElem?_eq_none (by omega)]
            exact .top _
        · have haff : affT i t = false := by simp [affT, hoi, hd]
          rw [G_other (L := fun j => listed.getD j false) fun j hj haj => by
            show (listed.setIfInBounds i true).getD j false = _
            rw [hset j, if_neg]
            rintro rfl
            rw [haff] at haj; cases haj]
          have e : (a.put o.dst u).tmps.getD t undef = a.tmps.getD t undef := by
            cases hdd : o.dst with
            | none => rfl
            | some d =>
              simp only [Act.put]
              rw [arr_getD_set, if_neg]
              rintro ⟨rfl, _⟩
              exact hd hdd
          rw [e]; exact hext
      · cases o.dst <;> simpa [Act.put] using h2
      · rw [hag' x (Or.inl (by simp [upto] at hx; omega))]; exact h4 x hx
  refine wp_region_any hm ?_
  have key : ∀ (fuel : Nat) (listed : Array Bool) (a : Act) (w : World), listed.size = ops.size → Closed ops (fun j => listed.getD j false) → left listed.toList ≤ fuel → I listed a w → wpAny P .any ops Q fuel listed a w := by
    have hdone : ∀ (listed : Array Bool) (a : Act) (w : World), listed.size = ops.size → (∀ j, j < ops.size → listed.getD j false = true) → I listed a w → Q .normal a w := by
      intro listed a w hsz hall ⟨ρ, h1, h2, h3, h4, h5⟩
      have hD : (D fun j => listed.getD j false) = upto st'.mem.length := funext fun x => propext ⟨fun hx => by
        rcases hx with hx | ⟨j, h6, _, _, h8⟩
        · have := hmono2 0 ops.size (by omega) (Nat.le_refl _); rw [hs0, hsn] at this; exact Nat.lt_of_lt_of_le hx this
        · have := hmono2 (j + 1) ops.size (by omega) (Nat.le_refl _); rw [hsn] at this; exact Nat.lt_of_lt_of_le h8 this, fun hx => by
        have : ∀ k, k ≤ ops.size → x < (s k).mem.length → D (fun j => listed.getD j false) x := by
          intro k
          induction k with
          | zero => intro _ h; rw [hs0] at h; exact Or.inl h
          | succ k ih =>
            intro hk h
            by_cases hxk : x < (s k).mem.length
            · exact ih (by omega) hxk
            · exact Or.inr ⟨k, by omega, hall k (by omega), by omega, h⟩
        exact this ops.size (Nat.le_refl _) (by rw [hsn]; exact hx)⟩
      rw [hD] at h1 h3
      refine hQ a w ⟨⟨ρ, ⟨fun t => ?_, by rw [← hsn, htl _ (Nat.le_refl _)]; exact h2⟩, h3.congr fun x => ?_, h4⟩, ?_, h5⟩
      · have := h1 t
        rw [G_known (i := ops.size) (hstepT t) (Nat.le_refl _) (fun j hj _ => ⟨fun _ => hj, fun _ => hall j hj⟩)] at this
        simpa [valT, hsn] using this
      · rw [G_known (i := ops.size) (hstepM x) (Nat.le_refl _) (fun j hj _ => ⟨fun _ => hj, fun _ => hall j hj⟩)]
        simp [valM, hsn]
      · have := hmono2 0 ops.size (by omega) (Nat.le_refl _); rw [hs0, hsn] at this; omega
    have hempty : ∀ (listed : Array Bool), listed.size = ops.size → Region.ready .any ops listed = [] → ∀ j, j < ops.size → listed.getD j false = true := by
      intro listed hsz hr j
      induction j using Nat.strongRecOn with
      | _ j ih =>
        intro hj
        cases hl : listed.getD j false with
        | true => rfl
        | false =>
          exfalso
          have : j ∈ Region.ready .any ops listed := mem_ready.2 ⟨getD_in (by omega) hl, ops[j], by simp [hj], fun e he hb => by
            have := edges_spec hE j ops[j] (by simp [hj]) e he hb
            exact ih e.on (by omega) (by omega)⟩
          rw [hr] at this; cases this
    intro fuel
    induction fuel with
    | zero =>
      intro listed a w hsz hc hl hI
      have hall : ∀ j, j < ops.size → listed.getD j false = true := fun j hj => by
        have := left_zero listed.toList (by omega) j (listed[j]'(by omega)) (by simp [show j < listed.size by omega])
        simp [show j < listed.size by omega, this]
      have hre : Region.ready .any ops listed = [] := by
        cases hr : Region.ready .any ops listed with
        | nil => rfl
        | cons i _ =>
          have hm : i ∈ Region.ready .any ops listed := by rw [hr]; exact List.mem_cons_self ..
          obtain ⟨h1, o, h2, _⟩ := mem_ready.1 hm
          have := hall i (hn i o h2)
          rw [getD_both h1] at this; cases this
      exact ⟨hre, hdone listed a w hsz hall hI⟩
    | succ fuel ih =>
      intro listed a w hsz hc hl hI
      refine ⟨fun hre => hdone listed a w hsz (hempty listed hsz hre) hI, fun i hi => ?_⟩
      obtain ⟨h1, o, h2, h3⟩ := mem_ready.1 hi
      refine hround listed a w i hsz hc hi hI fun a' w' hI' => ih _ a' w' (by simpa using hsz) ?_ ?_ hI'
      · intro j oj hj hlj e he hb
        by_cases hij : i = j
        · subst hij
          rw [h2] at hj; cases hj
          exact getD_set_true (h3 e he hb)
        · have hlj' : (listed.setIfInBounds i true).getD j false = true := hlj
          rw [getD_set_ne false hij] at hlj'
          exact getD_set_true (hc j oj hj hlj' e he hb)
      · have hlt := hn i o h2
        have := left_set listed.toList i (by
          have h4 := getD_both h1
          simp [show i < listed.size by omega] at h4 ⊢
          exact h4)
        simp at this ⊢
        omega
  refine key ops.size _ a _ (by simp) (fun j o _ hl => by have hl : (Array.replicate ops.size false).getD j false = true := hl; rw [getD_replicate_false] at hl; cases hl) ?_ ?_
  · have : ∀ n, left (List.replicate n false) = n := fun n => by simp [left]
    simp [this]
  · have hF : (fun j => (Array.replicate ops.size false).getD j false) = fun _ => false := funext fun j => getD_replicate_false _ _
    have hD0 : (D fun j => (Array.replicate ops.size false).getD j false) = upto st.mem.length := by
      rw [hF]
      exact funext fun x => propext ⟨fun hx => hx.elim id fun ⟨_, _, h, _⟩ => (by cases h), Or.inl⟩
    show ∃ ρ, _
    rw [hD0, hF]
    refine ⟨ρ, fun t => ?_, hr.le, ?_, hag, hds⟩
    · rw [G_known (i := 0) (hstepT t) (by omega) (fun j hj _ => ⟨(fun h => by cases h), fun h => by omega⟩)]
      have := hr.rep t
      simpa [valT, hs0] using this
    · have hi' : Inv w0 S (upto st.mem.length) ρ (getName st.mem) { w with drawn := w.drawn + 1 } :=
        ⟨⟨fun n b hn => (hi.sim.blk n b hn).1.elim fun cs h => ⟨cs, h⟩, hi.sim.inj, hi.sim.live, hi.sim.tab.same fun _ _ _ _ => rfl, hi.sim.apart⟩, hi.size, hi.frame, hi.os, hi.tape, hi.output, hi.rws⟩
      refine hi'.congr fun x => ?_
      rw [G_known (i := 0) (hstepM x) (by omega) (fun j hj _ => ⟨(fun h => by cases h), fun h => by omega⟩)]
      simp [valM, hs0]
end
end Go.Ev
