/- Code, functions, calls: what the evaluator answers holds of every run. Own work. -/
import Derived.Test.YtjhjhhibfojpiaaTEvDraw3
import Derived.LoopN
set_option linter.unusedSimpArgs false
set_option linter.unusedVariables false
set_option linter.unusedSectionVars false
namespace Go.Ev
set_option linter.unusedSectionVars false
variable [Tab]

theorem sat_bind {α β : Type} {Q : β → Prop} : ∀ {t : Tree α} {f : α → Tree β}, (t.bind f).Sat Q → t.Sat (fun a => (f a).Sat Q)
  | .leaf _, _, h => h
  | .need _ _, _, h => ⟨h.1, sat_bind h.2⟩
  | .ite _ _ _, _, h => ⟨fun hc => sat_bind (h.1 hc), fun hc => sat_bind (h.2 hc)⟩
  | .fail, _, h => h
theorem sat_mono {α : Type} {Q R : α → Prop} (hq : ∀ a, Q a → R a) : ∀ {t : Tree α}, t.Sat Q → t.Sat R
  | .leaf _, h => hq _ h
  | .need _ _, h => ⟨h.1, sat_mono hq h.2⟩
  | .ite _ _ _, h => ⟨fun hc => sat_mono hq (h.1 hc), fun hc => sat_mono hq (h.2 hc)⟩
  | .fail, h => h
theorem sat_needs {α : Type} {Q : α → Prop} {t : Tree α} : ∀ {o : List Bool}, (Tree.needs o t).Sat Q → Paid o ∧ t.Sat Q
  | [], h => ⟨Paid.nil, h⟩
  | p :: o, h => by
    obtain ⟨h1, h2⟩ := sat_needs (o := o) h.2
    refine ⟨fun r hr => ?_, h2⟩
    rcases List.mem_cons.1 hr with rfl | hr
    · exact h.1
    · exact h1 r hr
theorem sat_ofE {α : Type} {Q : α → Prop} {e : E α} (h : (Tree.ofE e).Sat Q) : ∃ o a, e = some (o, a) ∧ Paid o ∧ Q a := by
  unfold Tree.ofE at h
  split at h
  · exact h.elim
  · rename_i o a
    obtain ⟨h1, h2⟩ := sat_needs h
    exact ⟨o, a, rfl, h1, h2⟩

section
variable {P : Program} {q : FuncId → Bool} {H : CallH}

theorem opersA_sound (hH : HOk P H) {w0 : World} {S : Nat → Prop} {ρ0 : Nat → Loc3} {n0 : Nat} {ds : List Deferred} {ops : Array Oper} {Q : Exit → Act → World → Prop} {st' : St} (hQ : ∀ a' w', SInv w0 S ρ0 n0 ds st' a' w' → Q .normal a' w') :
    ∀ {l : List Oper} {i : Nat} {st : St} {ob : List Bool} {a : Act} {w : World}, (∀ t : Nat, l[t]? = ops[i + t]?) → opersA P q H ops l st = some (ob, st') → Paid ob → SInv w0 S ρ0 n0 ds st a w →
      wpOps P ops Q (List.range' i l.length) a w
  | [], i, st, ob, a, w, _, h, ho, hs => by
    unfold opersA at h
    obtain ⟨_, rfl⟩ := pure_some h
    simpa [wpOps] using hQ a w hs
  | o :: r, i, st, ob, a, w, hl, h, ho, hs => by
    unfold opersA at h
    obtain ⟨o1, st1, o2, h1, h2, rfl⟩ := bind_some h
    have hp := paid_append.1 ho
    have ho' : ops[i]? = some o := by have := hl 0; simpa using this.symm
    rw [List.length_cons, List.range'_succ, wpOps_cons]
    exact operA_sound hH ho' h1 hp.1 hs fun a' w' hs' => opersA_sound hH hQ (fun t => by have := hl (t + 1); simp at this; rw [this]; congr 1; omega) h2 hp.2 hs'

theorem region_sound (hm : P.follows .mixedOrders = true) (hH : HOk P H) {w0 : World} {S : Nat → Prop} {ρ0 : Nat → Loc3} {n0 : Nat} {ds : List Deferred} {ops : Array Oper} {draw : Bool} {st st' : St} {ob : List Bool} {a : Act} {w : World}
    (h : regionA P q H ops draw st = some (ob, st')) (ho : Paid ob) (hs : SInv w0 S ρ0 n0 ds st a w) {Q : Exit → Act → World → Prop} (hQ : ∀ a' w', SInv w0 S ρ0 n0 ds st' a' w' → Q .normal a' w') {rid : Nat} :
    (Code.region rid ops draw).wp P Q a w := by
  unfold regionA at h
  split at h
  · refine wp_region ?_
    have := opersA_sound hH hQ (ops := ops) (i := 0) (fun t => by simp) h ho hs
    rwa [Array.length_toList, ← List.range_eq_range'] at this
  · split at h
    · rename_i hE
      exact regionD_sound hm hH hE h ho hs hQ
    · cases h

def Post (w0 : World) (S : Nat → Prop) (ρ0 : Nat → Loc3) (n0 : Nat) (ds : List Deferred) (K : Ex × St → Prop) : Exit → Act → World → Prop
  | .normal, a, w => ∃ st, K (.normal, st) ∧ SInv w0 S ρ0 n0 ds st a w
  | .exit id, a, w => ∃ st, K (.exit id, st) ∧ SInv w0 S ρ0 n0 ds st a w
  | .ret, a, w => ∃ st, K (.ret, st) ∧ SInv w0 S ρ0 n0 ds st a w
  | _, _, _ => False

theorem st_ev {ρ : Nat → Loc3} {N : Nat → Prop} {st : St} {a : Act} (h : SRep ρ N st.tm a) (x : Operand) : Rep ρ N (st.ev x) (a.eval x) := by
  cases x with
  | tmp t => exact h.rep t
  | const v =>
    simp only [St.ev, Act.eval]
    split
    · rename_i b hb; exact ofValue_rep hb
    · exact .top _
  | global g => exact .gptr false g 0
  | func f => exact .func f [] [] .nil

theorem codeA_sound (hm : P.follows .mixedOrders = true) (hH : HOk P H) {w0 : World} {S : Nat → Prop} {ρ0 : Nat → Loc3} {n0 : Nat} {ds : List Deferred} : ∀ (n : Nat),
    (∀ {c : Code} {st : St} {K : Ex × St → Prop} {a : Act} {w : World}, (codeA P q H n c st).Sat K → SInv w0 S ρ0 n0 ds st a w → c.wp P (Post w0 S ρ0 n0 ds K) a w) ∧
    (∀ {c : Code} {st : St} {K : Ex × St → Prop} {a : Act} {w : World}, (codeA P q H n (.loop c) st).Sat K → SInv w0 S ρ0 n0 ds st a w → Code.rounds P c (Post w0 S ρ0 n0 ds K) n a w) := by
  intro n
  induction n with
  | zero => exact ⟨fun h _ => h.elim, fun h _ => h.elim⟩
  | succ n ih =>
    obtain ⟨ihA, ihB⟩ := ih
    have B : ∀ {c : Code} {st : St} {K : Ex × St → Prop} {a : Act} {w : World}, (codeA P q H (n + 1) (.loop c) st).Sat K → SInv w0 S ρ0 n0 ds st a w → Code.rounds P c (Post w0 S ρ0 n0 ds K) (n + 1) a w := by
      intro c st K a w h hs
      rw [rounds_succ]
      refine wp_mono (ihA (sat_bind h) hs) fun e a' w' he => ?_
      cases e with
      | normal => obtain ⟨st', h1, h2⟩ := he; exact ihB h1 h2
      | exit id => obtain ⟨st', h1, h2⟩ := he; exact ⟨st', h1, h2⟩
      | ret => obtain ⟨st', h1, h2⟩ := he; exact ⟨st', h1, h2⟩
      | goto l => exact he
      | panic ch => exact he
      | outgrown => exact he
    refine ⟨?_, B⟩
    intro c st K a w h hs
    cases c with
    | skip => exact wp_skip ⟨st, h, hs⟩
    | label l => exact wp_label ⟨st, h, hs⟩
    | exit id => exact wp_exit ⟨st, h, hs⟩
    | ret => exact wp_ret ⟨st, h, hs⟩
    | seq x y =>
      refine wp_seq (wp_mono (ihA (sat_bind h) hs) fun e a' w' he => ?_)
      cases e with
      | normal => obtain ⟨st', h1, h2⟩ := he; exact ihA h1 h2
      | exit id => obtain ⟨st', h1, h2⟩ := he; exact ⟨st', h1, h2⟩
      | ret => obtain ⟨st', h1, h2⟩ := he; exact ⟨st', h1, h2⟩
      | goto l => exact he
      | panic ch => exact he
      | outgrown => exact he
    | cond x y z =>
      obtain ⟨⟨ρ, hr, hi, hag⟩, hle, hds⟩ := hs
      have hx := st_ev hr x
      simp only [codeA] at h
      split at h
      · rename_i t hev
        rw [hev] at hx
        have hv : a.eval x = .bool t := by
          generalize a.eval x = v at hx
          cases hx; rfl
        cases t with
        | true => exact wp_cond_true hv (ihA h ⟨⟨ρ, hr, hi, hag⟩, hle, hds⟩)
        | false => exact wp_cond_false hv (ihA h ⟨⟨ρ, hr, hi, hag⟩, hle, hds⟩)
      · rename_i t hev
        rw [hev] at hx
        have hv : a.eval x = .bool t := by
          generalize a.eval x = v at hx
          cases hx; rfl
        exact wp_cond_split hv (fun ht => ihA (h.1 ht) ⟨⟨ρ, hr, hi, hag⟩, hle, hds⟩) fun ht => ihA (h.2 ht) ⟨⟨ρ, hr, hi, hag⟩, hle, hds⟩
      · exact h.elim
    | block id x =>
      refine wp_block (wp_mono (ihA (sat_bind h) hs) fun e a' w' he => ?_)
      cases e with
      | normal => obtain ⟨st', h1, h2⟩ := he; exact ⟨st', h1, h2⟩
      | exit i =>
        obtain ⟨st', h1, h2⟩ := he
        simp only [Exit.inBlock]
        by_cases hid : i = id
        · simp only [hid, if_true] at h1 ⊢; exact ⟨st', h1, h2⟩
        · simp only [hid, if_false] at h1 ⊢; exact ⟨st', h1, h2⟩
      | ret => obtain ⟨st', h1, h2⟩ := he; exact ⟨st', h1, h2⟩
      | goto l => exact he
      | panic ch => exact he
      | outgrown => exact he
    | loop x => exact wp_loop_rounds (n + 1) (B h hs)
    | region id ops draw =>
      obtain ⟨o, ⟨e, st'⟩, h1, h2, h3⟩ := sat_ofE h
      obtain ⟨o1, st1, o2, g1, g2, rfl⟩ := bind_some h1
      obtain ⟨_, he⟩ := pure_some g2
      cases he
      exact region_sound hm hH g1 (paid_append.1 h2).1 hs fun a' w' hs' => ⟨_, h3, hs'⟩
    | rangeFunc _ _ _ _ => exact h.elim
    | scope _ => exact h.elim
    | goto _ => exact h.elim
    | refuse _ => exact h.elim

theorem resA_sound {ρ : Nat → Loc3} {N : Nat → Prop} {st : St} {a : Act} {w : World} (hr : SRep ρ N st.tm a) (hs : Sim ρ N (getName st.mem) w) : ∀ {l : List ResultVar} {ob : List Bool} {avs : List AV}, resA P st l = some (ob, avs) → Paid ob →
    ∃ vs : List Value, (l.mapM (fun x : ResultVar => match x with | .tmp t => (pure (a.tmps.getD t undef) : Sem Value) | .cell p t => do loadVar t (← asAddr (a.tmps.getD p undef)))).run P w = .ok vs w ∧ Reps ρ N avs vs
  | [], ob, avs, h, _ => by
    unfold resA at h
    obtain ⟨_, rfl⟩ := pure_some h
    exact ⟨[], by simp, .nil⟩
  | .tmp t :: r, ob, avs, h, ho => by
    unfold resA at h
    obtain ⟨o1, l1, o2, h1, h2, rfl⟩ := bind_some h
    obtain ⟨_, rfl⟩ := pure_some h2
    obtain ⟨vs, g1, g2⟩ := resA_sound hr hs h1 (paid_append.1 ho).1
    exact ⟨a.tmps.getD t undef :: vs, by simp only [List.mapM_cons, Sem.run_bind, Sem.run_pure, Result.andThen_ok, g1], .cons _ _ _ _ (hr.rep t) g2⟩
  | .cell p t :: r, ob, avs, h, ho => by
    unfold resA at h
    obtain ⟨o1, v1, o2, h1, h2, rfl⟩ := bind_some h
    obtain ⟨o3, l1, o4, h3, h4, rfl⟩ := bind_some h2
    obtain ⟨_, rfl⟩ := pure_some h4
    have hp := paid_append.1 ho
    have hp2 := paid_append.1 hp.2
    obtain ⟨vs, g1, g2⟩ := resA_sound hr hs h3 hp2.1
    obtain ⟨v, k1, ⟨x, k2⟩, k3⟩ := loadA_sound h1 hp.1 (hr.rep p) hs
    refine ⟨v :: vs, ?_, .cons _ _ _ _ k3 g2⟩
    have k4 := k1 x k2
    have hA : (asAddr (a.tmps.getD p undef)).run P w = .ok x w := by rw [k2]; rfl
    simp only [List.mapM_cons, Sem.run_bind, hA, Sem.run_pure, Result.andThen_ok, k4, g1]

theorem one_rep {ρ : Nat → Loc3} {N : Nat → Prop} {avs : List AV} {vs : List Value} (h : Reps ρ N avs vs) : Rep ρ N (one avs) (if h : vs.toArray.size = 1 then vs.toArray[0] else .tuple vs.toArray) := by
  cases h with
  | nil => exact .tuple [] [] .nil
  | cons a l v vs h hs =>
    cases hs with
    | nil => exact h
    | cons b l u vs h2 hs2 =>
      rw [dif_neg (by simp)]
      exact .tuple _ _ (.cons _ _ _ _ h (.cons _ _ _ _ h2 hs2))

theorem start_rep {ρ : Nat → Loc3} {N : Nat → Prop} {args : List AV} {vs : List Value} (h : Reps ρ N args vs) (k : Nat) :
    SRep ρ N (args ++ List.replicate (k - args.length) .top) { tmps := vs.toArray ++ Array.replicate (k - vs.toArray.size) undef, defers := [] } := by
  have hl := h.length
  refine ⟨fun t => ?_, by simp [hl]⟩
  by_cases ht : t < args.length
  · rw [List.getD, List.getElem?_append_left ht]
    cases ha : args[t]? with
    | none => exact .top _
    | some x =>
      obtain ⟨v, h1, h2⟩ := h.get t x ha
      have : (vs.toArray ++ Array.replicate (k - vs.toArray.size) undef).getD t undef = v := by
        have hlt : t < vs.length := by omega
        have h3 : vs[t] = v := by simpa [hlt] using h1
        simp [Array.getElem?_append, hlt, h3]
      show Rep ρ N x ((vs.toArray ++ Array.replicate (k - vs.toArray.size) undef).getD t undef)
      rw [this]; exact h2
  · rw [List.getD, List.getElem?_append_right (by omega)]
    cases hx : (List.replicate (k - args.length) AV.top)[t - args.length]? with
    | none => exact .top _
    | some x =>
      have := List.mem_of_getElem? hx
      simp at this
      rw [this.2]
      exact .top _

/-- What a call leaves. -/
def Left1 (w0 : World) (S : Nat → Prop) (ρ : Nat → Loc3) (m : Mem) (K : AV × Mem → Prop) (u : Value) (w' : World) : Prop :=
  ∃ v m' ρ', K (v, m') ∧ Rep ρ' (upto m'.length) v u ∧ Inv w0 S (upto m'.length) ρ' (getName m') w' ∧ Agr ρ ρ' (upto m.length) ∧ m.length ≤ m'.length

theorem funcA_sound (hm : P.follows .mixedOrders = true) (hH : HOk P H) {n : Nat} {f : FuncId} {args : List AV} {m : Mem} {K : AV × Mem → Prop} (h : (funcA P q H n f args m).Sat K)
    {w0 : World} {S : Nat → Prop} {ρ : Nat → Loc3} {w : World} {vs : List Value} (ha : Reps ρ (upto m.length) args vs) (hi : Inv w0 S (upto m.length) ρ (getName m) w) :
    (∃ fn c, P.funcs[f]? = some fn ∧ fn.body = some c) ∧ Calls P f vs.toArray w (fun e w' => ∃ u, e = .returned u ∧ Left1 w0 S ρ m K u w') := by
  unfold funcA at h
  split at h
  · rename_i fn hfn
    split at h
    · rename_i c hc
      refine ⟨⟨fn, c, hfn, hc⟩, calls_of_wp hfn hc ?_⟩
      have hsr := start_rep ha fn.ntmps
      refine wp_mono ((codeA_sound (w0 := w0) (S := S) (ρ0 := ρ) (n0 := m.length) (ds := []) hm hH n).1 (sat_bind h) ⟨⟨ρ, hsr, hi, fun _ _ => rfl⟩, Nat.le_refl _, rfl⟩) fun e a w' he => ?_
      have fin : ∀ st, (Tree.ofE (E.bind (resA P st fn.results.toList) fun l => E.pure (one l, st.mem))).Sat K → SInv w0 S ρ m.length [] st a w' →
          a.defers = [] ∧ ∃ v, (results fn a.tmps).run P w' = .ok v w' ∧ ∃ u, Ending.returned v = .returned u ∧ Left1 w0 S ρ m K u w' := by
        intro st hk ⟨⟨ρ', r1, r2, r3⟩, r4, r5⟩
        obtain ⟨o, ⟨v1, m1⟩, k1, k2, k3⟩ := sat_ofE hk
        obtain ⟨o1, l1, o2, g1, g2, rfl⟩ := bind_some k1
        obtain ⟨_, he⟩ := pure_some g2
        cases he
        obtain ⟨us, q1, q2⟩ := resA_sound (P := P) r1 r2.sim g1 (paid_append.1 k2).1
        refine ⟨r5, _, ?_, _, rfl, ⟨_, _, ρ', k3, one_rep q2, r2, r3, r4⟩⟩
        unfold results
        rw [Sem.run_bind, Array.mapM_eq_mapM_toList, Sem.run_map]
        have q1' : (fn.results.toList.mapM (fun x : ResultVar => match x with | .tmp t => (pure (a.tmps.getD t undef) : Sem Value) | .cell p t => do loadVar t (← asAddr (a.tmps.getD p undef)))).run P w' = .ok us w' := q1
        refine (congrArg (fun r : Result (List Value) => (r.andThen fun a w' => Result.ok a.toArray w').andThen _) q1').trans ?_
        rfl
      cases e with
      | normal => obtain ⟨st, k1, k2⟩ := he; exact fin st k1 k2
      | ret => obtain ⟨st, k1, k2⟩ := he; exact fin st k1 k2
      | exit id => obtain ⟨st, k1, k2⟩ := he; exact k1.elim
      | goto l => exact he.elim
      | panic ch => exact he.elim
      | outgrown => exact he.elim
    · exact h.elim
  · exact h.elim

/- calls that are walked -/
theorem mixA_rep {c : Bool} {a b v : AV} (h : mixA c a b = some v) {ρ ρ' : Nat → Loc3} {N N' : Nat → Prop} {u : Value} : (c = true → Rep ρ N a u → Rep ρ' N' v u) ∧ (c = false → Rep ρ N b u → Rep ρ' N' v u) := by
  unfold mixA at h
  split at h
  · cases h
    exact ⟨(fun hc hr => by subst hc; cases hr; exact .bool _ _), fun hc hr => by subst hc; cases hr; exact .bool _ _⟩
  · split at h
    · rename_i hk
      subst hk
      cases h
      exact ⟨(fun hc hr => by subst hc; cases hr with | int _ _ _ h => exact .int _ _ _ h), fun hc hr => by subst hc; cases hr with | int _ _ _ h => exact .int _ _ _ h⟩
    · cases h
  · split at h
    · rename_i hk
      obtain ⟨hk, hn⟩ := hk
      subst hk hn
      cases h
      exact ⟨(fun hc hr => by subst hc; cases hr with | ints _ _ _ hn h => exact .ints _ _ _ hn h), fun hc hr => by subst hc; cases hr with | ints _ _ _ hn h => exact .ints _ _ _ hn h⟩
    · cases h
  · cases h
    exact ⟨(fun hc hr => by subst hc; cases hr with | str _ _ h => exact .str _ _ h), fun hc hr => by subst hc; cases hr with | str _ _ h => exact .str _ _ h⟩
  · cases h
theorem mixAs_rep {c : Bool} {ρ ρ' : Nat → Loc3} {N N' : Nat → Prop} : ∀ {l k r : List AV} {us : List Value}, mixAs c l k = some r → (c = true → Reps ρ N l us → Reps ρ' N' r us) ∧ (c = false → Reps ρ N k us → Reps ρ' N' r us)
  | [], [], r, us, h => by
    simp [mixAs] at h
    subst h
    exact ⟨(fun _ hr => by cases hr; exact .nil), fun _ hr => by cases hr; exact .nil⟩
  | a :: l, b :: k, r, us, h => by
    simp only [mixAs] at h
    split at h
    · rename_i x y h1 h2
      cases h
      refine ⟨fun hc hr => ?_, fun hc hr => ?_⟩
      · cases hr with
        | cons _ _ v vs hv hvs => exact .cons _ _ _ _ ((mixA_rep h1).1 hc hv) ((mixAs_rep h2).1 hc hvs)
      · cases hr with
        | cons _ _ v vs hv hvs => exact .cons _ _ _ _ ((mixA_rep h1).2 hc hv) ((mixAs_rep h2).2 hc hvs)
    · cases h
  | [], _ :: _, _, _, h => by simp [mixAs] at h
  | _ :: _, [], _, _, h => by simp [mixAs] at h
theorem mixT_rep {c : Bool} {a b v : AV} (h : mixT c a b = some v) {ρ ρ' : Nat → Loc3} {N N' : Nat → Prop} {u : Value} : (c = true → Rep ρ N a u → Rep ρ' N' v u) ∧ (c = false → Rep ρ N b u → Rep ρ' N' v u) := by
  unfold mixT at h
  split at h
  · rename_i l k
    cases hm : mixAs c l k with
    | none => simp [hm] at h
    | some r =>
      simp [hm] at h
      subst h
      refine ⟨fun hc hr => ?_, fun hc hr => ?_⟩
      · cases hr with
        | tuple _ vs hv => exact .tuple _ _ ((mixAs_rep hm).1 hc hv)
      · cases hr with
        | tuple _ vs hv => exact .tuple _ _ ((mixAs_rep hm).2 hc hv)
  · exact mixA_rep h

theorem mix_sound : ∀ {T : Tree (AV × Mem)} {o : List Bool} {v : AV}, T.mix = some (o, v) → Paid o →
    T.Sat (fun p => ∀ {ρ ρ' : Nat → Loc3} {N N' : Nat → Prop} {u : Value}, Rep ρ N p.1 u → Rep ρ' N' v u)
  | .leaf (x, m), o, v, h, _ => by
    simp only [Tree.mix] at h
    split at h
    · rename_i hp
      obtain ⟨_, rfl⟩ := pure_some h
      exact fun hr => plainAs_rep hr hp
    · cases h
  | .need p t, o, v, h, ho => by
    simp only [Tree.mix] at h
    split at h
    · rename_i o1 a ht
      cases h
      exact ⟨ho p (List.mem_cons_self ..), mix_sound ht fun r hr => ho r (List.mem_cons_of_mem _ hr)⟩
    · cases h
  | .ite c t e, o, v, h, ho => by
    simp only [Tree.mix] at h
    split at h
    · rename_i o1 a o2 b ht he
      split at h
      · rename_i x hx
        cases h
        have hp := paid_append.1 ho
        refine ⟨fun hc => sat_mono (Q := fun p => ∀ {ρ ρ' : Nat → Loc3} {N N' : Nat → Prop} {u : Value}, Rep ρ N p.1 u → Rep ρ' N' a u) ?_ (mix_sound ht fun r hr => ?_),
          fun hc => sat_mono (Q := fun p => ∀ {ρ ρ' : Nat → Loc3} {N N' : Nat → Prop} {u : Value}, Rep ρ N p.1 u → Rep ρ' N' b u) ?_ (mix_sound he fun r hr => ?_)⟩
        · intro p hpr ρ ρ' N N' u hr
          exact (mixT_rep hx).1 hc (hpr (ρ' := ρ) (N' := N) hr)
        · have := hp.1 (!c || r) (List.mem_map.2 ⟨r, hr, rfl⟩)
          simpa [hc] using this
        · intro p hpr ρ ρ' N N' u hr
          exact (mixT_rep hx).2 hc (hpr (ρ' := ρ) (N' := N) hr)
        · have := hp.2 (c || r) (List.mem_map.2 ⟨r, hr, rfl⟩)
          simpa [hc] using this
      · cases h
    · cases h
  | .fail, o, v, h, _ => by simp [Tree.mix] at h

theorem flat_sound {α : Type} : ∀ {T : Tree α} {o : List Bool} {a : α}, T.flat = some (o, a) → Paid o → T.Sat (fun x => x = a)
  | .leaf x, o, a, h, _ => by
    obtain ⟨_, rfl⟩ := pure_some h
    exact rfl
  | .need p t, o, a, h, ho => by
    simp only [Tree.flat] at h
    split at h
    · rename_i o1 b ht
      cases h
      exact ⟨ho p (List.mem_cons_self ..), flat_sound ht fun r hr => ho r (List.mem_cons_of_mem _ hr)⟩
    · cases h
  | .ite _ _ _, o, a, h, _ => by simp [Tree.flat] at h
  | .fail, o, a, h, _ => by simp [Tree.flat] at h

/-- No function is the one that the model answers itself. -/
def noCount (P : Program) : Bool := P.funcs.all fun fn => !(fn.name == "runtime.NumGoroutine")
theorem callRun_of (hng : noCount P = true) {f : FuncId} {vs : Array Value} {w : World} {Q : Value → World → Prop} (hf : ∃ fn c, P.funcs[f]? = some fn ∧ fn.body = some c)
    (h : Calls P f vs w (fun e w' => ∃ u, e = .returned u ∧ Q u w')) : CallRun P f vs w Q := by
  obtain ⟨fn, c, h1, h2⟩ := hf
  have h3 : ¬ fn.name = "runtime.NumGoroutine" := by
    have := Array.all_eq_true'.1 hng fn (Array.mem_of_getElem? h1)
    simpa using this
  have : (callFunc f vs).run P w = .ok (.enter f vs) w := by
    unfold callFunc
    simp [h1, h2, h3]
  unfold CallRun
  rw [this]
  exact h

theorem ro_start {ρ : Nat → Loc3} {m : Mem} {w0 : World} {S : Nat → Prop} {w : World} (hi : Inv w0 S (upto m.length) ρ (getName m) w) : Inv w (fun _ => False) (upto (roAll m).length) ρ (getName (roAll m)) w := by
  have hl : (roAll m).length = m.length := by simp [roAll]
  rw [hl]
  have ro : ∀ n b, getName (roAll m) n = some b → ∃ b', getName m n = some b' ∧ b.c = b'.c ∧ b.rw = false := fun n b hn => by
    rw [getName_ro] at hn
    cases hg : getName m n with
    | none => simp [hg] at hn
    | some b0 => simp [hg] at hn; subst hn; exact ⟨b0, rfl, rfl, rfl⟩
  exact Inv.start _ (hi.sim.sub fun n b hn => by
    obtain ⟨b', h1, h2, h3⟩ := ro n b hn
    exact ⟨b', h1, h2, fun h => by rw [h3] at h; cases h⟩) fun n b hn hr => by
    obtain ⟨b', h1, h2, h3⟩ := ro n b hn
    rw [h3] at hr; cases hr

theorem HOk.deep (hm : P.follows .mixedOrders = true) (hng : noCount P = true) {q : FuncId → Bool} {X : CallH} (hX : HOk P X) (fuel : Nat) : ∀ n, HOk P (deep P q X fuel n)
  | 0 => hX
  | n + 1 => by
    have ih := HOk.deep hm hng (q := q) hX fuel n
    have both : ∀ {f : FuncId} {as : List AV} {m : Mem} {ob : List Bool} {v : AV} {m' : Mem}, Go.Ev.deep P q X fuel (n + 1) f as m = some (ob, (v, m')) → Paid ob →
        m.length ≤ m'.length ∧ ∀ {w0 : World} {S : Nat → Prop} {ρ : Nat → Loc3} {w : World} {vs : List Value}, Reps ρ (upto m.length) as vs → Inv w0 S (upto m.length) ρ (getName m) w →
        CallRun P f vs.toArray w (fun u w' => ∃ ρ', Rep ρ' (upto m'.length) v u ∧ Inv w0 S (upto m'.length) ρ' (getName m') w' ∧ Agr ρ ρ' (upto m.length)) := by
      intro f as m ob v m' h ho
      simp only [Go.Ev.deep] at h
      split at h
      · rename_i r hr
        cases h
        exact ⟨hX.le hr ho, fun ha hi => hX.run hr ho ha hi⟩
      · have hl : (roAll m).length = m.length := by simp [roAll]
        split at h
        · unfold quietA at h
          split at h
          · rename_i o1 x hmix
            cases h
            refine ⟨Nat.le_refl _, fun {w0 S ρ w vs} ha hi => ?_⟩
            have hsat := mix_sound hmix ho
            obtain ⟨hf, hc⟩ := funcA_sound hm ih hsat (w0 := w) (S := fun _ => False) (by rw [hl]; exact ha) (ro_start hi)
            refine callRun_of hng hf (hc.mono fun e w' ⟨u, h1, x', m1, ρ', k1, k2, k3, k4, k5⟩ => ⟨u, h1, ρ, k1 k2, hi.quiet k3, fun _ _ => rfl⟩)
          · split at h
            · rename_i o1 x m1 hflat
              cases h
              have hsat := flat_sound hflat ho
              refine ⟨by simp, fun {w0 S ρ w vs} ha hi => ?_⟩
              obtain ⟨hf, hc⟩ := funcA_sound hm ih hsat (w0 := w) (S := fun _ => False) (by rw [hl]; exact ha) (ro_start hi)
              refine callRun_of hng hf (hc.mono fun e w' ⟨u, h1, x', m2, ρ', k1, k2, k3, k4, k5⟩ => ⟨u, h1, ρ', ?_⟩)
              cases k1
              rw [hl] at k4 k5
              have hlen : (m ++ onlyRw (m1.drop m.length)).length = m1.length := by simp [onlyRw]; omega
              rw [hlen]
              refine ⟨k2, hi.join k3 (fun _ h => h.elim) (fun i hi => by simp [upto] at *; omega) (fun _ h => h) k4 (fun _ _ => rfl) fun k b hk => ?_, k4⟩
              rw [getName_app] at hk
              split at hk
              · exact Or.inl ⟨hk, fun h => h⟩
              · right
                obtain ⟨g1, g2⟩ := getName_onlyRw hk
                rw [getName_drop, show m.length + (k - m.length) = k by omega] at g1
                exact ⟨g1, g2⟩
            · cases h
        · split at h
          case h_2 => cases h
          rename_i o1 x m1 hflat
          split at h
          case h_2 => cases h
          rename_i hle
          cases h
          have hsat := flat_sound hflat ho
          refine ⟨by simpa using hle, fun {w0 S ρ w vs} ha hi => ?_⟩
          obtain ⟨hf, hc⟩ := funcA_sound hm ih hsat (w0 := w0) (S := S) ha hi
          refine callRun_of hng hf (hc.mono fun e w' ⟨u, h1, x', m2, ρ', k1, k2, k3, k4, k5⟩ => ⟨u, h1, ρ', ?_⟩)
          cases k1
          exact ⟨k2, k3, k4⟩
    exact ⟨@fun f as m ob v m' h ho => (both h ho).1, @fun f as m ob v m' h ho w0 S ρ w vs ha hi => (both h ho).2 ha hi⟩
end
end Go.Ev
