/- Loops by their contracts: a block's loop is handed to a handler, which says what state it ends in. Own work. -/
import Derived.Test.YtjhjhhibfojpiaaTEvView
set_option linter.unusedSimpArgs false
set_option linter.unusedVariables false
set_option linter.unusedSectionVars false
namespace Go.Ev
set_option linter.unusedSectionVars false
variable [Tab]

/-- A handler of blocks with loops: what is owed, and the state behind the block. -/
abbrev LoopH := Nat → St → Option (List Bool × St)

section
variable (P : Program) (q : FuncId → Bool) (H : CallH) (Λ : LoopH)

def codeL : Nat → Code → St → Tree (Ex × St)
  | 0, _, _ => .fail
  | n + 1, c, st =>
    match c with
    | .skip | .label _ => .leaf (.normal, st)
    | .exit id => .leaf (.exit id, st)
    | .ret => .leaf (.ret, st)
    | .seq a b => (codeL n a st).bind fun (e, st') => match e with | .normal => codeL n b st' | e => .leaf (e, st')
    | .cond c a b =>
      match st.ev c with
      | .bool false t => (match t with | true => codeL n a st | false => codeL n b st)
      | .bool true t => .ite t (codeL n a st) (codeL n b st)
      | _ => .fail
    | .block id c => match Λ id st with
      | some (o, st') => Tree.needs o (.leaf (.normal, st'))
      | none => (codeL n c st).bind fun (e, st') => match e with | .exit i => (if i = id then .leaf (.normal, st') else .leaf (.exit i, st')) | e => .leaf (e, st')
    | .loop c => (codeL n c st).bind fun (e, st') => match e with | .normal => codeL n (.loop c) st' | e => .leaf (e, st')
    | .region _ ops draw => Tree.ofE (E.bind (regionA P q H ops draw st) fun st' => E.pure (.normal, st'))
    | _ => .fail

def funcL (n : Nat) (f : FuncId) (args : List AV) (m : Mem) : Tree (AV × Mem) :=
  match P.funcs[f]? with
  | some fn => match fn.body with
    | some c => (codeL P q H Λ n c ⟨args ++ List.replicate (fn.ntmps - args.length) .top, m⟩).bind fun (e, st) =>
        match e with
        | .exit _ => .fail
        | _ => Tree.ofE (E.bind (resA P st fn.results.toList) fun l => E.pure (one l, st.mem))
    | none => .fail
  | none => .fail
end

/-- The parts of a code. -/
def subs : Code → List Code
  | .seq a b => .seq a b :: (subs a ++ subs b)
  | .cond c a b => .cond c a b :: (subs a ++ subs b)
  | .block id c => .block id c :: subs c
  | .loop c => .loop c :: subs c
  | c => [c]
/-- What stands in the blocks of this name. -/
def blks (id : Nat) : Code → List Code
  | .seq a b => blks id a ++ blks id b
  | .cond _ a b => blks id a ++ blks id b
  | .block i c => match Nat.beq i id with | true => c :: blks id c | false => blks id c
  | .loop c => blks id c
  | _ => []
def blk (id : Nat) (c : Code) : Code := match blks id c with | x :: _ => x | [] => .skip
def one1 {α : Type} : List α → Bool | [_] => true | _ => false

theorem subs_self : ∀ c : Code, c ∈ subs c := by intro c; cases c <;> simp [subs]
theorem mem_blks {id : Nat} {c : Code} : ∀ {b : Code}, Code.block id c ∈ subs b → c ∈ blks id b := by
  intro b
  induction b with
  | seq x y hx hy =>
    intro h
    simp only [subs, List.mem_cons, List.mem_append] at h
    rcases h with h | h | h
    · cases h
    · exact List.mem_append.2 (Or.inl (hx h))
    · exact List.mem_append.2 (Or.inr (hy h))
  | cond v x y hx hy =>
    intro h
    simp only [subs, List.mem_cons, List.mem_append] at h
    rcases h with h | h | h
    · cases h
    · exact List.mem_append.2 (Or.inl (hx h))
    · exact List.mem_append.2 (Or.inr (hy h))
  | block i x hx =>
    intro h
    simp only [subs, List.mem_cons] at h
    rcases h with h | h
    · cases h
      have : Nat.beq id id = true := Nat.beq_refl id
      simp [blks]
    · unfold blks
      split
      · exact List.mem_cons_of_mem _ (hx h)
      · exact hx h
  | loop x hx =>
    intro h
    simp only [subs, List.mem_cons] at h
    rcases h with h | h
    · cases h
    · exact hx h
  | _ => intro h; simp [subs] at h
theorem blk_of {id : Nat} {c b : Code} (h : Code.block id c ∈ subs b) (h1 : one1 (blks id b) = true) : c = blk id b := by
  have := mem_blks h
  unfold one1 at h1
  unfold blk
  split at h1
  · rename_i x hx
    rw [hx] at this ⊢
    simpa using this
  · cases h1

theorem subs_trans {y : Code} : ∀ {B : Code}, y ∈ subs B → ∀ x ∈ subs y, x ∈ subs B := by
  intro B
  induction B with
  | seq a b ha hb =>
    intro h x hx
    simp only [subs, List.mem_cons, List.mem_append] at h
    rcases h with rfl | h | h
    · exact hx
    · simp only [subs, List.mem_cons, List.mem_append]; exact Or.inr (Or.inl (ha h x hx))
    · simp only [subs, List.mem_cons, List.mem_append]; exact Or.inr (Or.inr (hb h x hx))
  | cond v a b ha hb =>
    intro h x hx
    simp only [subs, List.mem_cons, List.mem_append] at h
    rcases h with rfl | h | h
    · exact hx
    · simp only [subs, List.mem_cons, List.mem_append]; exact Or.inr (Or.inl (ha h x hx))
    · simp only [subs, List.mem_cons, List.mem_append]; exact Or.inr (Or.inr (hb h x hx))
  | block i a ha =>
    intro h x hx
    simp only [subs, List.mem_cons] at h
    rcases h with rfl | h
    · exact hx
    · simp only [subs, List.mem_cons]; exact Or.inr (ha h x hx)
  | loop a ha =>
    intro h x hx
    simp only [subs, List.mem_cons] at h
    rcases h with rfl | h
    · exact hx
    · simp only [subs, List.mem_cons]; exact Or.inr (ha h x hx)
  | _ => intro h x hx; simp [subs] at h; subst h; simpa [subs] using hx
def lp : Code → Code
  | .loop c => c
  | _ => .skip
def bodyOf (P : Program) (f : FuncId) : Code := match P.funcs[f]? with
  | some fn => match fn.body with | some c => c | none => .skip
  | none => .skip
theorem bodyOf_eq {P : Program} {f : FuncId} {fn : Func} {c : Code} (h : P.funcs[f]? = some fn) (h2 : fn.body = some c) : c = bodyOf P f := by
  unfold bodyOf; rw [h]; simp [h2]
def isLoop : Code → Bool | .loop _ => true | _ => false
theorem lp_of {c : Code} (h : isLoop c = true) : c = .loop (lp c) := by
  cases c <;> simp_all [isLoop, lp]

/-- What holds of a code, from a state on. -/
def Ok (P : Program) (c : Code) (st : St) (K : Ex × St → Prop) : Prop :=
  ∀ (w0 : World) (S : Nat → Prop) (ρ0 : Nat → Loc3) (n0 : Nat) (ds : List Deferred) (a : Act) (w : World), SInv w0 S ρ0 n0 ds st a w → c.wp P (Post w0 S ρ0 n0 ds K) a w

structure LOk (P : Program) (B : Code) (Λ : LoopH) : Prop where
  ok : ∀ {id : Nat} {c : Code} {st st' : St} {o : List Bool}, Code.block id c ∈ subs B → Λ id st = some (o, st') → Paid o → Ok P (.block id c) st (fun p => p = (.normal, st'))

section
variable {P : Program} {q : FuncId → Bool} {H : CallH} {Λ : LoopH}

theorem Ok.mono {c : Code} {st : St} {K K' : Ex × St → Prop} (h : Ok P c st K) (hk : ∀ p, K p → K' p) : Ok P c st K' := fun w0 S ρ0 n0 ds a w hs =>
  wp_mono (h w0 S ρ0 n0 ds a w hs) fun e a' w' he => by
    cases e with
    | normal => obtain ⟨st', h1, h2⟩ := he; exact ⟨st', hk _ h1, h2⟩
    | exit id => obtain ⟨st', h1, h2⟩ := he; exact ⟨st', hk _ h1, h2⟩
    | ret => obtain ⟨st', h1, h2⟩ := he; exact ⟨st', hk _ h1, h2⟩
    | goto l => exact he
    | panic ch => exact he
    | outgrown => exact he

theorem codeL_sound (hm : P.follows .mixedOrders = true) (hH : HOk P H) {B : Code} (hΛ : LOk P B Λ) : ∀ (n : Nat),
    (∀ {c : Code} {st : St} {K : Ex × St → Prop}, (∀ x ∈ subs c, x ∈ subs B) → (codeL P q H Λ n c st).Sat K → Ok P c st K) ∧
    (∀ {c : Code} {st : St} {K : Ex × St → Prop}, (∀ x ∈ subs c, x ∈ subs B) → (codeL P q H Λ n (.loop c) st).Sat K → ∀ (w0 : World) (S : Nat → Prop) (ρ0 : Nat → Loc3) (n0 : Nat) (ds : List Deferred) (a : Act) (w : World), SInv w0 S ρ0 n0 ds st a w →
      Code.rounds P c (Post w0 S ρ0 n0 ds K) n a w) := by
  intro n
  induction n with
  | zero => exact ⟨fun _ h => h.elim, fun _ h => h.elim⟩
  | succ n ih =>
    obtain ⟨ihA, ihB⟩ := ih
    have Bl : ∀ {c : Code} {st : St} {K : Ex × St → Prop}, (∀ x ∈ subs c, x ∈ subs B) → (codeL P q H Λ (n + 1) (.loop c) st).Sat K → ∀ (w0 : World) (S : Nat → Prop) (ρ0 : Nat → Loc3) (n0 : Nat) (ds : List Deferred) (a : Act) (w : World), SInv w0 S ρ0 n0 ds st a w →
        Code.rounds P c (Post w0 S ρ0 n0 ds K) (n + 1) a w := by
      intro c st K hc h w0 S ρ0 n0 ds a w hs
      rw [rounds_succ]
      refine wp_mono (ihA hc (sat_bind h) w0 S ρ0 n0 ds a w hs) fun e a' w' he => ?_
      cases e with
      | normal => obtain ⟨st', h1, h2⟩ := he; exact ihB hc h1 w0 S ρ0 n0 ds a' w' h2
      | exit id => obtain ⟨st', h1, h2⟩ := he; exact ⟨st', h1, h2⟩
      | ret => obtain ⟨st', h1, h2⟩ := he; exact ⟨st', h1, h2⟩
      | goto l => exact he
      | panic ch => exact he
      | outgrown => exact he
    refine ⟨?_, Bl⟩
    intro c st K hc h w0 S ρ0 n0 ds a w hs
    cases c with
    | skip => exact wp_skip ⟨st, h, hs⟩
    | label l => exact wp_label ⟨st, h, hs⟩
    | exit id => exact wp_exit ⟨st, h, hs⟩
    | ret => exact wp_ret ⟨st, h, hs⟩
    | seq x y =>
      have hx : ∀ z ∈ subs x, z ∈ subs B := fun z hz => hc z (by simp [subs, hz])
      have hy : ∀ z ∈ subs y, z ∈ subs B := fun z hz => hc z (by simp [subs, hz])
      refine wp_seq (wp_mono (ihA hx (sat_bind h) w0 S ρ0 n0 ds a w hs) fun e a' w' he => ?_)
      cases e with
      | normal => obtain ⟨st', h1, h2⟩ := he; exact ihA hy h1 w0 S ρ0 n0 ds a' w' h2
      | exit id => obtain ⟨st', h1, h2⟩ := he; exact ⟨st', h1, h2⟩
      | ret => obtain ⟨st', h1, h2⟩ := he; exact ⟨st', h1, h2⟩
      | goto l => exact he
      | panic ch => exact he
      | outgrown => exact he
    | cond x y z =>
      have hy : ∀ u ∈ subs y, u ∈ subs B := fun u hu => hc u (by simp [subs, hu])
      have hz : ∀ u ∈ subs z, u ∈ subs B := fun u hu => hc u (by simp [subs, hu])
      have hs0 := hs
      obtain ⟨⟨ρ, hr, hi, hag⟩, hle, hds⟩ := hs
      have hx := st_ev hr x
      simp only [codeL] at h
      split at h
      · rename_i t hev
        rw [hev] at hx
        have hv : a.eval x = .bool t := by
          generalize a.eval x = v at hx
          cases hx; rfl
        cases t with
        | true => exact wp_cond_true hv (ihA hy h w0 S ρ0 n0 ds a w hs0)
        | false => exact wp_cond_false hv (ihA hz h w0 S ρ0 n0 ds a w hs0)
      · rename_i t hev
        rw [hev] at hx
        have hv : a.eval x = .bool t := by
          generalize a.eval x = v at hx
          cases hx; rfl
        exact wp_cond_split hv (fun ht => ihA hy (h.1 ht) w0 S ρ0 n0 ds a w hs0) fun ht => ihA hz (h.2 ht) w0 S ρ0 n0 ds a w hs0
      · exact h.elim
    | block id x =>
      have hx : ∀ z ∈ subs x, z ∈ subs B := fun z hz => hc z (by simp [subs, hz])
      simp only [codeL] at h
      split at h
      · rename_i o st' hl
        obtain ⟨h1, h2⟩ := sat_needs h
        exact (hΛ.ok (hc _ (subs_self _)) hl h1).mono (fun p hp => by rw [hp]; exact h2) w0 S ρ0 n0 ds a w hs
      · refine wp_block (wp_mono (ihA hx (sat_bind h) w0 S ρ0 n0 ds a w hs) fun e a' w' he => ?_)
        cases e with
        | normal => obtain ⟨st', h1, h2⟩ := he; exact ⟨st', h1, h2⟩
        | exit i =>
          obtain ⟨st', h1, h2⟩ := he
          simp only [Exit.inBlock]
          by_cases hid : i = id
          · simp only [hid, if_true] at h1 ⊢; exact ⟨st', h1, h2⟩
          · simp only [hid, if_false] at h1 ⊢; exact ⟨st', h1, h2⟩
        | ret => obtain ⟨st', h1, h2⟩ := he; exact ⟨st', h1, h2⟩
        | goto l => exact he
        | panic ch => exact he
        | outgrown => exact he
    | loop x =>
      have hx : ∀ z ∈ subs x, z ∈ subs B := fun z hz => hc z (by simp [subs, hz])
      exact wp_loop_rounds (n + 1) (Bl hx h w0 S ρ0 n0 ds a w hs)
    | region id ops draw =>
      obtain ⟨o, ⟨e, st'⟩, h1, h2, h3⟩ := sat_ofE h
      obtain ⟨o1, st1, o2, g1, g2, rfl⟩ := bind_some h1
      obtain ⟨_, he⟩ := pure_some g2
      cases he
      exact region_sound hm hH g1 (paid_append.1 h2).1 hs fun a' w' hs' => ⟨_, h3, hs'⟩
    | rangeFunc _ _ _ _ => exact h.elim
    | scope _ => exact h.elim
    | goto _ => exact h.elim
    | refuse _ => exact h.elim

theorem LOk.none {B : Code} : LOk P B (fun _ _ => Option.none) := ⟨fun _ h => by cases h⟩

/-- A state that says less. -/
structure Wk (st st' : St) : Prop where
  mem : st'.mem = st.mem
  len : st'.tm.length = st.tm.length
  tm : ∀ t {ρ : Nat → Loc3} {N : Nat → Prop} {v : Value}, Rep ρ N (st.tm.getD t .top) v → Rep ρ N (st'.tm.getD t .top) v
theorem Wk.inv {st st' : St} (h : Wk st st') {w0 : World} {S : Nat → Prop} {ρ0 : Nat → Loc3} {n0 : Nat} {ds : List Deferred} {a : Act} {w : World} (hs : SInv w0 S ρ0 n0 ds st a w) : SInv w0 S ρ0 n0 ds st' a w := by
  obtain ⟨⟨ρ, h1, h2, h3⟩, h4, h5⟩ := hs
  exact ⟨⟨ρ, ⟨fun t => by rw [h.mem]; exact h.tm t (h1.rep t), by rw [h.len]; exact h1.le⟩, by rw [h.mem]; exact h2, h3⟩, by rw [h.mem]; exact h4, h5⟩
/-- A block's loop: it leaves by the block's name, in a state that says no less. -/
theorem Ok.leave {id : Nat} {c : Code} {st st' : St} (h : Ok P c st (fun p => ∃ st1, p = (.exit id, st1) ∧ Wk st1 st')) : Ok P (.block id c) st (fun p => p = (.normal, st')) := fun w0 S ρ0 n0 ds a w hs =>
  wp_block (wp_mono (h w0 S ρ0 n0 ds a w hs) fun e a' w' he => by
    cases e with
    | normal => obtain ⟨st1, ⟨st2, h1, h2⟩, h3⟩ := he; cases h1
    | exit i =>
      obtain ⟨st1, ⟨st2, h1, h2⟩, h3⟩ := he
      cases h1
      simp only [Exit.inBlock]
      exact ⟨st', rfl, h2.inv h3⟩
    | ret => obtain ⟨st1, ⟨st2, h1, h2⟩, h3⟩ := he; cases h1
    | goto l => exact he
    | panic ch => exact he
    | outgrown => exact he)

/-- Slots: a list, slot by slot. -/
def tmOf (x : Nat → AV) (n : Nat) : List AV := (List.range n).map x
theorem tmOf_len {x : Nat → AV} {n : Nat} : (tmOf x n).length = n := by simp [tmOf]
theorem tmOf_get {x : Nat → AV} {n t : Nat} (h : t < n) : (tmOf x n).getD t .top = x t := by simp [tmOf, List.getD, h]
theorem tmOf_out {x : Nat → AV} {n t : Nat} (h : ¬ t < n) : (tmOf x n).getD t .top = .top := by
  unfold tmOf
  rw [List.getD, List.getElem?_eq_none (by simp; omega)]; rfl
/-- Slots with some of them given. -/
def ups (x : Nat → AV) : List (Nat × AV) → Nat → AV
  | [], t => x t
  | (i, a) :: r, t => match Nat.beq t i with | true => a | false => ups x r t
/-- Only the slots ts. -/
def only (ts : List Nat) (x : Nat → AV) (t : Nat) : AV := match ts.any (Nat.beq t) with | true => x t | false => .top

theorem ups_rep {x : Nat → AV} {ρ : Nat → Loc3} {N : Nat → Prop} {v : Value} {t : Nat} : ∀ {l : List (Nat × AV)}, (∀ p ∈ l, ∀ {v : Value}, Rep ρ N (x p.1) v → Rep ρ N p.2 v) → Rep ρ N (x t) v → Rep ρ N (ups x l t) v
  | [], _, h => h
  | (i, a) :: r, hl, h => by
    unfold ups
    cases hb : Nat.beq t i with
    | true =>
      have := Nat.eq_of_beq_eq_true hb
      subst this
      exact hl _ (List.mem_cons_self ..) h
    | false => exact ups_rep (fun p hp => hl p (List.mem_cons_of_mem _ hp)) h
theorem ups_top {y : Nat → AV} {ρ : Nat → Loc3} {N : Nat → Prop} {v : Value} {t : Nat} : ∀ {l : List (Nat × AV)}, (∀ p ∈ l, y p.1 = p.2) → Rep ρ N (y t) v → Rep ρ N (ups (fun _ => .top) l t) v
  | [], _, _ => .top _
  | (i, a) :: r, hl, h => by
    unfold ups
    cases hb : Nat.beq t i with
    | true =>
      have := Nat.eq_of_beq_eq_true hb
      subst this
      rw [hl _ (List.mem_cons_self ..)] at h
      exact h
    | false => exact ups_top (fun p hp => hl p (List.mem_cons_of_mem _ hp)) h
/-- At a loop's head: some slots are given, of numbers the marks are set. -/
theorem Wk.head {st : St} {n : Nat} (hl : st.tm.length = n) {u : List (Nat × AV)} {m : Mem} (hm : m = st.mem) (h : ∀ p ∈ u, ∀ {ρ : Nat → Loc3} {N : Nat → Prop} {v : Value}, Rep ρ N (st.tm.getD p.1 .top) v → Rep ρ N p.2 v) :
    Wk st ⟨tmOf (ups (fun t => st.tm.getD t .top) u) n, m⟩ := by
  refine ⟨hm, by rw [hl]; exact tmOf_len, fun t ρ N v hr => ?_⟩
  by_cases ht : t < n
  · rw [tmOf_get ht]
    exact ups_rep (fun p hp => h p hp) hr
  · rw [tmOf_out ht]; exact .top _
/-- Behind a loop: some slots, no others. -/
theorem Wk.tail {y : Nat → AV} {n : Nat} {u : List (Nat × AV)} {m m' : Mem} (hm : m' = m) (h : ∀ p ∈ u, y p.1 = p.2) : Wk ⟨tmOf y n, m⟩ ⟨tmOf (ups (fun _ => .top) u) n, m'⟩ := by
  refine ⟨hm, by simp only [tmOf_len], fun t ρ N v hr => ?_⟩
  by_cases ht : t < n
  · simp only [tmOf_get ht] at hr ⊢
    exact ups_top h hr
  · simp only [tmOf_out ht]; exact .top _
theorem funcL_sound (hm : P.follows .mixedOrders = true) (hH : HOk P H) {n : Nat} {f : FuncId} (hΛ : ∀ fn c, P.funcs[f]? = some fn → fn.body = some c → LOk P c Λ) {args : List AV} {m : Mem} {K : AV × Mem → Prop} (h : (funcL P q H Λ n f args m).Sat K)
    {w0 : World} {S : Nat → Prop} {ρ : Nat → Loc3} {w : World} {vs : List Value} (ha : Reps ρ (upto m.length) args vs) (hi : Inv w0 S (upto m.length) ρ (getName m) w) :
    (∃ fn c, P.funcs[f]? = some fn ∧ fn.body = some c) ∧ Calls P f vs.toArray w (fun e w' => ∃ u, e = .returned u ∧ Left1 w0 S ρ m K u w') := by
  unfold funcL at h
  split at h
  · rename_i fn hfn
    split at h
    · rename_i c hc
      refine ⟨⟨fn, c, hfn, hc⟩, calls_of_wp hfn hc ?_⟩
      have hsr := start_rep ha fn.ntmps
      refine wp_mono ((codeL_sound hm hH (hΛ fn c hfn hc) n).1 (fun _ h => h) (sat_bind h) w0 S ρ m.length [] _ _ ⟨⟨ρ, hsr, hi, fun _ _ => rfl⟩, Nat.le_refl _, rfl⟩) fun e a w' he => ?_
      have fin : ∀ st, (Tree.ofE (E.bind (resA P st fn.results.toList) fun l => E.pure (one l, st.mem))).Sat K → SInv w0 S ρ m.length [] st a w' →
          a.defers = [] ∧ ∃ v, (results fn a.tmps).run P w' = .ok v w' ∧ ∃ u, Ending.returned v = .returned u ∧ Left1 w0 S ρ m K u w' := by
        intro st hk ⟨⟨ρ', r1, r2, r3⟩, r4, r5⟩
        obtain ⟨o, ⟨v1, m1⟩, k1, k2, k3⟩ := sat_ofE hk
        obtain ⟨o1, l1, o2, g1, g2, rfl⟩ := bind_some k1
        obtain ⟨_, he⟩ := pure_some g2
        cases he
        obtain ⟨us, q1, q2⟩ := resA_sound (P := P) r1 r2.sim g1 (paid_append.1 k2).1
        refine ⟨r5, _, ?_, _, rfl, ⟨_, _, ρ', k3, one_rep q2, r2, r3, r4⟩⟩
        unfold results
        rw [Sem.run_bind, Array.mapM_eq_mapM_toList, Sem.run_map]
        have q1' : (fn.results.toList.mapM (fun x : ResultVar => match x with | .tmp t => (pure (a.tmps.getD t undef) : Sem Value) | .cell p t => do loadVar t (← asAddr (a.tmps.getD p undef)))).run P w' = .ok us w' := q1
        refine (congrArg (fun r : Result (List Value) => (r.andThen fun a w' => Result.ok a.toArray w').andThen _) q1').trans ?_
        rfl
      cases e with
      | normal => obtain ⟨st, k1, k2⟩ := he; exact fin st k1 k2
      | ret => obtain ⟨st, k1, k2⟩ := he; exact fin st k1 k2
      | exit id => obtain ⟨st, k1, k2⟩ := he; exact k1.elim
      | goto l => exact he.elim
      | panic ch => exact he.elim
      | outgrown => exact he.elim
    · exact h.elim
  · exact h.elim

end
end Go.Ev
