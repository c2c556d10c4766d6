/- Loops that may return: a handler of blocks says how the block ends, too. Own work. -/
import Derived.Test.YtjhjhhibfojpiaaTEvRenx
import Derived.Test.YtjhjhhibfojpiaaTEvOne
import Derived.Test.YtjhjhhibfojpiaaTEvPut
set_option linter.unusedSimpArgs false
set_option linter.unusedVariables false
set_option linter.unusedSectionVars false
namespace Go.Ev
set_option linter.unusedSectionVars false
open Go.ChangeShapes Go.WideShapes Go.ChangeAt Go.RowKit
variable [Tab]
/-- A handler of blocks with loops: what is owed, how the block ends, and the state behind it. -/
abbrev LoopX := Nat → St → Option (List Bool × Ex × St)
section
variable (P : Program) (q : FuncId → Bool) (H : CallH) (Λ : LoopX)
def codeX : Nat → Code → St → Tree (Ex × St)
  | 0, _, _ => .fail
  | n + 1, c, st =>
    match c with
    | .skip | .label _ => .leaf (.normal, st)
    | .exit id => .leaf (.exit id, st)
    | .ret => .leaf (.ret, st)
    | .seq a b => (codeX n a st).bind fun (e, st') => match e with | .normal => codeX n b st' | e => .leaf (e, st')
    | .cond c a b =>
      match st.ev c with
      | .bool false t => (match t with | true => codeX n a st | false => codeX n b st)
      | .bool true t => .ite t (codeX n a st) (codeX n b st)
      | _ => .fail
    | .block id c => match Λ id st with
      | some (o, (e, st')) => Tree.needs o (.leaf (e, st'))
      | none => (codeX n c st).bind fun (e, st') => match e with | .exit i => (if i = id then .leaf (.normal, st') else .leaf (.exit i, st')) | e => .leaf (e, st')
    | .loop c => (codeX n c st).bind fun (e, st') => match e with | .normal => codeX n (.loop c) st' | e => .leaf (e, st')
    | .region _ ops draw => Tree.ofE (E.bind (regionA P q H ops draw st) fun st' => E.pure (.normal, st'))
    | _ => .fail

def funcX (n : Nat) (f : FuncId) (args : List AV) (m : Mem) : Tree (AV × Mem) :=
  match P.funcs[f]? with
  | some fn => match fn.body with
    | some c => (codeX P q H Λ n c ⟨args ++ List.replicate (fn.ntmps - args.length) .top, m⟩).bind fun (e, st) =>
        match e with
        | .exit _ => .fail
        | _ => Tree.ofE (E.bind (resA P st fn.results.toList) fun l => E.pure (one l, st.mem))
    | none => .fail
  | none => .fail
end
structure LOkX (k0 : Nat) (P : Program) (B : Code) (Λ : LoopX) : Prop where
  ok : ∀ {id : Nat} {c : Code} {st st' : St} {e : Ex} {o : List Bool}, Code.block id c ∈ subs B → Λ id st = some (o, (e, st')) → Paid o → OkN k0 P (.block id c) st (fun p => p = (e, st'))
section
variable {P : Program} {q : FuncId → Bool} {H : CallH} {Λ : LoopX} {k0 : Nat}
theorem LOkX.none {B : Code} : LOkX k0 P B (fun _ _ => Option.none) := ⟨fun _ h => by cases h⟩
theorem codeX_sound (hm : P.follows .mixedOrders = true) (hH : HOk P H) {B : Code} (hΛ : LOkX k0 P B Λ) : ∀ (n : Nat),
    (∀ {c : Code} {st : St} {K : Ex × St → Prop}, (∀ x ∈ subs c, x ∈ subs B) → (codeX P q H Λ n c st).Sat K → OkN k0 P c st K) ∧
    (∀ {c : Code} {st : St} {K : Ex × St → Prop}, (∀ x ∈ subs c, x ∈ subs B) → (codeX P q H Λ n (.loop c) st).Sat K → ∀ (w0 : World) (S : Nat → Prop) (ρ0 : Nat → Loc3) (n0 : Nat) (ds : List Deferred) (a : Act) (w : World), n0 ≤ k0 → SInv w0 S ρ0 n0 ds st a w →
      Code.rounds P c (Post w0 S ρ0 n0 ds K) n a w) := by
  intro n
  induction n with
  | zero => exact ⟨fun _ h => h.elim, fun _ h => h.elim⟩
  | succ n ih =>
    obtain ⟨ihA, ihB⟩ := ih
    have Bl : ∀ {c : Code} {st : St} {K : Ex × St → Prop}, (∀ x ∈ subs c, x ∈ subs B) → (codeX P q H Λ (n + 1) (.loop c) st).Sat K → ∀ (w0 : World) (S : Nat → Prop) (ρ0 : Nat → Loc3) (n0 : Nat) (ds : List Deferred) (a : Act) (w : World), n0 ≤ k0 → SInv w0 S ρ0 n0 ds st a w →
        Code.rounds P c (Post w0 S ρ0 n0 ds K) (n + 1) a w := by
      intro c st K hc h w0 S ρ0 n0 ds a w h0 hs
      rw [rounds_succ]
      refine wp_mono (ihA hc (sat_bind h) w0 S ρ0 n0 ds a w h0 hs) fun e a' w' he => ?_
      cases e with
      | normal => obtain ⟨st', h1, h2⟩ := he; exact ihB hc h1 w0 S ρ0 n0 ds a' w' h0 h2
      | exit id => obtain ⟨st', h1, h2⟩ := he; exact ⟨st', h1, h2⟩
      | ret => obtain ⟨st', h1, h2⟩ := he; exact ⟨st', h1, h2⟩
      | goto l => exact he
      | panic ch => exact he
      | outgrown => exact he
    refine ⟨?_, Bl⟩
    intro c st K hc h w0 S ρ0 n0 ds a w h0 hs
    cases c with
    | skip => exact wp_skip ⟨st, h, hs⟩
    | label l => exact wp_label ⟨st, h, hs⟩
    | exit id => exact wp_exit ⟨st, h, hs⟩
    | ret => exact wp_ret ⟨st, h, hs⟩
    | seq x y =>
      have hx : ∀ z ∈ subs x, z ∈ subs B := fun z hz => hc z (by simp [subs, hz])
      have hy : ∀ z ∈ subs y, z ∈ subs B := fun z hz => hc z (by simp [subs, hz])
      refine wp_seq (wp_mono (ihA hx (sat_bind h) w0 S ρ0 n0 ds a w h0 hs) fun e a' w' he => ?_)
      cases e with
      | normal => obtain ⟨st', h1, h2⟩ := he; exact ihA hy h1 w0 S ρ0 n0 ds a' w' h0 h2
      | exit id => obtain ⟨st', h1, h2⟩ := he; exact ⟨st', h1, h2⟩
      | ret => obtain ⟨st', h1, h2⟩ := he; exact ⟨st', h1, h2⟩
      | goto l => exact he
      | panic ch => exact he
      | outgrown => exact he
    | cond x y z =>
      have hy : ∀ u ∈ subs y, u ∈ subs B := fun u hu => hc u (by simp [subs, hu])
      have hz : ∀ u ∈ subs z, u ∈ subs B := fun u hu => hc u (by simp [subs, hu])
      have hs0 := hs
      obtain ⟨⟨ρ, hr, hi, hag⟩, hle, hds⟩ := hs
      have hx := st_ev hr x
      simp only [codeX] at h
      split at h
      · rename_i t hev
        rw [hev] at hx
        have hv : a.eval x = .bool t := by
          generalize a.eval x = v at hx
          cases hx; rfl
        cases t with
        | true => exact wp_cond_true hv (ihA hy h w0 S ρ0 n0 ds a w h0 hs0)
        | false => exact wp_cond_false hv (ihA hz h w0 S ρ0 n0 ds a w h0 hs0)
      · rename_i t hev
        rw [hev] at hx
        have hv : a.eval x = .bool t := by
          generalize a.eval x = v at hx
          cases hx; rfl
        exact wp_cond_split hv (fun ht => ihA hy (h.1 ht) w0 S ρ0 n0 ds a w h0 hs0) fun ht => ihA hz (h.2 ht) w0 S ρ0 n0 ds a w h0 hs0
      · exact h.elim
    | block id x =>
      have hx : ∀ z ∈ subs x, z ∈ subs B := fun z hz => hc z (by simp [subs, hz])
      simp only [codeX] at h
      split at h
      · rename_i o e st' hl
        obtain ⟨h1, h2⟩ := sat_needs h
        exact (hΛ.ok (hc _ (subs_self _)) hl h1).mono (fun p hp => by rw [hp]; exact h2) w0 S ρ0 n0 ds a w h0 hs
      · refine wp_block (wp_mono (ihA hx (sat_bind h) w0 S ρ0 n0 ds a w h0 hs) fun e a' w' he => ?_)
        cases e with
        | normal => obtain ⟨st', h1, h2⟩ := he; exact ⟨st', h1, h2⟩
        | exit i =>
          obtain ⟨st', h1, h2⟩ := he
          simp only [Exit.inBlock]
          by_cases hid : i = id
          · simp only [hid, if_true] at h1 ⊢; exact ⟨st', h1, h2⟩
          · simp only [hid, if_false] at h1 ⊢; exact ⟨st', h1, h2⟩
        | ret => obtain ⟨st', h1, h2⟩ := he; exact ⟨st', h1, h2⟩
        | goto l => exact he
        | panic ch => exact he
        | outgrown => exact he
    | loop x =>
      have hx : ∀ z ∈ subs x, z ∈ subs B := fun z hz => hc z (by simp [subs, hz])
      exact wp_loop_rounds (n + 1) (Bl hx h w0 S ρ0 n0 ds a w h0 hs)
    | region id ops draw =>
      obtain ⟨o, ⟨e, st'⟩, h1, h2, h3⟩ := sat_ofE h
      obtain ⟨o1, st1, o2, g1, g2, rfl⟩ := bind_some h1
      obtain ⟨_, he⟩ := pure_some g2
      cases he
      exact region_sound hm hH g1 (paid_append.1 h2).1 hs fun a' w' hs' => ⟨_, h3, hs'⟩
    | rangeFunc _ _ _ _ => exact h.elim
    | scope _ => exact h.elim
    | goto _ => exact h.elim
    | refuse _ => exact h.elim

theorem funcX_sound (hm : P.follows .mixedOrders = true) (hH : HOk P H) {n : Nat} {f : FuncId} (hΛ : ∀ fn c, P.funcs[f]? = some fn → fn.body = some c → LOkX k0 P c Λ) {args : List AV} {m : Mem} (h0 : m.length ≤ k0) {K : AV × Mem → Prop} (h : (funcX P q H Λ n f args m).Sat K)
    {w0 : World} {S : Nat → Prop} {ρ : Nat → Loc3} {w : World} {vs : List Value} (ha : Reps ρ (upto m.length) args vs) (hi : Inv w0 S (upto m.length) ρ (getName m) w) :
    (∃ fn c, P.funcs[f]? = some fn ∧ fn.body = some c) ∧ Calls P f vs.toArray w (fun e w' => ∃ u, e = .returned u ∧ Left1 w0 S ρ m K u w') := by
  unfold funcX at h
  split at h
  · rename_i fn hfn
    split at h
    · rename_i c hc
      refine ⟨⟨fn, c, hfn, hc⟩, calls_of_wp hfn hc ?_⟩
      have hsr := start_rep ha fn.ntmps
      refine wp_mono ((codeX_sound hm hH (hΛ fn c hfn hc) n).1 (fun _ h => h) (sat_bind h) w0 S ρ m.length [] _ _ h0 ⟨⟨ρ, hsr, hi, fun _ _ => rfl⟩, Nat.le_refl _, rfl⟩) fun e a w' he => ?_
      have fin : ∀ st, (Tree.ofE (E.bind (resA P st fn.results.toList) fun l => E.pure (one l, st.mem))).Sat K → SInv w0 S ρ m.length [] st a w' →
          a.defers = [] ∧ ∃ v, (results fn a.tmps).run P w' = .ok v w' ∧ ∃ u, Ending.returned v = .returned u ∧ Left1 w0 S ρ m K u w' := by
        intro st hk ⟨⟨ρ', r1, r2, r3⟩, r4, r5⟩
        obtain ⟨o, ⟨v1, m1⟩, k1, k2, k3⟩ := sat_ofE hk
        obtain ⟨o1, l1, o2, g1, g2, rfl⟩ := bind_some k1
        obtain ⟨_, he⟩ := pure_some g2
        cases he
        obtain ⟨us, q1, q2⟩ := resA_sound (P := P) r1 r2.sim g1 (paid_append.1 k2).1
        refine ⟨r5, _, ?_, _, rfl, ⟨_, _, ρ', k3, one_rep q2, r2, r3, r4⟩⟩
        unfold results
        rw [Sem.run_bind, Array.mapM_eq_mapM_toList, Sem.run_map]
        have q1' : (fn.results.toList.mapM (fun x : ResultVar => match x with | .tmp t => (pure (a.tmps.getD t undef) : Sem Value) | .cell p t => do loadVar t (← asAddr (a.tmps.getD p undef)))).run P w' = .ok us w' := q1
        refine (congrArg (fun r : Result (List Value) => (r.andThen fun a w' => Result.ok a.toArray w').andThen _) q1').trans ?_
        rfl
      cases e with
      | normal => obtain ⟨st, k1, k2⟩ := he; exact fin st k1 k2
      | ret => obtain ⟨st, k1, k2⟩ := he; exact fin st k1 k2
      | exit id => obtain ⟨st, k1, k2⟩ := he; exact k1.elim
      | goto l => exact he.elim
      | panic ch => exact he.elim
      | outgrown => exact he.elim
    · exact h.elim
  · exact h.elim

theorem viewX_of_go (hm : P.follows .mixedOrders = true) (hng : noCount P = true) (hH : HOk P H) {n : Nat} {g : FuncId} {xs : List V} (hΛ : ∀ fn c, P.funcs[g]? = some fn → fn.body = some c → LOkX xs.length P c Λ) {o : List Bool} {v v' : AV} {m' bs : Mem} (ds : List Bool)
    (h : ((funcX P q H Λ n g (cArgs 0 xs) (cMem xs)).go ds).flat = some (o, (v', m'))) (ho : Paid o) (hv : v' = upA xs.length v) (hb : m'.drop xs.length = bs.map (upB xs.length)) (hle : m'.length = xs.length + bs.length) : ViewCall P g xs v bs := by
  intro ρ vs w ha hi
  have hcm : (cMem xs).length = xs.length := by simp [cMem]
  have ha' : Reps ρ (upto (cMem xs).length) (cArgs 0 xs) vs := by rw [hcm]; exact ha
  have hi' : Inv w (fun _ => False) (upto (cMem xs).length) ρ (getName (cMem xs)) w := by rw [hcm]; exact hi
  obtain ⟨hf, hc⟩ := funcX_sound hm hH hΛ (Nat.le_of_eq hcm) (go_sound (flat_sound h ho)) ha' hi'
  refine callRun_of hng hf (hc.mono fun e w' ⟨u, h1, x', m2, ρ', k1, k2, k3, k4, k5⟩ => ⟨u, h1, ρ', ?_, ?_⟩)
  · cases k1
    rw [← hle, ← hv]; exact k2
  · cases k1
    have hlen : xs.length + bs.length = m'.length := hle.symm
    rw [hlen]
    have k4' : Agr ρ ρ' (upto xs.length) := by rw [hcm] at k4; exact k4
    refine hi.join (S1 := fun _ => False) k3 (fun _ h => h.elim) (fun i hi => by simp [upto] at *; omega) (fun _ h => h) k4' (fun _ _ => rfl) fun n b hn => ?_
    rw [getName_app] at hn
    split at hn
    · exact Or.inl ⟨hn, fun h => h⟩
    · rename_i hlt
      obtain ⟨g1, g2⟩ := getName_onlyRw hn
      rw [← hb, getName_drop, hcm, show xs.length + (n - xs.length) = n by rw [hcm] at hlt; omega] at g1
      exact Or.inr ⟨g1, g2⟩
/-- What a round has to show: on it goes, or out, or it returns (true). -/
def RoundX (P : Program) (q : FuncId → Bool) (H : CallH) (Λ0 : LoopX) (B : Code) (id nt n k0 : Nat) (ts : List Nat) {σ : Type} (vals : σ → List AV) (M : σ → Mem) (J : σ → Prop) (μ : σ → Nat) (fin : Bool × List (Nat × AV) × Mem) (s1 : σ) : Prop :=
  (∃ ds o avs m s2 g, seesL ts ((codeX P q H Λ0 n (lp (blk id B)) ⟨tmOf (ups (fun _ => .top) (zipU ts (vals s1))) nt, M s1⟩).go ds) = some (o, 0, avs, nt, m) ∧ Paid o ∧ Goes k0 g ts avs m (zipU ts (vals s2)) (M s2) ∧ J s2 ∧ μ s2 < μ s1) ∨
  (∃ ds o avs m g, seesL ts ((codeX P q H Λ0 n (lp (blk id B)) ⟨tmOf (ups (fun _ => .top) (zipU ts (vals s1))) nt, M s1⟩).go ds) = some (o, (match fin.1 with | true => 1 | false => id + 2), avs, nt, m) ∧ Paid o ∧ Goes k0 g ts avs m fin.2.1 fin.2.2)
theorem RoundX.on {Λ0 : LoopX} {B : Code} {id nt n : Nat} {ts : List Nat} {σ : Type} {vals : σ → List AV} {M : σ → Mem} {J : σ → Prop} {μ : σ → Nat} {fin : Bool × List (Nat × AV) × Mem} {s1 : σ} {ds o : List Bool} {avs : List AV} {m : Mem}
    (h : seesL ts ((codeX P q H Λ0 n (lp (blk id B)) ⟨tmOf (ups (fun _ => .top) (zipU ts (vals s1))) nt, M s1⟩).go ds) = some (o, 0, avs, nt, m)) (s2 : σ) (g : Nat → Nat) (ho : Paid o) (hg : Goes k0 g ts avs m (zipU ts (vals s2)) (M s2)) (hJ : J s2) (hμ : μ s2 < μ s1) :
    RoundX P q H Λ0 B id nt n k0 ts vals M J μ fin s1 := Or.inl ⟨ds, o, avs, m, s2, g, h, ho, hg, hJ, hμ⟩
theorem RoundX.out {Λ0 : LoopX} {B : Code} {id nt n : Nat} {ts : List Nat} {σ : Type} {vals : σ → List AV} {M : σ → Mem} {J : σ → Prop} {μ : σ → Nat} {fin : Bool × List (Nat × AV) × Mem} {s1 : σ} {ds o : List Bool} {avs : List AV} {m : Mem} {k : Nat}
    (h : seesL ts ((codeX P q H Λ0 n (lp (blk id B)) ⟨tmOf (ups (fun _ => .top) (zipU ts (vals s1))) nt, M s1⟩).go ds) = some (o, k, avs, nt, m)) (hk : k = (match fin.1 with | true => 1 | false => id + 2)) (g : Nat → Nat) (ho : Paid o) (hg : Goes k0 g ts avs m fin.2.1 fin.2.2) :
    RoundX P q H Λ0 B id nt n k0 ts vals M J μ fin s1 := Or.inr ⟨ds, o, avs, m, g, by rw [h, hk], ho, hg⟩
/-- A family's handler; 'true': the block ends by a return. -/
def famXH {σ : Type} (id nt : Nat) (ts : List Nat) (pat : List AV → Mem → Option σ) (owe : σ → List Bool) (fin : σ → Bool × List (Nat × AV) × Mem) (Λ : LoopX) : LoopX := fun i st =>
  match Nat.beq i id && Nat.beq st.tm.length nt with
  | true => match pat (ts.map fun t => st.tm.getD t .top) st.mem with
    | some s => some (owe s, ((match (fin s).1 with | true => .ret | false => .normal), ⟨tmOf (ups (fun _ => .top) (fin s).2.1) nt, (fin s).2.2⟩))
    | none => Λ i st
  | false => Λ i st
theorem famX_ok {σ : Type} {id nt n : Nat} {ts : List Nat} {B : Code} (vals : σ → List AV) (M : σ → Mem) (J : σ → σ → Prop) (μ : σ → Nat) {pat : List AV → Mem → Option σ} {owe : σ → List Bool} {fin : σ → Bool × List (Nat × AV) × Mem}
    (hm : P.follows .mixedOrders = true) (hΛ : LOkX k0 P B Λ) (h1 : one1 (blks id B) = true) (h2 : isLoop (blk id B) = true)
    (hpat : ∀ avs m s, pat avs m = some s → Paid (owe s) → ∃ s1 g, Goes k0 g ts avs m (zipU ts (vals s1)) (M s1) ∧ J s s1)
    (round : ∀ s s1, J s s1 → ∃ (q : FuncId → Bool) (H : CallH) (Λ0 : LoopX), HOk P H ∧ LOkX k0 P B Λ0 ∧ RoundX P q H Λ0 B id nt n k0 ts vals M (J s) μ (fin s) s1) :
    LOkX k0 P B (famXH id nt ts pat owe fin Λ) := by
  refine ⟨fun {id' c st st' e o} hc hl ho => ?_⟩
  unfold famXH at hl
  split at hl
  · rename_i hb
    simp only [Bool.and_eq_true] at hb
    have hid := Nat.eq_of_beq_eq_true hb.1
    have hlen := Nat.eq_of_beq_eq_true hb.2
    subst hid
    split at hl
    · rename_i s hs
      simp only [Option.some.injEq, Prod.mk.injEq] at hl
      obtain ⟨rfl, rfl, rfl⟩ := hl
      obtain ⟨s1, g1, p1, p4⟩ := hpat _ _ _ hs ho
      have e := blk_of hc h1
      rw [lp_of h2] at e
      have hc' : ∀ x ∈ subs (lp (blk id' B)), x ∈ subs B := fun x hx => by
        refine subs_trans hc x ?_
        rw [e]
        simp only [subs, List.mem_cons]
        exact Or.inr (Or.inr hx)
      rw [e]
      have key : ∀ (k : Nat) (s1 : σ), μ s1 < k → J s s1 →
          ∀ (w0 : World) (S : Nat → Prop) (ρ0 : Nat → Loc3) (n0 : Nat) (ds : List Deferred) (a : Act) (w : World), n0 ≤ k0 → SInv w0 S ρ0 n0 ds ⟨tmOf (ups (fun _ => .top) (zipU ts (vals s1))) nt, M s1⟩ a w →
          Code.rounds P (lp (blk id' B)) (Post w0 S ρ0 n0 ds (fun p => p = ((match (fin s).1 with | true => Ex.ret | false => Ex.exit id'), ⟨tmOf (ups (fun _ => .top) (fin s).2.1) nt, (fin s).2.2⟩))) k a w := by
        intro k
        induction k with
        | zero => intro s1 h; omega
        | succ k ih =>
          intro s1 hk hJ w0 S ρ0 n0 ds a w h0 hs1
          rw [rounds_succ]
          obtain ⟨q, H, Λ0, hH, hΛ0, hrd⟩ := round s s1 hJ
          have hsat : (codeX P q H Λ0 n (lp (blk id' B)) ⟨tmOf (ups (fun _ => .top) (zipU ts (vals s1))) nt, M s1⟩).Sat (fun p => match p.1 with
              | .normal => ∃ s2 g avs m, ts.map (fun t => p.2.tm.getD t .top) = avs ∧ p.2.tm.length = nt ∧ p.2.mem = m ∧ Goes k0 g ts avs m (zipU ts (vals s2)) (M s2) ∧ J s s2 ∧ μ s2 < μ s1
              | e => e = (match (fin s).1 with | true => Ex.ret | false => Ex.exit id') ∧ ∃ g avs m, ts.map (fun t => p.2.tm.getD t .top) = avs ∧ p.2.tm.length = nt ∧ p.2.mem = m ∧ Goes k0 g ts avs m (fin s).2.1 (fin s).2.2) := by
            rcases hrd with ⟨ds', o', avs, m, s2, g, r1, r2, r3, r4, r5⟩ | ⟨ds', o', avs, m, g, r1, r2, r3⟩
            · refine seesL_sat r1 r2 fun ex st2 hx ha hn hmm => ?_
              cases ex with
              | normal => exact ⟨s2, g, avs, m, ha, hn, hmm, r3, r4, r5⟩
              | exit i => simp [exNo] at hx
              | ret => simp [exNo] at hx
            · cases hf : (fin s).1 with
              | true =>
                rw [hf] at r1
                refine seesL_sat r1 r2 fun ex st2 hx ha hn hmm => ?_
                cases ex with
                | normal => simp [exNo] at hx
                | exit i => simp [exNo] at hx
                | ret => exact ⟨rfl, g, avs, m, ha, hn, hmm, r3⟩
              | false =>
                rw [hf] at r1
                refine seesL_sat r1 r2 fun ex st2 hx ha hn hmm => ?_
                cases ex with
                | normal => simp [exNo] at hx
                | ret => simp [exNo] at hx
                | exit i =>
                  simp [exNo] at hx
                  subst hx
                  exact ⟨rfl, g, avs, m, ha, hn, hmm, r3⟩
          refine wp_mono ((codeX_sound hm hH hΛ0 n).1 hc' hsat w0 S ρ0 n0 ds a w h0 hs1) fun e a' w' he => ?_
          cases e with
          | normal =>
            obtain ⟨st', ⟨s2, g, avs, m, q1, q2, q3, q4, q5, q6⟩, k7⟩ := he
            exact ih s2 (by omega) q5 w0 S ρ0 n0 ds a' w' h0 (q4.inv q1 q2 q3 h0 k7)
          | exit i =>
            obtain ⟨st', ⟨q0, g, avs, m, q1, q2, q3, q4⟩, k7⟩ := he
            exact ⟨_, by rw [← q0], q4.inv q1 q2 q3 h0 k7⟩
          | ret =>
            obtain ⟨st', ⟨q0, g, avs, m, q1, q2, q3, q4⟩, k7⟩ := he
            exact ⟨_, by rw [← q0], q4.inv q1 q2 q3 h0 k7⟩
          | goto l => exact he
          | panic ch => exact he
          | outgrown => exact he
      intro w0 S ρ0 n0 ds a w h0 hs0
      refine wp_block (wp_mono (wp_loop_rounds (μ s1 + 1) (key (μ s1 + 1) s1 (by omega) p4 w0 S ρ0 n0 ds a w h0 (p1.inv rfl hlen rfl h0 hs0))) fun e a' w' he => ?_)
      cases hf : (fin s).1 with
      | true =>
        rw [hf] at he
        cases e with
        | normal => obtain ⟨st1, h1, h3⟩ := he; cases h1
        | exit i => obtain ⟨st1, h1, h3⟩ := he; cases h1
        | ret => obtain ⟨st1, h1, h3⟩ := he; cases h1; exact ⟨_, rfl, h3⟩
        | goto l => exact he
        | panic ch => exact he
        | outgrown => exact he
      | false =>
        rw [hf] at he
        cases e with
        | normal => obtain ⟨st1, h1, h3⟩ := he; cases h1
        | exit i =>
          obtain ⟨st1, h1, h3⟩ := he
          cases h1
          simp only [Exit.inBlock, if_true]
          exact ⟨_, rfl, h3⟩
        | ret => obtain ⟨st1, h1, h3⟩ := he; cases h1
        | goto l => exact he
        | panic ch => exact he
        | outgrown => exact he
    · exact hΛ.ok hc hl ho
  · exact hΛ.ok hc hl ho

end
end Go.Ev
