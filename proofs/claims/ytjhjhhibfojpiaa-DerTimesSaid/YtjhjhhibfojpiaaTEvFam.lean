/- Loops whose heads are one family of states: a round's evaluation, a step of the state, an end. Own work. -/
import Derived.Test.YtjhjhhibfojpiaaTEvWr
set_option linter.unusedSimpArgs false
set_option linter.unusedVariables false
set_option linter.unusedSectionVars false
namespace Go.Ev
set_option linter.unusedSectionVars false
variable [Tab]

def exNo : Ex → Nat
  | .normal => 0
  | .ret => 1
  | .exit id => id + 2
/-- What is seen of a way's end: the debts, how it ends, some slots, how many there are, the memory. -/
def seesL (ts : List Nat) (T : Tree (Ex × St)) : Option (List Bool × Nat × List AV × Nat × Mem) :=
  match T.flat with
  | some (o, (e, st)) => some (o, exNo e, ts.map (fun t => st.tm.getD t .top), st.tm.length, st.mem)
  | none => none
theorem seesL_sat {ts : List Nat} {T : Tree (Ex × St)} {ds : List Bool} {o : List Bool} {k n : Nat} {avs : List AV} {m : Mem} {K : Ex × St → Prop} (h : seesL ts (T.go ds) = some (o, k, avs, n, m)) (ho : Paid o)
    (hk : ∀ e st, exNo e = k → ts.map (fun t => st.tm.getD t .top) = avs → st.tm.length = n → st.mem = m → K (e, st)) : T.Sat K := by
  unfold seesL at h
  split at h
  · rename_i o' e st hf
    simp only [Option.some.injEq, Prod.mk.injEq] at h
    obtain ⟨h1, h2, h3, h4, h5⟩ := h
    rw [← h1] at ho
    exact go_sound (sat_mono (fun p hp => by rw [hp]; exact hk e st h2 h3 h4 h5) (flat_sound hf ho))
  · cases h

/-- A value that says no less. -/
inductive Le1 : AV → AV → Prop
  | refl (a : AV) : Le1 a a
  | int (s : Bool) (k : IntKind) (n : Int) : Le1 (.int s k n) (.int true k n)
  | top (a : AV) : Le1 a .top
inductive LeL : List AV → List AV → Prop
  | nil : LeL [] []
  | cons {a b : AV} {l q : List AV} (h : Le1 a b) (hs : LeL l q) : LeL (a :: l) (b :: q)
theorem Le1.rep {a b : AV} (h : Le1 a b) {ρ : Nat → Loc3} {N : Nat → Prop} {v : Value} (hr : Rep ρ N a v) : Rep ρ N b v := by
  cases h with
  | refl => exact hr
  | int s k n => cases hr with | int _ _ _ h => exact .int _ _ _ h
  | top => exact .top _
theorem LeL.refl : ∀ (l : List AV), LeL l l
  | [] => .nil
  | a :: l => .cons (.refl a) (LeL.refl l)

/-- The slots ts bear the values avs. -/
def zipU : List Nat → List AV → List (Nat × AV)
  | t :: ts, a :: ars => (t, a) :: zipU ts ars
  | _, _ => []
theorem zipU_of {f : Nat → AV} : ∀ {ts : List Nat} {avs : List AV}, ts.map f = avs → ∀ p ∈ zipU ts avs, f p.1 = p.2
  | [], avs, h, p, hp => by simp [zipU] at hp
  | t :: ts, avs, h, p, hp => by
    subst h
    simp only [List.map_cons, zipU, List.mem_cons] at hp
    rcases hp with rfl | hp
    · rfl
    · exact zipU_of rfl p hp
theorem zipU_le {f : Nat → AV} : ∀ {ts : List Nat} {avs : List AV}, LeL (ts.map f) avs → ∀ p ∈ zipU ts avs, Le1 (f p.1) p.2
  | [], avs, h, p, hp => by simp [zipU] at hp
  | t :: ts, avs, h, p, hp => by
    simp only [List.map_cons] at h
    cases h with
    | cons h hs =>
      simp only [zipU, List.mem_cons] at hp
      rcases hp with rfl | hp
      · exact h
      · exact zipU_le hs p hp

/-- A family's handler: what is owed at the head, and what stands behind the block. -/
def famH {σ : Type} (id nt : Nat) (ts : List Nat) (pat : List AV → Mem → Option σ) (owe : σ → List Bool) (fin : σ → List (Nat × AV) × Mem) (Λ : LoopH) : LoopH := fun i st =>
  match Nat.beq i id && Nat.beq st.tm.length nt with
  | true => match pat (ts.map fun t => st.tm.getD t .top) st.mem with
    | some s => some (owe s, ⟨tmOf (ups (fun _ => .top) (fin s).1) nt, (fin s).2⟩)
    | none => Λ i st
  | false => Λ i st

/-- Names that nothing bears any more are given up. -/
theorem Inv.short {w0 : World} {S : Nat → Prop} {ρ : Nat → Loc3} {M ex : Mem} {w : World} (h : Inv w0 S (upto (M ++ ex).length) ρ (getName (M ++ ex)) w) (hb : bndM M.length M = true) : Inv w0 S (upto M.length) ρ (getName M) w := by
  have sub : ∀ n b, getName M n = some b → getName (M ++ ex) n = some b := fun n b hn => by
    rw [getName_app, if_pos (getName_lt hn)]; exact hn
  refine ⟨⟨fun n b hn => ?_, fun i j bi bj hi hj hij hr => h.sim.inj i j bi bj (sub i bi hi) (sub j bj hj) hij hr, fun n b hn => getName_lt hn, h.sim.tab, fun G c hG n b hn hr => h.sim.apart G c hG n b (sub n b hn) hr⟩,
    h.size, h.frame, h.os, h.tape, h.output, fun n b hn hr => h.rws n b (sub n b hn) hr⟩
  obtain ⟨cs, t, lo', hi', b1, b2, b3, b4, b5⟩ := (h.sim.blk n b (sub n b hn)).ex
  exact ⟨cs, t, lo', hi', b1, b2, b3, b4, b5.bnd fun l hl => bndM_get hb hn l hl⟩
/-- A slot that may be kept, or what is known of it no more. -/
def keepB (k : Nat) (a : AV) : AV := match bndA k a with | true => a | false => .top
theorem keepB_rep {k : Nat} {a : AV} {ρ : Nat → Loc3} {N : Nat → Prop} {v : Value} (h : Rep ρ N a v) : Rep ρ (upto k) (keepB k a) v := by
  unfold keepB
  split
  · rename_i hb; exact h.bnd hb
  · exact .top _
theorem bndL_mem {k : Nat} : ∀ {l : List AV}, bndL k l = true → ∀ a ∈ l, bndA k a = true
  | [], _, a, h => by cases h
  | x :: l, hb, a, h => by
    simp only [bndL, Bool.and_eq_true] at hb
    rcases List.mem_cons.1 h with rfl | h
    · exact hb.1
    · exact bndL_mem hb.2 a h
theorem zipU_mem : ∀ {ts : List Nat} {avs : List AV} {p : Nat × AV}, p ∈ zipU ts avs → p.2 ∈ avs
  | [], avs, p, h => by simp [zipU] at h
  | t :: ts, [], p, h => by simp [zipU] at h
  | t :: ts, a :: ars, p, h => by
    simp only [zipU, List.mem_cons] at h
    rcases h with rfl | h
    · exact List.mem_cons_self ..
    · exact List.mem_cons_of_mem _ (zipU_mem h)

theorem ups_slot {f : Nat → AV} {k t : Nat} {ρ : Nat → Loc3} {N : Nat → Prop} {v : Value} : ∀ {l : List (Nat × AV)}, (∀ p ∈ l, Le1 (f p.1) p.2) → (∀ p ∈ l, bndA k p.2 = true) → Rep ρ N (f t) v → Rep ρ (upto k) (ups (fun t => keepB k (f t)) l t) v
  | [], _, _, h => keepB_rep h
  | (i, a) :: r, h1, h2, h => by
    unfold ups
    cases hb : Nat.beq t i with
    | true =>
      have := Nat.eq_of_beq_eq_true hb
      subst this
      exact ((h1 _ (List.mem_cons_self ..)).rep h).bnd (h2 _ (List.mem_cons_self ..))
    | false => exact ups_slot (fun p hp => h1 p (List.mem_cons_of_mem _ hp)) (fun p hp => h2 p (List.mem_cons_of_mem _ hp)) h

section
variable {P : Program} {q : FuncId → Bool} {H : CallH} {Λ0 Λ : LoopH}
/-- What a round has to show: on it goes, to a further state of the family (new blocks are given up), or out. -/
def Round (P : Program) (q : FuncId → Bool) (H : CallH) (Λ0 : LoopH) (B : Code) (id nt n : Nat) (ts : List Nat) {σ : Type} (vals : σ → List AV) (M : σ → Mem) (J : σ → Prop) (μ : σ → Nat) (fin : List (Nat × AV) × Mem) (s1 : σ) (x : Nat → AV) : Prop :=
  (∃ ds o avs s2 ex, seesL ts ((codeL P q H Λ0 n (lp (blk id B)) ⟨tmOf (ups x (zipU ts (vals s1))) nt, M s1⟩).go ds) = some (o, 0, avs, nt, M s2 ++ ex) ∧ Paid o ∧ LeL avs (vals s2) ∧ J s2 ∧ (M s2).length = (M s1).length ∧ μ s2 < μ s1) ∨
  (∃ ds o avs, seesL ts ((codeL P q H Λ0 n (lp (blk id B)) ⟨tmOf (ups x (zipU ts (vals s1))) nt, M s1⟩).go ds) = some (o, id + 2, avs, nt, fin.2) ∧ Paid o ∧ ∀ p ∈ fin.1, ∃ a, (p.1, a) ∈ zipU ts avs ∧ Le1 a p.2)
theorem Round.on {B : Code} {id nt n : Nat} {ts : List Nat} {σ : Type} {vals : σ → List AV} {M : σ → Mem} {J : σ → Prop} {μ : σ → Nat} {fin : List (Nat × AV) × Mem} {s1 : σ} {x : Nat → AV} {ds o : List Bool} {avs : List AV} {m : Mem}
    (h : seesL ts ((codeL P q H Λ0 n (lp (blk id B)) ⟨tmOf (ups x (zipU ts (vals s1))) nt, M s1⟩).go ds) = some (o, 0, avs, nt, m)) (s2 : σ) (ex : Mem) (hm : m = M s2 ++ ex) (ho : Paid o) (hv : LeL avs (vals s2)) (hJ : J s2) (hl : (M s2).length = (M s1).length) (hμ : μ s2 < μ s1) :
    Round P q H Λ0 B id nt n ts vals M J μ fin s1 x := Or.inl ⟨ds, o, avs, s2, ex, by rw [h, hm], ho, hv, hJ, hl, hμ⟩
theorem Round.out {B : Code} {id nt n : Nat} {ts : List Nat} {σ : Type} {vals : σ → List AV} {M : σ → Mem} {J : σ → Prop} {μ : σ → Nat} {fin : List (Nat × AV) × Mem} {s1 : σ} {x : Nat → AV} {ds o : List Bool} {avs : List AV} {m : Mem} {k : Nat}
    (h : seesL ts ((codeL P q H Λ0 n (lp (blk id B)) ⟨tmOf (ups x (zipU ts (vals s1))) nt, M s1⟩).go ds) = some (o, k, avs, nt, m)) (hk : k = id + 2) (hm : m = fin.2) (ho : Paid o) (hf : ∀ p ∈ fin.1, ∃ a, (p.1, a) ∈ zipU ts avs ∧ Le1 a p.2) :
    Round P q H Λ0 B id nt n ts vals M J μ fin s1 x := Or.inr ⟨ds, o, avs, by rw [h, hm, hk], ho, hf⟩
theorem fam_ok {σ : Type} {id nt n : Nat} {ts : List Nat} {B : Code} (vals : σ → List AV) (M : σ → Mem) (J : σ → σ → Prop) (μ : σ → Nat) {pat : List AV → Mem → Option σ} {owe : σ → List Bool} {fin : σ → List (Nat × AV) × Mem}
    (hm : P.follows .mixedOrders = true) (hH : HOk P H) (hΛ : LOk P B Λ) (hΛ0 : LOk P B Λ0) (h1 : one1 (blks id B) = true) (h2 : isLoop (blk id B) = true) (hbm : ∀ s, bndM (M s).length (M s) = true) (hbv : ∀ s, bndL (M s).length (vals s) = true)
    (hpat : ∀ avs m s, pat avs m = some s → Paid (owe s) → ∃ s1, LeL avs (vals s1) ∧ m = M s1 ∧ J s s1)
    (round : ∀ s s1, J s s1 → ∀ x : Nat → AV, Round P q H Λ0 B id nt n ts vals M (J s) μ (fin s) s1 x) :
    LOk P B (famH id nt ts pat owe fin Λ) := by
  refine ⟨fun {id' c st st' o} hc hl ho => ?_⟩
  unfold famH at hl
  split at hl
  · rename_i hb
    simp only [Bool.and_eq_true] at hb
    have hid := Nat.eq_of_beq_eq_true hb.1
    have hlen := Nat.eq_of_beq_eq_true hb.2
    subst hid
    split at hl
    · rename_i s hs
      simp only [Option.some.injEq, Prod.mk.injEq] at hl
      obtain ⟨rfl, rfl⟩ := hl
      obtain ⟨s1, p1, p2, p4⟩ := hpat _ _ _ hs ho
      have e := blk_of hc h1
      rw [lp_of h2] at e
      have hc' : ∀ x ∈ subs (lp (blk id' B)), x ∈ subs B := fun x hx => by
        refine subs_trans hc x ?_
        rw [e]
        simp only [subs, List.mem_cons]
        exact Or.inr (Or.inr hx)
      rw [e]
      refine Ok.leave ?_
      have key : ∀ (k : Nat) (s1 : σ) (st1 : St) (ex : Mem), μ s1 < k → J s s1 → st1.tm.length = nt → st1.mem = M s1 ++ ex → LeL (ts.map fun t => st1.tm.getD t .top) (vals s1) →
          ∀ (w0 : World) (S : Nat → Prop) (ρ0 : Nat → Loc3) (n0 : Nat) (ds : List Deferred) (a : Act) (w : World), n0 ≤ (M s1).length → SInv w0 S ρ0 n0 ds st1 a w →
          Code.rounds P (lp (blk id' B)) (Post w0 S ρ0 n0 ds (fun p => ∃ st2, p = (.exit id', st2) ∧ Wk st2 ⟨tmOf (ups (fun _ => .top) (fin s).1) nt, (fin s).2⟩)) k a w := by
        intro k
        induction k with
        | zero => intro s1 st1 ex h; omega
        | succ k ih =>
          intro s1 st1 ex hk hJ i3 i4 i5 w0 S ρ0 n0 ds a w hn0 hs1
          rw [rounds_succ]
          have hw : SInv w0 S ρ0 n0 ds ⟨tmOf (ups (fun t => keepB (M s1).length (st1.tm.getD t .top)) (zipU ts (vals s1))) nt, M s1⟩ a w := by
            obtain ⟨⟨ρ, r1, r2, r3⟩, r4, r5⟩ := hs1
            rw [i4] at r2
            refine ⟨⟨ρ, ⟨fun t => ?_, ?_⟩, r2.short (hbm s1), r3⟩, hn0, r5⟩
            · by_cases ht : t < nt
              · rw [tmOf_get ht]
                have hx := r1.rep t
                exact ups_slot (zipU_le i5) (fun p hp => bndL_mem (hbv s1) _ (zipU_mem hp)) hx
              · rw [tmOf_out ht]; exact .top _
            · rw [tmOf_len, ← i3]; exact r1.le
          have hsat : (codeL P q H Λ0 n (lp (blk id' B)) ⟨tmOf (ups (fun t => keepB (M s1).length (st1.tm.getD t .top)) (zipU ts (vals s1))) nt, M s1⟩).Sat (fun p => match p.1 with | .normal => ∃ s2 ex, μ s2 < μ s1 ∧ J s s2 ∧ p.2.tm.length = nt ∧ p.2.mem = M s2 ++ ex ∧ LeL (ts.map fun t => p.2.tm.getD t .top) (vals s2) ∧ n0 ≤ (M s2).length | _ => ∃ st2, p = (.exit id', st2) ∧ Wk st2 ⟨tmOf (ups (fun _ => .top) (fin s).1) nt, (fin s).2⟩) := by
            rcases round s s1 hJ (fun t => keepB (M s1).length (st1.tm.getD t .top)) with ⟨ds', o', avs, s2, ex2, r1, r2, r3, r4, r5, r6⟩ | ⟨ds', o', avs, r1, r2, r3⟩
            · refine seesL_sat r1 r2 fun ex st2 hx ha hn hmm => ?_
              cases ex with
              | normal => exact ⟨s2, ex2, r6, r4, hn, hmm, by rw [ha]; exact r3, by rw [r5]; exact hn0⟩
              | exit i => simp [exNo] at hx
              | ret => simp [exNo] at hx
            · refine seesL_sat r1 r2 fun ex st2 hx ha hn hmm => ?_
              cases ex with
              | normal => simp [exNo] at hx
              | ret => simp [exNo] at hx
              | exit i =>
                simp [exNo] at hx
                subst hx
                refine ⟨st2, rfl, hmm.symm, by rw [hn, tmOf_len], fun t ρ N v hr => ?_⟩
                by_cases ht : t < nt
                · rw [tmOf_get ht]
                  have : ∀ {l : List (Nat × AV)}, (∀ p ∈ l, ∃ a, (p.1, a) ∈ zipU ts avs ∧ Le1 a p.2) → Rep ρ N (ups (fun _ => .top) l t) v := by
                    intro l
                    induction l with
                    | nil => intro _; exact .top _
                    | cons p l ih =>
                      intro hl
                      obtain ⟨i, a⟩ := p
                      unfold ups
                      cases hb : Nat.beq t i with
                      | true =>
                        have := Nat.eq_of_beq_eq_true hb
                        subst this
                        obtain ⟨a', q1, q2⟩ := hl _ (List.mem_cons_self ..)
                        have := zipU_of ha _ q1
                        simp only at this
                        rw [this] at hr
                        exact q2.rep hr
                      | false => exact ih fun p hp => hl p (List.mem_cons_of_mem _ hp)
                  exact this r3
                · rw [tmOf_out ht]; exact .top _
          refine wp_mono ((codeL_sound hm hH hΛ0 n).1 hc' hsat w0 S ρ0 n0 ds a w hw) fun e a' w' he => ?_
          cases e with
          | normal => obtain ⟨st', ⟨s2, ex2, k1, k2, k3, k4, k5, k6⟩, k7⟩ := he; exact ih s2 st' ex2 (by omega) k2 k3 k4 k5 w0 S ρ0 n0 ds a' w' k6 k7
          | exit i => obtain ⟨st', k1, k2⟩ := he; exact ⟨st', k1, k2⟩
          | ret => obtain ⟨st', k1, k2⟩ := he; exact ⟨st', k1, k2⟩
          | goto l => exact he
          | panic ch => exact he
          | outgrown => exact he
      exact fun w0 S ρ0 n0 ds a w hs => wp_loop_rounds (μ s1 + 1) (key (μ s1 + 1) s1 st [] (by omega) p4 hlen (by rw [List.append_nil]; exact p2) p1 w0 S ρ0 n0 ds a w (by rw [← p2]; exact hs.le) hs)
    · exact hΛ.ok hc hl ho
  · exact hΛ.ok hc hl ho
end
end Go.Ev
