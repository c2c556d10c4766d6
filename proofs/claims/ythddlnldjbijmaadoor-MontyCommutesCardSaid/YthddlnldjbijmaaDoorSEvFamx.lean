/- A loop by a family of heads, each round by a handler of its own. Own work. -/
import Derived.Test.YthddlnldjbijmaaDoorSEvTurn
set_option linter.unusedSimpArgs false
set_option linter.unusedVariables false
set_option linter.unusedSectionVars false
namespace Go.Ev
section
variable [Tab]
variable {P : Program} {q : FuncId → Bool} {Λ0 Λ : LoopH}
theorem fam_okx {σ : Type} {id nt n : Nat} {ts : List Nat} {B : Code} (vals : σ → List AV) (M : σ → Mem) (J : σ → σ → Prop) (μ : σ → Nat) {pat : List AV → Mem → Option σ} {owe : σ → List Bool} {fin : σ → List (Nat × AV) × Mem}
    (hm : P.follows .mixedOrders = true) (hΛ : LOk P B Λ) (hΛ0 : LOk P B Λ0) (h1 : one1 (blks id B) = true) (h2 : isLoop (blk id B) = true) (hbm : ∀ s, bndM (M s).length (M s) = true) (hbv : ∀ s, bndL (M s).length (vals s) = true)
    (hpat : ∀ avs m s, pat avs m = some s → Paid (owe s) → ∃ s1, LeL avs (vals s1) ∧ m = M s1 ∧ J s s1)
    (round : ∀ s s1, J s s1 → ∀ x : Nat → AV, ∃ H, HOk P H ∧ Round P q H Λ0 B id nt n ts vals M (J s) μ (fin s) s1 x) :
    LOk P B (famH id nt ts pat owe fin Λ) := by
  refine ⟨fun {id' c st st' o} hc hl ho => ?_⟩
  unfold famH at hl
  split at hl
  · rename_i hb
    simp only [Bool.and_eq_true] at hb
    have hid := Nat.eq_of_beq_eq_true hb.1
    have hlen := Nat.eq_of_beq_eq_true hb.2
    subst hid
    split at hl
    · rename_i s hs
      simp only [Option.some.injEq, Prod.mk.injEq] at hl
      obtain ⟨rfl, rfl⟩ := hl
      obtain ⟨s1, p1, p2, p4⟩ := hpat _ _ _ hs ho
      have e := blk_of hc h1
      rw [lp_of h2] at e
      have hc' : ∀ x ∈ subs (lp (blk id' B)), x ∈ subs B := fun x hx => by
        refine subs_trans hc x ?_
        rw [e]
        simp only [subs, List.mem_cons]
        exact Or.inr (Or.inr hx)
      rw [e]
      refine Ok.leave ?_
      have key : ∀ (k : Nat) (s1 : σ) (st1 : St) (ex : Mem), μ s1 < k → J s s1 → st1.tm.length = nt → st1.mem = M s1 ++ ex → LeL (ts.map fun t => st1.tm.getD t .top) (vals s1) →
          ∀ (w0 : World) (S : Nat → Prop) (ρ0 : Nat → Loc3) (n0 : Nat) (ds : List Deferred) (a : Act) (w : World), n0 ≤ (M s1).length → SInv w0 S ρ0 n0 ds st1 a w →
          Code.rounds P (lp (blk id' B)) (Post w0 S ρ0 n0 ds (fun p => ∃ st2, p = (.exit id', st2) ∧ Wk st2 ⟨tmOf (ups (fun _ => .top) (fin s).1) nt, (fin s).2⟩)) k a w := by
        intro k
        induction k with
        | zero => intro s1 st1 ex h; omega
        | succ k ih =>
          intro s1 st1 ex hk hJ i3 i4 i5 w0 S ρ0 n0 ds a w hn0 hs1
          rw [rounds_succ]
          have hw : SInv w0 S ρ0 n0 ds ⟨tmOf (ups (fun t => keepB (M s1).length (st1.tm.getD t .top)) (zipU ts (vals s1))) nt, M s1⟩ a w := by
            obtain ⟨⟨ρ, r1, r2, r3⟩, r4, r5⟩ := hs1
            rw [i4] at r2
            refine ⟨⟨ρ, ⟨fun t => ?_, ?_⟩, r2.short (hbm s1), r3⟩, hn0, r5⟩
            · by_cases ht : t < nt
              · rw [tmOf_get ht]
                have hx := r1.rep t
                exact ups_slot (zipU_le i5) (fun p hp => bndL_mem (hbv s1) _ (zipU_mem hp)) hx
              · rw [tmOf_out ht]; exact .top _
            · rw [tmOf_len, ← i3]; exact r1.le
          obtain ⟨H, hH, hround⟩ := round s s1 hJ (fun t => keepB (M s1).length (st1.tm.getD t .top))
          have hsat : (codeL P q H Λ0 n (lp (blk id' B)) ⟨tmOf (ups (fun t => keepB (M s1).length (st1.tm.getD t .top)) (zipU ts (vals s1))) nt, M s1⟩).Sat (fun p => match p.1 with | .normal => ∃ s2 ex, μ s2 < μ s1 ∧ J s s2 ∧ p.2.tm.length = nt ∧ p.2.mem = M s2 ++ ex ∧ LeL (ts.map fun t => p.2.tm.getD t .top) (vals s2) ∧ n0 ≤ (M s2).length | _ => ∃ st2, p = (.exit id', st2) ∧ Wk st2 ⟨tmOf (ups (fun _ => .top) (fin s).1) nt, (fin s).2⟩) := by
            rcases hround with ⟨ds', o', avs, s2, ex2, r1, r2, r3, r4, r5, r6⟩ | ⟨ds', o', avs, r1, r2, r3⟩
            · refine seesL_sat r1 r2 fun ex st2 hx ha hn hmm => ?_
              cases ex with
              | normal => exact ⟨s2, ex2, r6, r4, hn, hmm, by rw [ha]; exact r3, by rw [r5]; exact hn0⟩
              | exit i => simp [exNo] at hx
              | ret => simp [exNo] at hx
            · refine seesL_sat r1 r2 fun ex st2 hx ha hn hmm => ?_
              cases ex with
              | normal => simp [exNo] at hx
              | ret => simp [exNo] at hx
              | exit i =>
                simp [exNo] at hx
                subst hx
                refine ⟨st2, rfl, hmm.symm, by rw [hn, tmOf_len], fun t ρ N v hr => ?_⟩
                by_cases ht : t < nt
                · rw [tmOf_get ht]
                  have : ∀ {l : List (Nat × AV)}, (∀ p ∈ l, ∃ a, (p.1, a) ∈ zipU ts avs ∧ Le1 a p.2) → Rep ρ N (ups (fun _ => .top) l t) v := by
                    intro l
                    induction l with
                    | nil => intro _; exact .top _
                    | cons p l ih =>
                      intro hl
                      obtain ⟨i, a⟩ := p
                      unfold ups
                      cases hb : Nat.beq t i with
                      | true =>
                        have := Nat.eq_of_beq_eq_true hb
                        subst this
                        obtain ⟨a', q1, q2⟩ := hl _ (List.mem_cons_self ..)
                        have := zipU_of ha _ q1
                        simp only at this
                        rw [this] at hr
                        exact q2.rep hr
                      | false => exact ih fun p hp => hl p (List.mem_cons_of_mem _ hp)
                  exact this r3
                · rw [tmOf_out ht]; exact .top _
          refine wp_mono ((codeL_sound hm hH hΛ0 n).1 hc' hsat w0 S ρ0 n0 ds a w hw) fun e a' w' he => ?_
          cases e with
          | normal => obtain ⟨st', ⟨s2, ex2, k1, k2, k3, k4, k5, k6⟩, k7⟩ := he; exact ih s2 st' ex2 (by omega) k2 k3 k4 k5 w0 S ρ0 n0 ds a' w' k6 k7
          | exit i => obtain ⟨st', k1, k2⟩ := he; exact ⟨st', k1, k2⟩
          | ret => obtain ⟨st', k1, k2⟩ := he; exact ⟨st', k1, k2⟩
          | goto l => exact he
          | panic ch => exact he
          | outgrown => exact he
      exact fun w0 S ρ0 n0 ds a w hs => wp_loop_rounds (μ s1 + 1) (key (μ s1 + 1) s1 st [] (by omega) p4 hlen (by rw [List.append_nil]; exact p2) p1 w0 S ρ0 n0 ds a w (by rw [← p2]; exact hs.le) hs)
    · exact hΛ.ok hc hl ho
  · exact hΛ.ok hc hl ho
end
end Go.Ev
