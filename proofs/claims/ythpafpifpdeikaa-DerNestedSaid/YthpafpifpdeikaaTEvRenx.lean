/- Loops whose variables go over to new blocks, each round by a handler of its own. Own work. -/
import Derived.Test.YthpafpifpdeikaaTEvRen
set_option linter.unusedSimpArgs false
set_option linter.unusedVariables false
set_option linter.unusedSectionVars false
namespace Go.Ev
set_option linter.unusedSectionVars false
variable [Tab]
section
variable {P : Program} {Λ : LoopH} {k0 : Nat}
theorem famR_okx {σ : Type} {id nt n : Nat} {ts : List Nat} {B : Code} (vals : σ → List AV) (M : σ → Mem) (J : σ → σ → Prop) (μ : σ → Nat) {pat : List AV → Mem → Option σ} {owe : σ → List Bool} {fin : σ → List (Nat × AV) × Mem}
    (hm : P.follows .mixedOrders = true) (hΛ : LOkN k0 P B Λ) (h1 : one1 (blks id B) = true) (h2 : isLoop (blk id B) = true)
    (hpat : ∀ avs m s, pat avs m = some s → Paid (owe s) → ∃ s1 g, Goes k0 g ts avs m (zipU ts (vals s1)) (M s1) ∧ J s s1)
    (round : ∀ s s1, J s s1 → ∃ (q : FuncId → Bool) (H : CallH) (Λ0 : LoopH), HOk P H ∧ LOkN k0 P B Λ0 ∧ RoundR P q H Λ0 B id nt n k0 ts vals M (J s) μ (fin s) s1) :
    LOkN k0 P B (famH id nt ts pat owe fin Λ) := by
  refine ⟨fun {id' c st st' o} hc hl ho => ?_⟩
  unfold famH at hl
  split at hl
  · rename_i hb
    simp only [Bool.and_eq_true] at hb
    have hid := Nat.eq_of_beq_eq_true hb.1
    have hlen := Nat.eq_of_beq_eq_true hb.2
    subst hid
    split at hl
    · rename_i s hs
      simp only [Option.some.injEq, Prod.mk.injEq] at hl
      obtain ⟨rfl, rfl⟩ := hl
      obtain ⟨s1, g1, p1, p4⟩ := hpat _ _ _ hs ho
      have e := blk_of hc h1
      rw [lp_of h2] at e
      have hc' : ∀ x ∈ subs (lp (blk id' B)), x ∈ subs B := fun x hx => by
        refine subs_trans hc x ?_
        rw [e]
        simp only [subs, List.mem_cons]
        exact Or.inr (Or.inr hx)
      rw [e]
      have key : ∀ (k : Nat) (s1 : σ), μ s1 < k → J s s1 →
          ∀ (w0 : World) (S : Nat → Prop) (ρ0 : Nat → Loc3) (n0 : Nat) (ds : List Deferred) (a : Act) (w : World), n0 ≤ k0 → SInv w0 S ρ0 n0 ds ⟨tmOf (ups (fun _ => .top) (zipU ts (vals s1))) nt, M s1⟩ a w →
          Code.rounds P (lp (blk id' B)) (Post w0 S ρ0 n0 ds (fun p => p = (.exit id', ⟨tmOf (ups (fun _ => .top) (fin s).1) nt, (fin s).2⟩))) k a w := by
        intro k
        induction k with
        | zero => intro s1 h; omega
        | succ k ih =>
          intro s1 hk hJ w0 S ρ0 n0 ds a w h0 hs1
          rw [rounds_succ]
          obtain ⟨q, H, Λ0, hH, hΛ0, hrd⟩ := round s s1 hJ
          have hsat : (codeL P q H Λ0 n (lp (blk id' B)) ⟨tmOf (ups (fun _ => .top) (zipU ts (vals s1))) nt, M s1⟩).Sat (fun p => match p.1 with
              | .normal => ∃ s2 g avs m, ts.map (fun t => p.2.tm.getD t .top) = avs ∧ p.2.tm.length = nt ∧ p.2.mem = m ∧ Goes k0 g ts avs m (zipU ts (vals s2)) (M s2) ∧ J s s2 ∧ μ s2 < μ s1
              | e => e = .exit id' ∧ ∃ g avs m, ts.map (fun t => p.2.tm.getD t .top) = avs ∧ p.2.tm.length = nt ∧ p.2.mem = m ∧ Goes k0 g ts avs m (fin s).1 (fin s).2) := by
            rcases hrd with ⟨ds', o', avs, m, s2, g, r1, r2, r3, r4, r5⟩ | ⟨ds', o', avs, m, g, r1, r2, r3⟩
            · refine seesL_sat r1 r2 fun ex st2 hx ha hn hmm => ?_
              cases ex with
              | normal => exact ⟨s2, g, avs, m, ha, hn, hmm, r3, r4, r5⟩
              | exit i => simp [exNo] at hx
              | ret => simp [exNo] at hx
            · refine seesL_sat r1 r2 fun ex st2 hx ha hn hmm => ?_
              cases ex with
              | normal => simp [exNo] at hx
              | ret => simp [exNo] at hx
              | exit i =>
                simp [exNo] at hx
                subst hx
                exact ⟨rfl, g, avs, m, ha, hn, hmm, r3⟩
          refine wp_mono ((codeN_sound hm hH hΛ0 n).1 hc' hsat w0 S ρ0 n0 ds a w h0 hs1) fun e a' w' he => ?_
          cases e with
          | normal =>
            obtain ⟨st', ⟨s2, g, avs, m, q1, q2, q3, q4, q5, q6⟩, k7⟩ := he
            exact ih s2 (by omega) q5 w0 S ρ0 n0 ds a' w' h0 (q4.inv q1 q2 q3 h0 k7)
          | exit i =>
            obtain ⟨st', ⟨q0, g, avs, m, q1, q2, q3, q4⟩, k7⟩ := he
            cases q0
            exact ⟨_, rfl, q4.inv q1 q2 q3 h0 k7⟩
          | ret => obtain ⟨st', ⟨q0, _⟩, _⟩ := he; cases q0
          | goto l => exact he
          | panic ch => exact he
          | outgrown => exact he
      intro w0 S ρ0 n0 ds a w h0 hs0
      refine wp_block (wp_mono (wp_loop_rounds (μ s1 + 1) (key (μ s1 + 1) s1 (by omega) p4 w0 S ρ0 n0 ds a w h0 (p1.inv rfl hlen rfl h0 hs0))) fun e a' w' he => ?_)
      cases e with
      | normal => obtain ⟨st1, h1, h3⟩ := he; cases h1
      | exit i =>
        obtain ⟨st1, h1, h3⟩ := he
        cases h1
        simp only [Exit.inBlock, if_true]
        exact ⟨_, rfl, h3⟩
      | ret => obtain ⟨st1, h1, h3⟩ := he; cases h1
      | goto l => exact he
      | panic ch => exact he
      | outgrown => exact he
    · exact hΛ.ok hc hl ho
  · exact hΛ.ok hc hl ho

end
end Go.Ev
