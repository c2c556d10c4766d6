/- Families of heads whose round begins by naming a row of a list of lists. Own work. -/
import Derived.Test.YtjhjhhibfojpiaaDoorVEvFam
import Derived.Test.YtjhjhhibfojpiaaDoorVEvLists
import Derived.Test.YtjhjhhibfojpiaaDoorVEvRet
set_option linter.unusedSimpArgs false
set_option linter.unusedVariables false
set_option linter.unusedSectionVars false
namespace Go.Ev
set_option linter.unusedSectionVars false
set_option linter.unusedVariables false
variable [Tab]
section
variable {P : Program} {q : FuncId → Bool} {H : CallH} {Λ0 Λ : LoopH}
/-- A row is one of three. -/
def RowSh [RowTab] (i : Nat) : Prop := rowX i = .pl .nilslice ∨ rowX i = .empty ∨ ∃ (m : Nat) (l : List Int), rowX i = .buf true .u8 m l ∧ 1 ≤ m ∧ m ≤ reachBytes ∧ l.length = m ∧ ∀ y ∈ l, inR .u8 y = true
end
end Go.Ev
namespace Go.Ev
set_option linter.unusedSectionVars false
set_option linter.unusedVariables false
variable [Tab]
section
variable {P : Program} {q : FuncId → Bool} {H : CallH} {Λ : LoopX} {k0 : Nat}
/-- A round as RoundX says it; or its row has a name of its own, which is given up behind it. -/
def RoundXL [RowTab] (P : Program) (q : FuncId → Bool) (H : CallH) (Λ0 : LoopX) (B : Code) (id nt n k0 : Nat) (ts : List Nat) {σ : Type} (vals : σ → List AV) (M : σ → Mem) (J : σ → Prop) (μ : σ → Nat) (fin : Bool × List (Nat × AV) × Mem) (j cn : Nat) (s1 : σ) : Prop :=
  RoundX P q H Λ0 B id nt n k0 ts vals M J μ fin s1 ∨
  ∃ i, i < cn ∧ (RowSh i →
    (∃ ds o avs m y s2 g, seesL ts ((codeX P q H Λ0 n (lp (blk id B)) ⟨tmOf (ups (fun _ => .top) (zipU ts (vals s1))) nt, (M s1).set j (some ⟨false, .one cn RowTab.r i (cArg (M s1).length (rowX i))⟩) ++ [cBlk (rowX i)]⟩).go ds) = some (o, 0, avs, nt, m) ∧ Paid o ∧
      getName m j = some ⟨false, .one cn RowTab.r i y⟩ ∧ Goes k0 g ts avs (m.set j (some ⟨false, .rows cn RowTab.r⟩)) (zipU ts (vals s2)) (M s2) ∧ J s2 ∧ μ s2 < μ s1) ∨
    (∃ ds o avs m y g, seesL ts ((codeX P q H Λ0 n (lp (blk id B)) ⟨tmOf (ups (fun _ => .top) (zipU ts (vals s1))) nt, (M s1).set j (some ⟨false, .one cn RowTab.r i (cArg (M s1).length (rowX i))⟩) ++ [cBlk (rowX i)]⟩).go ds) = some (o, (match fin.1 with | true => 1 | false => id + 2), avs, nt, m) ∧ Paid o ∧
      getName m j = some ⟨false, .one cn RowTab.r i y⟩ ∧ Goes k0 g ts avs (m.set j (some ⟨false, .rows cn RowTab.r⟩)) fin.2.1 fin.2.2))
theorem famXL_ok [RowTab] {σ : Type} {id nt n : Nat} {ts : List Nat} {B : Code} (vals : σ → List AV) (M : σ → Mem) (J : σ → σ → Prop) (μ : σ → Nat) {pat : List AV → Mem → Option σ} {owe : σ → List Bool} {fin : σ → Bool × List (Nat × AV) × Mem}
    (j cn : Nat) (hf1 : ∀ w, Tab.fact w → rowsFact w) (hf2 : ∀ G, rowsPb G → Tab.pb G) (hcn : cn ≤ RowTab.cnt) (hMj : ∀ s, getName (M s) j = some ⟨false, .rows cn RowTab.r⟩)
    (hm : P.follows .mixedOrders = true) (hΛ : LOkX k0 P B Λ) (h1 : one1 (blks id B) = true) (h2 : isLoop (blk id B) = true)
    (hpat : ∀ avs m s, pat avs m = some s → Paid (owe s) → ∃ s1 g, Goes k0 g ts avs m (zipU ts (vals s1)) (M s1) ∧ J s s1)
    (round : ∀ s s1, J s s1 → ∃ (q : FuncId → Bool) (H : CallH) (Λ0 : LoopX), HOk P H ∧ LOkX k0 P B Λ0 ∧ RoundXL P q H Λ0 B id nt n k0 ts vals M (J s) μ (fin s) j cn s1) :
    LOkX k0 P B (famXH id nt ts pat owe fin Λ) := by
  refine ⟨fun {id' c st st' e o} hc hl ho => ?_⟩
  unfold famXH at hl
  split at hl
  · rename_i hb
    simp only [Bool.and_eq_true] at hb
    have hid := Nat.eq_of_beq_eq_true hb.1
    have hlen := Nat.eq_of_beq_eq_true hb.2
    subst hid
    split at hl
    · rename_i s hs
      simp only [Option.some.injEq, Prod.mk.injEq] at hl
      obtain ⟨rfl, rfl, rfl⟩ := hl
      obtain ⟨s1, g1, p1, p4⟩ := hpat _ _ _ hs ho
      have e := blk_of hc h1
      rw [lp_of h2] at e
      have hc' : ∀ x ∈ subs (lp (blk id' B)), x ∈ subs B := fun x hx => by
        refine subs_trans hc x ?_
        rw [e]
        simp only [subs, List.mem_cons]
        exact Or.inr (Or.inr hx)
      rw [e]
      have key : ∀ (k : Nat) (s1 : σ), μ s1 < k → J s s1 →
          ∀ (w0 : World) (S : Nat → Prop) (ρ0 : Nat → Loc3) (n0 : Nat) (ds : List Deferred) (a : Act) (w : World), n0 ≤ k0 → SInv w0 S ρ0 n0 ds ⟨tmOf (ups (fun _ => .top) (zipU ts (vals s1))) nt, M s1⟩ a w →
          Code.rounds P (lp (blk id' B)) (Post w0 S ρ0 n0 ds (fun p => p = ((match (fin s).1 with | true => Ex.ret | false => Ex.exit id'), ⟨tmOf (ups (fun _ => .top) (fin s).2.1) nt, (fin s).2.2⟩))) k a w := by
        intro k
        induction k with
        | zero => intro s1 h; omega
        | succ k ih =>
          intro s1 hk hJ w0 S ρ0 n0 ds a w h0 hs1
          rw [rounds_succ]
          obtain ⟨q, H, Λ0, hH, hΛ0, hrd⟩ := round s s1 hJ
          rcases hrd with hrd | ⟨i, hi, hR⟩
          · have hsat : (codeX P q H Λ0 n (lp (blk id' B)) ⟨tmOf (ups (fun _ => .top) (zipU ts (vals s1))) nt, M s1⟩).Sat (fun p => match p.1 with
                | .normal => ∃ s2 g avs m, ts.map (fun t => p.2.tm.getD t .top) = avs ∧ p.2.tm.length = nt ∧ p.2.mem = m ∧ Goes k0 g ts avs m (zipU ts (vals s2)) (M s2) ∧ J s s2 ∧ μ s2 < μ s1
                | e => e = (match (fin s).1 with | true => Ex.ret | false => Ex.exit id') ∧ ∃ g avs m, ts.map (fun t => p.2.tm.getD t .top) = avs ∧ p.2.tm.length = nt ∧ p.2.mem = m ∧ Goes k0 g ts avs m (fin s).2.1 (fin s).2.2) := by
              rcases hrd with ⟨ds', o', avs, m, s2, g, r1, r2, r3, r4, r5⟩ | ⟨ds', o', avs, m, g, r1, r2, r3⟩
              · refine seesL_sat r1 r2 fun ex st2 hx ha hn hmm => ?_
                cases ex with
                | normal => exact ⟨s2, g, avs, m, ha, hn, hmm, r3, r4, r5⟩
                | exit i => simp [exNo] at hx
                | ret => simp [exNo] at hx
              · cases hf : (fin s).1 with
                | true =>
                  rw [hf] at r1
                  refine seesL_sat r1 r2 fun ex st2 hx ha hn hmm => ?_
                  cases ex with
                  | normal => simp [exNo] at hx
                  | exit i => simp [exNo] at hx
                  | ret => exact ⟨rfl, g, avs, m, ha, hn, hmm, r3⟩
                | false =>
                  rw [hf] at r1
                  refine seesL_sat r1 r2 fun ex st2 hx ha hn hmm => ?_
                  cases ex with
                  | normal => simp [exNo] at hx
                  | ret => simp [exNo] at hx
                  | exit i =>
                    simp [exNo] at hx
                    subst hx
                    exact ⟨rfl, g, avs, m, ha, hn, hmm, r3⟩
            refine wp_mono ((codeX_sound hm hH hΛ0 n).1 hc' hsat w0 S ρ0 n0 ds a w h0 hs1) fun e a' w' he => ?_
            cases e with
            | normal =>
              obtain ⟨st', ⟨s2, g, avs, m, q1, q2, q3, q4, q5, q6⟩, k7⟩ := he
              exact ih s2 (by omega) q5 w0 S ρ0 n0 ds a' w' h0 (q4.inv q1 q2 q3 h0 k7)
            | exit i =>
              obtain ⟨st', ⟨q0, g, avs, m, q1, q2, q3, q4⟩, k7⟩ := he
              exact ⟨_, by rw [← q0], q4.inv q1 q2 q3 h0 k7⟩
            | ret =>
              obtain ⟨st', ⟨q0, g, avs, m, q1, q2, q3, q4⟩, k7⟩ := he
              exact ⟨_, by rw [← q0], q4.inv q1 q2 q3 h0 k7⟩
            | goto l => exact he
            | panic ch => exact he
            | outgrown => exact he
          · obtain ⟨hsh, hw2⟩ := hs1.row hf1 hf2 (hMj s1) hi hcn
            have hsat : (codeX P q H Λ0 n (lp (blk id' B)) ⟨tmOf (ups (fun _ => .top) (zipU ts (vals s1))) nt, (M s1).set j (some ⟨false, .one cn RowTab.r i (cArg (M s1).length (rowX i))⟩) ++ [cBlk (rowX i)]⟩).Sat (fun p => match p.1 with
                | .normal => ∃ s2 g avs m y, ts.map (fun t => p.2.tm.getD t .top) = avs ∧ p.2.tm.length = nt ∧ p.2.mem = m ∧ getName m j = some ⟨false, .one cn RowTab.r i y⟩ ∧ Goes k0 g ts avs (m.set j (some ⟨false, .rows cn RowTab.r⟩)) (zipU ts (vals s2)) (M s2) ∧ J s s2 ∧ μ s2 < μ s1
                | e => e = (match (fin s).1 with | true => Ex.ret | false => Ex.exit id') ∧ ∃ g avs m y, ts.map (fun t => p.2.tm.getD t .top) = avs ∧ p.2.tm.length = nt ∧ p.2.mem = m ∧ getName m j = some ⟨false, .one cn RowTab.r i y⟩ ∧ Goes k0 g ts avs (m.set j (some ⟨false, .rows cn RowTab.r⟩)) (fin s).2.1 (fin s).2.2) := by
              rcases hR hsh with ⟨ds', o', avs, m, y, s2, g, r1, r2, r0, r3, r4, r5⟩ | ⟨ds', o', avs, m, y, g, r1, r2, r0, r3⟩
              · refine seesL_sat r1 r2 fun ex st2 hx ha hn hmm => ?_
                cases ex with
                | normal => exact ⟨s2, g, avs, m, y, ha, hn, hmm, r0, r3, r4, r5⟩
                | exit i => simp [exNo] at hx
                | ret => simp [exNo] at hx
              · cases hf : (fin s).1 with
                | true =>
                  rw [hf] at r1
                  refine seesL_sat r1 r2 fun ex st2 hx ha hn hmm => ?_
                  cases ex with
                  | normal => simp [exNo] at hx
                  | exit i => simp [exNo] at hx
                  | ret => exact ⟨rfl, g, avs, m, y, ha, hn, hmm, r0, r3⟩
                | false =>
                  rw [hf] at r1
                  refine seesL_sat r1 r2 fun ex st2 hx ha hn hmm => ?_
                  cases ex with
                  | normal => simp [exNo] at hx
                  | ret => simp [exNo] at hx
                  | exit i =>
                    simp [exNo] at hx
                    subst hx
                    exact ⟨rfl, g, avs, m, y, ha, hn, hmm, r0, r3⟩
            refine wp_mono ((codeX_sound hm hH hΛ0 n).1 hc' hsat w0 S ρ0 n0 ds a w h0 hw2) fun e a' w' he => ?_
            cases e with
            | normal =>
              obtain ⟨⟨tm', m'⟩, ⟨s2, g, avs, m, y, q1, q2, q3, q0, q4, q5, q6⟩, k7⟩ := he
              simp only at q1 q2 q3
              subst q3
              exact ih s2 (by omega) q5 w0 S ρ0 n0 ds a' w' h0 (q4.inv (st := ⟨tm', m'.set j (some ⟨false, .rows cn RowTab.r⟩)⟩) q1 q2 rfl h0 (k7.blunt q0))
            | exit i =>
              obtain ⟨⟨tm', m'⟩, ⟨q9, g, avs, m, y, q1, q2, q3, q0, q4⟩, k7⟩ := he
              simp only at q1 q2 q3
              subst q3
              exact ⟨_, by rw [← q9], q4.inv (st := ⟨tm', m'.set j (some ⟨false, .rows cn RowTab.r⟩)⟩) q1 q2 rfl h0 (k7.blunt q0)⟩
            | ret =>
              obtain ⟨⟨tm', m'⟩, ⟨q9, g, avs, m, y, q1, q2, q3, q0, q4⟩, k7⟩ := he
              simp only at q1 q2 q3
              subst q3
              exact ⟨_, by rw [← q9], q4.inv (st := ⟨tm', m'.set j (some ⟨false, .rows cn RowTab.r⟩)⟩) q1 q2 rfl h0 (k7.blunt q0)⟩
            | goto l => exact he
            | panic ch => exact he
            | outgrown => exact he
      intro w0 S ρ0 n0 ds a w h0 hs0
      refine wp_block (wp_mono (wp_loop_rounds (μ s1 + 1) (key (μ s1 + 1) s1 (by omega) p4 w0 S ρ0 n0 ds a w h0 (p1.inv rfl hlen rfl h0 hs0))) fun e a' w' he => ?_)
      cases hf : (fin s).1 with
      | true =>
        rw [hf] at he
        cases e with
        | normal => obtain ⟨st1, h1, h3⟩ := he; cases h1
        | exit i => obtain ⟨st1, h1, h3⟩ := he; cases h1
        | ret => obtain ⟨st1, h1, h3⟩ := he; cases h1; exact ⟨_, rfl, h3⟩
        | goto l => exact he
        | panic ch => exact he
        | outgrown => exact he
      | false =>
        rw [hf] at he
        cases e with
        | normal => obtain ⟨st1, h1, h3⟩ := he; cases h1
        | exit i =>
          obtain ⟨st1, h1, h3⟩ := he
          cases h1
          simp only [Exit.inBlock, if_true]
          exact ⟨_, rfl, h3⟩
        | ret => obtain ⟨st1, h1, h3⟩ := he; cases h1
        | goto l => exact he
        | panic ch => exact he
        | outgrown => exact he
    · exact hΛ.ok hc hl ho
  · exact hΛ.ok hc hl ho

end
end Go.Ev
