/- Calls that look at memory laid anew under names of its own: the general contract; that of a struct whose first part is a slice of another block, its answer in memory that it made. Own work. -/
import Derived.Test.YtapficdphhfpnaaDoorTEvTwo
import Derived.Test.YtapficdphhfpnaaDoorTEvNone
set_option linter.unusedSimpArgs false
set_option linter.unusedVariables false
set_option linter.unusedSectionVars false
namespace Go.Ev
set_option linter.unusedSectionVars false
variable [Tab]
/-- A call that looks at memory M, and makes memory. -/
def RCall (P : Program) (g : FuncId) (cas : List AV) (M : Mem) (v : AV) (bs : Mem) : Prop :=
  ∀ {ρ : Nat → Loc3} {vs : List Value} {w : World}, Reps ρ (upto M.length) cas vs → Inv w (fun _ => False) (upto M.length) ρ (getName M) w →
    CallRun P g vs.toArray w (fun u w' => ∃ ρ', Rep ρ' (upto (M.length + bs.length)) (upA M.length v) u ∧
      Inv w (fun _ => False) (upto (M.length + bs.length)) ρ' (getName (M ++ onlyRw (bs.map (upB M.length)))) w')
section
variable {P : Program} {q : FuncId → Bool} {H : CallH} {Λ : LoopH}
/-- Its use, in a caller's memory. -/
theorem RCall.use {f : FuncId} {cas : List AV} {M m bs : Mem} {v1 : AV} (hc : RCall P f cas M v1 bs) {w0 : World} {S : Nat → Prop} {ρ Ls : Nat → Loc3} {w : World} {vs : List Value} (hi : Inv w0 S (upto m.length) ρ (getName m) w)
    (k1 : Reps Ls (upto M.length) cas vs) (k2 : Inv w (fun _ => False) (upto M.length) Ls (getName M) w) :
    CallRun P f vs.toArray w (fun u w' => ∃ ρ', Rep ρ' (upto (m ++ onlyRw (bs.map (upB m.length))).length) (upA m.length v1) u ∧ Inv w0 S (upto (m ++ onlyRw (bs.map (upB m.length))).length) ρ' (getName (m ++ onlyRw (bs.map (upB m.length)))) w' ∧ Agr ρ ρ' (upto m.length)) := by
  refine (hc k1 k2).mono fun u w' ⟨ρ', r1, r2⟩ => ?_
  have hl : (m ++ onlyRw (bs.map (upB m.length))).length = m.length + bs.length := by simp [onlyRw]
  rw [hl]
  let ρf : Nat → Loc3 := fun n => if n < m.length then ρ n else ρ' (n - m.length + M.length)
  have hag : Agr ρ ρf (upto m.length) := fun i hi => by
    have : i < m.length := hi
    simp [ρf, this]
  have hN : ∀ n, upto (M.length + bs.length) (n + M.length) → upto (m.length + bs.length) (n + m.length) ∧ ρf (n + m.length) = ρ' (n + M.length) := fun n hn => by
    refine ⟨by simp [upto] at *; omega, ?_⟩
    simp only [ρf]
    rw [if_neg (by omega), Nat.add_sub_cancel]
  refine ⟨ρf, upA_rep hN r1, ?_, hag⟩
  -- the new blocks, under their names
  have r3 : Inv w (fun _ => False) (upto (m.length + bs.length)) ρf (fun n => if n < m.length then Option.none else getName (onlyRw (bs.map (upB m.length))) (n - m.length)) w' := by
    have blk : ∀ n b, (if n < m.length then Option.none else getName (onlyRw (bs.map (upB m.length))) (n - m.length)) = some b → (m.length ≤ n ∧ n < m.length + bs.length) ∧ b.rw = true ∧
        ∃ c, b.c = upC m.length c ∧ getName (M ++ onlyRw (bs.map (upB M.length))) (n - m.length + M.length) = some ⟨true, upC M.length c⟩ := by
      intro n b hn
      split at hn
      · cases hn
      · rename_i hlt
        obtain ⟨g1, g2, c, g3, g4⟩ := up_name hn
        refine ⟨by omega, g1, c, g3, ?_⟩
        rw [getName_app, if_neg (by omega), Nat.add_sub_cancel]
        exact g4 _
    refine ⟨⟨fun n b hn => ?_, fun i j bi bj hi hj hij hr => ?_, fun n b hn => ?_, r2.sim.tab, fun G c hG n b hn hr => by
      obtain ⟨h1, h2, c, h3, h4⟩ := blk n b hn
      have e : ρf n = ρ' (n - m.length + M.length) := by simp only [ρf]; rw [if_neg (by omega)]
      rw [e]
      exact r2.sim.apart G _ hG _ _ h4 rfl⟩, r2.size, r2.frame, r2.os, r2.tape, r2.output, fun n b hn hr => ?_⟩
    · obtain ⟨h1, h2, c, h3, h4⟩ := blk n b hn
      obtain ⟨cs, t, lo', hi', b1, b2, b3, b4, b5⟩ := (r2.sim.blk _ _ h4).ex
      have e : ρf n = ρ' (n - m.length + M.length) := by simp only [ρf]; rw [if_neg (by omega)]
      refine ⟨cs, t, lo', hi', by rw [e]; exact b1, by rw [e]; exact b2, fun _ => b3 rfl, ?_, ?_⟩
      · rw [e, h3, upC_len]; rw [upC_len] at b4; exact b4
      · rw [e, h3]; exact upC_rep hN b5
    · obtain ⟨h1, h2, c, h3, h4⟩ := blk i bi hi
      obtain ⟨h1', h2', c', h3', h4'⟩ := blk j bj hj
      have e : ρf i = ρ' (i - m.length + M.length) := by simp only [ρf]; rw [if_neg (by omega)]
      have e' : ρf j = ρ' (j - m.length + M.length) := by simp only [ρf]; rw [if_neg (by omega)]
      rw [e, e']
      exact r2.sim.inj _ _ _ _ h4 h4' (by omega) rfl
    · obtain ⟨h1, _⟩ := blk n b hn
      simp [upto]; omega
    · obtain ⟨h1, h2, c, h3, h4⟩ := blk n b hn
      have e : ρf n = ρ' (n - m.length + M.length) := by simp only [ρf]; rw [if_neg (by omega)]
      rw [e]
      exact r2.rws _ _ h4 rfl
  refine hi.join (S1 := fun _ => False) r3 (fun _ h => h.elim) (fun i hi => by simp [upto] at *; omega) (fun _ h => h) hag (fun _ _ => rfl) fun n b hn => ?_
  rw [getName_app] at hn
  split at hn
  · exact Or.inl ⟨hn, fun h => h⟩
  · rename_i hlt
    refine Or.inr ⟨by rw [if_neg hlt]; exact hn, (getName_onlyRw hn).2⟩

/-- Such a contract, off the function's text. -/
theorem rcall_of_goR (hm : P.follows .mixedOrders = true) (hng : noCount P = true) (hH : HOk P H) {n : Nat} {g : FuncId} {cas : List AV} {M : Mem} (hΛ : ∀ fn c, P.funcs[g]? = some fn → fn.body = some c → LOkN M.length P c Λ) {o : List Bool} {v v' : AV} {m' bs : Mem} (ds : List Bool) (r : Nat → Nat)
    (h : ((funcL P q H Λ n g cas M).go ds).flat = some (o, (v', m'))) (ho : Paid o) (hv : v' = renA r (upA M.length v)) (hba : bndA (M.length + bs.length) (upA M.length v) = true)
    (hp : Pulls r m' 0 (List.replicate M.length none ++ onlyRw (bs.map (upB M.length)))) (hbm : bndM (M.length + bs.length) (List.replicate M.length none ++ onlyRw (bs.map (upB M.length))) = true) (hinj : injB r (M.length + bs.length) = true) (hfix : fixB r M.length = true) : RCall P g cas M v bs := by
  intro ρ vs w ha hi
  have hM : (List.replicate M.length none ++ onlyRw (bs.map (upB M.length))).length = M.length + bs.length := by simp [onlyRw]
  obtain ⟨hf, hc⟩ := funcN_sound hm hH hΛ (Nat.le_refl _) (go_sound (flat_sound h ho)) ha hi
  refine callRun_of hng hf (hc.mono fun e w' ⟨u, h1, x', m2, ρ', k1, k2, k3, k4, k5⟩ => ⟨u, h1, fun n => ρ' (r n), ?_, ?_⟩)
  · cases k1
    rw [hv] at k2
    exact k2.ren _ rfl hba
  · cases k1
    have k4' : Agr ρ (fun n => ρ' (r n)) (upto M.length) := fun i hi => by
      show ρ' (r i) = ρ i
      rw [fixB_of hfix hi]
      exact k4 i hi
    have k3' := k3.ren hp (by rw [hM]; exact hbm) (by rw [hM]; exact hinj)
    rw [hM] at k3'
    refine hi.join (S1 := fun _ => False) k3' (fun _ h => h.elim) (fun i hi => by simp [upto] at *; omega) (fun _ h => h) k4' (fun _ _ => rfl) fun n b hn => ?_
    rw [getName_app] at hn
    split at hn
    · exact Or.inl ⟨hn, fun h => h⟩
    · rename_i hlt
      obtain ⟨g1, g2⟩ := getName_onlyRw hn
      refine Or.inr ⟨?_, g2⟩
      rw [getName_app, if_neg (by simpa using hlt)]
      simpa using hn
theorem rcall_none (hm : P.follows .mixedOrders = true) (hng : noCount P = true) (hH : HOk P H) {n : Nat} {g : FuncId} {cas : List AV} {M : Mem} (hΛ : ∀ fn c, P.funcs[g]? = some fn → fn.body = some c → LOkN M.length P c Λ) {o : List Bool} {v v' : AV} {b : Option (Option Blk)} (ds : List Bool) (j : Nat)
    (h : seeV j ((funcL P q H Λ n g cas M).go ds) = some (o, v', b)) (ho : Paid o) (hv : v' = renA id (upA M.length v)) (hba : bndA (M.length + 0) (upA M.length v) = true) (hinj : injB id (M.length + 0) = true := by rfl) (hfix : fixB id M.length = true := by rfl) :
    RCall P g cas M v [] := by
  unfold seeV at h
  split at h
  · rename_i o' v2 m' hf
    simp only [Option.some.injEq, Prod.mk.injEq] at h
    obtain ⟨h1, h2, h3⟩ := h
    subst h1 h2
    have pulls : ∀ (a b : Nat) (M2 : Mem), Pulls id m' (b + a) M2 → Pulls id m' b (List.replicate a none ++ M2) := by
      intro a
      induction a with
      | zero => intro b M2 h; exact h
      | succ a ih =>
        intro b M2 h
        rw [List.replicate_succ, List.cons_append]
        exact ih (b + 1) M2 (by rw [show b + 1 + a = b + (a + 1) by omega]; exact h)
    have bnd : ∀ (a k' : Nat) (M2 : Mem), bndM k' M2 = true → bndM k' (List.replicate a none ++ M2) = true := by
      intro a
      induction a with
      | zero => intro k' M2 h; exact h
      | succ a ih => intro k' M2 h; rw [List.replicate_succ, List.cons_append]; exact ih k' M2 h
    intro ρ vs w ha hi
    exact rcall_of_goR (bs := []) hm hng hH hΛ ds id hf ho hv hba (pulls _ 0 _ trivial) (bnd _ _ _ rfl) hinj hfix ha hi
  · cases h
end
end Go.Ev
