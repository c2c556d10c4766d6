/- Calls whose first argument is a struct of one pointer, handed by value: what it shows, and views; in memory laid anew. What answers by cases. Own work. -/
import Derived.Test.YtapficdphhfpnaaDoorTEvCan
import Derived.Test.YtapficdphhfpnaaDoorTEvFam
import Derived.Test.YtapficdphhfpnaaDoorTEvOne
import Derived.Test.YtapficdphhfpnaaDoorTEvLoop
set_option linter.unusedSimpArgs false
set_option linter.unusedVariables false
set_option linter.unusedSectionVars false
namespace Go.Ev
set_option linter.unusedSectionVars false
variable [Tab]
def uMem (c : Cells) (xs : List V) : Mem := some ⟨false, c⟩ :: cMem xs
def uArgs (xs : List V) : List AV := .agg [.ptr false 0 0] :: cArgs 1 xs
def withU (g : FuncId) (spec : Cells → List V → E (AV × Mem)) (X : CallH) : CallH := fun f args m =>
  match decide (f = g), args with
  | true, .agg [.ptr false n 0] :: ars => (match getName m n with
    | some b1 => (match plainC b1.c with
      | true => (match viewsA m ars with
        | some (o1, xs) => (match spec b1.c xs with
          | some (o2, (v, bs)) => some (o1 ++ o2, (upA m.length v, m ++ onlyRw (bs.map (upB m.length))))
          | none => X f args m)
        | none => X f args m)
      | false => X f args m)
    | none => X f args m)
  | _, _ => X f args m
section
variable {P : Program} {H : CallH}
theorem HOk.withU {g : FuncId} {spec : Cells → List V → E (AV × Mem)} (hX : HOk P H) (h : ∀ c xs o v bs, spec c xs = some (o, (v, bs)) → Paid o → RCall P g (uArgs xs) (uMem c xs) v bs) : HOk P (withU g spec H) := by
  have both : ∀ {f : FuncId} {ars : List AV} {m : Mem} {ob : List Bool} {v : AV} {m' : Mem}, Go.Ev.withU g spec H f ars m = some (ob, (v, m')) → Paid ob →
      m.length ≤ m'.length ∧ ∀ {w0 : World} {S : Nat → Prop} {ρ : Nat → Loc3} {w : World} {vs : List Value}, Reps ρ (upto m.length) ars vs → Inv w0 S (upto m.length) ρ (getName m) w →
      CallRun P f vs.toArray w (fun u w' => ∃ ρ', Rep ρ' (upto m'.length) v u ∧ Inv w0 S (upto m'.length) ρ' (getName m') w' ∧ Agr ρ ρ' (upto m.length)) := by
    intro f ars m ob v m' hr ho
    have old : ∀ {f ars m ob v m'}, H f ars m = some (ob, (v, m')) → Paid ob → m.length ≤ m'.length ∧ ∀ {w0 : World} {S : Nat → Prop} {ρ : Nat → Loc3} {w : World} {vs : List Value}, Reps ρ (upto m.length) ars vs → Inv w0 S (upto m.length) ρ (getName m) w →
      CallRun P f vs.toArray w (fun u w' => ∃ ρ', Rep ρ' (upto m'.length) v u ∧ Inv w0 S (upto m'.length) ρ' (getName m') w' ∧ Agr ρ ρ' (upto m.length)) := fun hr ho => ⟨hX.le hr ho, fun ha hi => hX.run hr ho ha hi⟩
    unfold Go.Ev.withU at hr
    split at hr
    case h_2 => exact old hr ho
    rename_i n ars' hf
    simp at hf
    subst hf
    split at hr
    case h_2 => exact old hr ho
    rename_i b1 hn
    split at hr
    case h_2 => exact old hr ho
    rename_i p1
    split at hr
    case h_2 => exact old hr ho
    rename_i o1 xs hv
    split at hr
    case h_2 => exact old hr ho
    rename_i o2 v1 bs hs
    cases hr
    have hpd := paid_append.1 ho
    refine ⟨by simp, fun {w0 S ρ w vs} ha hi => ?_⟩
    have hc : RCall P f (uArgs xs) (uMem b1.c xs) v1 bs := h _ _ _ _ _ hs hpd.2
    cases ha with
    | cons _ _ u us hu hus =>
    obtain ⟨Lv, c1, c2⟩ := viewsA_ok hi.sim hv hpd.1 hus 1
    let ρ2 : Nat → Loc3 := fun x => match x with | 0 => ρ n | x + 1 => Lv x
    have hML : (uMem b1.c xs).length = xs.length + 1 := by simp [uMem, cMem]
    have hρ : ∀ i, ρ2 (1 + i) = Lv i := fun i => by rw [Nat.add_comm]
    obtain ⟨cs, t, lo', hi', a1, a2, a3, a4, a5⟩ := (hi.sim.blk n _ hn).ex
    have gM : ∀ x b, getName (uMem b1.c xs) x = some b → b.rw = false ∧ ((x = 0 ∧ b = ⟨false, b1.c⟩) ∨ ∃ i, x = i + 1 ∧ getName (cMem xs) i = some b) := fun x b hx => by
      match x, hx with
      | 0, hx => cases hx; exact ⟨rfl, Or.inl ⟨rfl, rfl⟩⟩
      | i + 1, hx =>
        have hx' : getName (cMem xs) i = some b := by
          unfold getName uMem at hx
          unfold getName
          simpa using hx
        exact ⟨(c2 i b hx').1, Or.inr ⟨i, rfl, hx'⟩⟩
    refine hc.use (Ls := ρ2) hi ?_ ?_
    · rw [hML]
      refine .cons _ _ _ _ ?_ (c1 ρ2 _ fun i hi => ⟨hρ i, by simp [upto]; omega⟩)
      cases hu with
      | agg _ us hr =>
        cases hr with
        | cons _ _ _ _ r1 hr =>
          cases hr
          cases r1
          exact .agg _ _ (.cons _ _ _ _ (Rep.ptr (ρ := ρ2) (N := upto (xs.length + 1)) false 0 0 (show (0 : Nat) < xs.length + 1 by omega)) .nil)
    · refine Inv.start _ ⟨fun x b hx => ?_, fun i j bi bj h1 h2 hij hrw => ?_, fun x b hx => getName_lt hx, hi.sim.tab, fun G c hG x b hx hrw => ?_⟩ fun x b hx hrw => ?_
      · rcases (gM x b hx).2 with ⟨rfl, rfl⟩ | ⟨i, rfl, hx'⟩
        · exact ⟨cs, t, lo', hi', a1, a2, (fun h => by cases h), a4, plainC_rep a5 p1⟩
        · have := (c2 i b hx').2 ρ2 (upto (uMem b1.c xs).length) (hρ i)
          rwa [Nat.add_comm] at this
      · rw [(gM i bi h1).1] at hrw; cases hrw
      · rw [(gM x b hx).1] at hrw; cases hrw
      · rw [(gM x b hx).1] at hrw; cases hrw
  exact ⟨@fun f ars m ob v m' h ho => (both h ho).1, @fun f ars m ob v m' h ho w0 S ρ w vs ha hi => (both h ho).2 ha hi⟩
end
/-- Values that say no more: numbers and tests are marked. -/
inductive M1 : AV → AV → Prop
  | refl (a : AV) : M1 a a
  | int (s : Bool) (k : IntKind) (n : Int) : M1 (.int s k n) (.int true k n)
  | bool (s b : Bool) : M1 (.bool s b) (.bool true b)
inductive M1L : List AV → List AV → Prop
  | nil : M1L [] []
  | cons {a b : AV} {l q : List AV} (h : M1 a b) (hs : M1L l q) : M1L (a :: l) (b :: q)
inductive M2 : AV → AV → Prop
  | one {a b : AV} (h : M1 a b) : M2 a b
  | agg {l q : List AV} (h : M1L l q) : M2 (.agg l) (.agg q)
inductive M2L : List AV → List AV → Prop
  | nil : M2L [] []
  | cons {a b : AV} {l q : List AV} (h : M2 a b) (hs : M2L l q) : M2L (a :: l) (b :: q)
inductive M3 : AV → AV → Prop
  | two {a b : AV} (h : M2 a b) : M3 a b
  | tuple {l q : List AV} (h : M2L l q) : M3 (.tuple l) (.tuple q)
theorem M1.rep {a b : AV} (h : M1 a b) {ρ : Nat → Loc3} {N : Nat → Prop} {v : Value} (hr : Rep ρ N a v) : Rep ρ N b v := by
  cases h with
  | refl => exact hr
  | int s k n => cases hr with | int _ _ _ h => exact .int _ _ _ h
  | bool s b => cases hr; exact .bool _ _
theorem M1L.rep : ∀ {l q : List AV} (_ : M1L l q) {ρ : Nat → Loc3} {N : Nat → Prop} {vs : List Value} (_ : Reps ρ N l vs), Reps ρ N q vs
  | _, _, .nil, _, _, _, hr => hr
  | _, _, .cons h hs, _, _, _, hr => by
    cases hr with
    | cons _ _ v vs r rs => exact .cons _ _ _ _ (h.rep r) (hs.rep rs)
theorem M2.rep {a b : AV} (h : M2 a b) {ρ : Nat → Loc3} {N : Nat → Prop} {v : Value} (hr : Rep ρ N a v) : Rep ρ N b v := by
  cases h with
  | one h => exact h.rep hr
  | agg h => cases hr with | agg _ us hs => exact .agg _ _ (h.rep hs)
theorem M2L.rep : ∀ {l q : List AV} (_ : M2L l q) {ρ : Nat → Loc3} {N : Nat → Prop} {vs : List Value} (_ : Reps ρ N l vs), Reps ρ N q vs
  | _, _, .nil, _, _, _, hr => hr
  | _, _, .cons h hs, _, _, _, hr => by
    cases hr with
    | cons _ _ v vs r rs => exact .cons _ _ _ _ (h.rep r) (hs.rep rs)
theorem M3.rep {a b : AV} (h : M3 a b) {ρ : Nat → Loc3} {N : Nat → Prop} {v : Value} (hr : Rep ρ N a v) : Rep ρ N b v := by
  cases h with
  | two h => exact h.rep hr
  | tuple h => cases hr with | tuple _ us hs => exact .tuple _ _ (h.rep hs)
theorem RCall.mark {P : Program} {g : FuncId} {cas : List AV} {M bs : Mem} (v v' : AV) (h : RCall P g cas M v bs) (hv : M3 v v') (e1 : upA M.length v = v) (e2 : upA M.length v' = v') : RCall P g cas M v' bs := by
  intro ρ vs w ha hi
  refine (h ha hi).mono fun u w' ⟨ρ', r, k⟩ => ⟨ρ', ?_, k⟩
  rw [e1] at r
  rw [e2]
  exact hv.rep r
theorem ViewCall.marked {P : Program} {g : FuncId} {xs : List V} {bs : Mem} (v v' : AV) (h : ViewCall P g xs v bs) (hv : M3 v v') (e1 : upA xs.length v = v) (e2 : upA xs.length v' = v') : ViewCall P g xs v' bs := by
  intro ρ vs w ha hi
  refine (h ha hi).mono fun u w' ⟨ρ', r, k⟩ => ⟨ρ', ?_, k⟩
  rw [e1] at r
  rw [e2]
  exact hv.rep r
theorem view_goL {P : Program} {q : FuncId → Bool} {H : CallH} {Λ : LoopH} (hm : P.follows .mixedOrders = true) (hng : noCount P = true) (hH : HOk P H) {n : Nat} {g : FuncId} (hΛ : ∀ fn c, P.funcs[g]? = some fn → fn.body = some c → LOk P c Λ) {xs : List V} {o : List Bool} {v v' : AV} (ds : List Bool)
    (h : res ((funcL P q H Λ n g (cArgs 0 xs) (cMem xs)).go ds) = some (o, v)) (ho : Paid o) (hv : v = v') (hpl : plainAs v' = true) : ViewCall P g xs v' [] :=
  view_of_evalL hm hng hH hΛ hpl (go_sound (sat_eq h ho hv hpl))
end Go.Ev
namespace Go.Ev
section
variable [Tab]
variable {P : Program} {q : FuncId → Bool} {Λ0 Λ : LoopH}
theorem fam_okx {σ : Type} {id nt n : Nat} {ts : List Nat} {B : Code} (vals : σ → List AV) (M : σ → Mem) (J : σ → σ → Prop) (μ : σ → Nat) {pat : List AV → Mem → Option σ} {owe : σ → List Bool} {fin : σ → List (Nat × AV) × Mem}
    (hm : P.follows .mixedOrders = true) (hΛ : LOk P B Λ) (hΛ0 : LOk P B Λ0) (h1 : one1 (blks id B) = true) (h2 : isLoop (blk id B) = true) (hbm : ∀ s, bndM (M s).length (M s) = true) (hbv : ∀ s, bndL (M s).length (vals s) = true)
    (hpat : ∀ avs m s, pat avs m = some s → Paid (owe s) → ∃ s1, LeL avs (vals s1) ∧ m = M s1 ∧ J s s1)
    (round : ∀ s s1, J s s1 → ∀ x : Nat → AV, ∃ H, HOk P H ∧ Round P q H Λ0 B id nt n ts vals M (J s) μ (fin s) s1 x) :
    LOk P B (famH id nt ts pat owe fin Λ) := by
  refine ⟨fun {id' c st st' o} hc hl ho => ?_⟩
  unfold famH at hl
  split at hl
  · rename_i hb
    simp only [Bool.and_eq_true] at hb
    have hid := Nat.eq_of_beq_eq_true hb.1
    have hlen := Nat.eq_of_beq_eq_true hb.2
    subst hid
    split at hl
    · rename_i s hs
      simp only [Option.some.injEq, Prod.mk.injEq] at hl
      obtain ⟨rfl, rfl⟩ := hl
      obtain ⟨s1, p1, p2, p4⟩ := hpat _ _ _ hs ho
      have e := blk_of hc h1
      rw [lp_of h2] at e
      have hc' : ∀ x ∈ subs (lp (blk id' B)), x ∈ subs B := fun x hx => by
        refine subs_trans hc x ?_
        rw [e]
        simp only [subs, List.mem_cons]
        exact Or.inr (Or.inr hx)
      rw [e]
      refine Ok.leave ?_
      have key : ∀ (k : Nat) (s1 : σ) (st1 : St) (ex : Mem), μ s1 < k → J s s1 → st1.tm.length = nt → st1.mem = M s1 ++ ex → LeL (ts.map fun t => st1.tm.getD t .top) (vals s1) →
          ∀ (w0 : World) (S : Nat → Prop) (ρ0 : Nat → Loc3) (n0 : Nat) (ds : List Deferred) (a : Act) (w : World), n0 ≤ (M s1).length → SInv w0 S ρ0 n0 ds st1 a w →
          Code.rounds P (lp (blk id' B)) (Post w0 S ρ0 n0 ds (fun p => ∃ st2, p = (.exit id', st2) ∧ Wk st2 ⟨tmOf (ups (fun _ => .top) (fin s).1) nt, (fin s).2⟩)) k a w := by
        intro k
        induction k with
        | zero => intro s1 st1 ex h; omega
        | succ k ih =>
          intro s1 st1 ex hk hJ i3 i4 i5 w0 S ρ0 n0 ds a w hn0 hs1
          rw [rounds_succ]
          have hw : SInv w0 S ρ0 n0 ds ⟨tmOf (ups (fun t => keepB (M s1).length (st1.tm.getD t .top)) (zipU ts (vals s1))) nt, M s1⟩ a w := by
            obtain ⟨⟨ρ, r1, r2, r3⟩, r4, r5⟩ := hs1
            rw [i4] at r2
            refine ⟨⟨ρ, ⟨fun t => ?_, ?_⟩, r2.short (hbm s1), r3⟩, hn0, r5⟩
            · by_cases ht : t < nt
              · rw [tmOf_get ht]
                have hx := r1.rep t
                exact ups_slot (zipU_le i5) (fun p hp => bndL_mem (hbv s1) _ (zipU_mem hp)) hx
              · rw [tmOf_out ht]; exact .top _
            · rw [tmOf_len, ← i3]; exact r1.le
          obtain ⟨H, hH, hround⟩ := round s s1 hJ (fun t => keepB (M s1).length (st1.tm.getD t .top))
          have hsat : (codeL P q H Λ0 n (lp (blk id' B)) ⟨tmOf (ups (fun t => keepB (M s1).length (st1.tm.getD t .top)) (zipU ts (vals s1))) nt, M s1⟩).Sat (fun p => match p.1 with | .normal => ∃ s2 ex, μ s2 < μ s1 ∧ J s s2 ∧ p.2.tm.length = nt ∧ p.2.mem = M s2 ++ ex ∧ LeL (ts.map fun t => p.2.tm.getD t .top) (vals s2) ∧ n0 ≤ (M s2).length | _ => ∃ st2, p = (.exit id', st2) ∧ Wk st2 ⟨tmOf (ups (fun _ => .top) (fin s).1) nt, (fin s).2⟩) := by
            rcases hround with ⟨ds', o', avs, s2, ex2, r1, r2, r3, r4, r5, r6⟩ | ⟨ds', o', avs, r1, r2, r3⟩
            · refine seesL_sat r1 r2 fun ex st2 hx ha hn hmm => ?_
              cases ex with
              | normal => exact ⟨s2, ex2, r6, r4, hn, hmm, by rw [ha]; exact r3, by rw [r5]; exact hn0⟩
              | exit i => simp [exNo] at hx
              | ret => simp [exNo] at hx
            · refine seesL_sat r1 r2 fun ex st2 hx ha hn hmm => ?_
              cases ex with
              | normal => simp [exNo] at hx
              | ret => simp [exNo] at hx
              | exit i =>
                simp [exNo] at hx
                subst hx
                refine ⟨st2, rfl, hmm.symm, by rw [hn, tmOf_len], fun t ρ N v hr => ?_⟩
                by_cases ht : t < nt
                · rw [tmOf_get ht]
                  have : ∀ {l : List (Nat × AV)}, (∀ p ∈ l, ∃ a, (p.1, a) ∈ zipU ts avs ∧ Le1 a p.2) → Rep ρ N (ups (fun _ => .top) l t) v := by
                    intro l
                    induction l with
                    | nil => intro _; exact .top _
                    | cons p l ih =>
                      intro hl
                      obtain ⟨i, a⟩ := p
                      unfold ups
                      cases hb : Nat.beq t i with
                      | true =>
                        have := Nat.eq_of_beq_eq_true hb
                        subst this
                        obtain ⟨a', q1, q2⟩ := hl _ (List.mem_cons_self ..)
                        have := zipU_of ha _ q1
                        simp only at this
                        rw [this] at hr
                        exact q2.rep hr
                      | false => exact ih fun p hp => hl p (List.mem_cons_of_mem _ hp)
                  exact this r3
                · rw [tmOf_out ht]; exact .top _
          refine wp_mono ((codeL_sound hm hH hΛ0 n).1 hc' hsat w0 S ρ0 n0 ds a w hw) fun e a' w' he => ?_
          cases e with
          | normal => obtain ⟨st', ⟨s2, ex2, k1, k2, k3, k4, k5, k6⟩, k7⟩ := he; exact ih s2 st' ex2 (by omega) k2 k3 k4 k5 w0 S ρ0 n0 ds a' w' k6 k7
          | exit i => obtain ⟨st', k1, k2⟩ := he; exact ⟨st', k1, k2⟩
          | ret => obtain ⟨st', k1, k2⟩ := he; exact ⟨st', k1, k2⟩
          | goto l => exact he
          | panic ch => exact he
          | outgrown => exact he
      exact fun w0 S ρ0 n0 ds a w hs => wp_loop_rounds (μ s1 + 1) (key (μ s1 + 1) s1 st [] (by omega) p4 hlen (by rw [List.append_nil]; exact p2) p1 w0 S ρ0 n0 ds a w (by rw [← p2]; exact hs.le) hs)
    · exact hΛ.ok hc hl ho
  · exact hΛ.ok hc hl ho
end
end Go.Ev
namespace Go.Ev
set_option linter.unusedSectionVars false
variable [Tab]
def turnC (P : Program) (q : FuncId → Bool) (H : CallH) (fuel : Nat) (g : FuncId) (ds : List Bool) (X : CallH) : CallH := fun f args m =>
  match decide (f = g) with
  | true => match ((funcA P q H fuel f args (roAll m)).go ds).flat with
    | some (o, (v, m')) => some (o, (v, m ++ onlyRw (m'.drop m.length)))
    | none => X f args m
  | false => X f args m
section
variable {P : Program} {q : FuncId → Bool} {H X : CallH}
theorem HOk.turn (hm : P.follows .mixedOrders = true) (hng : noCount P = true) (hH : HOk P H) (hX : HOk P X) (fuel : Nat) (g : FuncId) (ds : List Bool) : HOk P (turnC P q H fuel g ds X) := by
  have both : ∀ {f : FuncId} {xs : List AV} {m : Mem} {ob : List Bool} {v : AV} {m' : Mem}, turnC P q H fuel g ds X f xs m = some (ob, (v, m')) → Paid ob →
      m.length ≤ m'.length ∧ ∀ {w0 : World} {S : Nat → Prop} {ρ : Nat → Loc3} {w : World} {vs : List Value}, Reps ρ (upto m.length) xs vs → Inv w0 S (upto m.length) ρ (getName m) w →
      CallRun P f vs.toArray w (fun u w' => ∃ ρ', Rep ρ' (upto m'.length) v u ∧ Inv w0 S (upto m'.length) ρ' (getName m') w' ∧ Agr ρ ρ' (upto m.length)) := by
    intro f xs m ob v m' h ho
    have hl : (roAll m).length = m.length := by simp [roAll]
    unfold turnC at h
    split at h
    · split at h
      · rename_i o1 x m1 hflat
        cases h
        have hsat := go_sound (flat_sound hflat ho)
        refine ⟨by simp, fun {w0 S ρ w vs} ha hi => ?_⟩
        obtain ⟨hf, hc⟩ := funcA_sound hm hH hsat (w0 := w) (S := fun _ => False) (by rw [hl]; exact ha) (ro_start hi)
        refine callRun_of hng hf (hc.mono fun e w' ⟨u, h1, x', m2, ρ', k1, k2, k3, k4, k5⟩ => ⟨u, h1, ρ', ?_⟩)
        cases k1
        rw [hl] at k4 k5
        have hlen : (m ++ onlyRw (m1.drop m.length)).length = m1.length := by simp [onlyRw]; omega
        rw [hlen]
        refine ⟨k2, hi.join k3 (fun _ h => h.elim) (fun i hi => by simp [upto] at *; omega) (fun _ h => h) k4 (fun _ _ => rfl) fun k b hk => ?_, k4⟩
        rw [getName_app] at hk
        split at hk
        · exact Or.inl ⟨hk, fun h => h⟩
        · right
          obtain ⟨g1, g2⟩ := getName_onlyRw hk
          rw [getName_drop, show m.length + (k - m.length) = k by omega] at g1
          exact ⟨g1, g2⟩
      · exact ⟨hX.le h ho, fun ha hi => hX.run h ho ha hi⟩
    · exact ⟨hX.le h ho, fun ha hi => hX.run h ho ha hi⟩
  exact ⟨@fun f xs m ob v m' h ho => (both h ho).1, @fun f xs m ob v m' h ho w0 S ρ w vs ha hi => (both h ho).2 ha hi⟩
end
end Go.Ev
namespace Go.Ev
set_option linter.unusedSectionVars false
variable [Tab]
open Go.ChangeShapes Go.WideShapes Go.ChangeAt Go.RowKit
section
variable {P : Program} {q : FuncId → Bool} {H : CallH} {Λ : LoopH}
end
end Go.Ev
namespace Go.Ev
set_option linter.unusedSectionVars false
variable [Tab]
section
variable {P : Program} {q : FuncId → Bool} {H X : CallH} {Λ : LoopH}
end
end Go.Ev
