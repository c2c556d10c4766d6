/- Calls that look at memory laid anew under names of its own: the general contract; that of a struct whose first part is a slice of another block, its answer in memory that it made. Own work. -/
import Derived.Test.YtfmgodgakndjcaaQEvTwo
import Derived.Test.YtfmgodgakndjcaaQEvNone
set_option linter.unusedSimpArgs false
set_option linter.unusedVariables false
set_option linter.unusedSectionVars false
namespace Go.Ev
set_option linter.unusedSectionVars false
variable [Tab]
/-- A call that looks at memory M, and makes memory. -/
def RCall (P : Program) (g : FuncId) (cas : List AV) (M : Mem) (v : AV) (bs : Mem) : Prop :=
  ∀ {ρ : Nat → Loc3} {vs : List Value} {w : World}, Reps ρ (upto M.length) cas vs → Inv w (fun _ => False) (upto M.length) ρ (getName M) w →
    CallRun P g vs.toArray w (fun u w' => ∃ ρ', Rep ρ' (upto (M.length + bs.length)) (upA M.length v) u ∧
      Inv w (fun _ => False) (upto (M.length + bs.length)) ρ' (getName (M ++ onlyRw (bs.map (upB M.length)))) w')
section
variable {P : Program} {q : FuncId → Bool} {H : CallH} {Λ : LoopH}
/-- Its use, in a caller's memory. -/
theorem RCall.use {f : FuncId} {cas : List AV} {M m bs : Mem} {v1 : AV} (hc : RCall P f cas M v1 bs) {w0 : World} {S : Nat → Prop} {ρ Ls : Nat → Loc3} {w : World} {vs : List Value} (hi : Inv w0 S (upto m.length) ρ (getName m) w)
    (k1 : Reps Ls (upto M.length) cas vs) (k2 : Inv w (fun _ => False) (upto M.length) Ls (getName M) w) :
    CallRun P f vs.toArray w (fun u w' => ∃ ρ', Rep ρ' (upto (m ++ onlyRw (bs.map (upB m.length))).length) (upA m.length v1) u ∧ Inv w0 S (upto (m ++ onlyRw (bs.map (upB m.length))).length) ρ' (getName (m ++ onlyRw (bs.map (upB m.length)))) w' ∧ Agr ρ ρ' (upto m.length)) := by
  refine (hc k1 k2).mono fun u w' ⟨ρ', r1, r2⟩ => ?_
  have hl : (m ++ onlyRw (bs.map (upB m.length))).length = m.length + bs.length := by simp [onlyRw]
  rw [hl]
  let ρf : Nat → Loc3 := fun n => if n < m.length then ρ n else ρ' (n - m.length + M.length)
  have hag : Agr ρ ρf (upto m.length) := fun i hi => by
    have : i < m.length := hi
    simp [ρf, this]
  have hN : ∀ n, upto (M.length + bs.length) (n + M.length) → upto (m.length + bs.length) (n + m.length) ∧ ρf (n + m.length) = ρ' (n + M.length) := fun n hn => by
    refine ⟨by simp [upto] at *; omega, ?_⟩
    simp only [ρf]
    rw [if_neg (by omega), Nat.add_sub_cancel]
  refine ⟨ρf, upA_rep hN r1, ?_, hag⟩
  -- the new blocks, under their names
  have r3 : Inv w (fun _ => False) (upto (m.length + bs.length)) ρf (fun n => if n < m.length then Option.none else getName (onlyRw (bs.map (upB m.length))) (n - m.length)) w' := by
    have blk : ∀ n b, (if n < m.length then Option.none else getName (onlyRw (bs.map (upB m.length))) (n - m.length)) = some b → (m.length ≤ n ∧ n < m.length + bs.length) ∧ b.rw = true ∧
        ∃ c, b.c = upC m.length c ∧ getName (M ++ onlyRw (bs.map (upB M.length))) (n - m.length + M.length) = some ⟨true, upC M.length c⟩ := by
      intro n b hn
      split at hn
      · cases hn
      · rename_i hlt
        obtain ⟨g1, g2, c, g3, g4⟩ := up_name hn
        refine ⟨by omega, g1, c, g3, ?_⟩
        rw [getName_app, if_neg (by omega), Nat.add_sub_cancel]
        exact g4 _
    refine ⟨⟨fun n b hn => ?_, fun i j bi bj hi hj hij hr => ?_, fun n b hn => ?_, r2.sim.tab, fun G c hG n b hn hr => by
      obtain ⟨h1, h2, c, h3, h4⟩ := blk n b hn
      have e : ρf n = ρ' (n - m.length + M.length) := by simp only [ρf]; rw [if_neg (by omega)]
      rw [e]
      exact r2.sim.apart G _ hG _ _ h4 rfl⟩, r2.size, r2.frame, r2.os, r2.tape, r2.output, fun n b hn hr => ?_⟩
    · obtain ⟨h1, h2, c, h3, h4⟩ := blk n b hn
      obtain ⟨cs, t, lo', hi', b1, b2, b3, b4, b5⟩ := (r2.sim.blk _ _ h4).ex
      have e : ρf n = ρ' (n - m.length + M.length) := by simp only [ρf]; rw [if_neg (by omega)]
      refine ⟨cs, t, lo', hi', by rw [e]; exact b1, by rw [e]; exact b2, fun _ => b3 rfl, ?_, ?_⟩
      · rw [e, h3, upC_len]; rw [upC_len] at b4; exact b4
      · rw [e, h3]; exact upC_rep hN b5
    · obtain ⟨h1, h2, c, h3, h4⟩ := blk i bi hi
      obtain ⟨h1', h2', c', h3', h4'⟩ := blk j bj hj
      have e : ρf i = ρ' (i - m.length + M.length) := by simp only [ρf]; rw [if_neg (by omega)]
      have e' : ρf j = ρ' (j - m.length + M.length) := by simp only [ρf]; rw [if_neg (by omega)]
      rw [e, e']
      exact r2.sim.inj _ _ _ _ h4 h4' (by omega) rfl
    · obtain ⟨h1, _⟩ := blk n b hn
      simp [upto]; omega
    · obtain ⟨h1, h2, c, h3, h4⟩ := blk n b hn
      have e : ρf n = ρ' (n - m.length + M.length) := by simp only [ρf]; rw [if_neg (by omega)]
      rw [e]
      exact r2.rws _ _ h4 rfl
  refine hi.join (S1 := fun _ => False) r3 (fun _ h => h.elim) (fun i hi => by simp [upto] at *; omega) (fun _ h => h) hag (fun _ _ => rfl) fun n b hn => ?_
  rw [getName_app] at hn
  split at hn
  · exact Or.inl ⟨hn, fun h => h⟩
  · rename_i hlt
    refine Or.inr ⟨by rw [if_neg hlt]; exact hn, (getName_onlyRw hn).2⟩

/-- What such a function is shown: the struct, what its first part shows, and views. -/
def eMem (sl : AV) (r : List AV) (d : Cells) (xs : List V) : Mem := some ⟨false, .wide (sl :: r)⟩ :: some ⟨false, d⟩ :: cMem xs
def eArgs (xs : List V) : List AV := .ptr false 0 0 :: cArgs 2 xs
def withE (g : FuncId) (spec : AV → List AV → Cells → List V → E (AV × Mem)) (X : CallH) : CallH := fun f args m =>
  match decide (f = g), args with
  | true, .ptr false n 0 :: ars => (match getName m n with
    | some ⟨_, .wide (.slice s p o k cap e :: r)⟩ => (match getName m p with
      | some b2 => (match r.all plainN && plainC b2.c with
        | true => (match viewsA m ars with
          | some (o1, xs) => (match spec (.slice s 1 o k cap e) r b2.c xs with
            | some (o2, (v, bs)) => some (o1 ++ o2, (upA m.length v, m ++ onlyRw (bs.map (upB m.length))))
            | none => X f args m)
          | none => X f args m)
        | false => X f args m)
      | none => X f args m)
    | _ => X f args m)
  | _, _ => X f args m
theorem HOk.withE {g : FuncId} {spec : AV → List AV → Cells → List V → E (AV × Mem)} (hX : HOk P H) (h : ∀ sl r d xs o v bs, spec sl r d xs = some (o, (v, bs)) → Paid o → RCall P g (eArgs xs) (eMem sl r d xs) v bs) : HOk P (withE g spec H) := by
  have both : ∀ {f : FuncId} {ars : List AV} {m : Mem} {ob : List Bool} {v : AV} {m' : Mem}, Go.Ev.withE g spec H f ars m = some (ob, (v, m')) → Paid ob →
      m.length ≤ m'.length ∧ ∀ {w0 : World} {S : Nat → Prop} {ρ : Nat → Loc3} {w : World} {vs : List Value}, Reps ρ (upto m.length) ars vs → Inv w0 S (upto m.length) ρ (getName m) w →
      CallRun P f vs.toArray w (fun u w' => ∃ ρ', Rep ρ' (upto m'.length) v u ∧ Inv w0 S (upto m'.length) ρ' (getName m') w' ∧ Agr ρ ρ' (upto m.length)) := by
    intro f ars m ob v m' hr ho
    have old : ∀ {f ars m ob v m'}, H f ars m = some (ob, (v, m')) → Paid ob → m.length ≤ m'.length ∧ ∀ {w0 : World} {S : Nat → Prop} {ρ : Nat → Loc3} {w : World} {vs : List Value}, Reps ρ (upto m.length) ars vs → Inv w0 S (upto m.length) ρ (getName m) w →
      CallRun P f vs.toArray w (fun u w' => ∃ ρ', Rep ρ' (upto m'.length) v u ∧ Inv w0 S (upto m'.length) ρ' (getName m') w' ∧ Agr ρ ρ' (upto m.length)) := fun hr ho => ⟨hX.le hr ho, fun ha hi => hX.run hr ho ha hi⟩
    unfold Go.Ev.withE at hr
    split at hr
    case h_2 => exact old hr ho
    rename_i n ars' hf
    simp at hf
    subst hf
    split at hr
    case h_2 => exact old hr ho
    rename_i rw s p o k cap e r hn
    split at hr
    case h_2 => exact old hr ho
    rename_i b2 hp
    split at hr
    case h_2 => exact old hr ho
    rename_i hpl
    simp only [Bool.and_eq_true] at hpl
    obtain ⟨p1, p3⟩ := hpl
    split at hr
    case h_2 => exact old hr ho
    rename_i o1 xs hv
    split at hr
    case h_2 => exact old hr ho
    rename_i o2 v1 bs hs
    cases hr
    have hpd := paid_append.1 ho
    refine ⟨by simp, fun {w0 S ρ w vs} ha hi => ?_⟩
    have hc : RCall P f (eArgs xs) (eMem (.slice s 1 o k cap e) r b2.c xs) v1 bs := h _ _ _ _ _ _ _ hs hpd.2
    cases ha with
    | cons _ _ u us hu hus =>
    obtain ⟨Lv, c1, c2⟩ := viewsA_ok hi.sim hv hpd.1 hus 2
    let ρ2 : Nat → Loc3 := fun x => match x with | 0 => ρ n | 1 => ρ p | x + 2 => Lv x
    have hML : (eMem (.slice s 1 o k cap e) r b2.c xs).length = xs.length + 2 := by simp [eMem, cMem]
    have hρ : ∀ i, ρ2 (2 + i) = Lv i := fun i => by rw [Nat.add_comm]
    obtain ⟨cs, t, lo', hi', b1, b2', b3, b4, b5⟩ := (hi.sim.blk n _ hn).ex
    obtain ⟨cs2, t2, lo2, hi2, d1, d2, d3, d4, d5⟩ := (hi.sim.blk p _ hp).ex
    have gM : ∀ x b, getName (eMem (.slice s 1 o k cap e) r b2.c xs) x = some b → b.rw = false ∧ ((x = 0 ∧ b = ⟨false, .wide (.slice s 1 o k cap e :: r)⟩) ∨ (x = 1 ∧ b = ⟨false, b2.c⟩) ∨ ∃ i, x = i + 2 ∧ getName (cMem xs) i = some b) := fun x b hx => by
      match x, hx with
      | 0, hx => cases hx; exact ⟨rfl, Or.inl ⟨rfl, rfl⟩⟩
      | 1, hx => cases hx; exact ⟨rfl, Or.inr (Or.inl ⟨rfl, rfl⟩)⟩
      | i + 2, hx =>
        have hx' : getName (cMem xs) i = some b := by
          unfold getName eMem at hx
          unfold getName
          simpa using hx
        exact ⟨(c2 i b hx').1, Or.inr (Or.inr ⟨i, rfl, hx'⟩)⟩
    refine hc.use (Ls := ρ2) hi ?_ ?_
    · rw [hML]
      refine .cons _ _ _ _ ?_ (c1 ρ2 _ fun i hi => ⟨hρ i, by simp [upto]; omega⟩)
      cases hu with
      | ptr _ _ _ hnn => exact Rep.ptr (ρ := ρ2) (N := upto (xs.length + 2)) false 0 0 (show (0 : Nat) < xs.length + 2 by omega)
    · refine Inv.start _ ⟨fun x b hx => ?_, fun i j bi bj h1 h2 hij hrw => ?_, fun x b hx => getName_lt hx, hi.sim.tab, fun G c hG x b hx hrw => ?_⟩ fun x b hx hrw => ?_
      · rcases (gM x b hx).2 with ⟨rfl, rfl⟩ | ⟨rfl, rfl⟩ | ⟨i, rfl, hx'⟩
        · refine ⟨cs, t, lo', hi', b1, b2', (fun h => by cases h), b4, ?_⟩
          refine ⟨WOk.cons (fun k n xs e => by cases e) b5.1.tail, fun i a hia => ?_⟩
          cases i with
          | zero =>
            have hia' : (AV.slice s 1 o k cap e :: exp r)[0]? = some a := hia
            simp only [List.getElem?_cons_zero, Option.some.injEq] at hia'
            subst hia'
            obtain ⟨v0, g1, g2⟩ := b5.2 0 (AV.slice s p o k cap e) rfl
            refine ⟨v0, g1, ?_⟩
            cases g2 with
            | slice _ _ _ _ _ _ c ad hnn hcc hll hww hadd => exact Rep.slice (ρ := ρ2) s 1 o k cap e c ad (by rw [hML]; simp [upto]) hcc hll hww hadd
          | succ i =>
            have hia' : (exp r)[i]? = some a := hia
            obtain ⟨v0, g1, g2⟩ := b5.2 (i + 1) a hia'
            exact ⟨v0, g1, plainN_rep g2 (exp_plainN p1 a (List.mem_of_getElem? hia'))⟩
        · exact ⟨cs2, t2, lo2, hi2, d1, d2, (fun h => by cases h), d4, plainC_rep d5 p3⟩
        · have := (c2 i b hx').2 ρ2 (upto (eMem (.slice s 1 o k cap e) r b2.c xs).length) (hρ i)
          rwa [Nat.add_comm] at this
      · rw [(gM i bi h1).1] at hrw; cases hrw
      · rw [(gM x b hx).1] at hrw; cases hrw
      · rw [(gM x b hx).1] at hrw; cases hrw
  exact ⟨@fun f ars m ob v m' h ho => (both h ho).1, @fun f ars m ob v m' h ho w0 S ρ w vs ha hi => (both h ho).2 ha hi⟩
/-- Such a contract, off the function's text. -/
theorem rcall_of_goR (hm : P.follows .mixedOrders = true) (hng : noCount P = true) (hH : HOk P H) {n : Nat} {g : FuncId} {cas : List AV} {M : Mem} (hΛ : ∀ fn c, P.funcs[g]? = some fn → fn.body = some c → LOkN M.length P c Λ) {o : List Bool} {v v' : AV} {m' bs : Mem} (ds : List Bool) (r : Nat → Nat)
    (h : ((funcL P q H Λ n g cas M).go ds).flat = some (o, (v', m'))) (ho : Paid o) (hv : v' = renA r (upA M.length v)) (hba : bndA (M.length + bs.length) (upA M.length v) = true)
    (hp : Pulls r m' 0 (List.replicate M.length none ++ onlyRw (bs.map (upB M.length)))) (hbm : bndM (M.length + bs.length) (List.replicate M.length none ++ onlyRw (bs.map (upB M.length))) = true) (hinj : injB r (M.length + bs.length) = true) (hfix : fixB r M.length = true) : RCall P g cas M v bs := by
  intro ρ vs w ha hi
  have hM : (List.replicate M.length none ++ onlyRw (bs.map (upB M.length))).length = M.length + bs.length := by simp [onlyRw]
  obtain ⟨hf, hc⟩ := funcN_sound hm hH hΛ (Nat.le_refl _) (go_sound (flat_sound h ho)) ha hi
  refine callRun_of hng hf (hc.mono fun e w' ⟨u, h1, x', m2, ρ', k1, k2, k3, k4, k5⟩ => ⟨u, h1, fun n => ρ' (r n), ?_, ?_⟩)
  · cases k1
    rw [hv] at k2
    exact k2.ren _ rfl hba
  · cases k1
    have k4' : Agr ρ (fun n => ρ' (r n)) (upto M.length) := fun i hi => by
      show ρ' (r i) = ρ i
      rw [fixB_of hfix hi]
      exact k4 i hi
    have k3' := k3.ren hp (by rw [hM]; exact hbm) (by rw [hM]; exact hinj)
    rw [hM] at k3'
    refine hi.join (S1 := fun _ => False) k3' (fun _ h => h.elim) (fun i hi => by simp [upto] at *; omega) (fun _ h => h) k4' (fun _ _ => rfl) fun n b hn => ?_
    rw [getName_app] at hn
    split at hn
    · exact Or.inl ⟨hn, fun h => h⟩
    · rename_i hlt
      obtain ⟨g1, g2⟩ := getName_onlyRw hn
      refine Or.inr ⟨?_, g2⟩
      rw [getName_app, if_neg (by simpa using hlt)]
      simpa using hn
theorem rcall_one (hm : P.follows .mixedOrders = true) (hng : noCount P = true) (hH : HOk P H) {n : Nat} {g : FuncId} {cas : List AV} {M : Mem} (hΛ : ∀ fn c, P.funcs[g]? = some fn → fn.body = some c → LOkN M.length P c Λ) {o : List Bool} {v v' : AV} {k : IntKind} {sz : Option Nat} {l : List Int} (ds : List Bool) (j : Nat)
    (h : seeV j ((funcL P q H Λ n g cas M).go ds) = some (o, v', some (some ⟨true, .ints k sz l⟩))) (ho : Paid o) (hj : M.length ≤ j) (hv : v' = renA (oneR M.length j) (upA M.length v)) (hba : bndA (M.length + 1) (upA M.length v) = true) :
    RCall P g cas M v [some ⟨true, .ints k sz l⟩] := by
  unfold seeV at h
  split at h
  · rename_i o' v2 m' hf
    simp only [Option.some.injEq, Prod.mk.injEq] at h
    obtain ⟨h1, h2, h3⟩ := h
    subst h1 h2
    have one : oneR M.length j (0 + M.length) = j := by
      unfold oneR
      rw [show Nat.beq (0 + M.length) M.length = true by rw [Nat.zero_add]; exact Nat.beq_refl _]
    have pulls : ∀ (a b : Nat) (M2 : Mem), Pulls (oneR M.length j) m' (b + a) M2 → Pulls (oneR M.length j) m' b (List.replicate a none ++ M2) := by
      intro a
      induction a with
      | zero => intro b M2 h; exact h
      | succ a ih =>
        intro b M2 h
        rw [List.replicate_succ, List.cons_append]
        exact ih (b + 1) M2 (by rw [show b + 1 + a = b + (a + 1) by omega]; exact h)
    have bnd : ∀ (a k' : Nat) (M2 : Mem), bndM k' M2 = true → bndM k' (List.replicate a none ++ M2) = true := by
      intro a
      induction a with
      | zero => intro k' M2 h; exact h
      | succ a ih => intro k' M2 h; rw [List.replicate_succ, List.cons_append]; exact ih k' M2 h
    intro ρ vs w ha hi
    exact rcall_of_goR (bs := [some ⟨true, .ints k sz l⟩]) hm hng hH hΛ ds (oneR M.length j) hf ho hv hba (pulls _ 0 _ ⟨⟨_, by rw [one]; exact h3, .refl _⟩, trivial⟩) (bnd _ _ _ rfl) (oneR_inj hj) (oneR_fix _ _) ha hi
  · cases h
theorem rcall_none (hm : P.follows .mixedOrders = true) (hng : noCount P = true) (hH : HOk P H) {n : Nat} {g : FuncId} {cas : List AV} {M : Mem} (hΛ : ∀ fn c, P.funcs[g]? = some fn → fn.body = some c → LOkN M.length P c Λ) {o : List Bool} {v v' : AV} {b : Option (Option Blk)} (ds : List Bool) (j : Nat)
    (h : seeV j ((funcL P q H Λ n g cas M).go ds) = some (o, v', b)) (ho : Paid o) (hv : v' = renA id (upA M.length v)) (hba : bndA (M.length + 0) (upA M.length v) = true) (hinj : injB id (M.length + 0) = true := by rfl) (hfix : fixB id M.length = true := by rfl) :
    RCall P g cas M v [] := by
  unfold seeV at h
  split at h
  · rename_i o' v2 m' hf
    simp only [Option.some.injEq, Prod.mk.injEq] at h
    obtain ⟨h1, h2, h3⟩ := h
    subst h1 h2
    have pulls : ∀ (a b : Nat) (M2 : Mem), Pulls id m' (b + a) M2 → Pulls id m' b (List.replicate a none ++ M2) := by
      intro a
      induction a with
      | zero => intro b M2 h; exact h
      | succ a ih =>
        intro b M2 h
        rw [List.replicate_succ, List.cons_append]
        exact ih (b + 1) M2 (by rw [show b + 1 + a = b + (a + 1) by omega]; exact h)
    have bnd : ∀ (a k' : Nat) (M2 : Mem), bndM k' M2 = true → bndM k' (List.replicate a none ++ M2) = true := by
      intro a
      induction a with
      | zero => intro k' M2 h; exact h
      | succ a ih => intro k' M2 h; rw [List.replicate_succ, List.cons_append]; exact ih k' M2 h
    intro ρ vs w ha hi
    exact rcall_of_goR (bs := []) hm hng hH hΛ ds id hf ho hv hba (pulls _ 0 _ trivial) (bnd _ _ _ rfl) hinj hfix ha hi
  · cases h
end
end Go.Ev
