/- Regions of operations, in the text's order and in whatever order: what the evaluator answers holds. Own work. -/
import Derived.Test.YtjhjhhibfojpiaaTEvApp
import Derived.Still
set_option linter.unusedSimpArgs false
set_option linter.unusedVariables false
set_option linter.unusedSectionVars false
namespace Go.Ev
set_option linter.unusedSectionVars false
variable [Tab]

/- names -/
theorem bnd_app {k : Nat} : ∀ {l q : List AV}, bndL k l = true → bndL k q = true → bndL k (l ++ q) = true
  | [], _, _, h => h
  | a :: l, q, h, h' => by
    simp only [bndL, Bool.and_eq_true] at h
    simp only [List.cons_append, bndL, Bool.and_eq_true]
    exact ⟨h.1, bnd_app h.2 h'⟩
theorem bnd_of {k : Nat} : ∀ {l : List AV}, (∀ a ∈ l, bndA k a = true) → bndL k l = true
  | [], _ => rfl
  | a :: l, h => by
    simp only [bndL, Bool.and_eq_true]
    exact ⟨h a (List.mem_cons_self ..), bnd_of fun x hx => h x (List.mem_cons_of_mem _ hx)⟩
theorem bnd_exp {k : Nat} : ∀ {l : List AV}, bndL k l = true → bndL k (exp l) = true
  | [], _ => rfl
  | a :: l, h => by
    simp only [bndL, Bool.and_eq_true] at h
    have ih := bnd_exp h.2
    have e : exp (a :: l) = exp [a] ++ exp l := by rw [← exp_append]; rfl
    rw [e]
    refine bnd_app ?_ ih
    cases a <;> simp only [exp, List.append_nil] <;> try (simp only [bndL, Bool.and_true]; exact h.1)
    exact bnd_of fun x hx => by
      simp [spread] at hx
      obtain ⟨_, _, rfl⟩ := hx
      rfl
mutual
theorem Rep.bnd {ρ : Nat → Loc3} {N : Nat → Prop} {k : Nat} {a : AV} {v : Value} (h : Rep ρ N a v) (hb : bndA k a = true) : Rep ρ (upto k) a v :=
  match h with
  | .top v => .top v
  | .bool s b => .bool s b
  | .int s k n h => .int s k n h
  | .str s l h => .str s l h
  | .ptr s n o _ => .ptr s n o (by simpa [bndA, upto] using hb)
  | .nilptr => .nilptr
  | .slice s n o len cap e c ad _ hc hl hw had => .slice s n o len cap e c ad (by simpa [bndA, upto] using hb) hc hl hw had
  | .nilslice => .nilslice
  | .ints k n l hn h => .ints k n l hn h
  | .bools n l hn => .bools n l hn
  | .agg l vs h => .agg l vs (Reps.bnd h (by simpa [bndA] using hb))
  | .tuple l vs h => .tuple l vs (Reps.bnd h (by simpa [bndA] using hb))
  | .grdT a v h => .grdT a v (Rep.bnd h (by simpa [bndA] using hb))
  | .grdF a => .grdF a
  | .func f cap vs h => .func f cap vs (Reps.bnd h (by simpa [bndA] using hb))
  | .nilfunc => .nilfunc
  | .iface t a v h => .iface t a v (Rep.bnd h (by simpa [bndA] using hb))
  | .niliface => .niliface
  | .wagg l vs hw h => .wagg l vs hw (Reps.bnd h (bnd_exp (by simpa [bndA] using hb)))
  | .wptr s n b o _ => .wptr s n b o (by simpa [bndA, upto] using hb)
  | .wslice s n b o len cap c ad _ hc hl hw had => .wslice s n b o len cap c ad (by simpa [bndA, upto] using hb) hc hl hw had
  | .gptr s g o => .gptr s g o
theorem Reps.bnd {ρ : Nat → Loc3} {N : Nat → Prop} {k : Nat} {l : List AV} {vs : List Value} (h : Reps ρ N l vs) (hb : bndL k l = true) : Reps ρ (upto k) l vs :=
  match h with
  | .nil => .nil
  | .cons a l v vs h hs => by
    simp only [bndL, Bool.and_eq_true] at hb
    exact .cons a l v vs (Rep.bnd h hb.1) (Reps.bnd hs hb.2)
end

theorem plain0_rep {ρ ρ' : Nat → Loc3} {N N' : Nat → Prop} {a : AV} {v : Value} (h : Rep ρ N a v) (hp : plain0 a = true) : Rep ρ' N' a v := by
  cases h <;> simp [plain0] at hp
  case bool => exact .bool _ _
  case int h => exact .int _ _ _ h
  case str h => exact .str _ _ h
  case ints hn h => exact .ints _ _ _ hn h
theorem plain0L_rep {ρ ρ' : Nat → Loc3} {N N' : Nat → Prop} : ∀ {l : List AV} {vs : List Value}, Reps ρ N l vs → (∀ x ∈ l, plain0 x = true) → Reps ρ' N' l vs
  | _, _, .nil, _ => .nil
  | _, _, .cons a l v vs h hs, hp => .cons a l v vs (plain0_rep h (hp a (List.mem_cons_self ..))) (plain0L_rep hs fun x hx => hp x (List.mem_cons_of_mem _ hx))
theorem plainA_rep {ρ ρ' : Nat → Loc3} {N N' : Nat → Prop} {a : AV} {v : Value} (h : Rep ρ N a v) (hp : plainA a = true) : Rep ρ' N' a v := by
  cases h <;> simp [plainA] at hp
  case bool => exact .bool _ _
  case int h => exact .int _ _ _ h
  case str h => exact .str _ _ h
  case ints hn h => exact .ints _ _ _ hn h
  case bools hn => exact .bools _ _ hn
  case agg h => exact .agg _ _ (plain0L_rep h fun x hx => hp x hx)
  case wagg hw h =>
    refine .wagg _ _ hw (plain0L_rep h fun x hx => ?_)
    rename_i l vs
    clear h hw
    induction l with
    | nil => simp [exp] at hx
    | cons a l ih =>
      have e : exp (a :: l) = exp [a] ++ exp l := by rw [← exp_append]; rfl
      rw [e] at hx
      rcases List.mem_append.1 hx with hx | hx
      · have ha := hp a (List.mem_cons_self ..)
        cases a <;> simp [plain0] at ha <;> simp [exp] at hx <;> try (subst hx; rfl)
        simp [spread] at hx
        obtain ⟨_, _, rfl⟩ := hx
        rfl
      · exact ih (fun y hy => hp y (List.mem_cons_of_mem _ hy)) hx
theorem plainL_rep {ρ ρ' : Nat → Loc3} {N N' : Nat → Prop} : ∀ {l : List AV} {vs : List Value}, Reps ρ N l vs → l.all plainA = true → Reps ρ' N' l vs
  | _, _, .nil, _ => .nil
  | _, _, .cons a l v vs h hs, hp => by
    simp only [List.all_cons, Bool.and_eq_true] at hp
    exact .cons a l v vs (plainA_rep h hp.1) (plainL_rep hs hp.2)
theorem plainAs_rep {ρ ρ' : Nat → Loc3} {N N' : Nat → Prop} {a : AV} {v : Value} (h : Rep ρ N a v) (hp : plainAs a = true) : Rep ρ' N' a v := by
  unfold plainAs at hp
  split at hp
  · cases h with
    | tuple _ vs h => exact .tuple _ _ (plainL_rep h hp)
  · exact plainA_rep h hp

theorem CRep.bnd {ρ : Nat → Loc3} {N : Nat → Prop} {k : Nat} {c : Cells} {f : Nat → Option Value} (h : CRep ρ N c f) (hb : ∀ l, c = .vals l ∨ c = .wide l ∨ (∃ n r i a, c = .one n r i a ∧ l = [a]) → bndL k l = true) : CRep ρ (upto k) c f := by
  have get : ∀ (a : AV) (l : List AV) (i : Nat), bndL k l = true → l[i]? = some a → bndA k a = true := by
    intro a l
    induction l with
    | nil => intro i _ h; simp at h
    | cons x l ih =>
      intro i hb h
      simp only [bndL, Bool.and_eq_true] at hb
      cases i with
      | zero => simp at h; subst h; exact hb.1
      | succ i => exact ih i hb.2 (by simpa using h)
  cases c with
  | vals l =>
    intro i a hi
    obtain ⟨v, h1, h2⟩ := h i a hi
    refine ⟨v, h1, h2.bnd ?_⟩
    exact get a l i (hb l (Or.inl rfl)) hi
  | wide l => exact ⟨h.1, fun i a hi => let ⟨v, h1, h2⟩ := h.2 i a hi; ⟨v, h1, h2.bnd (get a _ i (bnd_exp (hb l (Or.inr (Or.inl rfl)))) hi)⟩⟩
  | one n r j x => exact ⟨h.1, h.2.1, h.2.2.bnd (get x [x] 0 (hb [x] (Or.inr (Or.inr ⟨n, r, j, x, rfl, rfl⟩))) rfl)⟩
  | rows n r => exact h
  | ints k' sz l => exact h
  | bools n l => exact h

theorem bndM_get {k : Nat} : ∀ {m : Mem} {n : Nat} {b : Blk}, bndM k m = true → getName m n = some b → ∀ l, b.c = .vals l ∨ b.c = .wide l ∨ (∃ n r i a, b.c = .one n r i a ∧ l = [a]) → bndL k l = true
  | [], n, b, _, h, _, _ => by simp [getName] at h
  | x :: m, 0, b, hb, h, l, hl => by
    cases x with
    | none => simp [getName] at h
    | some y =>
      simp [getName] at h
      subst h
      obtain ⟨rw, c⟩ := y
      simp only at hl
      rcases hl with hl | hl | ⟨nr, r, i, a, hl, rfl⟩ <;> subst hl <;> simp only [bndM, Bool.and_eq_true] at hb <;> exact hb.1
  | x :: m, n + 1, b, hb, h, l, hl => by
    have h' : getName m n = some b := by simpa [getName] using h
    refine bndM_get (m := m) ?_ h' l hl
    rcases x with _ | ⟨rw, c⟩
    · simpa [bndM] using hb
    · cases c with
      | vals l => simp only [bndM, Bool.and_eq_true] at hb; exact hb.2
      | wide l => simp only [bndM, Bool.and_eq_true] at hb; exact hb.2
      | ints => simpa [bndM] using hb
      | bools => simpa [bndM] using hb
      | one nr r i a => simp only [bndM, Bool.and_eq_true] at hb; exact hb.2
      | rows => simpa [bndM] using hb

theorem getName_ro {m : Mem} {n : Nat} : getName (roAll m) n = (getName m n).map fun b => ⟨false, b.c⟩ := by
  unfold getName roAll
  rw [List.getElem?_map]
  cases h : m[n]? with
  | none => simp
  | some x => cases x <;> simp
theorem getName_take {m : Mem} {n k : Nat} : getName (m.take k) n = if n < k then getName m n else none := by
  unfold getName
  by_cases h : n < k
  · rw [if_pos h, List.getElem?_take_of_lt h]
  · rw [if_neg h, List.getElem?_eq_none (by simp; omega)]
theorem getName_onlyRw {m : Mem} {n : Nat} {b : Blk} (h : getName (onlyRw m) n = some b) : getName m n = some b ∧ b.rw = true := by
  unfold getName onlyRw at h
  unfold getName
  rw [List.getElem?_map] at h
  cases hx : m[n]? with
  | none => simp [hx] at h
  | some x =>
    rcases x with _ | ⟨rw, c⟩
    · simp [hx] at h
    · cases rw <;> simp [hx] at h
      subst h
      simp
theorem getName_drop {m : Mem} {n k : Nat} : getName (m.drop k) n = getName m (k + n) := by
  unfold getName; rw [List.getElem?_drop]
theorem getName_app {m r : Mem} {n : Nat} : getName (m ++ r) n = if n < m.length then getName m n else getName r (n - m.length) := by
  unfold getName
  by_cases h : n < m.length
  · rw [if_pos h, List.getElem?_append_left h]
  · rw [if_neg h, List.getElem?_append_right (by omega)]
theorem getName_keep {m : Mem} {y : Option Nat} {n : Nat} : getName (keep y m) n = if y = some n then getName m n else none := by
  cases y with
  | none => simp [keep, getName]
  | some y =>
    have h0 : keep (some y) m = List.replicate y none ++ [m.getD y none] := rfl
    rw [h0, getName_app]
    simp only [List.length_replicate]
    by_cases h : n < y
    · rw [if_pos h, if_neg (by simp; omega)]
      unfold getName
      simp [h]
    · rw [if_neg h]
      by_cases h2 : y = n
      · subst h2
        simp only [Nat.sub_self, if_true]
        unfold getName
        simp only [List.getElem?_cons_zero]
        rw [List.getD]
        cases m[y]? <;> simp
      · rw [if_neg (by simpa using h2)]
        unfold getName
        rw [List.getElem?_eq_none (by simp; omega)]

/- weakening -/
theorem Sim.sub {ρ : Nat → Loc3} {N : Nat → Prop} {g g' : Nat → Option Blk} {w : World} (h : Sim ρ N g w) (hg : ∀ n b, g' n = some b → ∃ b', g n = some b' ∧ b.c = b'.c ∧ (b.rw = true → b'.rw = true)) : Sim ρ N g' w := by
  refine ⟨fun n b hn => ?_, fun i j bi bj hi hj hij hr => ?_, fun n b hn => ?_, h.tab, fun G c hG n b hn hr => ?_⟩
  · obtain ⟨b', h1, h2, h3⟩ := hg n b hn
    obtain ⟨cs, t, lo, hi, a1, a2, a3, a4, a5⟩ := (h.blk n b' h1).ex
    exact ⟨cs, t, lo, hi, a1, a2, fun hr => a3 (h3 hr), by rw [h2]; exact a4, by rw [h2]; exact a5⟩
  · obtain ⟨bi', h1, h2, h3⟩ := hg i bi hi
    obtain ⟨bj', h4, h5, h6⟩ := hg j bj hj
    exact h.inj i j bi' bj' h1 h4 hij (h3 hr)
  · obtain ⟨b', h1, _⟩ := hg n b hn
    exact h.live n b' h1
  · obtain ⟨b', h1, _, h3⟩ := hg n b hn
    exact h.apart G c hG n b' h1 (h3 hr)
theorem Inv.sub {w0 : World} {S : Nat → Prop} {N : Nat → Prop} {ρ : Nat → Loc3} {g g' : Nat → Option Blk} {w : World} (h : Inv w0 S N ρ g w)
    (hg : ∀ n b, g' n = some b → ∃ b', g n = some b' ∧ b.c = b'.c ∧ (b.rw = true → b'.rw = true)) : Inv w0 S N ρ g' w :=
  ⟨h.sim.sub hg, h.size, h.frame, h.os, h.tape, h.output, fun n b hn hr => by
    obtain ⟨b', h1, _, h3⟩ := hg n b hn
    exact h.rws n b' h1 (h3 hr)⟩

/-- A part's run, over part of the memory, as seen from the whole. -/
theorem Inv.join {w0 : World} {S S1 N N1 N' : Nat → Prop} {ρ ρ1 ρ' : Nat → Loc3} {g g1 g' : Nat → Option Blk} {w w' : World} (hi : Inv w0 S N ρ g w) (hq : Inv w S1 N1 ρ1 g1 w')
    (hS1 : ∀ b, S1 b → S b ∨ w0.heap.size ≤ b) (hN : ∀ i, N i → N' i) (hN1 : ∀ i, N1 i → N' i) (hag : Agr ρ ρ' N) (hag1 : Agr ρ1 ρ' N1)
    (hg : ∀ n b, g' n = some b → (g n = some b ∧ ¬ S1 (ρ n).b) ∨ (g1 n = some b ∧ b.rw = true)) : Inv w0 S N' ρ' g' w' := by
  refine ⟨⟨fun n b hn => ?_, fun i j bi bj h1 h2 hij hr => ?_, fun n b hn => ?_, hq.sim.tab, fun G c hG n b hn hr => ?_⟩, Nat.le_trans hi.size hq.size, fun b hb hS => ?_, hq.os.trans hi.os, hq.tape.trans hi.tape, hq.output.trans hi.output, fun n b hn hr => ?_⟩
  · rcases hg n b hn with ⟨h1, h2⟩ | ⟨h1, h2⟩
    · have hl := hi.sim.live n b h1
      obtain ⟨cs, t, lo, hi', a1, a2, a3, a4, a5⟩ := (hi.sim.blk n b h1).ex
      refine ⟨cs, t, lo, hi', ?_, ?_, a3, ?_, ?_⟩
      · rw [hag n hl, hq.frame _ (hi.sim.lt h1) h2]; exact a1
      · rw [hag n hl]; exact a2
      · rw [hag n hl]; exact a4
      · rw [hag n hl]; exact a5.ext hag hN
    · have hl := hq.sim.live n b h1
      obtain ⟨cs, t, lo, hi', a1, a2, a3, a4, a5⟩ := (hq.sim.blk n b h1).ex
      refine ⟨cs, t, lo, hi', ?_, ?_, a3, ?_, ?_⟩
      · rw [hag1 n hl]; exact a1
      · rw [hag1 n hl]; exact a2
      · rw [hag1 n hl]; exact a4
      · rw [hag1 n hl]; exact a5.ext hag1 hN1
  · have old : ∀ n b, g n = some b → ρ' n = ρ n := fun n b h => hag n (hi.sim.live n b h)
    have new : ∀ n b, g1 n = some b → ρ' n = ρ1 n := fun n b h => hag1 n (hq.sim.live n b h)
    rcases hg i bi h1 with ⟨a1, a2⟩ | ⟨a1, a2⟩ <;> rcases hg j bj h2 with ⟨b1, b2⟩ | ⟨b1, b2⟩
    · rw [old i bi a1, old j bj b1]; exact hi.sim.inj i j bi bj a1 b1 hij hr
    · rw [old i bi a1, new j bj b1]
      intro e
      rcases hq.rws j bj b1 b2 with h | h
      · rw [← e] at h; exact a2 h
      · have := hi.sim.lt a1; omega
    · rw [new i bi a1, old j bj b1]
      intro e
      rcases hq.rws i bi a1 a2 with h | h
      · rw [e] at h; exact b2 h
      · have := hi.sim.lt b1; omega
    · rw [new i bi a1, new j bj b1]; exact hq.sim.inj i j bi bj a1 b1 hij hr
  · rcases hg n b hn with ⟨h1, h2⟩ | ⟨h1, h2⟩
    · exact hN _ (hi.sim.live n b h1)
    · exact hN1 _ (hq.sim.live n b h1)
  · rcases hg n b hn with ⟨h1, h2⟩ | ⟨h1, h2⟩
    · rw [hag n (hi.sim.live n b h1)]; exact hi.sim.apart G c hG n b h1 hr
    · rw [hag1 n (hq.sim.live n b h1)]; exact hq.sim.apart G c hG n b h1 hr
  · have h1 : ¬ S1 b := fun h => by
      rcases hS1 b h with h | h
      · exact hS h
      · omega
    rw [hq.frame b (by have := hi.size; omega) h1]
    exact hi.frame b hb hS
  · rcases hg n b hn with ⟨h1, h2⟩ | ⟨h1, h2⟩
    · rw [hag n (hi.sim.live n b h1)]; exact hi.rws n b h1 hr
    · rw [hag1 n (hq.sim.live n b h1)]
      rcases hq.rws n b h1 h2 with h | h
      · exact hS1 _ h
      · right; have := hi.size; omega

/-- A beginning: nothing may be written. -/
theorem Inv.start {N' : Nat → Prop} {ρ : Nat → Loc3} {g' : Nat → Option Blk} {w : World} (S1 : Nat → Prop)
    (hs : Sim ρ N' g' w) (hr : ∀ n b, g' n = some b → b.rw = true → S1 (ρ n).b) : Inv w S1 N' ρ g' w :=
  ⟨hs, Nat.le_refl _, fun _ _ _ => rfl, rfl, rfl, rfl, fun n b hn hrw => Or.inl (hr n b hn hrw)⟩

/-- What was read leaves all as it was. -/
theorem Inv.none {S N : Nat → Prop} {ρ ρ1 : Nat → Loc3} {g1 : Nat → Option Blk} {w w' : World} {N1 : Nat → Prop} (hq : Inv w S N1 ρ1 g1 w') : Inv w S N ρ (fun _ => Option.none) w' := by
  refine ⟨⟨?_, ?_, ?_, hq.sim.tab, ?_⟩, hq.size, hq.frame, hq.os, hq.tape, hq.output, ?_⟩
  · intro n b h; cases h
  · intro i j bi bj h; cases h
  · intro n b h; cases h
  · intro G c hG n b h; cases h
  · intro n b h; cases h
theorem Inv.quiet {w0 : World} {S N N1 : Nat → Prop} {ρ ρ1 : Nat → Loc3} {g g1 : Nat → Option Blk} {w w' : World} (hi : Inv w0 S N ρ g w) (hq : Inv w (fun _ => False) N1 ρ1 g1 w') : Inv w0 S N ρ g w' :=
  hi.join (S1 := fun _ => False) (hq.none (N := fun _ => False) (ρ := ρ)) (fun _ h => h.elim) (fun _ h => h) (fun _ h => h.elim) (fun _ _ => rfl) (fun _ h => h.elim)
    (fun _ _ h => Or.inl ⟨h, fun h => h⟩)

/- calls -/
def CallRun (P : Program) (f : FuncId) (vs : Array Value) (w : World) (Post : Value → World → Prop) : Prop :=
  match (callFunc f vs).run P w with
  | .ok (.value v) w' => Post v w'
  | .ok (.enter g args) w' => Calls P g args w' (fun e w'' => ∃ v, e = .returned v ∧ Post v w'')
  | _ => False

theorem CallRun.mono {P : Program} {f : FuncId} {vs : Array Value} {w : World} {Q R : Value → World → Prop} (h : CallRun P f vs w Q) (hq : ∀ v w', Q v w' → R v w') : CallRun P f vs w R := by
  unfold CallRun at *
  split at h
  · exact hq _ _ h
  · exact h.mono fun e w'' ⟨v, h1, h2⟩ => ⟨v, h1, hq _ _ h2⟩
  · exact h.elim

structure HOk (P : Program) (H : CallH) : Prop where
  le : ∀ {f as m ob v m'}, H f as m = some (ob, (v, m')) → Paid ob → m.length ≤ m'.length
  run : ∀ {f as m ob v m'}, H f as m = some (ob, (v, m')) → Paid ob → ∀ {w0 S ρ w vs}, Reps ρ (upto m.length) as vs → Inv w0 S (upto m.length) ρ (getName m) w →
    CallRun P f vs.toArray w (fun u w' => ∃ ρ', Rep ρ' (upto m'.length) v u ∧ Inv w0 S (upto m'.length) ρ' (getName m') w' ∧ Agr ρ ρ' (upto m.length))

section
variable {P : Program} {q : FuncId → Bool} {H : CallH}

/-- What an operation comes to: its value (none: undef, of an operation that has none). -/
def Comes1 (P : Program) (o : Oper) (rv : Operand → Value) (w : World) (Post : Value → World → Prop) : Prop :=
  match (execOp rv o).run P w with
  | .ok (.value v) w' => Post v w'
  | .ok .skip w' => Post undef w'
  | .ok (.enter g args) w' => Calls P g args w' (fun e w'' => ∃ v, e = .returned v ∧ Post v w'')
  | _ => False

theorem Comes1.wp {o : Oper} {a : Act} {w : World} {K : Act → World → Prop} {Q : Exit → Act → World → Prop} (h : Comes1 P o a.eval w (fun v w' => K (a.put o.dst v) w')) : o.wp P a w K Q := by
  unfold Oper.wp
  unfold Comes1 at h
  split at h
  · rename_i hr; rw [hr]; exact h
  · rename_i hr; rw [hr]; exact h
  · rename_i hr; rw [hr]
    exact h.mono fun e w'' ⟨v, h1, h2⟩ => by subst h1; exact h2
  · exact h.elim
theorem Comes1.mono {o : Oper} {rv : Operand → Value} {w : World} {Q R : Value → World → Prop} (h : Comes1 P o rv w Q) (hq : ∀ v w', Q v w' → R v w') : Comes1 P o rv w R := by
  unfold Comes1 at *
  split at h
  · exact hq _ _ h
  · exact hq _ _ h
  · exact h.mono fun e w'' ⟨v, h1, h2⟩ => ⟨v, h1, hq _ _ h2⟩
  · exact h.elim
theorem Comes1.value {o : Oper} {rv : Operand → Value} {w w' : World} {Q : Value → World → Prop} {v : Value} (h : (execOp rv o).run P w = .ok (.value v) w') (hq : Q v w') : Comes1 P o rv w Q := by
  unfold Comes1; rw [h]; exact hq
theorem Comes1.call {o : Oper} {rv : Operand → Value} {w : World} {Q : Value → World → Prop} {f : Operand} {args : Array Operand} {ts : Array TypeId} (ho : o.op = .call ⟨.value f, args, ts⟩) {g : FuncId} {cs : Array Value}
    (hf : rv f = .func (.func g) #[] cs) (h : CallRun P g (args.map rv ++ cs) w Q) : Comes1 P o rv w Q := by
  have he : (execOp rv o).run P w = (callFunc g (args.map rv ++ cs)).run P w := by
    simp [execOp, ho, resolve, Deferred.ofValue, invoke, hf]
  unfold Comes1
  rw [he]
  unfold CallRun at h
  split at h
  · rename_i hr; rw [hr]; exact h
  · rename_i hr; rw [hr]; exact h
  · exact h.elim

theorem run_method {t : TypeId} {name : String} {f : FuncId} (h : methodA P t name = some f) (n : Nat) (v : Value) (w : World) : (method (n + 1) t v name).run P w = .ok (f, v) w := by
  unfold methodA at h
  cases hi : P.info? t with
  | none => rw [hi] at h; cases h
  | some i =>
  cases hm : i.methods.find? (·.name == name) with
  | none => simp only [hi, hm] at h; cases h
  | some m =>
  have ht : (typeInfo t).run P w = .ok i w := by simp [typeInfo, hi]
  unfold method
  simp only [Sem.run_bind, ht, Result.andThen_ok, hm]
  simp only [hi, hm] at h
  cases hp : m.path.toList with
  | cons x y => simp only [hp] at h; cases h
  | nil =>
  cases hf : m.func with
  | none => simp only [hp, hf] at h; cases h
  | some p =>
  obtain ⟨g, b⟩ := p
  cases hu : P.underlying t with
  | none => simp only [hp, hf, hu] at h; cases h
  | some d =>
    simp only [hp, hf, hu] at h
    simp only [follow, Sem.run_pure, Result.andThen_ok, Sem.run_bind, receiverAt, run_underlying hu]
    cases d <;> cases b <;> simp only [Option.some.injEq, reduceCtorEq] at h <;> (subst h; rfl)
theorem Comes1.invoke {o : Oper} {rv : Operand → Value} {w : World} {Q : Value → World → Prop} {r : Operand} {name : String} {args : Array Operand} {ts : Array TypeId} (ho : o.op = .call ⟨.invoke r name, args, ts⟩) {t : TypeId} {v : Value} {g : FuncId}
    (hf : rv r = .iface t v) (hm : methodA P t name = some g) (h : CallRun P g (#[v] ++ args.map rv) w Q) : Comes1 P o rv w Q := by
  have he : (execOp rv o).run P w = (callFunc g (#[v] ++ args.map rv)).run P w := by
    have hx : (#[Value.iface t v] ++ args.map rv).extract 1 (#[Value.iface t v] ++ args.map rv).size = args.map rv := by
      apply Array.ext'
      simp [List.take_of_length_le]
    have hk : ∃ k, P.types.size + Made.depth = k + 1 := ⟨P.types.size + (Made.depth - 1), by have : 0 < Made.depth := (by decide); omega⟩
    obtain ⟨k, hk⟩ := hk
    simp only [execOp, ho, resolve, hf, Sem.run_bind, Sem.run_pure, Result.andThen_ok, Go.invoke]
    have h0 : (#[Value.iface t v] ++ args.map rv)[0]? = some (.iface t v) := by rw [Array.getElem?_append_left (by simp)]; rfl
    rw [h0]
    show (callMethod (.iface t v) name ((#[Value.iface t v] ++ args.map rv).extract 1 (#[Value.iface t v] ++ args.map rv).size)).run P w = _
    rw [hx]
    simp only [callMethod, Sem.run_bind, run_program, Result.andThen_ok, hk, run_method hm]
  unfold Comes1
  rw [he]
  unfold CallRun at h
  split at h
  · rename_i hr; rw [hr]; exact h
  · rename_i hr; rw [hr]; exact h
  · exact h.elim

theorem reps_map {ρ : Nat → Loc3} {N : Nat → Prop} {ev : Operand → AV} {rv : Operand → Value} (hev : ∀ x, Rep ρ N (ev x) (rv x)) : ∀ l : List Operand, Reps ρ N (l.map ev) (l.map rv)
  | [] => .nil
  | x :: l => .cons _ _ _ _ (hev x) (reps_map hev l)

/-- One operation, in the text's order. -/
theorem oneA_sound (hH : HOk P H) {w0 : World} {S : Nat → Prop} {ρ : Nat → Loc3} {w : World} {m m' : Mem} {ev : Operand → AV} {rv : Operand → Value} {o : Oper} {ob : List Bool} {av : AV}
    (h : oneA P H ev m o.op = some (ob, (av, m'))) (ho : Paid ob) (hev : ∀ x, Rep ρ (upto m.length) (ev x) (rv x)) (hi : Inv w0 S (upto m.length) ρ (getName m) w) :
    m.length ≤ m'.length ∧ Comes1 P o rv w (fun v w' => ∃ ρ', Rep ρ' (upto m'.length) av v ∧ Inv w0 S (upto m'.length) ρ' (getName m') w' ∧ Agr ρ ρ' (upto m.length)) := by
  unfold oneA at h
  split at h
  · rename_i f args ts hop
    split at h
    · rename_i g cap hf
      have hr := hev f
      rw [hf] at hr
      cases hv : rv f <;> rw [hv] at hr <;> try (cases hr; done)
      rename_i fn first captured
      cases hr with
      | func _ _ cs hcs =>
      have has := (reps_map hev args.toList).append hcs
      refine ⟨hH.le h ho, Comes1.call hop hv ?_⟩
      have := hH.run h ho has hi
      rwa [show ((List.map rv args.toList ++ cs).toArray) = Array.map rv args ++ cs.toArray by simp] at this
    · cases h
  · rename_i r name args ts hop
    split at h
    · rename_i t a hf
      split at h
      · rename_i g hm
        have hr := hev r
        rw [hf] at hr
        cases hv : rv r <;> rw [hv] at hr <;> try (cases hr; done)
        rename_i t2 v
        cases hr with
        | iface _ _ _ hv2 =>
        refine ⟨hH.le h ho, Comes1.invoke hop hv hm ?_⟩
        have := hH.run h ho (.cons _ _ _ _ hv2 (reps_map hev args.toList)) hi
        rwa [show ((v :: List.map rv args.toList).toArray) = #[v] ++ Array.map rv args by apply Array.ext'; simp] at this
      · cases h
    · cases h
  · obtain ⟨⟨v, w', ρ', h1, h2, h3, h4⟩, h5⟩ := opA_sound h ho hev hi
    refine ⟨h5, ?_⟩
    unfold Comes1
    rcases h1 with h1 | ⟨h1, rfl⟩
    · rw [h1]; exact ⟨ρ', h2, h3, h4⟩
    · rw [h1]; exact ⟨ρ', h2, h3, h4⟩

/- one operation, of which nothing is written that was there -/
theorem evT_rep {ρ : Nat → Loc3} {N : Nat → Prop} {st : St} {ts : List Nat} {a : Act} (h : ∀ t, t ∈ ts → Rep ρ N (st.tm.getD t .top) (a.tmps.getD t undef)) (x : Operand) : Rep ρ N (st.evT ts x) (a.eval x) := by
  cases x with
  | tmp t =>
    simp only [St.evT]
    split
    · rename_i ht; exact h t (by simpa using ht)
    · exact .top _
  | const v =>
    simp only [St.evT, St.ev, Act.eval]
    split
    · rename_i b hb; exact ofValue_rep hb
    · exact .top _
  | global g => exact .gptr false g 0
  | func f => exact .func f [] [] .nil

theorem owes_paid {st : St} : ∀ {ts : List Nat}, Paid (st.owes ts) → ∀ t ∈ ts, ∀ c x, st.tm.getD t .top = .grd c x → c = true
  | [], _, t, ht, _, _, _ => by cases ht
  | s :: ts, hp, t, ht, c, x, he => by
    simp only [St.owes] at hp
    rcases List.mem_cons.1 ht with rfl | ht
    · rw [he] at hp
      exact hp c (List.mem_cons_self ..)
    · split at hp
      · exact owes_paid (fun p h => hp p (List.mem_cons_of_mem _ h)) t ht c x he
      · exact owes_paid hp t ht c x he

theorem evS_rep {ρ : Nat → Loc3} {N : Nat → Prop} {st : St} {ts strip : List Nat} {a : Act} (h : ∀ t, t ∈ ts → Rep ρ N (st.tm.getD t .top) (a.tmps.getD t undef)) (ho : Paid (st.owes strip)) (x : Operand) :
    Rep ρ N (st.evS ts strip x) (a.eval x) := by
  cases x with
  | tmp t =>
    simp only [St.evS]
    split
    · rename_i ht
      have ht' : t ∈ ts := by simpa using ht
      have hr := h t ht'
      split
      · rename_i hst
        have hst' : t ∈ strip := by simpa using hst
        split
        · rename_i c y he
          have hc := owes_paid ho t hst' c y he
          rw [he] at hr
          subst hc
          cases hr with
          | grdT _ _ hr => exact hr
        · exact hr
      · exact hr
    · exact .top _
  | const v =>
    simp only [St.evS, St.ev, Act.eval]
    split
    · rename_i b hb; exact ofValue_rep hb
    · exact .top _
  | global g => exact .gptr false g 0
  | func f => exact .func f [] [] .nil

theorem want_sound {ρ : Nat → Loc3} {N : Nat → Prop} {st : St} {ops : Array Oper} {o : Oper} {a : Act}
    (h : ∀ g b d, o.guard = some (g, b) → (ops[g]?).bind (·.dst) = some d → Rep ρ N (st.tm.getD d .top) (a.tmps.getD d undef)) :
    (wantA ops st o = .yes → Region.wanted o (yielded ops a.tmps) = true) ∧ (wantA ops st o = .no → Region.wanted o (yielded ops a.tmps) = false) ∧
    (∀ g, wantA ops st o = .maybe g → Region.wanted o (yielded ops a.tmps) = g) := by
  unfold wantA Region.wanted
  cases hg : o.guard with
  | none => exact ⟨fun _ => rfl, (fun h => by cases h), fun _ h => by cases h⟩
  | some p =>
    obtain ⟨j, want⟩ := p
    simp only
    cases hd : (ops[j]?).bind (·.dst) with
    | none => exact ⟨(fun h => by cases h), (fun h => by cases h), fun _ h => by cases h⟩
    | some d =>
      simp only
      have hr := h j want d hg hd
      have hy : ∀ v, a.tmps.getD d undef = v → yielded ops a.tmps j = (match v with | .bool b => some b | _ => none) := by
        intro v hv
        unfold yielded
        rw [hd]
        simp only [Option.bind_some]
        cases hx : a.tmps[d]? with
        | none =>
          simp [hx] at hv
          subst hv
          rfl
        | some u =>
          simp [hx] at hv
          subst hv
          cases u <;> rfl
      generalize hV : a.tmps.getD d undef = V at hr
      have hyV := hy V hV
      generalize st.tm.getD d .top = x at hr
      cases x with
      | bool s b =>
        cases hr
        rw [hyV]
        cases s <;> cases b <;> cases want <;> simp
      | grd c x =>
        cases x with
        | bool s b =>
          cases hr with
          | grdT _ _ hr =>
            cases hr
            rw [hyV]
            cases b <;> cases want <;> simp
          | grdF =>
            rw [hyV]
            cases b <;> cases want <;> simp [undef]
        | top =>
          cases c with
          | true => exact ⟨(fun h => by cases h), (fun h => by cases h), fun _ h => by cases h⟩
          | false =>
            cases hr with
            | grdF =>
              rw [hyV]
              cases want <;> simp [undef]
        | _ => exact ⟨(fun h => by cases h), (fun h => by cases h), fun _ h => by cases h⟩
      | _ => exact ⟨(fun h => by cases h), (fun h => by cases h), fun _ h => by cases h⟩

theorem wantQ_sound {ops : Array Oper} {o : Oper} {a : Act} {asm neg : Bool} {w0 w1 : Want} {owed : List Bool}
    (hw : (w0 = .yes → Region.wanted o (yielded ops a.tmps) = true) ∧ (w0 = .no → Region.wanted o (yielded ops a.tmps) = false) ∧ (∀ g, w0 = .maybe g → Region.wanted o (yielded ops a.tmps) = g))
    (h : wantQ asm neg w0 = (owed, w1)) :
    (w1 = .yes → Paid owed → Region.wanted o (yielded ops a.tmps) = true) ∧ (w1 = .no → Paid owed → Region.wanted o (yielded ops a.tmps) = false) ∧ (∀ g, w1 = .maybe g → Region.wanted o (yielded ops a.tmps) = g) := by
  unfold wantQ at h
  split at h
  · rename_i g
    split at h
    · cases h
      exact ⟨(fun h => by cases h), (fun _ hp => by rw [hw.2.2 g rfl]; have := hp (!g) (List.mem_cons_self ..); cases g <;> simp_all), fun _ h => by cases h⟩
    · cases h
      exact ⟨(fun _ hp => by rw [hw.2.2 g rfl]; exact hp g (List.mem_cons_self ..)), (fun h => by cases h), fun _ h => by cases h⟩
  · cases h
    exact ⟨fun h _ => hw.1 h, fun h _ => hw.2.1 h, hw.2.2⟩

theorem nilOp_sound {P : Program} {neg : Bool} {ρ : Nat → Loc3} {N : Nat → Prop} {ev : Operand → AV} {rv : Operand → Value} {o : Oper} {owed : List Bool} {op : Op} (h : nilOp P neg ev o.op = (owed, op)) (ho : Paid owed)
    (hev : ∀ x, Rep ρ N (ev x) (rv x)) {w : World} {Q : Value → World → Prop} (hc : Comes1 P { o with op := op } rv w Q) : Comes1 P o rv w Q := by
  obtain ⟨dst, op0, type, pos, after, guard⟩ := o
  unfold nilOp at h
  split at h
  · rename_i args argTypes heq
    have heq : op0 = _ := heq
    split at h
    · rename_i t t' a x ht hx
      split at h
      · rename_i e s n of len cap es h1 h2 h3 h4
        split at h
        · rename_i i hi
          cases h
          have h0 := of_decide_eq_true (ho _ (List.mem_cons_self ..))
          subst h0
          simp only [decide_eq_true_eq] at h2
          subst h2
          have ht' : argTypes = #[t', t'] := Array.ext' (by simpa using ht)
          have hx' : args = #[a, x] := Array.ext' (by simpa using hx)
          subst ht' hx'
          have ra := hev a
          have rx := hev x
          rw [h3] at ra
          rw [h4] at rx
          have va : rv a = .slice none 0 0 := by
            generalize rv a = v at ra
            cases ra; rfl
          obtain ⟨ad, c, vx⟩ : ∃ ad c, rv x = .slice (some ad) 0 c := by
            generalize rv x = v at rx
            cases rx
            exact ⟨_, _, rfl⟩
          have hfc := run_firstCells_some (P := P) w i.size 0 ad 0 c [] (by simp) (by simp)
          have hap : (Builtin.append_ #[t', t'] type #[rv a, rv x]).run P w = .ok (.slice none 0 0) w := by
            rw [va, vx]
            simp [Builtin.append_, run_underlying h1, sizeOf, typeInfo, hi, Builtin.lenOf, hfc]
          rw [va] at hap
          unfold Comes1 at hc ⊢
          have e1 : (execOp rv (⟨dst, op0, type, pos, after, guard⟩ : Oper)).run P w = (execOp rv (⟨dst, .move a, type, pos, after, guard⟩ : Oper)).run P w := by
            have e2 : execOp rv (⟨dst, op0, type, pos, after, guard⟩ : Oper) = (do pure (.value (← Builtin.append_ #[t', t'] type (#[a, x].map rv))) : Sem Next) := by subst heq; rfl
            rw [e2]
            simp [hap, execOp, va]
          rw [e1]
          exact hc
        · cases h; exact hc
      · cases h; exact hc
    · cases h; exact hc
  · cases h; exact hc
/-- The same operation, with its test known. -/
theorem asmOp_sound {P : Program} {asm neg : Bool} {ρ : Nat → Loc3} {N : Nat → Prop} {ev : Operand → AV} {rv : Operand → Value} {o : Oper} {owed : List Bool} {op : Op} (h : asmOp P asm neg ev o.op = (owed, op)) (ho : Paid owed)
    (hev : ∀ x, Rep ρ N (ev x) (rv x)) {w : World} {Q : Value → World → Prop} (hc : Comes1 P { o with op := op } rv w Q) : Comes1 P o rv w Q := by
  obtain ⟨dst, op0, type, pos, after, guard⟩ := o
  unfold asmOp at h
  split at h
  · cases h; exact hc
  · split at h
    · rename_i c x y heq
      have heq : op0 = .pick c x y := heq
      subst heq
      split at h
      · rename_i t hev'
        have hr := hev c
        rw [hev'] at hr
        have hv : rv c = .bool t := by
          generalize rv c = v at hr
          cases hr; rfl
        have key : ∀ b, (execOp rv (⟨dst, .pick c x y, type, pos, after, guard⟩ : Oper)).run P w = (execOp rv (⟨dst, .move b, type, pos, after, guard⟩ : Oper)).run P w →
            Comes1 P (⟨dst, .move b, type, pos, after, guard⟩ : Oper) rv w Q → Comes1 P (⟨dst, .pick c x y, type, pos, after, guard⟩ : Oper) rv w Q := fun b he hc => by
          unfold Comes1 at hc ⊢
          rw [he]
          exact hc
        split at h
        · cases h
          have ht := ho _ (List.mem_cons_self ..)
          have ht' : t = false := by simpa using ht
          subst ht'
          exact key _ (by simp [execOp, hv, asBool]) hc
        split at h
        · cases h
          have ht := ho t (List.mem_cons_self ..)
          subst ht
          exact key _ (by simp [execOp, hv, asBool]) hc
        · cases h
          have ht := ho t (List.mem_cons_self ..)
          subst ht
          exact key _ (by simp [execOp, hv, asBool]) hc
        · split at h
          · cases h
            have ht := ho _ (List.mem_cons_self ..)
            have ht' : t = false := by simpa using ht
            subst ht'
            exact key _ (by simp [execOp, hv, asBool]) hc
          · cases h
            have ht := ho t (List.mem_cons_self ..)
            subst ht
            exact key _ (by simp [execOp, hv, asBool]) hc
      · cases h; exact hc
    · exact nilOp_sound h ho hev hc

theorem wpOp_of {ops : Array Oper} {i : Nat} {o : Oper} {a : Act} {w : World} {K : Act → World → Prop} {Q : Exit → Act → World → Prop} (ho : ops[i]? = some o)
    (hn : Region.wanted o (yielded ops a.tmps) = false → K (a.put o.dst undef) w) (hy : Region.wanted o (yielded ops a.tmps) = true → o.wp P a w K Q) : wpOp P ops Q i K a w := by
  unfold wpOp
  rw [ho]
  simp only
  split
  · rename_i h; exact Or.inl (hy h)
  · rename_i h; exact hn (by simpa using h)

/-- The state stands for the frame. -/
structure SRep (ρ : Nat → Loc3) (N : Nat → Prop) (tm : List AV) (a : Act) : Prop where
  rep : ∀ t, Rep ρ N (tm.getD t .top) (a.tmps.getD t undef)
  le : tm.length ≤ a.tmps.size

theorem getD_set {l : List AV} {d t : Nat} {v : AV} : (l.set d v).getD t .top = if d = t ∧ t < l.length then v else l.getD t .top := by
  by_cases h : d = t
  · subst h
    by_cases h2 : d < l.length
    · simp [h2]
    · simp [h2]
  · rw [if_neg (by simp [h])]
    simp [List.getD, List.getElem?_set_ne h]
theorem arr_getD_set {l : Array Value} {d t : Nat} {v : Value} : (l.setIfInBounds d v).getD t undef = if d = t ∧ t < l.size then v else l.getD t undef := by
  by_cases h : d = t
  · subst h
    by_cases h2 : d < l.size
    · simp [h2]
    · simp [h2]
  · rw [if_neg (by simp [h])]
    simp [Array.getElem?_setIfInBounds_ne h]

theorem SRep.put {ρ ρ' : Nat → Loc3} {N N' : Nat → Prop} {tm : List AV} {a : Act} (h : SRep ρ N tm a) (hag : Agr ρ ρ' N) (hN : ∀ i, N i → N' i) {av : AV} {v : Value} (hv : Rep ρ' N' av v) (dst : Option Tmp) :
    SRep ρ' N' (putA tm dst av) (a.put dst v) := by
  cases dst with
  | none => exact ⟨fun t => (h.rep t).ext hag hN, h.le⟩
  | some d =>
    refine ⟨fun t => ?_, by simpa [putA, Act.put] using h.le⟩
    simp only [putA, Act.put]
    rw [getD_set, arr_getD_set]
    by_cases h1 : d = t
    · by_cases h2 : t < tm.length
      · rw [if_pos ⟨h1, h2⟩, if_pos ⟨h1, by have := h.le; omega⟩]; exact hv
      · rw [if_neg (fun hh => h2 hh.2)]
        rw [List.getD, List.getElem?_eq_none (by omega)]
        exact .top _
    · rw [if_neg (fun hh => h1 hh.1), if_neg (fun hh => h1 hh.1)]
      exact (h.rep t).ext hag hN

/-- What holds between two pieces of a function's run; ρ0, n0: the names at its beginning. -/
structure SInv (w0 : World) (S : Nat → Prop) (ρ0 : Nat → Loc3) (n0 : Nat) (ds : List Deferred) (st : St) (a : Act) (w : World) : Prop where
  ex : ∃ ρ, SRep ρ (upto st.mem.length) st.tm a ∧ Inv w0 S (upto st.mem.length) ρ (getName st.mem) w ∧ Agr ρ0 ρ (upto n0)
  le : n0 ≤ st.mem.length
  ds : a.defers = ds

theorem put_defers (a : Act) (dst : Option Tmp) (v : Value) : (a.put dst v).defers = a.defers := by cases dst <;> rfl
end
end Go.Ev
