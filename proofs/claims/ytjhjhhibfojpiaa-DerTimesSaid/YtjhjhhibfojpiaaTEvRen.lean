/- Loops in which a variable goes over to a new block: names are given anew at the head of each round. Own work. -/
import Derived.Test.YtjhjhhibfojpiaaTEvFam
set_option linter.unusedSimpArgs false
set_option linter.unusedVariables false
set_option linter.unusedSectionVars false
namespace Go.Ev
set_option linter.unusedSectionVars false
variable [Tab]

mutual
/-- Names, by a map of the new ones to the old. -/
def renA (g : Nat → Nat) : AV → AV
  | .ptr s n o => .ptr s (g n) o
  | .slice s n o len cap e => .slice s (g n) o len cap e
  | .agg l => .agg (renL g l)
  | .tuple l => .tuple (renL g l)
  | .grd c a => .grd c (renA g a)
  | .func f l => .func f (renL g l)
  | .iface t a => .iface t (renA g a)
  | .wagg l => .wagg (renL g l)
  | .wptr s n b o => .wptr s (g n) b o
  | .wslice s n b o len cap => .wslice s (g n) b o len cap
  | a => a
def renL (g : Nat → Nat) : List AV → List AV
  | [] => []
  | a :: l => renA g a :: renL g l
end
theorem renL_append (g : Nat → Nat) : ∀ l q : List AV, renL g (l ++ q) = renL g l ++ renL g q
  | [], q => rfl
  | a :: l, q => by simp only [List.cons_append, renL, renL_append g l q]
theorem renL_get (g : Nat → Nat) : ∀ (l : List AV) (i : Nat), (renL g l)[i]? = (l[i]?).map (renA g)
  | [], i => by simp [renL]
  | a :: l, 0 => by simp [renL]
  | a :: l, i + 1 => by simpa [renL] using renL_get g l i
theorem renL_ints (g : Nat → Nat) (k : IntKind) : ∀ l : List Int, renL g (l.map (AV.int true k)) = l.map (AV.int true k)
  | [] => rfl
  | a :: l => by simp only [List.map_cons, renL, renA, renL_ints g k l]
theorem renL_spread (g : Nat → Nat) (k : IntKind) (n : Nat) (l : List Int) : renL g (spread k n l) = spread k n l := by
  have e : spread k n l = ((List.range n).map fun i => l.getD i 0).map (AV.int true k) := by unfold spread; rw [List.map_map]; rfl
  rw [e, renL_ints]
theorem renL_exp (g : Nat → Nat) : ∀ l : List AV, exp (renL g l) = renL g (exp l)
  | [] => rfl
  | a :: l => by
    have ih := renL_exp g l
    cases a <;> simp only [renL, renA, exp, renL_append, renL_spread, ih]
theorem renL_wok (g : Nat → Nat) : ∀ {l : List AV}, WOk (renL g l) → WOk l
  | [], _ => WOk.nil
  | a :: l, h => by
    have h2 : WOk l := renL_wok g (l := l) (by simp only [renL] at h; exact h.tail)
    refine WOk.cons (fun k n xs e => ?_) h2
    subst e
    exact h k n xs (by simp [renL, renA])
mutual
theorem Rep.ren {ρ : Nat → Loc3} {N : Nat → Prop} {g : Nat → Nat} {k : Nat} {b : AV} {v : Value} (h : Rep ρ N b v) (a : AV) (e : b = renA g a) (hb : bndA k a = true) : Rep (fun n => ρ (g n)) (upto k) a v :=
  match h with
  | .top v => by cases a <;> simp only [renA, reduceCtorEq] at e <;> exact .top v
  | .bool s b => by cases a <;> simp only [renA, reduceCtorEq] at e; cases e; exact .bool s b
  | .int s k n h => by cases a <;> simp only [renA, reduceCtorEq] at e; cases e; exact .int s k n h
  | .str s l h => by cases a <;> simp only [renA, reduceCtorEq] at e; cases e; exact .str s l h
  | .ptr s n o _ => by cases a <;> simp only [renA, reduceCtorEq] at e; cases e; exact .ptr _ _ _ (by simpa [bndA, upto] using hb)
  | .nilptr => by cases a <;> simp only [renA, reduceCtorEq] at e; exact .nilptr
  | .slice s n o len cap el c ad _ hc hl hw had => by cases a <;> simp only [renA, reduceCtorEq] at e; cases e; exact .slice _ _ _ _ _ _ c ad (by simpa [bndA, upto] using hb) hc hl hw had
  | .nilslice => by cases a <;> simp only [renA, reduceCtorEq] at e; exact .nilslice
  | .ints k n l hn h => by cases a <;> simp only [renA, reduceCtorEq] at e; cases e; exact .ints k n l hn h
  | .bools n l hn => by cases a <;> simp only [renA, reduceCtorEq] at e; cases e; exact .bools n l hn
  | .agg l vs h => by
    cases a <;> simp only [renA, reduceCtorEq] at e
    rename_i l'
    exact .agg _ vs (Reps.ren h l' (by injection e) (by simpa [bndA] using hb))
  | .tuple l vs h => by
    cases a <;> simp only [renA, reduceCtorEq] at e
    rename_i l'
    exact .tuple _ vs (Reps.ren h l' (by injection e) (by simpa [bndA] using hb))
  | .grdT b v h => by
    cases a <;> simp only [renA, reduceCtorEq] at e
    rename_i c a
    injection e with e1 e2
    subst e1
    exact .grdT _ v (Rep.ren h a e2 (by simpa [bndA] using hb))
  | .grdF b => by
    cases a <;> simp only [renA, reduceCtorEq] at e
    rename_i c a
    injection e with e1 e2
    subst e1
    exact .grdF _
  | .func f cap vs h => by
    cases a <;> simp only [renA, reduceCtorEq] at e
    rename_i f' l'
    injection e with e1 e2
    subst e1
    exact .func _ _ vs (Reps.ren h l' e2 (by simpa [bndA] using hb))
  | .nilfunc => by cases a <;> simp only [renA, reduceCtorEq] at e; exact .nilfunc
  | .iface t b v h => by
    cases a <;> simp only [renA, reduceCtorEq] at e
    rename_i t' a
    injection e with e1 e2
    subst e1
    exact .iface _ _ v (Rep.ren h a e2 (by simpa [bndA] using hb))
  | .niliface => by cases a <;> simp only [renA, reduceCtorEq] at e; exact .niliface
  | .wagg l vs hw h => by
    cases a <;> simp only [renA, reduceCtorEq] at e
    rename_i l'
    have e' : l = renL g l' := by injection e
    exact .wagg _ vs (renL_wok g (e' ▸ hw)) (Reps.ren h (exp l') (by rw [e', renL_exp]) (bnd_exp (by simpa [bndA] using hb)))
  | .wptr s n b o _ => by cases a <;> simp only [renA, reduceCtorEq] at e; cases e; exact .wptr _ _ _ _ (by simpa [bndA, upto] using hb)
  | .wslice s n b o len cap c ad _ hc hl hw had => by cases a <;> simp only [renA, reduceCtorEq] at e; cases e; exact .wslice _ _ _ _ _ _ c ad (by simpa [bndA, upto] using hb) hc hl hw had
  | .gptr s g o => by cases a <;> simp only [renA, reduceCtorEq] at e; cases e; exact .gptr s g o
theorem Reps.ren {ρ : Nat → Loc3} {N : Nat → Prop} {g : Nat → Nat} {k : Nat} {q : List AV} {vs : List Value} (h : Reps ρ N q vs) (l : List AV) (e : q = renL g l) (hb : bndL k l = true) : Reps (fun n => ρ (g n)) (upto k) l vs :=
  match h with
  | .nil => by
    cases l with
    | nil => exact .nil
    | cons a l => simp [renL] at e
  | .cons b q v vs h hs => by
    cases l with
    | nil => simp [renL] at e
    | cons a l =>
      simp only [renL] at e
      injection e with e1 e2
      simp only [bndL, Bool.and_eq_true] at hb
      exact .cons a l v vs (Rep.ren h a e1 hb.1) (Reps.ren hs l e2 hb.2)
end

def renC (g : Nat → Nat) : Cells → Cells
  | .vals l => .vals (renL g l)
  | .wide l => .wide (renL g l)
  | .one n r i a => .one n r i (renA g a)
  | c => c
theorem bndL_get {k : Nat} {l : List AV} {i : Nat} {a : AV} (hb : bndL k l = true) (h : l[i]? = some a) : bndA k a = true := bndL_mem hb a (List.mem_of_getElem? h)
theorem CRep.ren {ρ : Nat → Loc3} {N : Nat → Prop} {g : Nat → Nat} {k : Nat} {c : Cells} {f : Nat → Option Value} (h : CRep ρ N (renC g c) f) (hb : ∀ l, c = .vals l ∨ c = .wide l ∨ (∃ n r i a, c = .one n r i a ∧ l = [a]) → bndL k l = true) : CRep (fun n => ρ (g n)) (upto k) c f := by
  cases c with
  | vals l =>
    intro i a hi
    obtain ⟨v, h1, h2⟩ := h i (renA g a) (by rw [renL_get, hi]; rfl)
    exact ⟨v, h1, h2.ren a rfl (bndL_get (hb l (Or.inl rfl)) hi)⟩
  | ints k' sz l => exact h
  | bools n l => exact h
  | wide l =>
    refine ⟨renL_wok g h.1, fun i a hi => ?_⟩
    obtain ⟨v, h1, h2⟩ := h.2 i (renA g a) (by rw [renL_exp, renL_get, hi]; rfl)
    exact ⟨v, h1, h2.ren a rfl (bndL_get (bnd_exp (hb l (Or.inr (Or.inl rfl)))) hi)⟩
  | one n r j x => exact ⟨h.1, h.2.1, h.2.2.ren x rfl (bndL_get (i := 0) (hb [x] (Or.inr (Or.inr ⟨n, r, j, x, rfl, rfl⟩))) rfl)⟩
  | rows n r => exact h
theorem renL_len (g : Nat → Nat) : ∀ l : List AV, (renL g l).length = l.length
  | [] => rfl
  | a :: l => by simp only [renL, List.length_cons, renL_len g l]
theorem renL_wlen (g : Nat → Nat) : ∀ l : List AV, wlen (renL g l) = wlen l
  | [] => rfl
  | a :: l => by
    have ih := renL_wlen g l
    cases a <;> simp only [renL, renA, wlen, width, ih]
theorem clen_ren (g : Nat → Nat) (c : Cells) : clen (renC g c) = clen c := by
  cases c with
  | vals l => simp only [renC, clen, renL_len]
  | ints k sz l => rfl
  | bools n l => rfl
  | wide l => simp only [renC, clen, renL_wlen]
  | one n r i a => rfl
  | rows n r => rfl

/-- A value that says no less. -/
inductive LeS : AV → AV → Prop
  | refl (a : AV) : LeS a a
  | int (s t : Bool) (k : IntKind) (n : Int) : LeS (.int s k n) (.int t k n)
  | slice (s t : Bool) (n o len : Nat) (cap cap' : Option Nat) (e : Nat) (h : cap' = cap ∨ cap' = none) : LeS (.slice s n o len cap e) (.slice t n o len cap' e)
  | top (a : AV) : LeS a .top
theorem LeS.rep {a b : AV} (h : LeS a b) {ρ : Nat → Loc3} {N : Nat → Prop} {v : Value} (hr : Rep ρ N a v) : Rep ρ N b v := by
  cases h with
  | refl => exact hr
  | int s t k n => cases hr with | int _ _ _ h => exact .int _ _ _ h
  | slice s t n o len cap cap' e h =>
    cases hr with
    | slice _ _ _ _ _ _ c ad hn hc hl hw had =>
      refine .slice t n o len cap' e c ad hn (fun c' hc' => ?_) hl hw had
      rcases h with rfl | rfl
      · exact hc c' hc'
      · cases hc'
  | top => exact .top _
/-- Cells that say no less. -/
inductive LeC : Cells → Cells → Prop
  | refl (c : Cells) : LeC c c
  | free (k : IntKind) (n : Nat) (l : List Int) : LeC (.ints k (some n) l) (.ints k none l)
  | bound (k : IntKind) (n : Nat) (l : List Int) (h : l.length = n) : LeC (.ints k none l) (.ints k (some n) l)
  | head (s t : Bool) (n o len : Nat) (cap cap' : Option Nat) (e : Nat) (l : List AV) (h : cap' = cap ∨ cap' = none) : LeC (.wide (.slice s n o len cap e :: l)) (.wide (.slice t n o len cap' e :: l))
theorem LeC.rep {c c' : Cells} (h : LeC c c') {ρ : Nat → Loc3} {N : Nat → Prop} {f : Nat → Option Value} (hr : CRep ρ N c f) : CRep ρ N c' f ∧ clen c' ≤ clen c := by
  cases h with
  | refl => exact ⟨hr, Nat.le_refl _⟩
  | free k n l => exact ⟨⟨(fun m hm => by cases hm), hr.2⟩, by show l.length ≤ n; exact Nat.le_of_eq (hr.1 n rfl)⟩
  | bound k n l h => exact ⟨⟨(fun m hm => by cases hm; exact h), hr.2⟩, Nat.le_of_eq h.symm⟩
  | head s t n o len cap cap' e l h =>
    refine ⟨⟨WOk.cons (fun k n xs e => by cases e) hr.1.tail, fun i a hi => ?_⟩, Nat.le_refl _⟩
    cases i with
    | zero =>
      have hi' : (AV.slice t n o len cap' e :: exp l)[0]? = some a := hi
      simp only [List.getElem?_cons_zero, Option.some.injEq] at hi'
      subst hi'
      obtain ⟨v, h1, h2⟩ := hr.2 0 (AV.slice s n o len cap e) rfl
      exact ⟨v, h1, (LeS.slice s t n o len cap cap' e h).rep h2⟩
    | succ i => exact hr.2 (i + 1) a hi
/-- What stands under the new names stood under the old ones. -/
def Pulls (g : Nat → Nat) (m : Mem) : Nat → Mem → Prop
  | _, [] => True
  | n, none :: r => Pulls g m (n + 1) r
  | n, some b :: r => (∃ c, m[g n]? = some (some ⟨b.rw, c⟩) ∧ LeC c (renC g b.c)) ∧ Pulls g m (n + 1) r
theorem pulls_get {g : Nat → Nat} {m : Mem} : ∀ {M : Mem} {k n : Nat} {b : Blk}, Pulls g m k M → getName M n = some b → ∃ c, getName m (g (k + n)) = some ⟨b.rw, c⟩ ∧ LeC c (renC g b.c)
  | [], k, n, b, h, hn => by simp [getName] at hn
  | none :: r, k, 0, b, h, hn => by simp [getName] at hn
  | none :: r, k, n + 1, b, h, hn => by
    have := pulls_get (M := r) (k := k + 1) (n := n) (b := b) h (by unfold getName at hn ⊢; simpa using hn)
    rw [show k + (n + 1) = k + 1 + n by omega]; exact this
  | some x :: r, k, 0, b, h, hn => by
    simp [getName] at hn
    subst hn
    obtain ⟨⟨c, h1, h2⟩, _⟩ := h
    refine ⟨c, ?_, h2⟩
    unfold getName
    rw [Nat.add_zero, h1]
  | some x :: r, k, n + 1, b, h, hn => by
    have := pulls_get (M := r) (k := k + 1) (n := n) (b := b) h.2 (by unfold getName at hn ⊢; simpa using hn)
    rw [show k + (n + 1) = k + 1 + n by omega]; exact this
def injB (g : Nat → Nat) (L : Nat) : Bool := (List.range L).all fun i => (List.range L).all fun j => Nat.beq i j || !Nat.beq (g i) (g j)
theorem injB_of {g : Nat → Nat} {L : Nat} (h : injB g L = true) {i j : Nat} (hi : i < L) (hj : j < L) (hij : i ≠ j) : g i ≠ g j := by
  unfold injB at h
  have h1 := List.all_eq_true.1 (List.all_eq_true.1 h i (List.mem_range.2 hi)) j (List.mem_range.2 hj)
  intro e
  rw [e] at h1
  simp only [Bool.or_eq_true, Bool.not_eq_true'] at h1
  rcases h1 with h1 | h1
  · exact hij (Nat.eq_of_beq_eq_true h1)
  · rw [show Nat.beq (g j) (g j) = true from Nat.beq_refl _] at h1; cases h1
def fixB (g : Nat → Nat) (k : Nat) : Bool := (List.range k).all fun i => Nat.beq (g i) i
theorem fixB_of {g : Nat → Nat} {k i : Nat} (h : fixB g k = true) (hi : i < k) : g i = i := Nat.eq_of_beq_eq_true (List.all_eq_true.1 h i (List.mem_range.2 hi))

theorem Inv.ren {w0 : World} {S : Nat → Prop} {ρ : Nat → Loc3} {g : Nat → Nat} {m M : Mem} {w : World} (h : Inv w0 S (upto m.length) ρ (getName m) w) (hp : Pulls g m 0 M) (hb : bndM M.length M = true) (hj : injB g M.length = true) :
    Inv w0 S (upto M.length) (fun n => ρ (g n)) (getName M) w := by
  have get : ∀ n b, getName M n = some b → ∃ c, getName m (g n) = some ⟨b.rw, c⟩ ∧ LeC c (renC g b.c) := fun n b hn => by
    have := pulls_get hp hn
    rwa [Nat.zero_add] at this
  refine ⟨⟨fun n b hn => ?_, fun i j bi bj hi hj' hij hr => ?_, fun n b hn => getName_lt hn, h.sim.tab, fun G c hG n b hn hr => ?_⟩,
    h.size, h.frame, h.os, h.tape, h.output, fun n b hn hr => ?_⟩
  · obtain ⟨c, c1, c2⟩ := get n b hn
    obtain ⟨cs, t, lo', hi', b1, b2, b3, b4, b5⟩ := (h.sim.blk (g n) _ c1).ex
    obtain ⟨d1, d2⟩ := c2.rep b5
    exact ⟨cs, t, lo', hi', b1, b2, b3, by rw [clen_ren] at d2; exact Nat.le_trans d2 b4, d1.ren fun l hl => bndM_get hb hn l hl⟩
  · obtain ⟨c, c1, _⟩ := get i bi hi
    obtain ⟨c', c1', _⟩ := get j bj hj'
    exact h.sim.inj (g i) (g j) _ _ c1 c1' (injB_of hj (getName_lt hi) (getName_lt hj') hij) hr
  · obtain ⟨c', c1, _⟩ := get n b hn
    exact h.sim.apart G c hG (g n) _ c1 hr
  · obtain ⟨c, c1, _⟩ := get n b hn
    exact h.rws (g n) _ c1 hr

/-- What holds of a code, of functions whose arguments bear k0 names at most. -/
def OkN (k0 : Nat) (P : Program) (c : Code) (st : St) (K : Ex × St → Prop) : Prop :=
  ∀ (w0 : World) (S : Nat → Prop) (ρ0 : Nat → Loc3) (n0 : Nat) (ds : List Deferred) (a : Act) (w : World), n0 ≤ k0 → SInv w0 S ρ0 n0 ds st a w → c.wp P (Post w0 S ρ0 n0 ds K) a w
structure LOkN (k0 : Nat) (P : Program) (B : Code) (Λ : LoopH) : Prop where
  ok : ∀ {id : Nat} {c : Code} {st st' : St} {o : List Bool}, Code.block id c ∈ subs B → Λ id st = some (o, st') → Paid o → OkN k0 P (.block id c) st (fun p => p = (.normal, st'))

section
variable {P : Program} {q : FuncId → Bool} {H : CallH} {Λ Λ0 : LoopH} {k0 : Nat}
theorem LOk.toN {B : Code} (h : LOk P B Λ) : LOkN k0 P B Λ := ⟨fun hc hl ho w0 S ρ0 n0 ds a w _ hs => h.ok hc hl ho w0 S ρ0 n0 ds a w hs⟩
theorem LOkN.none {B : Code} : LOkN k0 P B (fun _ _ => Option.none) := ⟨fun _ h => by cases h⟩
theorem OkN.mono {c : Code} {st : St} {K K' : Ex × St → Prop} (h : OkN k0 P c st K) (hk : ∀ p, K p → K' p) : OkN k0 P c st K' := fun w0 S ρ0 n0 ds a w h0 hs =>
  wp_mono (h w0 S ρ0 n0 ds a w h0 hs) fun e a' w' he => by
    cases e with
    | normal => obtain ⟨st', h1, h2⟩ := he; exact ⟨st', hk _ h1, h2⟩
    | exit id => obtain ⟨st', h1, h2⟩ := he; exact ⟨st', hk _ h1, h2⟩
    | ret => obtain ⟨st', h1, h2⟩ := he; exact ⟨st', hk _ h1, h2⟩
    | goto l => exact he
    | panic ch => exact he
    | outgrown => exact he

theorem codeN_sound (hm : P.follows .mixedOrders = true) (hH : HOk P H) {B : Code} (hΛ : LOkN k0 P B Λ) : ∀ (n : Nat),
    (∀ {c : Code} {st : St} {K : Ex × St → Prop}, (∀ x ∈ subs c, x ∈ subs B) → (codeL P q H Λ n c st).Sat K → OkN k0 P c st K) ∧
    (∀ {c : Code} {st : St} {K : Ex × St → Prop}, (∀ x ∈ subs c, x ∈ subs B) → (codeL P q H Λ n (.loop c) st).Sat K → ∀ (w0 : World) (S : Nat → Prop) (ρ0 : Nat → Loc3) (n0 : Nat) (ds : List Deferred) (a : Act) (w : World), n0 ≤ k0 → SInv w0 S ρ0 n0 ds st a w →
      Code.rounds P c (Post w0 S ρ0 n0 ds K) n a w) := by
  intro n
  induction n with
  | zero => exact ⟨fun _ h => h.elim, fun _ h => h.elim⟩
  | succ n ih =>
    obtain ⟨ihA, ihB⟩ := ih
    have Bl : ∀ {c : Code} {st : St} {K : Ex × St → Prop}, (∀ x ∈ subs c, x ∈ subs B) → (codeL P q H Λ (n + 1) (.loop c) st).Sat K → ∀ (w0 : World) (S : Nat → Prop) (ρ0 : Nat → Loc3) (n0 : Nat) (ds : List Deferred) (a : Act) (w : World), n0 ≤ k0 → SInv w0 S ρ0 n0 ds st a w →
        Code.rounds P c (Post w0 S ρ0 n0 ds K) (n + 1) a w := by
      intro c st K hc h w0 S ρ0 n0 ds a w h0 hs
      rw [rounds_succ]
      refine wp_mono (ihA hc (sat_bind h) w0 S ρ0 n0 ds a w h0 hs) fun e a' w' he => ?_
      cases e with
      | normal => obtain ⟨st', h1, h2⟩ := he; exact ihB hc h1 w0 S ρ0 n0 ds a' w' h0 h2
      | exit id => obtain ⟨st', h1, h2⟩ := he; exact ⟨st', h1, h2⟩
      | ret => obtain ⟨st', h1, h2⟩ := he; exact ⟨st', h1, h2⟩
      | goto l => exact he
      | panic ch => exact he
      | outgrown => exact he
    refine ⟨?_, Bl⟩
    intro c st K hc h w0 S ρ0 n0 ds a w h0 hs
    cases c with
    | skip => exact wp_skip ⟨st, h, hs⟩
    | label l => exact wp_label ⟨st, h, hs⟩
    | exit id => exact wp_exit ⟨st, h, hs⟩
    | ret => exact wp_ret ⟨st, h, hs⟩
    | seq x y =>
      have hx : ∀ z ∈ subs x, z ∈ subs B := fun z hz => hc z (by simp [subs, hz])
      have hy : ∀ z ∈ subs y, z ∈ subs B := fun z hz => hc z (by simp [subs, hz])
      refine wp_seq (wp_mono (ihA hx (sat_bind h) w0 S ρ0 n0 ds a w h0 hs) fun e a' w' he => ?_)
      cases e with
      | normal => obtain ⟨st', h1, h2⟩ := he; exact ihA hy h1 w0 S ρ0 n0 ds a' w' h0 h2
      | exit id => obtain ⟨st', h1, h2⟩ := he; exact ⟨st', h1, h2⟩
      | ret => obtain ⟨st', h1, h2⟩ := he; exact ⟨st', h1, h2⟩
      | goto l => exact he
      | panic ch => exact he
      | outgrown => exact he
    | cond x y z =>
      have hy : ∀ u ∈ subs y, u ∈ subs B := fun u hu => hc u (by simp [subs, hu])
      have hz : ∀ u ∈ subs z, u ∈ subs B := fun u hu => hc u (by simp [subs, hu])
      have hs0 := hs
      obtain ⟨⟨ρ, hr, hi, hag⟩, hle, hds⟩ := hs
      have hx := st_ev hr x
      simp only [codeL] at h
      split at h
      · rename_i t hev
        rw [hev] at hx
        have hv : a.eval x = .bool t := by
          generalize a.eval x = v at hx
          cases hx; rfl
        cases t with
        | true => exact wp_cond_true hv (ihA hy h w0 S ρ0 n0 ds a w h0 hs0)
        | false => exact wp_cond_false hv (ihA hz h w0 S ρ0 n0 ds a w h0 hs0)
      · rename_i t hev
        rw [hev] at hx
        have hv : a.eval x = .bool t := by
          generalize a.eval x = v at hx
          cases hx; rfl
        exact wp_cond_split hv (fun ht => ihA hy (h.1 ht) w0 S ρ0 n0 ds a w h0 hs0) fun ht => ihA hz (h.2 ht) w0 S ρ0 n0 ds a w h0 hs0
      · exact h.elim
    | block id x =>
      have hx : ∀ z ∈ subs x, z ∈ subs B := fun z hz => hc z (by simp [subs, hz])
      simp only [codeL] at h
      split at h
      · rename_i o st' hl
        obtain ⟨h1, h2⟩ := sat_needs h
        exact (hΛ.ok (hc _ (subs_self _)) hl h1).mono (fun p hp => by rw [hp]; exact h2) w0 S ρ0 n0 ds a w h0 hs
      · refine wp_block (wp_mono (ihA hx (sat_bind h) w0 S ρ0 n0 ds a w h0 hs) fun e a' w' he => ?_)
        cases e with
        | normal => obtain ⟨st', h1, h2⟩ := he; exact ⟨st', h1, h2⟩
        | exit i =>
          obtain ⟨st', h1, h2⟩ := he
          simp only [Exit.inBlock]
          by_cases hid : i = id
          · simp only [hid, if_true] at h1 ⊢; exact ⟨st', h1, h2⟩
          · simp only [hid, if_false] at h1 ⊢; exact ⟨st', h1, h2⟩
        | ret => obtain ⟨st', h1, h2⟩ := he; exact ⟨st', h1, h2⟩
        | goto l => exact he
        | panic ch => exact he
        | outgrown => exact he
    | loop x =>
      have hx : ∀ z ∈ subs x, z ∈ subs B := fun z hz => hc z (by simp [subs, hz])
      exact wp_loop_rounds (n + 1) (Bl hx h w0 S ρ0 n0 ds a w h0 hs)
    | region id ops draw =>
      obtain ⟨o, ⟨e, st'⟩, h1, h2, h3⟩ := sat_ofE h
      obtain ⟨o1, st1, o2, g1, g2, rfl⟩ := bind_some h1
      obtain ⟨_, he⟩ := pure_some g2
      cases he
      exact region_sound hm hH g1 (paid_append.1 h2).1 hs fun a' w' hs' => ⟨_, h3, hs'⟩
    | rangeFunc _ _ _ _ => exact h.elim
    | scope _ => exact h.elim
    | goto _ => exact h.elim
    | refuse _ => exact h.elim

/-- From a round's end to a state in which names are given anew. -/
structure Goes (k0 : Nat) (g : Nat → Nat) (ts : List Nat) (avs : List AV) (m : Mem) (sl : List (Nat × AV)) (M : Mem) : Prop where
  slots : ∀ p ∈ sl, ∃ a, (p.1, a) ∈ zipU ts avs ∧ LeS a (renA g p.2)
  pulls : Pulls g m 0 M
  inj : injB g M.length = true
  fix : fixB g k0 = true
  le : k0 ≤ M.length
  bm : bndM M.length M = true
  bl : bndL M.length (sl.map (·.2)) = true
theorem ups_mem {f : Nat → AV} {t : Nat} : ∀ {l : List (Nat × AV)}, (∃ p ∈ l, p.1 = t ∧ ups f l t = p.2) ∨ ups f l t = f t
  | [] => Or.inr rfl
  | (i, a) :: r => by
    unfold ups
    cases hb : Nat.beq t i with
    | true => exact Or.inl ⟨(i, a), List.mem_cons_self .., (Nat.eq_of_beq_eq_true hb).symm, rfl⟩
    | false =>
      rcases ups_mem (f := f) (t := t) (l := r) with ⟨p, h1, h2, h3⟩ | h
      · exact Or.inl ⟨p, List.mem_cons_of_mem _ h1, h2, h3⟩
      · exact Or.inr h
theorem Goes.inv {g : Nat → Nat} {ts : List Nat} {nt : Nat} {avs : List AV} {m : Mem} {sl : List (Nat × AV)} {M : Mem} (h : Goes k0 g ts avs m sl M) {st : St} (ha : ts.map (fun t => st.tm.getD t .top) = avs) (hn : st.tm.length = nt) (hm : st.mem = m)
    {w0 : World} {S : Nat → Prop} {ρ0 : Nat → Loc3} {n0 : Nat} {ds : List Deferred} {a : Act} {w : World} (h0 : n0 ≤ k0) (hs : SInv w0 S ρ0 n0 ds st a w) : SInv w0 S ρ0 n0 ds ⟨tmOf (ups (fun _ => .top) sl) nt, M⟩ a w := by
  obtain ⟨⟨ρ, r1, r2, r3⟩, r4, r5⟩ := hs
  subst hm
  refine ⟨⟨fun n => ρ (g n), ⟨fun t => ?_, ?_⟩, r2.ren h.pulls h.bm h.inj, fun i hi => ?_⟩, Nat.le_trans h0 h.le, r5⟩
  · by_cases ht : t < nt
    · rw [tmOf_get ht]
      rcases ups_mem (f := fun _ => AV.top) (t := t) (l := sl) with ⟨p, p1, p2, p3⟩ | hp
      · rw [p3]
        obtain ⟨b, q1, q2⟩ := h.slots p p1
        have hz := zipU_of ha _ q1
        simp only at hz
        have hr := r1.rep p.1
        rw [hz] at hr
        rw [← p2]
        exact (q2.rep hr).ren p.2 rfl (bndL_mem h.bl _ (List.mem_map_of_mem p1))
      · rw [hp]; exact .top _
    · rw [tmOf_out ht]; exact .top _
  · rw [tmOf_len, ← hn]; exact r1.le
  · have hi' : i < k0 := Nat.lt_of_lt_of_le hi h0
    show ρ (g i) = ρ0 i
    rw [fixB_of h.fix hi']
    exact r3 i hi

/-- Slot by slot. -/
inductive LeG (g : Nat → Nat) : List AV → List AV → Prop
  | nil : LeG g [] []
  | cons {a b : AV} {l q : List AV} (h : LeS a (renA g b)) (hs : LeG g l q) : LeG g (a :: l) (b :: q)
theorem LeG.slots {g : Nat → Nat} : ∀ {ts : List Nat} {avs vals : List AV}, LeG g avs vals → ∀ p ∈ zipU ts vals, ∃ a, (p.1, a) ∈ zipU ts avs ∧ LeS a (renA g p.2)
  | [], avs, vals, _, p, hp => by simp [zipU] at hp
  | t :: ts, _, _, .nil, p, hp => by simp [zipU] at hp
  | t :: ts, a :: l, b :: q, .cons h hs, p, hp => by
    simp only [zipU, List.mem_cons] at hp
    rcases hp with rfl | hp
    · exact ⟨a, List.mem_cons_self .., h⟩
    · obtain ⟨a', h1, h2⟩ := hs.slots p hp
      exact ⟨a', List.mem_cons_of_mem _ h1, h2⟩
theorem bndL_zip {k : Nat} : ∀ {ts : List Nat} {vals : List AV}, bndL k vals = true → bndL k ((zipU ts vals).map (·.2)) = true
  | [], vals, _ => by simp [zipU, bndL]
  | t :: ts, [], _ => by simp [zipU, bndL]
  | t :: ts, b :: q, h => by
    simp only [bndL, Bool.and_eq_true] at h
    simp only [zipU, List.map_cons, bndL, Bool.and_eq_true]
    exact ⟨h.1, bndL_zip h.2⟩
theorem Goes.zip {k0 : Nat} {g : Nat → Nat} {ts : List Nat} {avs : List AV} {m : Mem} {vals : List AV} {M : Mem} (hs : LeG g avs vals) (hp : Pulls g m 0 M) (hi : injB g M.length = true) (hf : fixB g k0 = true) (hl : k0 ≤ M.length) (hm : bndM M.length M = true) (hb : bndL M.length vals = true) :
    Goes k0 g ts avs m (zipU ts vals) M := ⟨hs.slots, hp, hi, hf, hl, hm, bndL_zip hb⟩

/-- What a round has to show. -/
def RoundR (P : Program) (q : FuncId → Bool) (H : CallH) (Λ0 : LoopH) (B : Code) (id nt n k0 : Nat) (ts : List Nat) {σ : Type} (vals : σ → List AV) (M : σ → Mem) (J : σ → Prop) (μ : σ → Nat) (fin : List (Nat × AV) × Mem) (s1 : σ) : Prop :=
  (∃ ds o avs m s2 g, seesL ts ((codeL P q H Λ0 n (lp (blk id B)) ⟨tmOf (ups (fun _ => .top) (zipU ts (vals s1))) nt, M s1⟩).go ds) = some (o, 0, avs, nt, m) ∧ Paid o ∧ Goes k0 g ts avs m (zipU ts (vals s2)) (M s2) ∧ J s2 ∧ μ s2 < μ s1) ∨
  (∃ ds o avs m g, seesL ts ((codeL P q H Λ0 n (lp (blk id B)) ⟨tmOf (ups (fun _ => .top) (zipU ts (vals s1))) nt, M s1⟩).go ds) = some (o, id + 2, avs, nt, m) ∧ Paid o ∧ Goes k0 g ts avs m fin.1 fin.2)
theorem RoundR.on {B : Code} {id nt n : Nat} {ts : List Nat} {σ : Type} {vals : σ → List AV} {M : σ → Mem} {J : σ → Prop} {μ : σ → Nat} {fin : List (Nat × AV) × Mem} {s1 : σ} {ds o : List Bool} {avs : List AV} {m : Mem}
    (h : seesL ts ((codeL P q H Λ0 n (lp (blk id B)) ⟨tmOf (ups (fun _ => .top) (zipU ts (vals s1))) nt, M s1⟩).go ds) = some (o, 0, avs, nt, m)) (s2 : σ) (g : Nat → Nat) (ho : Paid o) (hg : Goes k0 g ts avs m (zipU ts (vals s2)) (M s2)) (hJ : J s2) (hμ : μ s2 < μ s1) :
    RoundR P q H Λ0 B id nt n k0 ts vals M J μ fin s1 := Or.inl ⟨ds, o, avs, m, s2, g, h, ho, hg, hJ, hμ⟩
theorem RoundR.out {B : Code} {id nt n : Nat} {ts : List Nat} {σ : Type} {vals : σ → List AV} {M : σ → Mem} {J : σ → Prop} {μ : σ → Nat} {fin : List (Nat × AV) × Mem} {s1 : σ} {ds o : List Bool} {avs : List AV} {m : Mem} {k : Nat}
    (h : seesL ts ((codeL P q H Λ0 n (lp (blk id B)) ⟨tmOf (ups (fun _ => .top) (zipU ts (vals s1))) nt, M s1⟩).go ds) = some (o, k, avs, nt, m)) (hk : k = id + 2) (g : Nat → Nat) (ho : Paid o) (hg : Goes k0 g ts avs m fin.1 fin.2) :
    RoundR P q H Λ0 B id nt n k0 ts vals M J μ fin s1 := Or.inr ⟨ds, o, avs, m, g, by rw [h, hk], ho, hg⟩

theorem funcN_sound (hm : P.follows .mixedOrders = true) (hH : HOk P H) {n : Nat} {f : FuncId} (hΛ : ∀ fn c, P.funcs[f]? = some fn → fn.body = some c → LOkN k0 P c Λ) {args : List AV} {m : Mem} (h0 : m.length ≤ k0) {K : AV × Mem → Prop} (h : (funcL P q H Λ n f args m).Sat K)
    {w0 : World} {S : Nat → Prop} {ρ : Nat → Loc3} {w : World} {vs : List Value} (ha : Reps ρ (upto m.length) args vs) (hi : Inv w0 S (upto m.length) ρ (getName m) w) :
    (∃ fn c, P.funcs[f]? = some fn ∧ fn.body = some c) ∧ Calls P f vs.toArray w (fun e w' => ∃ u, e = .returned u ∧ Left1 w0 S ρ m K u w') := by
  unfold funcL at h
  split at h
  · rename_i fn hfn
    split at h
    · rename_i c hc
      refine ⟨⟨fn, c, hfn, hc⟩, calls_of_wp hfn hc ?_⟩
      have hsr := start_rep ha fn.ntmps
      refine wp_mono ((codeN_sound hm hH (hΛ fn c hfn hc) n).1 (fun _ h => h) (sat_bind h) w0 S ρ m.length [] _ _ h0 ⟨⟨ρ, hsr, hi, fun _ _ => rfl⟩, Nat.le_refl _, rfl⟩) fun e a w' he => ?_
      have fin : ∀ st, (Tree.ofE (E.bind (resA P st fn.results.toList) fun l => E.pure (one l, st.mem))).Sat K → SInv w0 S ρ m.length [] st a w' →
          a.defers = [] ∧ ∃ v, (results fn a.tmps).run P w' = .ok v w' ∧ ∃ u, Ending.returned v = .returned u ∧ Left1 w0 S ρ m K u w' := by
        intro st hk ⟨⟨ρ', r1, r2, r3⟩, r4, r5⟩
        obtain ⟨o, ⟨v1, m1⟩, k1, k2, k3⟩ := sat_ofE hk
        obtain ⟨o1, l1, o2, g1, g2, rfl⟩ := bind_some k1
        obtain ⟨_, he⟩ := pure_some g2
        cases he
        obtain ⟨us, q1, q2⟩ := resA_sound (P := P) r1 r2.sim g1 (paid_append.1 k2).1
        refine ⟨r5, _, ?_, _, rfl, ⟨_, _, ρ', k3, one_rep q2, r2, r3, r4⟩⟩
        unfold results
        rw [Sem.run_bind, Array.mapM_eq_mapM_toList, Sem.run_map]
        have q1' : (fn.results.toList.mapM (fun x : ResultVar => match x with | .tmp t => (pure (a.tmps.getD t undef) : Sem Value) | .cell p t => do loadVar t (← asAddr (a.tmps.getD p undef)))).run P w' = .ok us w' := q1
        refine (congrArg (fun r : Result (List Value) => (r.andThen fun a w' => Result.ok a.toArray w').andThen _) q1').trans ?_
        rfl
      cases e with
      | normal => obtain ⟨st, k1, k2⟩ := he; exact fin st k1 k2
      | ret => obtain ⟨st, k1, k2⟩ := he; exact fin st k1 k2
      | exit id => obtain ⟨st, k1, k2⟩ := he; exact k1.elim
      | goto l => exact he.elim
      | panic ch => exact he.elim
      | outgrown => exact he.elim
    · exact h.elim
  · exact h.elim

/-- The same, the answer's blocks under names of their own. -/
theorem viewN_of_goR (hm : P.follows .mixedOrders = true) (hng : noCount P = true) (hH : HOk P H) {n : Nat} {g : FuncId} {xs : List V} (hΛ : ∀ fn c, P.funcs[g]? = some fn → fn.body = some c → LOkN xs.length P c Λ) {o : List Bool} {v v' : AV} {m' bs : Mem} (ds : List Bool) (r : Nat → Nat)
    (h : ((funcL P q H Λ n g (cArgs 0 xs) (cMem xs)).go ds).flat = some (o, (v', m'))) (ho : Paid o) (hv : v' = renA r (upA xs.length v)) (hba : bndA (xs.length + bs.length) (upA xs.length v) = true)
    (hp : Pulls r m' 0 (List.replicate xs.length none ++ onlyRw (bs.map (upB xs.length)))) (hbm : bndM (xs.length + bs.length) (List.replicate xs.length none ++ onlyRw (bs.map (upB xs.length))) = true) (hinj : injB r (xs.length + bs.length) = true) (hfix : fixB r xs.length = true) : ViewCall P g xs v bs := by
  intro ρ vs w ha hi
  have hcm : (cMem xs).length = xs.length := by simp [cMem]
  have ha' : Reps ρ (upto (cMem xs).length) (cArgs 0 xs) vs := by rw [hcm]; exact ha
  have hi' : Inv w (fun _ => False) (upto (cMem xs).length) ρ (getName (cMem xs)) w := by rw [hcm]; exact hi
  have hM : (List.replicate xs.length none ++ onlyRw (bs.map (upB xs.length))).length = xs.length + bs.length := by simp [onlyRw]
  obtain ⟨hf, hc⟩ := funcN_sound hm hH hΛ (Nat.le_of_eq hcm) (go_sound (flat_sound h ho)) ha' hi'
  refine callRun_of hng hf (hc.mono fun e w' ⟨u, h1, x', m2, ρ', k1, k2, k3, k4, k5⟩ => ⟨u, h1, fun n => ρ' (r n), ?_, ?_⟩)
  · cases k1
    rw [hv] at k2
    exact k2.ren _ rfl hba
  · cases k1
    have k4' : Agr ρ (fun n => ρ' (r n)) (upto xs.length) := fun i hi => by
      show ρ' (r i) = ρ i
      rw [fixB_of hfix hi]
      exact k4 i (by rw [hcm]; exact hi)
    have k3' := k3.ren hp (by rw [hM]; exact hbm) (by rw [hM]; exact hinj)
    rw [hM] at k3'
    refine hi.join (S1 := fun _ => False) k3' (fun _ h => h.elim) (fun i hi => by simp [upto] at *; omega) (fun _ h => h) k4' (fun _ _ => rfl) fun n b hn => ?_
    rw [getName_app] at hn
    split at hn
    · exact Or.inl ⟨hn, fun h => h⟩
    · rename_i hlt
      obtain ⟨g1, g2⟩ := getName_onlyRw hn
      refine Or.inr ⟨?_, g2⟩
      rw [getName_app, if_neg (by rw [hcm] at hlt; simpa using hlt)]
      rw [hcm] at hn
      simpa using hn
end
end Go.Ev
