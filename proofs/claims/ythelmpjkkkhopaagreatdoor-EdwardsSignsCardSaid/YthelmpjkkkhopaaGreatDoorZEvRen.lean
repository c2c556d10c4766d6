/- Loops in which a variable goes over to a new block: names are given anew at the head of each round. Own work. -/
import Derived.Test.YthelmpjkkkhopaaGreatDoorZMyMC
set_option linter.unusedSimpArgs false
set_option linter.unusedVariables false
set_option linter.unusedSectionVars false
namespace Go.Ev
variable [Tab]
mutual
def d9n (g : Nat → Nat) : AV → AV
 | .ptr s n o => .ptr s (g n) o
 | .slice s n o len cap e => .slice s (g n) o len cap e
 | .agg l => .agg (e0d g l)
 | .tuple l => .tuple (e0d g l)
 | .grd c a => .grd c (d9n g a)
 | .func f l => .func f (e0d g l)
 | .iface t a => .iface t (d9n g a)
 | .wagg l => .wagg (e0d g l)
 | .wptr s n b o => .wptr s (g n) b o
 | .wslice s n b o len cap => .wslice s (g n) b o len cap
 | a=>a
def e0d (g : Nat → Nat) : List AV → List AV
 | []=>[]
 | a :: l=>d9n g a :: e0d g l
end
theorem a8l (g : Nat → Nat) : ∀ l q : List AV,e0d g (l ++ q) = e0d g l ++ e0d g q
 | [],q=>rfl
 | a :: l,q=>by simp only [List.cons_append,e0d,a8l g l q]
theorem b0o (g : Nat → Nat) : ∀ (l : List AV) (i : Nat),(e0d g l)[i]? = (l[i]?).map (d9n g)
 | [],i=>by simp [e0d]
 | a :: l,0=>by simp [e0d]
 | a :: l,i + 1=>by simpa [e0d] using b0o g l i
theorem b3g (g : Nat → Nat) (k : IntKind) : ∀ l : List Int,e0d g (l.map (AV.int true k)) = l.map (AV.int true k)
 | []=>rfl
 | a :: l=>by simp only [List.map_cons,e0d,d9n,b3g g k l]
theorem b5o (g : Nat → Nat) (k : IntKind) (n : Nat) (l : List Int) : e0d g (spread k n l) = spread k n l:=by
 have e : spread k n l = ((List.range n).map fun i=>l.getD i 0).map (AV.int true k):=by unfold spread;rw [List.map_map];rfl
 rw [e,b3g]
theorem b0p (g : Nat → Nat) : ∀ l : List AV,exp (e0d g l) = e0d g (exp l)
 | []=>rfl
 | a :: l=>by
  have ih:=b0p g l
  cases a <;> simp only [e0d,d9n,exp,a8l,b5o,ih]
theorem b0q (g : Nat → Nat) : ∀ {l : List AV},WOk (e0d g l) → WOk l
 | [],_=>WOk.nil
 | a :: l,h=>by
  have h2 : WOk l:=b0q g (l:=l) (by simp only [e0d] at h;exact h.tail)
  refine WOk.cons (fun k n xs e => ?_) h2
  subst e
  exact h k n xs (by simp [e0d,d9n])
mutual
theorem Rep.ren {ρ : Nat → d8c} {N : Nat → Prop} {g : Nat → Nat} {k : Nat} {b : AV} {v : Value} (h : Rep ρ N b v) (a : AV) (e : b = d9n g a) (hb : d9b k a = true) : Rep (fun n=>ρ (g n)) (upto k) a v:=
 match h with
 | .top v=>by cases a <;> simp only [d9n,reduceCtorEq] at e <;> exact .top v
 | .bool s b=>by cases a <;> simp only [d9n,reduceCtorEq] at e;cases e;exact .bool s b
 | .int s k n h=>by cases a <;> simp only [d9n,reduceCtorEq] at e;cases e;exact .int s k n h
 | .str s l h=>by cases a <;> simp only [d9n,reduceCtorEq] at e;cases e;exact .str s l h
 | .ptr s n o _=>by cases a <;> simp only [d9n,reduceCtorEq] at e;cases e;exact .ptr _ _ _ (by simpa [d9b,upto] using hb)
 | .nilptr=>by cases a <;> simp only [d9n,reduceCtorEq] at e;exact .nilptr
 | .slice s n o len cap el c ad _ hc hl hw had=>by cases a <;> simp only [d9n,reduceCtorEq] at e;cases e;exact .slice _ _ _ _ _ _ c ad (by simpa [d9b,upto] using hb) hc hl hw had
 | .nilslice=>by cases a <;> simp only [d9n,reduceCtorEq] at e;exact .nilslice
 | .ints k n l hn h=>by cases a <;> simp only [d9n,reduceCtorEq] at e;cases e;exact .ints k n l hn h
 | .bools n l hn=>by cases a <;> simp only [d9n,reduceCtorEq] at e;cases e;exact .bools n l hn
 | .agg l vs h=>by
  cases a <;> simp only [d9n,reduceCtorEq] at e
  rename_i l'
  exact .agg _ vs (d8i.ren h l' (by injection e) (by simpa [d9b] using hb))
 | .tuple l vs h=>by
  cases a <;> simp only [d9n,reduceCtorEq] at e
  rename_i l'
  exact .tuple _ vs (d8i.ren h l' (by injection e) (by simpa [d9b] using hb))
 | .grdT b v h=>by
  cases a <;> simp only [d9n,reduceCtorEq] at e
  rename_i c a
  injection e with e1 e2
  subst e1
  exact .grdT _ v (Rep.ren h a e2 (by simpa [d9b] using hb))
 | .grdF b=>by
  cases a <;> simp only [d9n,reduceCtorEq] at e
  rename_i c a
  injection e with e1 e2
  subst e1
  exact .grdF _
 | .func f cap vs h=>by
  cases a <;> simp only [d9n,reduceCtorEq] at e
  rename_i f' l'
  injection e with e1 e2
  subst e1
  exact .func _ _ vs (d8i.ren h l' e2 (by simpa [d9b] using hb))
 | .nilfunc=>by cases a <;> simp only [d9n,reduceCtorEq] at e;exact .nilfunc
 | .iface t b v h=>by
  cases a <;> simp only [d9n,reduceCtorEq] at e
  rename_i t' a
  injection e with e1 e2
  subst e1
  exact .iface _ _ v (Rep.ren h a e2 (by simpa [d9b] using hb))
 | .niliface=>by cases a <;> simp only [d9n,reduceCtorEq] at e;exact .niliface
 | .wagg l vs hw h=>by
  cases a <;> simp only [d9n,reduceCtorEq] at e
  rename_i l'
  have e' : l = e0d g l':=by injection e
  exact .wagg _ vs (b0q g (e' ▸ hw)) (d8i.ren h (exp l') (by rw [e',b0p]) (a8i (by simpa [d9b] using hb)))
 | .wptr s n b o _=>by cases a <;> simp only [d9n,reduceCtorEq] at e;cases e;exact .wptr _ _ _ _ (by simpa [d9b,upto] using hb)
 | .wslice s n b o len cap c ad _ hc hl hw had=>by cases a <;> simp only [d9n,reduceCtorEq] at e;cases e;exact .wslice _ _ _ _ _ _ c ad (by simpa [d9b,upto] using hb) hc hl hw had
 | .gptr s g o=>by cases a <;> simp only [d9n,reduceCtorEq] at e;cases e;exact .gptr s g o
theorem d8i.ren {ρ : Nat → d8c} {N : Nat → Prop} {g : Nat → Nat} {k : Nat} {q : List AV} {vs : List Value} (h : d8i ρ N q vs) (l : List AV) (e : q = e0d g l) (hb : d9q k l = true) : d8i (fun n=>ρ (g n)) (upto k) l vs:=
 match h with
 | .nil=>by
  cases l with
  | nil=>exact .nil
  | cons a l=>simp [e0d] at e
 | .cons b q v vs h hs=>by
  cases l with
  | nil=>simp [e0d] at e
  | cons a l =>
   simp only [e0d] at e
   injection e with e1 e2
   simp only [d9q,Bool.and_eq_true] at hb
   exact .cons a l v vs (Rep.ren h a e1 hb.1) (d8i.ren hs l e2 hb.2)
end
def e9j (g : Nat → Nat) : Cells → Cells
 | .vals l => .vals (e0d g l)
 | .wide l => .wide (e0d g l)
 | c=>c
theorem b7l {k : Nat} {l : List AV} {i : Nat} {a : AV} (hb : d9q k l = true) (h : l[i]? = some a) : d9b k a = true:=a6r hb a (List.mem_of_getElem? h)
theorem d90.ren {ρ : Nat → d8c} {N : Nat → Prop} {g : Nat → Nat} {k : Nat} {c : Cells} {f : Nat → Option Value} (h : d90 ρ N (e9j g c) f) (hb : ∀ l,c = .vals l ∨ c = .wide l → d9q k l = true) : d90 (fun n=>ρ (g n)) (upto k) c f:=by
 cases c with
 | vals l =>
  intro i a hi
  obtain ⟨v,h1,h2⟩:=h i (d9n g a) (by rw [b0o,hi];rfl)
  exact ⟨v,h1,h2.ren a rfl (b7l (hb l (Or.inl rfl)) hi)⟩
 | ints k' sz l=>exact h
 | bools n l=>exact h
 | wide l =>
  refine ⟨b0q g h.1,fun i a hi => ?_⟩
  obtain ⟨v,h1,h2⟩:=h.2 i (d9n g a) (by rw [b0p,b0o,hi];rfl)
  exact ⟨v,h1,h2.ren a rfl (b7l (a8i (hb l (Or.inr rfl))) hi)⟩
theorem b7m (g : Nat → Nat) : ∀ l : List AV,(e0d g l).length = l.length
 | []=>rfl
 | a :: l=>by simp only [e0d,List.length_cons,b7m g l]
theorem b3h (g : Nat → Nat) : ∀ l : List AV,d9x (e0d g l) = d9x l
 | []=>rfl
 | a :: l=>by
  have ih:=b3h g l
  cases a <;> simp only [e0d,d9n,d9x,width,ih]
theorem c4p (g : Nat → Nat) (c : Cells) : d8x (e9j g c) = d8x c:=by
 cases c with
 | vals l=>simp only [e9j,d8x,b7m]
 | ints k sz l=>rfl
 | bools n l=>rfl
 | wide l=>simp only [e9j,d8x,b3h]
inductive LeS : AV → AV → Prop
 | refl (a : AV) : LeS a a
 | int (s t : Bool) (k : IntKind) (n : Int) : LeS (.int s k n) (.int t k n)
 | slice (s t : Bool) (n o len : Nat) (cap cap' : Option Nat) (e : Nat) (h : cap' = cap ∨ cap' = none) : LeS (.slice s n o len cap e) (.slice t n o len cap' e)
 | top (a : AV) : LeS a .top
theorem LeS.rep {a b : AV} (h : LeS a b) {ρ : Nat → d8c} {N : Nat → Prop} {v : Value} (hr : Rep ρ N a v) : Rep ρ N b v:=by
 cases h with
 | refl=>exact hr
 | int s t k n=>cases hr with | int _ _ _ h=>exact .int _ _ _ h
 | slice s t n o len cap cap' e h =>
  cases hr with
  | slice _ _ _ _ _ _ c ad hn hc hl hw had =>
   refine .slice t n o len cap' e c ad hn (fun c' hc' => ?_) hl hw had
   rcases h with rfl | rfl
   ·exact hc c' hc'
   ·cases hc'
 | top=>exact .top _
inductive LeC : Cells → Cells → Prop
 | refl (c : Cells) : LeC c c
 | free (k : IntKind) (n : Nat) (l : List Int) : LeC (.ints k (some n) l) (.ints k none l)
 | bound (k : IntKind) (n : Nat) (l : List Int) (h : l.length = n) : LeC (.ints k none l) (.ints k (some n) l)
 | head (s t : Bool) (n o len : Nat) (cap cap' : Option Nat) (e : Nat) (l : List AV) (h : cap' = cap ∨ cap' = none) : LeC (.wide (.slice s n o len cap e :: l)) (.wide (.slice t n o len cap' e :: l))
theorem LeC.rep {c c' : Cells} (h : LeC c c') {ρ : Nat → d8c} {N : Nat → Prop} {f : Nat → Option Value} (hr : d90 ρ N c f) : d90 ρ N c' f ∧ d8x c' ≤ d8x c:=by
 cases h with
 | refl=>exact ⟨hr,Nat.le_refl _⟩
 | free k n l=>exact ⟨⟨(fun m hm=>by cases hm),hr.2⟩,by show l.length ≤ n;exact Nat.le_of_eq (hr.1 n rfl)⟩
 | bound k n l h=>exact ⟨⟨(fun m hm=>by cases hm;exact h),hr.2⟩,Nat.le_of_eq h.symm⟩
 | head s t n o len cap cap' e l h =>
  refine ⟨⟨WOk.cons (fun k n xs e=>by cases e) hr.1.tail,fun i a hi => ?_⟩,Nat.le_refl _⟩
  cases i with
  | zero =>
   have hi' : (AV.slice t n o len cap' e :: exp l)[0]? = some a:=hi
   simp only [List.getElem?_cons_zero,Option.some.injEq] at hi'
   subst hi'
   obtain ⟨v,h1,h2⟩:=hr.2 0 (AV.slice s n o len cap e) rfl
   exact ⟨v,h1,(LeS.slice s t n o len cap cap' e h).rep h2⟩
  | succ i=>exact hr.2 (i + 1) a hi
def Pulls (g : Nat → Nat) (m : Mem) : Nat → Mem → Prop
 | _,[]=>True
 | n,none :: r=>Pulls g m (n + 1) r
 | n,some b :: r=>(∃ c,m[g n]? = some (some ⟨b.rw,c⟩) ∧ LeC c (e9j g b.c)) ∧ Pulls g m (n + 1) r
theorem a8m {g : Nat → Nat} {m : Mem} : ∀ {M : Mem} {k n : Nat} {b : Blk},Pulls g m k M → getName M n = some b → ∃ c,getName m (g (k + n)) = some ⟨b.rw,c⟩ ∧ LeC c (e9j g b.c)
 | [],k,n,b,h,hn=>by simp [getName] at hn
 | none :: r,k,0,b,h,hn=>by simp [getName] at hn
 | none :: r,k,n + 1,b,h,hn=>by
  have:=a8m (M:=r) (k:=k + 1) (n:=n) (b:=b) h (by unfold getName at hn ⊢;simpa using hn)
  rw [show k + (n + 1) = k + 1 + n by omega];exact this
 | some x :: r,k,0,b,h,hn=>by
  simp [getName] at hn
  subst hn
  obtain ⟨⟨c,h1,h2⟩,_⟩:=h
  refine ⟨c, ?_,h2⟩
  unfold getName
  rw [Nat.add_zero,h1]
 | some x :: r,k,n + 1,b,h,hn=>by
  have:=a8m (M:=r) (k:=k + 1) (n:=n) (b:=b) h.2 (by unfold getName at hn ⊢;simpa using hn)
  rw [show k + (n + 1) = k + 1 + n by omega];exact this
def e6h (g : Nat → Nat) (L : Nat) : Bool:=(List.range L).all fun i=>(List.range L).all fun j=>Nat.beq i j || !Nat.beq (g i) (g j)
theorem d04 {g : Nat → Nat} {L : Nat} (h : e6h g L = true) {i j : Nat} (hi : i < L) (hj : j < L) (hij : i ≠ j) : g i ≠ g j:=by
 unfold e6h at h
 have h1:=List.all_eq_true.1 (List.all_eq_true.1 h i (List.mem_range.2 hi)) j (List.mem_range.2 hj)
 intro e
 rw [e] at h1
 simp only [Bool.or_eq_true,Bool.not_eq_true'] at h1
 rcases h1 with h1 | h1
 ·exact hij (Nat.eq_of_beq_eq_true h1)
 ·rw [show Nat.beq (g j) (g j) = true from Nat.beq_refl _] at h1;cases h1
def e7m (g : Nat → Nat) (k : Nat) : Bool:=(List.range k).all fun i=>Nat.beq (g i) i
theorem b5p {g : Nat → Nat} {k i : Nat} (h : e7m g k = true) (hi : i < k) : g i = i:=Nat.eq_of_beq_eq_true (List.all_eq_true.1 h i (List.mem_range.2 hi))
theorem Inv.ren {w0 : World} {S : Nat → Prop} {ρ : Nat → d8c} {g : Nat → Nat} {m M : Mem} {w : World} (h : Inv w0 S (upto m.length) ρ (getName m) w) (hp : Pulls g m 0 M) (hb : e1a M.length M = true) (hj : e6h g M.length = true) :
  Inv w0 S (upto M.length) (fun n=>ρ (g n)) (getName M) w:=by
 have get : ∀ n b,getName M n = some b → ∃ c,getName m (g n) = some ⟨b.rw,c⟩ ∧ LeC c (e9j g b.c):=fun n b hn=>by
  have:=a8m hp hn
  rwa [Nat.zero_add] at this
 refine ⟨⟨fun n b hn => ?_,fun i j bi bj hi hj' hij hr => ?_,fun n b hn=>a0f hn,h.sim.tab,fun G c hG n b hn hr => ?_⟩,
  h.size,h.frame,h.os,h.tape,h.output,fun n b hn hr => ?_⟩
 ·obtain ⟨c,c1,c2⟩:=get n b hn
  obtain ⟨cs,t,lo',hi',b1,b2,b3,b4,b5⟩:=(h.sim.blk (g n) _ c1).ex
  obtain ⟨d1,d2⟩:=c2.rep b5
  exact ⟨cs,t,lo',hi',b1,b2,b3,by rw [c4p] at d2;exact Nat.le_trans d2 b4,d1.ren fun l hl=>a6h hb hn l hl⟩
 ·obtain ⟨c,c1,_⟩:=get i bi hi
  obtain ⟨c',c1',_⟩:=get j bj hj'
  exact h.sim.inj (g i) (g j) _ _ c1 c1' (d04 hj (a0f hi) (a0f hj') hij) hr
 ·obtain ⟨c',c1,_⟩:=get n b hn
  exact h.sim.apart G c hG (g n) _ c1 hr
 ·obtain ⟨c,c1,_⟩:=get n b hn
  exact h.rws (g n) _ c1 hr
def OkN (k0 : Nat) (P : Program) (c : Code) (st : St) (K : Ex × St → Prop) : Prop:=
 ∀ (w0 : World) (S : Nat → Prop) (ρ0 : Nat → d8c) (n0 : Nat) (ds : List Deferred) (a : Act) (w : World),n0 ≤ k0 → e0i w0 S ρ0 n0 ds st a w → c.wp P (Post w0 S ρ0 n0 ds K) a w
structure e2m (k0 : Nat) (P : Program) (B : Code) (Λ : d8r) : Prop where
 ok : ∀ {id : Nat} {c : Code} {st st' : St} {o : List Bool},Code.block id c ∈ subs B → Λ id st = some (o,st') → d7x o → OkN k0 P (.block id c) st (fun p=>p = (.normal,st'))
section
variable {P : Program} {q : FuncId → Bool} {H : d82} {Λ Λ0 : d8r} {k0 : Nat}
theorem LOk.toN {B : Code} (h : LOk P B Λ) : e2m k0 P B Λ:=⟨fun hc hl ho w0 S ρ0 n0 ds a w _ hs=>h.ok hc hl ho w0 S ρ0 n0 ds a w hs⟩
theorem e2m.none {B : Code} : e2m k0 P B (fun _ _=>Option.none):=⟨fun _ h=>by cases h⟩
theorem OkN.mono {c : Code} {st : St} {K K' : Ex × St → Prop} (h : OkN k0 P c st K) (hk : ∀ p,K p → K' p) : OkN k0 P c st K':=fun w0 S ρ0 n0 ds a w h0 hs =>
 wp_mono (h w0 S ρ0 n0 ds a w h0 hs) fun e a' w' he=>by
  cases e with
  | normal=>obtain ⟨st',h1,h2⟩:=he;exact ⟨st',hk _ h1,h2⟩
  | exit id=>obtain ⟨st',h1,h2⟩:=he;exact ⟨st',hk _ h1,h2⟩
  | ret=>obtain ⟨st',h1,h2⟩:=he;exact ⟨st',hk _ h1,h2⟩
  | goto l=>exact he
  | panic ch=>exact he
  | outgrown=>exact he
theorem a8n (hm : P.follows .mixedOrders = true) (hH : HOk P H) {B : Code} (hΛ : e2m k0 P B Λ) : ∀ (n : Nat),
  (∀ {c : Code} {st : St} {K : Ex × St → Prop},(∀ x ∈ subs c,x ∈ subs B) → (d8d P q H Λ n c st).Sat K → OkN k0 P c st K) ∧
  (∀ {c : Code} {st : St} {K : Ex × St → Prop},(∀ x ∈ subs c,x ∈ subs B) → (d8d P q H Λ n (.loop c) st).Sat K → ∀ (w0 : World) (S : Nat → Prop) (ρ0 : Nat → d8c) (n0 : Nat) (ds : List Deferred) (a : Act) (w : World),n0 ≤ k0 → e0i w0 S ρ0 n0 ds st a w →
   Code.rounds P c (Post w0 S ρ0 n0 ds K) n a w):=by
 intro n
 induction n with
 | zero=>exact ⟨fun _ h=>h.elim,fun _ h=>h.elim⟩
 | succ n ih =>
  obtain ⟨ihA,ihB⟩:=ih
  have Bl : ∀ {c : Code} {st : St} {K : Ex × St → Prop},(∀ x ∈ subs c,x ∈ subs B) → (d8d P q H Λ (n + 1) (.loop c) st).Sat K → ∀ (w0 : World) (S : Nat → Prop) (ρ0 : Nat → d8c) (n0 : Nat) (ds : List Deferred) (a : Act) (w : World),n0 ≤ k0 → e0i w0 S ρ0 n0 ds st a w →
    Code.rounds P c (Post w0 S ρ0 n0 ds K) (n + 1) a w:=by
   intro c st K hc h w0 S ρ0 n0 ds a w h0 hs
   rw [rounds_succ]
   refine wp_mono (ihA hc (a1j h) w0 S ρ0 n0 ds a w h0 hs) fun e a' w' he => ?_
   cases e with
   | normal=>obtain ⟨st',h1,h2⟩:=he;exact ihB hc h1 w0 S ρ0 n0 ds a' w' h0 h2
   | exit id=>obtain ⟨st',h1,h2⟩:=he;exact ⟨st',h1,h2⟩
   | ret=>obtain ⟨st',h1,h2⟩:=he;exact ⟨st',h1,h2⟩
   | goto l=>exact he
   | panic ch=>exact he
   | outgrown=>exact he
  refine ⟨?_,Bl⟩
  intro c st K hc h w0 S ρ0 n0 ds a w h0 hs
  cases c with
  | skip=>exact wp_skip ⟨st,h,hs⟩
  | label l=>exact wp_label ⟨st,h,hs⟩
  | exit id=>exact wp_exit ⟨st,h,hs⟩
  | ret=>exact wp_ret ⟨st,h,hs⟩
  | seq x y =>
   have hx : ∀ z ∈ subs x,z ∈ subs B:=fun z hz=>hc z (by simp [subs,hz])
   have hy : ∀ z ∈ subs y,z ∈ subs B:=fun z hz=>hc z (by simp [subs,hz])
   refine wp_seq (wp_mono (ihA hx (a1j h) w0 S ρ0 n0 ds a w h0 hs) fun e a' w' he => ?_)
   cases e with
   | normal=>obtain ⟨st',h1,h2⟩:=he;exact ihA hy h1 w0 S ρ0 n0 ds a' w' h0 h2
   | exit id=>obtain ⟨st',h1,h2⟩:=he;exact ⟨st',h1,h2⟩
   | ret=>obtain ⟨st',h1,h2⟩:=he;exact ⟨st',h1,h2⟩
   | goto l=>exact he
   | panic ch=>exact he
   | outgrown=>exact he
  | cond x y z =>
   have hy : ∀ u ∈ subs y,u ∈ subs B:=fun u hu=>hc u (by simp [subs,hu])
   have hz : ∀ u ∈ subs z,u ∈ subs B:=fun u hu=>hc u (by simp [subs,hu])
   have hs0:=hs
   obtain ⟨⟨ρ,hr,hi,hag⟩,hle,hds⟩:=hs
   have hx:=c9q hr x
   simp only [d8d] at h
   split at h
   ·rename_i t hev
    rw [hev] at hx
    have hv : a.eval x = .bool t:=by
     generalize a.eval x = v at hx
     cases hx;rfl
    cases t with
    | true=>exact wp_cond_true hv (ihA hy h w0 S ρ0 n0 ds a w h0 hs0)
    | false=>exact wp_cond_false hv (ihA hz h w0 S ρ0 n0 ds a w h0 hs0)
   ·rename_i t hev
    rw [hev] at hx
    have hv : a.eval x = .bool t:=by
     generalize a.eval x = v at hx
     cases hx;rfl
    exact wp_cond_split hv (fun ht=>ihA hy (h.1 ht) w0 S ρ0 n0 ds a w h0 hs0) fun ht=>ihA hz (h.2 ht) w0 S ρ0 n0 ds a w h0 hs0
   ·exact h.elim
  | block id x =>
   have hx : ∀ z ∈ subs x,z ∈ subs B:=fun z hz=>hc z (by simp [subs,hz])
   simp only [d8d] at h
   split at h
   ·rename_i o st' hl
    obtain ⟨h1,h2⟩:=a6a h
    exact (hΛ.ok (hc _ (b2p _)) hl h1).mono (fun p hp=>by rw [hp];exact h2) w0 S ρ0 n0 ds a w h0 hs
   ·refine wp_block (wp_mono (ihA hx (a1j h) w0 S ρ0 n0 ds a w h0 hs) fun e a' w' he => ?_)
    cases e with
    | normal=>obtain ⟨st',h1,h2⟩:=he;exact ⟨st',h1,h2⟩
    | exit i =>
     obtain ⟨st',h1,h2⟩:=he
     simp only [Exit.inBlock]
     by_cases hid : i = id
     ·simp only [hid,if_true] at h1 ⊢;exact ⟨st',h1,h2⟩
     ·simp only [hid,if_false] at h1 ⊢;exact ⟨st',h1,h2⟩
    | ret=>obtain ⟨st',h1,h2⟩:=he;exact ⟨st',h1,h2⟩
    | goto l=>exact he
    | panic ch=>exact he
    | outgrown=>exact he
  | loop x =>
   have hx : ∀ z ∈ subs x,z ∈ subs B:=fun z hz=>hc z (by simp [subs,hz])
   exact wp_loop_rounds (n + 1) (Bl hx h w0 S ρ0 n0 ds a w h0 hs)
  | region id ops draw =>
   obtain ⟨o,⟨e,st'⟩,h1,h2,h3⟩:=a73 h
   obtain ⟨o1,st1,o2,g1,g2,rfl⟩:=bind_some h1
   obtain ⟨_,he⟩:=a02 g2
   cases he
   exact a4m hm hH g1 (a01.1 h2).1 hs fun a' w' hs'=>⟨_,h3,hs'⟩
  | rangeFunc _ _ _ _=>exact h.elim
  | scope _=>exact h.elim
  | goto _=>exact h.elim
  | refuse _=>exact h.elim
structure Goes (k0 : Nat) (g : Nat → Nat) (ts : List Nat) (avs : List AV) (m : Mem) (sl : List (Nat × AV)) (M : Mem) : Prop where
 slots : ∀ p ∈ sl, ∃ a,(p.1,a) ∈ d8o ts avs ∧ LeS a (d9n g p.2)
 pulls : Pulls g m 0 M
 inj : e6h g M.length = true
 fix : e7m g k0 = true
 le : k0 ≤ M.length
 bm : e1a M.length M = true
 bl : d9q M.length (sl.map (·.2)) = true
theorem c1l {f : Nat → AV} {t : Nat} : ∀ {l : List (Nat × AV)},(∃ p ∈ l,p.1 = t ∧ ups f l t = p.2) ∨ ups f l t = f t
 | []=>Or.inr rfl
 | (i,a) :: r=>by
  unfold ups
  cases hb : Nat.beq t i with
  | true=>exact Or.inl ⟨(i,a),f9b .., (Nat.eq_of_beq_eq_true hb).symm,rfl⟩
  | false =>
   rcases c1l (f:=f) (t:=t) (l:=r) with ⟨p,h1,h2,h3⟩ | h
   ·exact Or.inl ⟨p,f9a _ h1,h2,h3⟩
   ·exact Or.inr h
theorem Goes.inv {g : Nat → Nat} {ts : List Nat} {nt : Nat} {avs : List AV} {m : Mem} {sl : List (Nat × AV)} {M : Mem} (h : Goes k0 g ts avs m sl M) {st : St} (ha : ts.map (fun t=>st.tm.getD t .top) = avs) (hn : st.tm.length = nt) (hm : st.mem = m)
  {w0 : World} {S : Nat → Prop} {ρ0 : Nat → d8c} {n0 : Nat} {ds : List Deferred} {a : Act} {w : World} (h0 : n0 ≤ k0) (hs : e0i w0 S ρ0 n0 ds st a w) : e0i w0 S ρ0 n0 ds ⟨d8m (ups (fun _ => .top) sl) nt,M⟩ a w:=by
 obtain ⟨⟨ρ,r1,r2,r3⟩,r4,r5⟩:=hs
 subst hm
 refine ⟨⟨fun n=>ρ (g n),⟨fun t => ?_, ?_⟩,r2.ren h.pulls h.bm h.inj,fun i hi => ?_⟩,Nat.le_trans h0 h.le,r5⟩
 ·by_cases ht : t < nt
  ·rw [a04 ht]
   rcases c1l (f:=fun _=>AV.top) (t:=t) (l:=sl) with ⟨p,p1,p2,p3⟩ | hp
   ·rw [p3]
    obtain ⟨b,q1,q2⟩:=h.slots p p1
    have hz:=b1h ha _ q1
    simp only at hz
    have hr:=r1.rep p.1
    rw [hz] at hr
    rw [← p2]
    exact (q2.rep hr).ren p.2 rfl (a6r h.bl _ (List.mem_map_of_mem p1))
   ·rw [hp];exact .top _
  ·rw [a43 ht];exact .top _
 ·rw [a1a, ← hn];exact r1.le
 ·have hi' : i < k0:=Nat.lt_of_lt_of_le hi h0
  show ρ (g i) = ρ0 i
  rw [b5p h.fix hi']
  exact r3 i hi
mutual
theorem a49 {g : Nat → Nat} {k : Nat} (h : ∀ i,i < k → g i = i) : ∀ a : AV,d9b k a = true → d9n g a = a
 | .top,_ | .bool .., _ | .int .., _ | .str .., _ | .nilptr,_ | .nilslice,_ | .ints .., _ | .nilfunc,_ | .niliface,_ | .gptr .., _ | .bools .., _=>rfl
 | .ptr s n o,hb=>by simp only [d9n,h n (by simpa [d9b] using hb)]
 | .slice s n o len cap e,hb=>by simp only [d9n,h n (by simpa [d9b] using hb)]
 | .wptr s n b o,hb=>by simp only [d9n,h n (by simpa [d9b] using hb)]
 | .wslice s n b o len cap,hb=>by simp only [d9n,h n (by simpa [d9b] using hb)]
 | .agg l,hb=>by simp only [d9n,a6j h l (by simpa [d9b] using hb)]
 | .tuple l,hb=>by simp only [d9n,a6j h l (by simpa [d9b] using hb)]
 | .wagg l,hb=>by simp only [d9n,a6j h l (by simpa [d9b] using hb)]
 | .func f l,hb=>by simp only [d9n,a6j h l (by simpa [d9b] using hb)]
 | .grd c a,hb=>by simp only [d9n,a49 h a (by simpa [d9b] using hb)]
 | .iface t a,hb=>by simp only [d9n,a49 h a (by simpa [d9b] using hb)]
theorem a6j {g : Nat → Nat} {k : Nat} (h : ∀ i,i < k → g i = i) : ∀ l : List AV,d9q k l = true → e0d g l = l
 | [],_=>rfl
 | a :: l,hb=>by
  simp only [d9q,Bool.and_eq_true] at hb
  simp only [e0d,a49 h a hb.1,a6j h l hb.2]
end
mutual
theorem a5s {k k' : Nat} (h : k ≤ k') : ∀ a : AV,d9b k a = true → d9b k' a = true
 | .top,_ | .bool .., _ | .int .., _ | .str .., _ | .nilptr,_ | .nilslice,_ | .ints .., _ | .nilfunc,_ | .niliface,_ | .gptr .., _ | .bools .., _=>rfl
 | .ptr s n o,hb=>by simp only [d9b,decide_eq_true_eq] at hb ⊢;omega
 | .slice s n o len cap e,hb=>by simp only [d9b,decide_eq_true_eq] at hb ⊢;omega
 | .wptr s n b o,hb=>by simp only [d9b,decide_eq_true_eq] at hb ⊢;omega
 | .wslice s n b o len cap,hb=>by simp only [d9b,decide_eq_true_eq] at hb ⊢;omega
 | .agg l,hb=>by simp only [d9b] at hb ⊢;exact a8o h l hb
 | .tuple l,hb=>by simp only [d9b] at hb ⊢;exact a8o h l hb
 | .wagg l,hb=>by simp only [d9b] at hb ⊢;exact a8o h l hb
 | .func f l,hb=>by simp only [d9b] at hb ⊢;exact a8o h l hb
 | .grd c a,hb=>by simp only [d9b] at hb ⊢;exact a5s h a hb
 | .iface t a,hb=>by simp only [d9b] at hb ⊢;exact a5s h a hb
theorem a8o {k k' : Nat} (h : k ≤ k') : ∀ l : List AV,d9q k l = true → d9q k' l = true
 | [],_=>rfl
 | a :: l,hb=>by
  simp only [d9q,Bool.and_eq_true] at hb ⊢
  exact ⟨a5s h a hb.1,a8o h l hb.2⟩
end
inductive LeG (g : Nat → Nat) : List AV → List AV → Prop
 | nil : LeG g [] []
 | cons {a b : AV} {l q : List AV} (h : LeS a (d9n g b)) (hs : LeG g l q) : LeG g (a :: l) (b :: q)
theorem LeG.slots {g : Nat → Nat} : ∀ {ts : List Nat} {avs vals : List AV},LeG g avs vals → ∀ p ∈ d8o ts vals, ∃ a,(p.1,a) ∈ d8o ts avs ∧ LeS a (d9n g p.2)
 | [],avs,vals,_,p,hp=>by simp [d8o] at hp
 | t :: ts,_,_, .nil,p,hp=>by simp [d8o] at hp
 | t :: ts,a :: l,b :: q, .cons h hs,p,hp=>by
  simp only [d8o,List.mem_cons] at hp
  rcases hp with rfl | hp
  ·exact ⟨a,f9b .., h⟩
  ·obtain ⟨a',h1,h2⟩:=hs.slots p hp
   exact ⟨a',f9a _ h1,h2⟩
theorem b7n {k : Nat} : ∀ {ts : List Nat} {vals : List AV},d9q k vals = true → d9q k ((d8o ts vals).map (·.2)) = true
 | [],vals,_=>by simp [d8o,d9q]
 | t :: ts,[],_=>by simp [d8o,d9q]
 | t :: ts,b :: q,h=>by
  simp only [d9q,Bool.and_eq_true] at h
  simp only [d8o,List.map_cons,d9q,Bool.and_eq_true]
  exact ⟨h.1,b7n h.2⟩
theorem Goes.zip {k0 : Nat} {g : Nat → Nat} {ts : List Nat} {avs : List AV} {m : Mem} {vals : List AV} {M : Mem} (hs : LeG g avs vals) (hp : Pulls g m 0 M) (hi : e6h g M.length = true) (hf : e7m g k0 = true) (hl : k0 ≤ M.length) (hm : e1a M.length M = true) (hb : d9q M.length vals = true) :
  Goes k0 g ts avs m (d8o ts vals) M:=⟨hs.slots,hp,hi,hf,hl,hm,b7n hb⟩
def e0u (P : Program) (q : FuncId → Bool) (H : d82) (Λ0 : d8r) (B : Code) (id nt n k0 : Nat) (ts : List Nat) {σ : Type} (vals : σ → List AV) (M : σ → Mem) (J : σ → Prop) (μ : σ → Nat) (fin : List (Nat × AV) × Mem) (s1 : σ) : Prop:=
 (∃ ds o avs m s2 g,d8p ts ((d8d P q H Λ0 n (lp (blk id B)) ⟨d8m (ups (fun _ => .top) (d8o ts (vals s1))) nt,M s1⟩).go ds) = some (o,0,avs,nt,m) ∧ d7x o ∧ Goes k0 g ts avs m (d8o ts (vals s2)) (M s2) ∧ J s2 ∧ μ s2 < μ s1) ∨
 (∃ ds o avs m g,d8p ts ((d8d P q H Λ0 n (lp (blk id B)) ⟨d8m (ups (fun _ => .top) (d8o ts (vals s1))) nt,M s1⟩).go ds) = some (o,id + 2,avs,nt,m) ∧ d7x o ∧ Goes k0 g ts avs m fin.1 fin.2)
theorem e0u.on {B : Code} {id nt n : Nat} {ts : List Nat} {σ : Type} {vals : σ → List AV} {M : σ → Mem} {J : σ → Prop} {μ : σ → Nat} {fin : List (Nat × AV) × Mem} {s1 : σ} {ds o : List Bool} {avs : List AV} {m : Mem}
  (h : d8p ts ((d8d P q H Λ0 n (lp (blk id B)) ⟨d8m (ups (fun _ => .top) (d8o ts (vals s1))) nt,M s1⟩).go ds) = some (o,0,avs,nt,m)) (s2 : σ) (g : Nat → Nat) (ho : d7x o) (hg : Goes k0 g ts avs m (d8o ts (vals s2)) (M s2)) (hJ : J s2) (hμ : μ s2 < μ s1) :
  e0u P q H Λ0 B id nt n k0 ts vals M J μ fin s1:=Or.inl ⟨ds,o,avs,m,s2,g,h,ho,hg,hJ,hμ⟩
theorem e0u.out {B : Code} {id nt n : Nat} {ts : List Nat} {σ : Type} {vals : σ → List AV} {M : σ → Mem} {J : σ → Prop} {μ : σ → Nat} {fin : List (Nat × AV) × Mem} {s1 : σ} {ds o : List Bool} {avs : List AV} {m : Mem} {k : Nat}
  (h : d8p ts ((d8d P q H Λ0 n (lp (blk id B)) ⟨d8m (ups (fun _ => .top) (d8o ts (vals s1))) nt,M s1⟩).go ds) = some (o,k,avs,nt,m)) (hk : k = id + 2) (g : Nat → Nat) (ho : d7x o) (hg : Goes k0 g ts avs m fin.1 fin.2) :
  e0u P q H Λ0 B id nt n k0 ts vals M J μ fin s1:=Or.inr ⟨ds,o,avs,m,g,by rw [h,hk],ho,hg⟩
theorem c1m {σ : Type} {id nt n : Nat} {ts : List Nat} {B : Code} (vals : σ → List AV) (M : σ → Mem) (J : σ → σ → Prop) (μ : σ → Nat) {pat : List AV → Mem → Option σ} {owe : σ → List Bool} {fin : σ → List (Nat × AV) × Mem}
  (hm : P.follows .mixedOrders = true) (hH : HOk P H) (hΛ : e2m k0 P B Λ) (hΛ0 : e2m k0 P B Λ0) (h1 : f0h (blks id B) = true) (h2 : e2x (blk id B) = true)
  (hpat : ∀ avs m s,pat avs m = some s → d7x (owe s) → ∃ s1 g,Goes k0 g ts avs m (d8o ts (vals s1)) (M s1) ∧ J s s1)
  (round : ∀ s s1,J s s1 → e0u P q H Λ0 B id nt n k0 ts vals M (J s) μ (fin s) s1) :
  e2m k0 P B (e0p id nt ts pat owe fin Λ):=by
 refine ⟨fun {id' c st st' o} hc hl ho => ?_⟩
 unfold e0p at hl
 split at hl
 ·rename_i hb
  simp only [Bool.and_eq_true] at hb
  have hid:=Nat.eq_of_beq_eq_true hb.1
  have hlen:=Nat.eq_of_beq_eq_true hb.2
  subst hid
  split at hl
  ·rename_i s hs
   simp only [Option.some.injEq,Prod.mk.injEq] at hl
   obtain ⟨rfl,rfl⟩:=hl
   obtain ⟨s1,g1,p1,p4⟩:=hpat _ _ _ hs ho
   have e:=b7g hc h1
   rw [c4k h2] at e
   have hc' : ∀ x ∈ subs (lp (blk id' B)),x ∈ subs B:=fun x hx=>by
    refine a53 hc x ?_
    rw [e]
    simp only [subs,List.mem_cons]
    exact Or.inr (Or.inr hx)
   rw [e]
   have key : ∀ (k : Nat) (s1 : σ),μ s1 < k → J s s1 →
     ∀ (w0 : World) (S : Nat → Prop) (ρ0 : Nat → d8c) (n0 : Nat) (ds : List Deferred) (a : Act) (w : World),n0 ≤ k0 → e0i w0 S ρ0 n0 ds ⟨d8m (ups (fun _ => .top) (d8o ts (vals s1))) nt,M s1⟩ a w →
     Code.rounds P (lp (blk id' B)) (Post w0 S ρ0 n0 ds (fun p=>p = (.exit id',⟨d8m (ups (fun _ => .top) (fin s).1) nt,(fin s).2⟩))) k a w:=by
    intro k
    induction k with
    | zero=>intro s1 h;omega
    | succ k ih =>
     intro s1 hk hJ w0 S ρ0 n0 ds a w h0 hs1
     rw [rounds_succ]
     have hsat : (d8d P q H Λ0 n (lp (blk id' B)) ⟨d8m (ups (fun _ => .top) (d8o ts (vals s1))) nt,M s1⟩).Sat (fun p=>match p.1 with
       | .normal => ∃ s2 g avs m,ts.map (fun t=>p.2.tm.getD t .top) = avs ∧ p.2.tm.length = nt ∧ p.2.mem = m ∧ Goes k0 g ts avs m (d8o ts (vals s2)) (M s2) ∧ J s s2 ∧ μ s2 < μ s1
       | e=>e = .exit id' ∧ ∃ g avs m,ts.map (fun t=>p.2.tm.getD t .top) = avs ∧ p.2.tm.length = nt ∧ p.2.mem = m ∧ Goes k0 g ts avs m (fin s).1 (fin s).2):=by
      rcases round s s1 hJ with ⟨ds',o',avs,m,s2,g,r1,r2,r3,r4,r5⟩ | ⟨ds',o',avs,m,g,r1,r2,r3⟩
      ·refine a3u r1 r2 fun ex st2 hx ha hn hmm => ?_
       cases ex with
       | normal=>exact ⟨s2,g,avs,m,ha,hn,hmm,r3,r4,r5⟩
       | exit i=>simp [e4k] at hx
       | ret=>simp [e4k] at hx
      ·refine a3u r1 r2 fun ex st2 hx ha hn hmm => ?_
       cases ex with
       | normal=>simp [e4k] at hx
       | ret=>simp [e4k] at hx
       | exit i =>
        simp [e4k] at hx
        subst hx
        exact ⟨rfl,g,avs,m,ha,hn,hmm,r3⟩
     refine wp_mono ((a8n hm hH hΛ0 n).1 hc' hsat w0 S ρ0 n0 ds a w h0 hs1) fun e a' w' he => ?_
     cases e with
     | normal =>
      obtain ⟨st',⟨s2,g,avs,m,q1,q2,q3,q4,q5,q6⟩,k7⟩:=he
      exact ih s2 (by omega) q5 w0 S ρ0 n0 ds a' w' h0 (q4.inv q1 q2 q3 h0 k7)
     | exit i =>
      obtain ⟨st',⟨q0,g,avs,m,q1,q2,q3,q4⟩,k7⟩:=he
      cases q0
      exact ⟨_,rfl,q4.inv q1 q2 q3 h0 k7⟩
     | ret=>obtain ⟨st',⟨q0,_⟩,_⟩:=he;cases q0
     | goto l=>exact he
     | panic ch=>exact he
     | outgrown=>exact he
   intro w0 S ρ0 n0 ds a w h0 hs0
   refine wp_block (wp_mono (wp_loop_rounds (μ s1 + 1) (key (μ s1 + 1) s1 (by omega) p4 w0 S ρ0 n0 ds a w h0 (p1.inv rfl hlen rfl h0 hs0))) fun e a' w' he => ?_)
   cases e with
   | normal=>obtain ⟨st1,h1,h3⟩:=he;cases h1
   | exit i =>
    obtain ⟨st1,h1,h3⟩:=he
    cases h1
    simp only [Exit.inBlock,if_true]
    exact ⟨_,rfl,h3⟩
   | ret=>obtain ⟨st1,h1,h3⟩:=he;cases h1
   | goto l=>exact he
   | panic ch=>exact he
   | outgrown=>exact he
  ·exact hΛ.ok hc hl ho
 ·exact hΛ.ok hc hl ho
theorem a8p (hm : P.follows .mixedOrders = true) (hH : HOk P H) {n : Nat} {f : FuncId} (hΛ : ∀ fn c,P.funcs[f]? = some fn → fn.body = some c → e2m k0 P c Λ) {args : List AV} {m : Mem} (h0 : m.length ≤ k0) {K : AV × Mem → Prop} (h : (d8a P q H Λ n f args m).Sat K)
  {w0 : World} {S : Nat → Prop} {ρ : Nat → d8c} {w : World} {vs : List Value} (ha : d8i ρ (upto m.length) args vs) (hi : Inv w0 S (upto m.length) ρ (getName m) w) :
  (∃ fn c,P.funcs[f]? = some fn ∧ fn.body = some c) ∧ Calls P f vs.toArray w (fun e w' => ∃ u,e = .returned u ∧ e5u w0 S ρ m K u w'):=by
 unfold d8a at h
 split at h
 ·rename_i fn hfn
  split at h
  ·rename_i c hc
   refine ⟨⟨fn,c,hfn,hc⟩,calls_of_wp hfn hc ?_⟩
   have hsr:=a87 ha fn.ntmps
   refine wp_mono ((a8n hm hH (hΛ fn c hfn hc) n).1 (fun _ h=>h) (a1j h) w0 S ρ m.length [] _ _ h0 ⟨⟨ρ,hsr,hi,fun _ _=>rfl⟩,Nat.le_refl _,rfl⟩) fun e a w' he => ?_
   have fin : ∀ st,(Tree.ofE (E.bind (e72 P st fn.results.toList) fun l=>E.pure (one l,st.mem))).Sat K → e0i w0 S ρ m.length [] st a w' →
     a.defers = [] ∧ ∃ v,(results fn a.tmps).run P w' = .ok v w' ∧ ∃ u,Ending.returned v = .returned u ∧ e5u w0 S ρ m K u w':=by
    intro st hk ⟨⟨ρ',r1,r2,r3⟩,r4,r5⟩
    obtain ⟨o,⟨v1,m1⟩,k1,k2,k3⟩:=a73 hk
    obtain ⟨o1,l1,o2,g1,g2,rfl⟩:=bind_some k1
    obtain ⟨_,he⟩:=a02 g2
    cases he
    obtain ⟨us,q1,q2⟩:=a3n (P:=P) r1 r2.sim g1 (a01.1 k2).1
    refine ⟨r5,_, ?_,_,rfl,⟨_,_,ρ',k3,b5h q2,r2,r3,r4⟩⟩
    unfold results
    rw [Sem.run_bind,Array.mapM_eq_mapM_toList,Sem.run_map]
    have q1' : (fn.results.toList.mapM (fun x : ResultVar=>match x with | .tmp t=>(pure (a.tmps.getD t undef) : Sem Value) | .cell p t=>do loadVar t (← asAddr (a.tmps.getD p undef)))).run P w' = .ok us w':=q1
    refine (congrArg (fun r : Result (List Value)=>(r.andThen fun a w'=>Result.ok a.toArray w').andThen _) q1').trans ?_
    rfl
   cases e with
   | normal=>obtain ⟨st,k1,k2⟩:=he;exact fin st k1 k2
   | ret=>obtain ⟨st,k1,k2⟩:=he;exact fin st k1 k2
   | exit id=>obtain ⟨st,k1,k2⟩:=he;exact k1.elim
   | goto l=>exact he.elim
   | panic ch=>exact he.elim
   | outgrown=>exact he.elim
  ·exact h.elim
 ·exact h.elim
theorem a7h (hm : P.follows .mixedOrders = true) (hng : d7w P = true) (hH : HOk P H) {n : Nat} {g : FuncId} {xs : List V} (hΛ : ∀ fn c,P.funcs[g]? = some fn → fn.body = some c → e2m xs.length P c Λ) {o : List Bool} {v v' : AV} {m' bs : Mem} (ds : List Bool) (r : Nat → Nat)
  (h : ((d8a P q H Λ n g (d7z 0 xs) (d87 xs)).go ds).flat = some (o,(v',m'))) (ho : d7x o) (hv : v' = d9n r (upA xs.length v)) (hba : d9b (xs.length + bs.length) (upA xs.length v) = true)
  (hp : Pulls r m' 0 (List.replicate xs.length none ++ d8b (bs.map (upB xs.length)))) (hbm : e1a (xs.length + bs.length) (List.replicate xs.length none ++ d8b (bs.map (upB xs.length))) = true) (hinj : e6h r (xs.length + bs.length) = true) (hfix : e7m r xs.length = true) : d7y P g xs v bs:=by
 intro ρ vs w ha hi
 have hcm : (d87 xs).length = xs.length:=by simp [d87]
 have ha' : d8i ρ (upto (d87 xs).length) (d7z 0 xs) vs:=by rw [hcm];exact ha
 have hi' : Inv w (fun _=>False) (upto (d87 xs).length) ρ (getName (d87 xs)) w:=by rw [hcm];exact hi
 have hM : (List.replicate xs.length none ++ d8b (bs.map (upB xs.length))).length = xs.length + bs.length:=by simp [d8b]
 obtain ⟨hf,hc⟩:=a8p hm hH hΛ (Nat.le_of_eq hcm) (a13 (a0x h ho)) ha' hi'
 refine a0y hng hf (hc.mono fun e w' ⟨u,h1,x',m2,ρ',k1,k2,k3,k4,k5⟩=>⟨u,h1,fun n=>ρ' (r n), ?_, ?_⟩)
 ·cases k1
  rw [hv] at k2
  exact k2.ren _ rfl hba
 ·cases k1
  have k4' : Agr ρ (fun n=>ρ' (r n)) (upto xs.length):=fun i hi=>by
   show ρ' (r i) = ρ i
   rw [b5p hfix hi]
   exact k4 i (by rw [hcm];exact hi)
  have k3':=k3.ren hp (by rw [hM];exact hbm) (by rw [hM];exact hinj)
  rw [hM] at k3'
  refine hi.join (S1:=fun _=>False) k3' (fun _ h=>h.elim) (fun i hi=>by simp [upto] at *;omega) (fun _ h=>h) k4' (fun _ _=>rfl) fun n b hn => ?_
  rw [a07] at hn
  split at hn
  ·exact Or.inl ⟨hn,fun h=>h⟩
  ·rename_i hlt
   obtain ⟨g1,g2⟩:=a0d hn
   refine Or.inr ⟨?_,g2⟩
   rw [a07,if_neg (by rw [hcm] at hlt;simpa using hlt)]
   rw [hcm] at hn
   simpa using hn
end
end Go.Ev
