/- Code, functions, calls: what the evaluator answers holds of every run. Own work. -/
import Derived.Test.YthelmpjkkkhopaaGreatDoorZEvDraw3
import Derived.LoopN
import Derived.ProofKit
import Derived.OpenShut
set_option linter.unusedSimpArgs false
set_option linter.unusedVariables false
set_option linter.unusedSectionVars false
namespace Go.Ev
variable [Tab]
theorem a1j {α β : Type} {Q : β → Prop} : ∀ {t : Tree α} {f : α → Tree β},(t.bind f).Sat Q → t.Sat (fun a=>(f a).Sat Q)
 | .leaf _,_,h=>h
 | .need _ _,_,h=>⟨h.1,a1j h.2⟩
 | .ite _ _ _,_,h=>⟨fun hc=>a1j (h.1 hc),fun hc=>a1j (h.2 hc)⟩
 | .fail,_,h=>h
theorem a2f {α : Type} {Q R : α → Prop} (hq : ∀ a,Q a → R a) : ∀ {t : Tree α},t.Sat Q → t.Sat R
 | .leaf _,h=>hq _ h
 | .need _ _,h=>⟨h.1,a2f hq h.2⟩
 | .ite _ _ _,h=>⟨fun hc=>a2f hq (h.1 hc),fun hc=>a2f hq (h.2 hc)⟩
 | .fail,h=>h
theorem a6a {α : Type} {Q : α → Prop} {t : Tree α} : ∀ {o : List Bool},(Tree.needs o t).Sat Q → d7x o ∧ t.Sat Q
 | [],h=>⟨d7x.nil,h⟩
 | p :: o,h=>by
  obtain ⟨h1,h2⟩:=a6a (o:=o) h.2
  refine ⟨fun r hr => ?_,h2⟩
  rcases List.mem_cons.1 hr with rfl | hr
  ·exact h.1
  ·exact h1 r hr
theorem a73 {α : Type} {Q : α → Prop} {e : E α} (h : (Tree.ofE e).Sat Q) : ∃ o a,e = some (o,a) ∧ d7x o ∧ Q a:=by
 unfold Tree.ofE at h
 split at h
 ·exact h.elim
 ·rename_i o a
  obtain ⟨h1,h2⟩:=a6a h
  exact ⟨o,a,rfl,h1,h2⟩
section
variable {P : Program} {q : FuncId → Bool} {H : d82}
theorem a7d (hH : HOk P H) {w0 : World} {S : Nat → Prop} {ρ0 : Nat → d8c} {n0 : Nat} {ds : List Deferred} {ops : Array Oper} {Q : Exit → Act → World → Prop} {st' : St} (hQ : ∀ a' w',e0i w0 S ρ0 n0 ds st' a' w' → Q .normal a' w') :
  ∀ {l : List Oper} {i : Nat} {st : St} {ob : List Bool} {a : Act} {w : World},(∀ t : Nat,l[t]? = ops[i + t]?) → e4e P q H ops l st = some (ob,st') → d7x ob → e0i w0 S ρ0 n0 ds st a w →
   wpOps P ops Q (List.range' i l.length) a w
 | [],i,st,ob,a,w,_,h,ho,hs=>by
  unfold e4e at h
  obtain ⟨_,rfl⟩:=a02 h
  simpa [wpOps] using hQ a w hs
 | o :: r,i,st,ob,a,w,hl,h,ho,hs=>by
  unfold e4e at h
  obtain ⟨o1,st1,o2,h1,h2,rfl⟩:=bind_some h
  have hp:=a01.1 ho
  have ho' : ops[i]? = some o:=by have:=hl 0;simpa using this.symm
  rw [List.length_cons,List.range'_succ,wpOps_cons]
  exact b5f hH ho' h1 hp.1 hs fun a' w' hs'=>a7d hH hQ (fun t=>by have:=hl (t + 1);simp at this;rw [this];congr 1;omega) h2 hp.2 hs'
theorem a4m (hm : P.follows .mixedOrders = true) (hH : HOk P H) {w0 : World} {S : Nat → Prop} {ρ0 : Nat → d8c} {n0 : Nat} {ds : List Deferred} {ops : Array Oper} {draw : Bool} {st st' : St} {ob : List Bool} {a : Act} {w : World}
  (h : e3m P q H ops draw st = some (ob,st')) (ho : d7x ob) (hs : e0i w0 S ρ0 n0 ds st a w) {Q : Exit → Act → World → Prop} (hQ : ∀ a' w',e0i w0 S ρ0 n0 ds st' a' w' → Q .normal a' w') {rid : Nat} :
  (Code.region rid ops draw).wp P Q a w:=by
 unfold e3m at h
 split at h
 ·refine wp_region ?_
  have:=a7d hH hQ (ops:=ops) (i:=0) (fun t=>by simp) h ho hs
  rwa [Array.length_toList, ← List.range_eq_range'] at this
 ·split at h
  ·rename_i hE
   exact b0h hm hH hE h ho hs hQ
  ·cases h
def Post (w0 : World) (S : Nat → Prop) (ρ0 : Nat → d8c) (n0 : Nat) (ds : List Deferred) (K : Ex × St → Prop) : Exit → Act → World → Prop
 | .normal,a,w => ∃ st,K (.normal,st) ∧ e0i w0 S ρ0 n0 ds st a w
 | .exit id,a,w => ∃ st,K (.exit id,st) ∧ e0i w0 S ρ0 n0 ds st a w
 | .ret,a,w => ∃ st,K (.ret,st) ∧ e0i w0 S ρ0 n0 ds st a w
 | _,_,_=>False
theorem c9q {ρ : Nat → d8c} {N : Nat → Prop} {st : St} {a : Act} (h : e9i ρ N st.tm a) (x : Operand) : Rep ρ N (st.ev x) (a.eval x):=by
 cases x with
 | tmp t=>exact h.rep t
 | const v =>
  simp only [St.ev,Act.eval]
  split
  ·rename_i b hb;exact a47 hb
  ·exact .top _
 | global g=>exact .gptr false g 0
 | func f=>exact .func f [] [] .nil
theorem b5g (hm : P.follows .mixedOrders = true) (hH : HOk P H) {w0 : World} {S : Nat → Prop} {ρ0 : Nat → d8c} {n0 : Nat} {ds : List Deferred} : ∀ (n : Nat),
  (∀ {c : Code} {st : St} {K : Ex × St → Prop} {a : Act} {w : World},(e0s P q H n c st).Sat K → e0i w0 S ρ0 n0 ds st a w → c.wp P (Post w0 S ρ0 n0 ds K) a w) ∧
  (∀ {c : Code} {st : St} {K : Ex × St → Prop} {a : Act} {w : World},(e0s P q H n (.loop c) st).Sat K → e0i w0 S ρ0 n0 ds st a w → Code.rounds P c (Post w0 S ρ0 n0 ds K) n a w):=by
 intro n
 induction n with
 | zero=>exact ⟨fun h _=>h.elim,fun h _=>h.elim⟩
 | succ n ih =>
  obtain ⟨ihA,ihB⟩:=ih
  have B : ∀ {c : Code} {st : St} {K : Ex × St → Prop} {a : Act} {w : World},(e0s P q H (n + 1) (.loop c) st).Sat K → e0i w0 S ρ0 n0 ds st a w → Code.rounds P c (Post w0 S ρ0 n0 ds K) (n + 1) a w:=by
   intro c st K a w h hs
   rw [rounds_succ]
   refine wp_mono (ihA (a1j h) hs) fun e a' w' he => ?_
   cases e with
   | normal=>obtain ⟨st',h1,h2⟩:=he;exact ihB h1 h2
   | exit id=>obtain ⟨st',h1,h2⟩:=he;exact ⟨st',h1,h2⟩
   | ret=>obtain ⟨st',h1,h2⟩:=he;exact ⟨st',h1,h2⟩
   | goto l=>exact he
   | panic ch=>exact he
   | outgrown=>exact he
  refine ⟨?_,B⟩
  intro c st K a w h hs
  cases c with
  | skip=>exact wp_skip ⟨st,h,hs⟩
  | label l=>exact wp_label ⟨st,h,hs⟩
  | exit id=>exact wp_exit ⟨st,h,hs⟩
  | ret=>exact wp_ret ⟨st,h,hs⟩
  | seq x y =>
   refine wp_seq (wp_mono (ihA (a1j h) hs) fun e a' w' he => ?_)
   cases e with
   | normal=>obtain ⟨st',h1,h2⟩:=he;exact ihA h1 h2
   | exit id=>obtain ⟨st',h1,h2⟩:=he;exact ⟨st',h1,h2⟩
   | ret=>obtain ⟨st',h1,h2⟩:=he;exact ⟨st',h1,h2⟩
   | goto l=>exact he
   | panic ch=>exact he
   | outgrown=>exact he
  | cond x y z =>
   obtain ⟨⟨ρ,hr,hi,hag⟩,hle,hds⟩:=hs
   have hx:=c9q hr x
   simp only [e0s] at h
   split at h
   ·rename_i t hev
    rw [hev] at hx
    have hv : a.eval x = .bool t:=by
     generalize a.eval x = v at hx
     cases hx;rfl
    cases t with
    | true=>exact wp_cond_true hv (ihA h ⟨⟨ρ,hr,hi,hag⟩,hle,hds⟩)
    | false=>exact wp_cond_false hv (ihA h ⟨⟨ρ,hr,hi,hag⟩,hle,hds⟩)
   ·rename_i t hev
    rw [hev] at hx
    have hv : a.eval x = .bool t:=by
     generalize a.eval x = v at hx
     cases hx;rfl
    exact wp_cond_split hv (fun ht=>ihA (h.1 ht) ⟨⟨ρ,hr,hi,hag⟩,hle,hds⟩) fun ht=>ihA (h.2 ht) ⟨⟨ρ,hr,hi,hag⟩,hle,hds⟩
   ·exact h.elim
  | block id x =>
   refine wp_block (wp_mono (ihA (a1j h) hs) fun e a' w' he => ?_)
   cases e with
   | normal=>obtain ⟨st',h1,h2⟩:=he;exact ⟨st',h1,h2⟩
   | exit i =>
    obtain ⟨st',h1,h2⟩:=he
    simp only [Exit.inBlock]
    by_cases hid : i = id
    ·simp only [hid,if_true] at h1 ⊢;exact ⟨st',h1,h2⟩
    ·simp only [hid,if_false] at h1 ⊢;exact ⟨st',h1,h2⟩
   | ret=>obtain ⟨st',h1,h2⟩:=he;exact ⟨st',h1,h2⟩
   | goto l=>exact he
   | panic ch=>exact he
   | outgrown=>exact he
  | loop x=>exact wp_loop_rounds (n + 1) (B h hs)
  | region id ops draw =>
   obtain ⟨o,⟨e,st'⟩,h1,h2,h3⟩:=a73 h
   obtain ⟨o1,st1,o2,g1,g2,rfl⟩:=bind_some h1
   obtain ⟨_,he⟩:=a02 g2
   cases he
   exact a4m hm hH g1 (a01.1 h2).1 hs fun a' w' hs'=>⟨_,h3,hs'⟩
  | rangeFunc _ _ _ _=>exact h.elim
  | scope _=>exact h.elim
  | goto _=>exact h.elim
  | refuse _=>exact h.elim
theorem a3n {ρ : Nat → d8c} {N : Nat → Prop} {st : St} {a : Act} {w : World} (hr : e9i ρ N st.tm a) (hs : Sim ρ N (getName st.mem) w) : ∀ {l : List ResultVar} {ob : List Bool} {avs : List AV},e72 P st l = some (ob,avs) → d7x ob →
  ∃ vs : List Value,(l.mapM (fun x : ResultVar=>match x with | .tmp t=>(pure (a.tmps.getD t undef) : Sem Value) | .cell p t=>do loadVar t (← asAddr (a.tmps.getD p undef)))).run P w = .ok vs w ∧ d8i ρ N avs vs
 | [],ob,avs,h,_=>by
  unfold e72 at h
  obtain ⟨_,rfl⟩:=a02 h
  exact ⟨[],by simp, .nil⟩
 | .tmp t :: r,ob,avs,h,ho=>by
  unfold e72 at h
  obtain ⟨o1,l1,o2,h1,h2,rfl⟩:=bind_some h
  obtain ⟨_,rfl⟩:=a02 h2
  obtain ⟨vs,g1,g2⟩:=a3n hr hs h1 (a01.1 ho).1
  exact ⟨a.tmps.getD t undef :: vs,by simp only [List.mapM_cons,Sem.run_bind,Sem.run_pure,Result.andThen_ok,g1], .cons _ _ _ _ (hr.rep t) g2⟩
 | .cell p t :: r,ob,avs,h,ho=>by
  unfold e72 at h
  obtain ⟨o1,v1,o2,h1,h2,rfl⟩:=bind_some h
  obtain ⟨o3,l1,o4,h3,h4,rfl⟩:=bind_some h2
  obtain ⟨_,rfl⟩:=a02 h4
  have hp:=a01.1 ho
  have hp2:=a01.1 hp.2
  obtain ⟨vs,g1,g2⟩:=a3n hr hs h3 hp2.1
  obtain ⟨v,k1,⟨x,k2⟩,k3⟩:=a8d h1 hp.1 (hr.rep p) hs
  refine ⟨v :: vs, ?_, .cons _ _ _ _ k3 g2⟩
  have k4:=k1 x k2
  have hA : (asAddr (a.tmps.getD p undef)).run P w = .ok x w:=by rw [k2];rfl
  simp only [List.mapM_cons,Sem.run_bind,hA,Sem.run_pure,Result.andThen_ok,k4,g1]
theorem b5h {ρ : Nat → d8c} {N : Nat → Prop} {avs : List AV} {vs : List Value} (h : d8i ρ N avs vs) : Rep ρ N (one avs) (if h : vs.toArray.size = 1 then vs.toArray[0] else .tuple vs.toArray):=by
 cases h with
 | nil=>exact .tuple [] [] .nil
 | cons a l v vs h hs =>
  cases hs with
  | nil=>exact h
  | cons b l u vs h2 hs2 =>
   rw [dif_neg (by simp)]
   exact .tuple _ _ (.cons _ _ _ _ h (.cons _ _ _ _ h2 hs2))
theorem a87 {ρ : Nat → d8c} {N : Nat → Prop} {args : List AV} {vs : List Value} (h : d8i ρ N args vs) (k : Nat) :
  e9i ρ N (args ++ List.replicate (k - args.length) .top) { tmps:=vs.toArray ++ Array.replicate (k - vs.toArray.size) undef,defers:=[] }:=by
 have hl:=h.length
 refine ⟨fun t => ?_,by simp [hl]⟩
 by_cases ht : t < args.length
 ·rw [List.getD,List.getElem?_append_left ht]
  cases ha : args[t]? with
  | none=>exact .top _
  | some x =>
   obtain ⟨v,h1,h2⟩:=h.get t x ha
   have : (vs.toArray ++ Array.replicate (k - vs.toArray.size) undef).getD t undef = v:=by
    have hlt : t < vs.length:=by omega
    have h3 : vs[t] = v:=by simpa [hlt] using h1
    simp [Array.getElem?_append,hlt,h3]
   show Rep ρ N x ((vs.toArray ++ Array.replicate (k - vs.toArray.size) undef).getD t undef)
   rw [this];exact h2
 ·rw [List.getD,List.getElem?_append_right (by omega)]
  cases hx : (List.replicate (k - args.length) AV.top)[t - args.length]? with
  | none=>exact .top _
  | some x =>
   have:=List.mem_of_getElem? hx
   simp at this
   rw [this.2]
   exact .top _
def e5u (w0 : World) (S : Nat → Prop) (ρ : Nat → d8c) (m : Mem) (K : AV × Mem → Prop) (u : Value) (w' : World) : Prop:=
 ∃ v m' ρ',K (v,m') ∧ Rep ρ' (upto m'.length) v u ∧ Inv w0 S (upto m'.length) ρ' (getName m') w' ∧ Agr ρ ρ' (upto m.length) ∧ m.length ≤ m'.length
theorem a14 (hm : P.follows .mixedOrders = true) (hH : HOk P H) {n : Nat} {f : FuncId} {args : List AV} {m : Mem} {K : AV × Mem → Prop} (h : (d81 P q H n f args m).Sat K)
  {w0 : World} {S : Nat → Prop} {ρ : Nat → d8c} {w : World} {vs : List Value} (ha : d8i ρ (upto m.length) args vs) (hi : Inv w0 S (upto m.length) ρ (getName m) w) :
  (∃ fn c,P.funcs[f]? = some fn ∧ fn.body = some c) ∧ Calls P f vs.toArray w (fun e w' => ∃ u,e = .returned u ∧ e5u w0 S ρ m K u w'):=by
 unfold d81 at h
 split at h
 ·rename_i fn hfn
  split at h
  ·rename_i c hc
   refine ⟨⟨fn,c,hfn,hc⟩,calls_of_wp hfn hc ?_⟩
   have hsr:=a87 ha fn.ntmps
   refine wp_mono ((b5g (w0:=w0) (S:=S) (ρ0:=ρ) (n0:=m.length) (ds:=[]) hm hH n).1 (a1j h) ⟨⟨ρ,hsr,hi,fun _ _=>rfl⟩,Nat.le_refl _,rfl⟩) fun e a w' he => ?_
   have fin : ∀ st,(Tree.ofE (E.bind (e72 P st fn.results.toList) fun l=>E.pure (one l,st.mem))).Sat K → e0i w0 S ρ m.length [] st a w' →
     a.defers = [] ∧ ∃ v,(results fn a.tmps).run P w' = .ok v w' ∧ ∃ u,Ending.returned v = .returned u ∧ e5u w0 S ρ m K u w':=by
    intro st hk ⟨⟨ρ',r1,r2,r3⟩,r4,r5⟩
    obtain ⟨o,⟨v1,m1⟩,k1,k2,k3⟩:=a73 hk
    obtain ⟨o1,l1,o2,g1,g2,rfl⟩:=bind_some k1
    obtain ⟨_,he⟩:=a02 g2
    cases he
    obtain ⟨us,q1,q2⟩:=a3n (P:=P) r1 r2.sim g1 (a01.1 k2).1
    refine ⟨r5,_, ?_,_,rfl,⟨_,_,ρ',k3,b5h q2,r2,r3,r4⟩⟩
    unfold results
    rw [Sem.run_bind,Array.mapM_eq_mapM_toList,Sem.run_map]
    have q1' : (fn.results.toList.mapM (fun x : ResultVar=>match x with | .tmp t=>(pure (a.tmps.getD t undef) : Sem Value) | .cell p t=>do loadVar t (← asAddr (a.tmps.getD p undef)))).run P w' = .ok us w':=q1
    refine (congrArg (fun r : Result (List Value)=>(r.andThen fun a w'=>Result.ok a.toArray w').andThen _) q1').trans ?_
    rfl
   cases e with
   | normal=>obtain ⟨st,k1,k2⟩:=he;exact fin st k1 k2
   | ret=>obtain ⟨st,k1,k2⟩:=he;exact fin st k1 k2
   | exit id=>obtain ⟨st,k1,k2⟩:=he;exact k1.elim
   | goto l=>exact he.elim
   | panic ch=>exact he.elim
   | outgrown=>exact he.elim
  ·exact h.elim
 ·exact h.elim
theorem b0i {c : Bool} {a b v : AV} (h : f2i c a b = some v) {ρ ρ' : Nat → d8c} {N N' : Nat → Prop} {u : Value} : (c = true → Rep ρ N a u → Rep ρ' N' v u) ∧ (c = false → Rep ρ N b u → Rep ρ' N' v u):=by
 unfold f2i at h
 split at h
 ·cases h
  exact ⟨(fun hc hr=>by subst hc;cases hr;exact .bool _ _),fun hc hr=>by subst hc;cases hr;exact .bool _ _⟩
 ·split at h
  ·rename_i hk
   subst hk
   cases h
   exact ⟨(fun hc hr=>by subst hc;cases hr with | int _ _ _ h=>exact .int _ _ _ h),fun hc hr=>by subst hc;cases hr with | int _ _ _ h=>exact .int _ _ _ h⟩
  ·cases h
 ·split at h
  ·rename_i hk
   obtain ⟨hk,hn⟩:=hk
   subst hk hn
   cases h
   exact ⟨(fun hc hr=>by subst hc;cases hr with | ints _ _ _ hn h=>exact .ints _ _ _ hn h),fun hc hr=>by subst hc;cases hr with | ints _ _ _ hn h=>exact .ints _ _ _ hn h⟩
  ·cases h
 ·cases h
  exact ⟨(fun hc hr=>by subst hc;cases hr with | str _ _ h=>exact .str _ _ h),fun hc hr=>by subst hc;cases hr with | str _ _ h=>exact .str _ _ h⟩
 ·cases h
theorem a6b {c : Bool} {ρ ρ' : Nat → d8c} {N N' : Nat → Prop} : ∀ {l k r : List AV} {us : List Value},e4f c l k = some r → (c = true → d8i ρ N l us → d8i ρ' N' r us) ∧ (c = false → d8i ρ N k us → d8i ρ' N' r us)
 | [],[],r,us,h=>by
  simp [e4f] at h
  subst h
  exact ⟨(fun _ hr=>by cases hr;exact .nil),fun _ hr=>by cases hr;exact .nil⟩
 | a :: l,b :: k,r,us,h=>by
  simp only [e4f] at h
  split at h
  ·rename_i x y h1 h2
   cases h
   refine ⟨fun hc hr => ?_,fun hc hr => ?_⟩
   ·cases hr with
    | cons _ _ v vs hv hvs=>exact .cons _ _ _ _ ((b0i h1).1 hc hv) ((a6b h2).1 hc hvs)
   ·cases hr with
    | cons _ _ v vs hv hvs=>exact .cons _ _ _ _ ((b0i h1).2 hc hv) ((a6b h2).2 hc hvs)
  ·cases h
 | [],_ :: _,_,_,h=>by simp [e4f] at h
 | _ :: _,[],_,_,h=>by simp [e4f] at h
theorem b7e {c : Bool} {a b v : AV} (h : f4r c a b = some v) {ρ ρ' : Nat → d8c} {N N' : Nat → Prop} {u : Value} : (c = true → Rep ρ N a u → Rep ρ' N' v u) ∧ (c = false → Rep ρ N b u → Rep ρ' N' v u):=by
 unfold f4r at h
 split at h
 ·rename_i l k
  cases hm : e4f c l k with
  | none=>simp [hm] at h
  | some r =>
   simp [hm] at h
   subst h
   refine ⟨fun hc hr => ?_,fun hc hr => ?_⟩
   ·cases hr with
    | tuple _ vs hv=>exact .tuple _ _ ((a6b hm).1 hc hv)
   ·cases hr with
    | tuple _ vs hv=>exact .tuple _ _ ((a6b hm).2 hc hv)
 ·exact b0i h
theorem a3o : ∀ {T : Tree (AV × Mem)} {o : List Bool} {v : AV},T.mix = some (o,v) → d7x o →
  T.Sat (fun p => ∀ {ρ ρ' : Nat → d8c} {N N' : Nat → Prop} {u : Value},Rep ρ N p.1 u → Rep ρ' N' v u)
 | .leaf (x,m),o,v,h,_=>by
  simp only [Tree.mix] at h
  split at h
  ·rename_i hp
   obtain ⟨_,rfl⟩:=a02 h
   exact fun hr=>a5r hr hp
  ·cases h
 | .need p t,o,v,h,ho=>by
  simp only [Tree.mix] at h
  split at h
  ·rename_i o1 a ht
   cases h
   exact ⟨ho p (f9b ..),a3o ht fun r hr=>ho r (f9a _ hr)⟩
  ·cases h
 | .ite c t e,o,v,h,ho=>by
  simp only [Tree.mix] at h
  split at h
  ·rename_i o1 a o2 b ht he
   split at h
   ·rename_i x hx
    cases h
    have hp:=a01.1 ho
    refine ⟨fun hc=>a2f (Q:=fun p => ∀ {ρ ρ' : Nat → d8c} {N N' : Nat → Prop} {u : Value},Rep ρ N p.1 u → Rep ρ' N' a u) ?_ (a3o ht fun r hr => ?_),
     fun hc=>a2f (Q:=fun p => ∀ {ρ ρ' : Nat → d8c} {N N' : Nat → Prop} {u : Value},Rep ρ N p.1 u → Rep ρ' N' b u) ?_ (a3o he fun r hr => ?_)⟩
    ·intro p hpr ρ ρ' N N' u hr
     exact (b7e hx).1 hc (hpr (ρ':=ρ) (N':=N) hr)
    ·have:=hp.1 (!c || r) (List.mem_map.2 ⟨r,hr,rfl⟩)
     simpa [hc] using this
    ·intro p hpr ρ ρ' N N' u hr
     exact (b7e hx).2 hc (hpr (ρ':=ρ) (N':=N) hr)
    ·have:=hp.2 (c || r) (List.mem_map.2 ⟨r,hr,rfl⟩)
     simpa [hc] using this
   ·cases h
  ·cases h
 | .fail,o,v,h,_=>by simp [Tree.mix] at h
theorem a0x {α : Type} : ∀ {T : Tree α} {o : List Bool} {a : α},T.flat = some (o,a) → d7x o → T.Sat (fun x=>x = a)
 | .leaf x,o,a,h,_=>by
  obtain ⟨_,rfl⟩:=a02 h
  exact rfl
 | .need p t,o,a,h,ho=>by
  simp only [Tree.flat] at h
  split at h
  ·rename_i o1 b ht
   cases h
   exact ⟨ho p (f9b ..),a0x ht fun r hr=>ho r (f9a _ hr)⟩
  ·cases h
 | .ite _ _ _,o,a,h,_=>by simp [Tree.flat] at h
 | .fail,o,a,h,_=>by simp [Tree.flat] at h
def d7w (P : Program) : Bool := P.funcs.all fun fn => !(fn.name == "runtime.NumGoroutine")
theorem a0y (hng : d7w P = true) {f : FuncId} {vs : Array Value} {w : World} {Q : Value → World → Prop} (hf : ∃ fn c,P.funcs[f]? = some fn ∧ fn.body = some c)
  (h : Calls P f vs w (fun e w' => ∃ u,e = .returned u ∧ Q u w')) : d8t P f vs w Q:=by
 obtain ⟨fn,c,h1,h2⟩:=hf
 have h3 : ¬ fn.name = "runtime.NumGoroutine" := by
  have:=Array.all_eq_true'.1 hng fn (Array.mem_of_getElem? h1)
  simpa using this
 have : (callFunc f vs).run P w = .ok (.enter f vs) w:=by
  unfold callFunc
  simp [h1,h2,h3]
 unfold d8t
 rw [this]
 exact h
theorem b0j {ρ : Nat → d8c} {m : Mem} {w0 : World} {S : Nat → Prop} {w : World} (hi : Inv w0 S (upto m.length) ρ (getName m) w) : Inv w (fun _=>False) (upto (d96 m).length) ρ (getName (d96 m)) w:=by
 have hl : (d96 m).length = m.length:=by simp [d96]
 rw [hl]
 have ro : ∀ n b,getName (d96 m) n = some b → ∃ b',getName m n = some b' ∧ b.c = b'.c ∧ b.rw = false:=fun n b hn=>by
  rw [a2x] at hn
  cases hg : getName m n with
  | none=>simp [hg] at hn
  | some b0=>simp [hg] at hn;subst hn;exact ⟨b0,rfl,rfl,rfl⟩
 exact Inv.start _ (hi.sim.sub fun n b hn=>by
  obtain ⟨b',h1,h2,h3⟩:=ro n b hn
  exact ⟨b',h1,h2,fun h=>by rw [h3] at h;cases h⟩) fun n b hn hr=>by
  obtain ⟨b',h1,h2,h3⟩:=ro n b hn
  rw [h3] at hr;cases hr
theorem HOk.deep (hm : P.follows .mixedOrders = true) (hng : d7w P = true) {q : FuncId → Bool} {X : d82} (hX : HOk P X) (fuel : Nat) : ∀ n,HOk P (deep P q X fuel n)
 | 0=>hX
 | n + 1=>by
  have ih:=HOk.deep hm hng (q:=q) hX fuel n
  have both : ∀ {f : FuncId} {as : List AV} {m : Mem} {ob : List Bool} {v : AV} {m' : Mem},Go.Ev.deep P q X fuel (n + 1) f as m = some (ob,(v,m')) → d7x ob →
    m.length ≤ m'.length ∧ ∀ {w0 : World} {S : Nat → Prop} {ρ : Nat → d8c} {w : World} {vs : List Value},d8i ρ (upto m.length) as vs → Inv w0 S (upto m.length) ρ (getName m) w →
    d8t P f vs.toArray w (fun u w' => ∃ ρ',Rep ρ' (upto m'.length) v u ∧ Inv w0 S (upto m'.length) ρ' (getName m') w' ∧ Agr ρ ρ' (upto m.length)):=by
   intro f as m ob v m' h ho
   simp only [Go.Ev.deep] at h
   split at h
   ·rename_i r hr
    cases h
    exact ⟨hX.le hr ho,fun ha hi=>hX.run hr ho ha hi⟩
   ·have hl : (d96 m).length = m.length:=by simp [d96]
    split at h
    ·unfold e8q at h
     split at h
     ·rename_i o1 x hmix
      cases h
      refine ⟨Nat.le_refl _,fun {w0 S ρ w vs} ha hi => ?_⟩
      have hsat:=a3o hmix ho
      obtain ⟨hf,hc⟩:=a14 hm ih hsat (w0:=w) (S:=fun _=>False) (by rw [hl];exact ha) (b0j hi)
      refine a0y hng hf (hc.mono fun e w' ⟨u,h1,x',m1,ρ',k1,k2,k3,k4,k5⟩=>⟨u,h1,ρ,k1 k2,hi.quiet k3,fun _ _=>rfl⟩)
     ·split at h
      ·rename_i o1 x m1 hflat
       cases h
       have hsat:=a0x hflat ho
       refine ⟨by simp,fun {w0 S ρ w vs} ha hi => ?_⟩
       obtain ⟨hf,hc⟩:=a14 hm ih hsat (w0:=w) (S:=fun _=>False) (by rw [hl];exact ha) (b0j hi)
       refine a0y hng hf (hc.mono fun e w' ⟨u,h1,x',m2,ρ',k1,k2,k3,k4,k5⟩=>⟨u,h1,ρ', ?_⟩)
       cases k1
       rw [hl] at k4 k5
       have hlen : (m ++ d8b (m1.drop m.length)).length = m1.length:=by simp [d8b];omega
       rw [hlen]
       refine ⟨k2,hi.join k3 (fun _ h=>h.elim) (fun i hi=>by simp [upto] at *;omega) (fun _ h=>h) k4 (fun _ _=>rfl) fun k b hk => ?_,k4⟩
       rw [a07] at hk
       split at hk
       ·exact Or.inl ⟨hk,fun h=>h⟩
       ·right
        obtain ⟨g1,g2⟩:=a0d hk
        rw [a1b,show m.length + (k - m.length) = k by omega] at g1
        exact ⟨g1,g2⟩
      ·cases h
    ·split at h
     case h_2=>cases h
     rename_i o1 x m1 hflat
     split at h
     case h_2=>cases h
     rename_i hle
     cases h
     have hsat:=a0x hflat ho
     refine ⟨by simpa using hle,fun {w0 S ρ w vs} ha hi => ?_⟩
     obtain ⟨hf,hc⟩:=a14 hm ih hsat (w0:=w0) (S:=S) ha hi
     refine a0y hng hf (hc.mono fun e w' ⟨u,h1,x',m2,ρ',k1,k2,k3,k4,k5⟩=>⟨u,h1,ρ', ?_⟩)
     cases k1
     exact ⟨k2,k3,k4⟩
  exact ⟨@fun f as m ob v m' h ho=>(both h ho).1, @fun f as m ob v m' h ho w0 S ρ w vs ha hi=>(both h ho).2 ha hi⟩
end
end Go.Ev
namespace Go.Ev
variable [Tab]
open Go.ChangeShapes Go.WideShapes Go.ChangeAt Go.RowKit
theorem hiP (k : IntKind) : k.max = hi k:=by cases k <;> rfl
theorem loP (k : IntKind) : k.min = lo k:=by cases k <;> rfl
def res (T : Tree (AV × Mem)) : E AV:=match T.flat with | some (o,(v,_))=>some (o,v) | none=>none
def all1 : List Bool → Bool
 | []=>true
 | p :: r=>p && all1 r
theorem a88 : ∀ {o : List Bool},all1 o = true → d7x o
 | [],_=>d7x.nil
 | p :: r,h=>by
  simp only [all1,Bool.and_eq_true] at h
  intro x hx
  rcases List.mem_cons.1 hx with rfl | hx
  ·exact h.1
  ·exact a88 h.2 x hx
theorem c16 {T : Tree (AV × Mem)} {o : List Bool} {v : AV} (h : res T = some (o,v)) (ho : d7x o) : T.Sat (fun p=>p.1 = v):=by
 unfold res at h
 split at h
 ·rename_i o' v' m hf
  cases h
  exact a2f (fun p hp=>by rw [hp]) (a0x hf ho)
 ·cases h
def d86 (P : Program) (g : FuncId) (args : List AV) (v : AV) : Prop:=
 ∀ {ρ : Nat → d8c} {N : Nat → Prop} {vs : List Value},d8i ρ N args vs → ∀ w : World,e4r w →
  d8t P g vs.toArray w (fun u w'=>(∀ (ρ : Nat → d8c) (N : Nat → Prop),Rep ρ N v u) ∧ Inv w (fun _=>False) (fun _=>False) (fun _=>⟨0,0,0⟩) (fun _=>Option.none) w')
def d8g (g : FuncId) (spec : List AV → E AV) (X : d82) : d82:=fun f args m =>
 match decide (f = g) with
 | true=>match spec args with
  | some (o,v)=>some (o,(v,m))
  | none=>X f args m
 | false=>X f args m
section
variable {P : Program} {q : FuncId → Bool} {H : d82}
theorem HOk.d8g {g : FuncId} {spec : List AV → E AV} (hX : HOk P H) (h : ∀ args o v,spec args = some (o,v) → d7x o → d86 P g args v) : HOk P (d8g g spec H):=by
 have both : ∀ {f : FuncId} {as : List AV} {m : Mem} {ob : List Bool} {v : AV} {m' : Mem},Go.Ev.d8g g spec H f as m = some (ob,(v,m')) → d7x ob →
   m.length ≤ m'.length ∧ ∀ {w0 : World} {S : Nat → Prop} {ρ : Nat → d8c} {w : World} {vs : List Value},d8i ρ (upto m.length) as vs → Inv w0 S (upto m.length) ρ (getName m) w →
   d8t P f vs.toArray w (fun u w' => ∃ ρ',Rep ρ' (upto m'.length) v u ∧ Inv w0 S (upto m'.length) ρ' (getName m') w' ∧ Agr ρ ρ' (upto m.length)):=by
  intro f as m ob v m' hr ho
  unfold Go.Ev.d8g at hr
  split at hr
  ·rename_i hf
   simp at hf
   subst hf
   split at hr
   ·rename_i o1 v1 hs
    cases hr
    refine ⟨Nat.le_refl _,fun {w0 S ρ w vs} ha hi => ?_⟩
    exact (h _ _ _ hs ho ha w hi.sim.tab).mono fun u w' ⟨h1,h2⟩=>⟨ρ,h1 _ _,hi.quiet h2,fun _ _=>rfl⟩
   ·exact ⟨hX.le hr ho,fun ha hi=>hX.run hr ho ha hi⟩
  ·exact ⟨hX.le hr ho,fun ha hi=>hX.run hr ho ha hi⟩
 exact ⟨@fun f as m ob v m' h ho=>(both h ho).1, @fun f as m ob v m' h ho w0 S ρ w vs ha hi=>(both h ho).2 ha hi⟩
theorem HOk.none : HOk P (fun _ _ _=>Option.none):=⟨(fun h=>by cases h),fun h=>by cases h⟩
theorem Inv.nothing (w : World) (hT : e4r w) : Inv w (fun _=>False) (upto ([] : Mem).length) (fun _=>⟨0,0,0⟩) (getName []) w:=by
 refine ⟨⟨?_, ?_, ?_,hT, ?_⟩,Nat.le_refl _,fun _ _ _=>rfl,rfl,rfl,rfl, ?_⟩
 ·intro n b h;simp [getName] at h
 ·intro i j bi bj h;simp [getName] at h
 ·intro n b h;simp [getName] at h
 ·intro G c hG n b h;simp [getName] at h
 ·intro n b h;simp [getName] at h
theorem a2i (hm : P.follows .mixedOrders = true) (hng : d7w P = true) (hH : HOk P H) {n : Nat} {g : FuncId} {args : List AV} {v : AV} (hp : args.all d9e = true)
  (h : (d81 P q H n g args []).Sat (fun p => ∀ {ρ ρ' : Nat → d8c} {N N' : Nat → Prop} {u : Value},Rep ρ N p.1 u → Rep ρ' N' v u)) : d86 P g args v:=by
 intro ρ N vs ha w hT
 obtain ⟨hf,hc⟩:=a14 hm hH h (w0:=w) (S:=fun _=>False) (ρ:=fun _=>⟨0,0,0⟩) (a75 ha hp) (Inv.nothing w hT)
 exact a0y hng hf (hc.mono fun e w' ⟨u,h1,x',m2,ρ',k1,k2,k3,k4,k5⟩=>⟨u,h1,fun ρ N=>k1 k2,k3.none⟩)
theorem a89 {T : Tree (AV × Mem)} {o : List Bool} {v v' : AV} (h : res T = some (o,v)) (ho : d7x o)
  (hv : ∀ {ρ ρ' : Nat → d8c} {N N' : Nat → Prop} {u : Value},Rep ρ N v u → Rep ρ' N' v' u) :
  T.Sat (fun p => ∀ {ρ ρ' : Nat → d8c} {N N' : Nat → Prop} {u : Value},Rep ρ N p.1 u → Rep ρ' N' v' u):=
 a2f (fun p hp=>by intro ρ ρ' N N' u hr;rw [hp] at hr;exact hv hr) (c16 h ho)
theorem a00 {p : Bool} {o : List Bool} (h : p = true) (hs : d7x o) : d7x (p :: o):=fun x hx=>by
 rcases List.mem_cons.1 hx with rfl | hx
 ·exact h
 ·exact hs x hx
theorem a5d {T : Tree (AV × Mem)} {o : List Bool} {v v' : AV} (h : res T = some (o,v)) (ho : d7x o) (hv : v = v') (hpl : d8z v' = true) :
  T.Sat (fun p => ∀ {ρ ρ' : Nat → d8c} {N N' : Nat → Prop} {u : Value},Rep ρ N p.1 u → Rep ρ' N' v' u):=by
 subst hv
 exact a89 h ho fun hr=>a5r hr hpl
theorem a0b (hm : P.follows .mixedOrders = true) (hng : d7w P = true) (hH : HOk P H) {n : Nat} {g : FuncId} {args : List AV} {o : List Bool} {v v' : AV} (hp : args.all d9e = true)
  (h : res (d81 P q H n g args []) = some (o,v)) (ho : d7x o) (hv : v = v') (hpl : d8z v' = true) : d86 P g args v':=
 a2i hm hng hH hp (a5d h ho hv hpl)
theorem a41 (hm : P.follows .mixedOrders = true) (hng : d7w P = true) (hH : HOk P H) {n : Nat} {g : FuncId} {args : List AV} {o : List Bool} {v v' : AV} (hp : args.all d9e = true)
  (h : (d81 P q H n g args []).mix = some (o,v)) (ho : d7x o) (hv : v = v') : d86 P g args v':=by
 subst hv
 exact a2i hm hng hH hp (a3o h ho)
def rep (n : Nat) (x : Bool) (l : List Bool) : List Bool:=match n with | 0=>l | n + 1=>x :: rep n x l
theorem a7q {x : Bool} {l : List Bool} (h : x = true) (hs : d7x l) : ∀ n,d7x (rep n x l)
 | 0=>hs
 | n + 1=>a00 h (a7q h hs n)
theorem f0y {b : Bool} {ρ ρ' : Nat → d8c} {N N' : Nat → Prop} {u : Value} (h : Rep ρ N (.bool true b) u) : Rep ρ' N' (.bool false b) u:=by
 cases h;exact .bool _ _
theorem a5e {g : FuncId} {fn : Func} {e : Array Value → Sem Value} {vs : Array Value} {w : World} {Q : Value → World → Prop} {v : Value} (hf : P.funcs[g]? = some fn) (hb : fn.body.isNone = true)
  (hn : (fn.name == "runtime.NumGoroutine") = false) (h1 : Extern.findNext fn = none) (h2 : Extern.find fn = some e) (hr : (e vs).run P w = .ok v w) (hq : Q v w) : d8t P g vs w Q := by
 have : (callFunc g vs).run P w = .ok (.value v) w:=by
  have hn' : ¬ fn.name = "runtime.NumGoroutine" := by simpa using hn
  have hb' : fn.body = Option.none:=by simpa using hb
  unfold callFunc
  simp [hf,hn',hb',h1,h2,hr]
 unfold d8t
 rw [this];exact hq
theorem Inv.same (w : World) (hT : e4r w) : Inv w (fun _=>False) (fun _=>False) (fun _=>⟨0,0,0⟩) (fun _=>Option.none) w:=(Inv.nothing w hT).none
end
section
variable {H : Type} {enc : TypeId × Value → H} {P : Program}
theorem a6c (hl : laidOutB P = true) {W W' : World} {sp' : Nat → Bool} : ∀ {ts : List TypeId} {vs : List Value} {ds : List (DataW H)} {ps : List MemPlace},(∀ t ∈ ts,P.readableRec t = true ∧ t < P.types.size) →
  DataW.TrodAll enc P W 0 (fun _=>true) true ts vs ds ps → (∀ x ∈ ps,W.sameAt W' x) → (∀ x ∈ ps,sp' x.block = true) → DataW.TrodAll enc P W' 0 sp' true ts vs ds ps
 | [],vs,ds,ps,_,h,_,_=>by
  obtain ⟨rfl,rfl,rfl⟩:=trodAll_nil h
  exact trodAll_mk0
 | t :: ts,vs,ds,ps,hr,h,h1,h2=>by
  obtain ⟨v,vs1,d,ds1,a,b,rfl,rfl,rfl,g1,g2⟩:=trodAll_cons h
  exact trodAll_cons_mk (WideElems.Trod_stays hl (hr t (f9b ..)).1 (hr t (f9b ..)).2 g1 (fun x hx=>h1 x (List.mem_append.2 (Or.inl hx))) (fun x hx=>h2 x (List.mem_append.2 (Or.inl hx))))
   (a6c hl (fun t ht=>hr t (f9a _ ht)) g2 (fun x hx=>h1 x (List.mem_append.2 (Or.inr hx))) (fun x hx=>h2 x (List.mem_append.2 (Or.inr hx))))
theorem a8a {f : Func} {s : ChangeSpec} {apart fresh handsOn again : Bool} {W W' : World} {args : Array Value} {ds gs : List (DataW H)} {before : List MemPlace} {t : TypeId}
  (hl : laidOutB P = true) (hr : ∀ x ∈ f.params.toList,P.readableRec x = true ∧ x < P.types.size)
  (hW : DataW.Whole enc P f.params.toList s.vars apart W args.toList ds gs before) (hv : s.vars = []) (hf : f.resultTypes = #[t]) (ht : P.underlying t = some .bool)
  (hres : (s.fn H (ds ++ gs)).results = [.lit (.bool true)]) (hargs : (s.fn H (ds ++ gs)).args = ds) (hvars : (s.fn H (ds ++ gs)).vars = []) (hb : Below W.heap.size W W') :
  s.post enc P f apart fresh handsOn again W args (.bool true) W':=by
 have hlt : ∀ p ∈ before,p.block < W.heap.size:=fun p hp=>hW.lt p hp
 have hW2:=hW
 obtain ⟨p,q,hA,hV,rfl,hz,hn⟩:=hW
 rw [hv] at hV
 obtain ⟨rfl,rfl⟩:=trodVars_none hV
 rw [List.append_nil] at hlt hz
 have A : ∀ sp : Nat → Bool,(∀ x ∈ p,sp x.block = true) → DataW.TrodAll enc P W' 0 sp true f.params.toList args.toList ds p:=fun sp hsp =>
  a6c hl hr hA (fun x hx=>hb.same (hlt x hx)) hsp
 have R : ∀ (b : Nat) (sp : Nat → Bool) (hd : Bool),DataW.TrodAll enc P W' b sp hd f.resultTypes.toList ((Value.bool true).resultList f.resultTypes.size) (s.fn H (ds ++ [])).results []:=fun b sp hd=>by
  rw [hres,hf]
  exact trodAll_mk1 (shut_bool ht true)
 have V : ∀ sp : Nat → Bool,DataW.TrodVars enc P W' sp s.vars (s.fn H (ds ++ [])).vars []:=fun sp=>by
  rw [hv,hvars];exact rfl
 refine ⟨ds,[],p ++ [],[],p,[],hW2,R _ _ _,by rw [hargs];exact A _ (fun x hx=>by simpa using hlt x hx),V _,World.keptBut_mono (fun p hp=>⟨hp, ?_⟩) (hb.frame _),fun _ => ?_⟩
 ·exact Or.inr (Or.inl (by simpa using hp))
 ·refine ⟨ok_one hf rfl (okWide_bool_mk ht true),_,_,([] ++ p) ++ [],⟨[] ++ p,[],trodAll_append (A _ (fun _ _=>rfl)) (R _ _ _),V _,rfl, ?_, ?_⟩, ?_⟩
  ·intro b off hp
   have hp' : MemPlace.cell b off ∈ p:=by simpa using hp
   rw [hb.frozen (p:=⟨b,off,none⟩) (show b < W.heap.size from hlt _ hp')]
   exact hz b off (by simpa using hp)
  ·intro ha
   have:=hn ha
   simpa using this
  ·intro p hp _
   simpa using hp
end
end Go.Ev
