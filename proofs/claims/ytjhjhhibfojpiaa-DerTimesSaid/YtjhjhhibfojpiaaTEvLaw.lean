/- From the evaluator to contracts of functions, and to the rows of laws. Own work. -/
import Derived.Test.YtjhjhhibfojpiaaTEvCode
import Derived.ProofKit
import Derived.OpenShut
set_option linter.unusedSimpArgs false
set_option linter.unusedVariables false
set_option linter.unusedSectionVars false
namespace Go.Ev
set_option linter.unusedSectionVars false
variable [Tab]
open Go.ChangeShapes Go.WideShapes Go.ChangeAt Go.RowKit

theorem hiP (k : IntKind) : k.max = hi k := by cases k <;> rfl
theorem loP (k : IntKind) : k.min = lo k := by cases k <;> rfl

/-- One end alone: what is owed, and the value. -/
def res (T : Tree (AV × Mem)) : E AV := match T.flat with | some (o, (v, _)) => some (o, v) | none => none
def all1 : List Bool → Bool
  | [] => true
  | p :: r => p && all1 r
theorem all1_paid : ∀ {o : List Bool}, all1 o = true → Paid o
  | [], _ => Paid.nil
  | p :: r, h => by
    simp only [all1, Bool.and_eq_true] at h
    intro x hx
    rcases List.mem_cons.1 hx with rfl | hx
    · exact h.1
    · exact all1_paid h.2 x hx
theorem sat_res {T : Tree (AV × Mem)} {o : List Bool} {v : AV} (h : res T = some (o, v)) (ho : Paid o) : T.Sat (fun p => p.1 = v) := by
  unfold res at h
  split at h
  · rename_i o' v' m hf
    cases h
    exact sat_mono (fun p hp => by rw [hp]) (flat_sound hf ho)
  · cases h
/-- A call that only reckons. -/
def PureCall (P : Program) (g : FuncId) (args : List AV) (v : AV) : Prop :=
  ∀ {ρ : Nat → Loc3} {N : Nat → Prop} {vs : List Value}, Reps ρ N args vs → ∀ w : World, TRep w →
    CallRun P g vs.toArray w (fun u w' => (∀ (ρ : Nat → Loc3) (N : Nat → Prop), Rep ρ N v u) ∧ Inv w (fun _ => False) (fun _ => False) (fun _ => ⟨0, 0, 0⟩) (fun _ => Option.none) w')

def withC (g : FuncId) (spec : List AV → E AV) (X : CallH) : CallH := fun f args m =>
  match decide (f = g) with
  | true => match spec args with
    | some (o, v) => some (o, (v, m))
    | none => X f args m
  | false => X f args m

section
variable {P : Program} {q : FuncId → Bool} {H : CallH}

theorem HOk.withC {g : FuncId} {spec : List AV → E AV} (hX : HOk P H) (h : ∀ args o v, spec args = some (o, v) → Paid o → PureCall P g args v) : HOk P (withC g spec H) := by
  have both : ∀ {f : FuncId} {as : List AV} {m : Mem} {ob : List Bool} {v : AV} {m' : Mem}, Go.Ev.withC g spec H f as m = some (ob, (v, m')) → Paid ob →
      m.length ≤ m'.length ∧ ∀ {w0 : World} {S : Nat → Prop} {ρ : Nat → Loc3} {w : World} {vs : List Value}, Reps ρ (upto m.length) as vs → Inv w0 S (upto m.length) ρ (getName m) w →
      CallRun P f vs.toArray w (fun u w' => ∃ ρ', Rep ρ' (upto m'.length) v u ∧ Inv w0 S (upto m'.length) ρ' (getName m') w' ∧ Agr ρ ρ' (upto m.length)) := by
    intro f as m ob v m' hr ho
    unfold Go.Ev.withC at hr
    split at hr
    · rename_i hf
      simp at hf
      subst hf
      split at hr
      · rename_i o1 v1 hs
        cases hr
        refine ⟨Nat.le_refl _, fun {w0 S ρ w vs} ha hi => ?_⟩
        exact (h _ _ _ hs ho ha w hi.sim.tab).mono fun u w' ⟨h1, h2⟩ => ⟨ρ, h1 _ _, hi.quiet h2, fun _ _ => rfl⟩
      · exact ⟨hX.le hr ho, fun ha hi => hX.run hr ho ha hi⟩
    · exact ⟨hX.le hr ho, fun ha hi => hX.run hr ho ha hi⟩
  exact ⟨@fun f as m ob v m' h ho => (both h ho).1, @fun f as m ob v m' h ho w0 S ρ w vs ha hi => (both h ho).2 ha hi⟩

theorem HOk.none : HOk P (fun _ _ _ => Option.none) := ⟨(fun h => by cases h), fun h => by cases h⟩
theorem Inv.nothing (w : World) (hT : TRep w) : Inv w (fun _ => False) (upto ([] : Mem).length) (fun _ => ⟨0, 0, 0⟩) (getName []) w := by
  refine ⟨⟨?_, ?_, ?_, hT, ?_⟩, Nat.le_refl _, fun _ _ _ => rfl, rfl, rfl, rfl, ?_⟩
  · intro n b h; simp [getName] at h
  · intro i j bi bj h; simp [getName] at h
  · intro n b h; simp [getName] at h
  · intro G c hG n b h; simp [getName] at h
  · intro n b h; simp [getName] at h

/-- A contract, off the function's text. -/
theorem pure_of_eval (hm : P.follows .mixedOrders = true) (hng : noCount P = true) (hH : HOk P H) {n : Nat} {g : FuncId} {args : List AV} {v : AV} (hp : args.all plainA = true)
    (h : (funcA P q H n g args []).Sat (fun p => ∀ {ρ ρ' : Nat → Loc3} {N N' : Nat → Prop} {u : Value}, Rep ρ N p.1 u → Rep ρ' N' v u)) : PureCall P g args v := by
  intro ρ N vs ha w hT
  obtain ⟨hf, hc⟩ := funcA_sound hm hH h (w0 := w) (S := fun _ => False) (ρ := fun _ => ⟨0, 0, 0⟩) (plainL_rep ha hp) (Inv.nothing w hT)
  exact callRun_of hng hf (hc.mono fun e w' ⟨u, h1, x', m2, ρ', k1, k2, k3, k4, k5⟩ => ⟨u, h1, fun ρ N => k1 k2, k3.none⟩)

theorem sat_plain {T : Tree (AV × Mem)} {o : List Bool} {v v' : AV} (h : res T = some (o, v)) (ho : Paid o)
    (hv : ∀ {ρ ρ' : Nat → Loc3} {N N' : Nat → Prop} {u : Value}, Rep ρ N v u → Rep ρ' N' v' u) :
    T.Sat (fun p => ∀ {ρ ρ' : Nat → Loc3} {N N' : Nat → Prop} {u : Value}, Rep ρ N p.1 u → Rep ρ' N' v' u) :=
  sat_mono (fun p hp => by intro ρ ρ' N N' u hr; rw [hp] at hr; exact hv hr) (sat_res h ho)

theorem paid_cons {p : Bool} {o : List Bool} (h : p = true) (hs : Paid o) : Paid (p :: o) := fun x hx => by
  rcases List.mem_cons.1 hx with rfl | hx
  · exact h
  · exact hs x hx
theorem sat_eq {T : Tree (AV × Mem)} {o : List Bool} {v v' : AV} (h : res T = some (o, v)) (ho : Paid o) (hv : v = v') (hpl : plainAs v' = true) :
    T.Sat (fun p => ∀ {ρ ρ' : Nat → Loc3} {N N' : Nat → Prop} {u : Value}, Rep ρ N p.1 u → Rep ρ' N' v' u) := by
  subst hv
  exact sat_plain h ho fun hr => plainAs_rep hr hpl
def rep (n : Nat) (x : Bool) (l : List Bool) : List Bool := match n with | 0 => l | n + 1 => x :: rep n x l
/-- The answer of a call whose debts are all closed facts. -/
def resAll (T : Tree (AV × Mem)) : Option (Bool × AV) := match res T with | some (o, v) => some (all1 o, v) | none => none
theorem res_all {T : Tree (AV × Mem)} {v : AV} (h : resAll T = some (true, v)) : ∃ o, res T = some (o, v) ∧ Paid o := by
  unfold resAll at h
  split at h
  · rename_i o v' hr
    simp only [Option.some.injEq, Prod.mk.injEq] at h
    rw [h.2] at hr
    exact ⟨o, hr, all1_paid h.1⟩
  · cases h

/- external functions -/
theorem Inv.same (w : World) (hT : TRep w) : Inv w (fun _ => False) (fun _ => False) (fun _ => ⟨0, 0, 0⟩) (fun _ => Option.none) w := (Inv.nothing w hT).none
end

/- arguments -/
section
variable {H : Type} {enc : TypeId × Value → H} {P : Program}
theorem TrodAll_stays (hl : laidOutB P = true) {W W' : World} {sp' : Nat → Bool} : ∀ {ts : List TypeId} {vs : List Value} {ds : List (DataW H)} {ps : List MemPlace}, (∀ t ∈ ts, P.readableRec t = true ∧ t < P.types.size) →
    DataW.TrodAll enc P W 0 (fun _ => true) true ts vs ds ps → (∀ x ∈ ps, W.sameAt W' x) → (∀ x ∈ ps, sp' x.block = true) → DataW.TrodAll enc P W' 0 sp' true ts vs ds ps
  | [], vs, ds, ps, _, h, _, _ => by
    obtain ⟨rfl, rfl, rfl⟩ := trodAll_nil h
    exact trodAll_mk0
  | t :: ts, vs, ds, ps, hr, h, h1, h2 => by
    obtain ⟨v, vs1, d, ds1, a, b, rfl, rfl, rfl, g1, g2⟩ := trodAll_cons h
    exact trodAll_cons_mk (WideElems.Trod_stays hl (hr t (List.mem_cons_self ..)).1 (hr t (List.mem_cons_self ..)).2 g1 (fun x hx => h1 x (List.mem_append.2 (Or.inl hx))) (fun x hx => h2 x (List.mem_append.2 (Or.inl hx))))
      (TrodAll_stays hl (fun t ht => hr t (List.mem_cons_of_mem _ ht)) g2 (fun x hx => h1 x (List.mem_append.2 (Or.inr hx))) (fun x hx => h2 x (List.mem_append.2 (Or.inr hx))))

/-- A law: it answers true, and its arguments read as they did. -/
theorem post_of_law {f : Func} {s : ChangeSpec} {apart fresh handsOn again : Bool} {W W' : World} {args : Array Value} {ds gs : List (DataW H)} {before : List MemPlace} {t : TypeId}
    (hl : laidOutB P = true) (hr : ∀ x ∈ f.params.toList, P.readableRec x = true ∧ x < P.types.size)
    (hW : DataW.Whole enc P f.params.toList s.vars apart W args.toList ds gs before) (hv : s.vars = []) (hf : f.resultTypes = #[t]) (ht : P.underlying t = some .bool)
    (hres : (s.fn H (ds ++ gs)).results = [.lit (.bool true)]) (hargs : (s.fn H (ds ++ gs)).args = ds) (hvars : (s.fn H (ds ++ gs)).vars = []) (hb : Below W.heap.size W W') :
    s.post enc P f apart fresh handsOn again W args (.bool true) W' := by
  have hlt : ∀ p ∈ before, p.block < W.heap.size := fun p hp => hW.lt p hp
  have hW2 := hW
  obtain ⟨p, q, hA, hV, rfl, hz, hn⟩ := hW
  rw [hv] at hV
  obtain ⟨rfl, rfl⟩ := trodVars_none hV
  rw [List.append_nil] at hlt hz
  have A : ∀ sp : Nat → Bool, (∀ x ∈ p, sp x.block = true) → DataW.TrodAll enc P W' 0 sp true f.params.toList args.toList ds p := fun sp hsp =>
    TrodAll_stays hl hr hA (fun x hx => hb.same (hlt x hx)) hsp
  have R : ∀ (b : Nat) (sp : Nat → Bool) (hd : Bool), DataW.TrodAll enc P W' b sp hd f.resultTypes.toList ((Value.bool true).resultList f.resultTypes.size) (s.fn H (ds ++ [])).results [] := fun b sp hd => by
    rw [hres, hf]
    exact trodAll_mk1 (shut_bool ht true)
  have V : ∀ sp : Nat → Bool, DataW.TrodVars enc P W' sp s.vars (s.fn H (ds ++ [])).vars [] := fun sp => by
    rw [hv, hvars]; exact rfl
  refine ⟨ds, [], p ++ [], [], p, [], hW2, R _ _ _, by rw [hargs]; exact A _ (fun x hx => by simpa using hlt x hx), V _, World.keptBut_mono (fun p hp => ⟨hp, ?_⟩) (hb.frame _), fun _ => ?_⟩
  · exact Or.inr (Or.inl (by simpa using hp))
  · refine ⟨ok_one hf rfl (okWide_bool_mk ht true), _, _, ([] ++ p) ++ [], ⟨[] ++ p, [], trodAll_append (A _ (fun _ _ => rfl)) (R _ _ _), V _, rfl, ?_, ?_⟩, ?_⟩
    · intro b off hp
      have hp' : MemPlace.cell b off ∈ p := by simpa using hp
      rw [hb.frozen (p := ⟨b, off, none⟩) (show b < W.heap.size from hlt _ hp')]
      exact hz b off (by simpa using hp)
    · intro ha
      have := hn ha
      simpa using this
    · intro p hp _
      simpa using hp
end
end Go.Ev
