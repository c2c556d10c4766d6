/- Handlers of layer 9's program. Own work. -/
import Derived.Test.YthddlnldjbijmaaDoorSMyMI
import Derived.Test.YthddlnldjbijmaaDoorSMyW
import Derived.Test.YthddlnldjbijmaaDoorSEvLawV
import Derived.Test.YthddlnldjbijmaaDoorSEvLoop
set_option linter.unusedSimpArgs false
set_option linter.unusedVariables false
set_option linter.unusedSectionVars false
namespace Go.Proofs.YthddlnldjbijmaaDoor
open Go.Ev Go.Wn
set_option maxRecDepth 100000
def hn0 : CallH := withV 18 litS (withC 19 trnS (withV 30 newG hm11))
theorem hn0_ok : HOk Tryd.prog hn0 := ((hm11_ok.withV fun _ _ _ _ h ho => newG_ok h ho).withC fun _ _ _ h _ => trn_ok h).withV fun _ _ _ _ h ho => lit_ok h ho
def qn (f : FuncId) : Bool := !Nat.beq f 1000000000
end Go.Proofs.YthddlnldjbijmaaDoor
namespace Go.Ev
set_option linter.unusedSectionVars false
variable [Tab]

def isW : V → Bool
  | .ptw _ => true
  | _ => false
where
  aps (x : V) (n : Option Nat) : List V → List (Option Nat) → Bool
  | y :: ys, k :: ks => (match isW x || isW y, n, k with | true, some a, some b => !(Nat.beq a b) | _, _, _ => true) && aps x n ys ks
  | _, _ => true
section
variable {P : Program} {q : FuncId → Bool} {H : CallH} {Λ : LoopH}
end
end Go.Ev
namespace Go.Ev
set_option linter.unusedSectionVars false
variable [Tab]

def exNo : Ex → Nat
  | .normal => 0
  | .ret => 1
  | .exit id => id + 2
/-- What is seen of a way's end: the debts, how it ends, some slots, how many there are, the memory. -/
def seesL (ts : List Nat) (T : Tree (Ex × St)) : Option (List Bool × Nat × List AV × Nat × Mem) :=
  match T.flat with
  | some (o, (e, st)) => some (o, exNo e, ts.map (fun t => st.tm.getD t .top), st.tm.length, st.mem)
  | none => none
theorem seesL_sat {ts : List Nat} {T : Tree (Ex × St)} {ds : List Bool} {o : List Bool} {k n : Nat} {avs : List AV} {m : Mem} {K : Ex × St → Prop} (h : seesL ts (T.go ds) = some (o, k, avs, n, m)) (ho : Paid o)
    (hk : ∀ e st, exNo e = k → ts.map (fun t => st.tm.getD t .top) = avs → st.tm.length = n → st.mem = m → K (e, st)) : T.Sat K := by
  unfold seesL at h
  split at h
  · rename_i o' e st hf
    simp only [Option.some.injEq, Prod.mk.injEq] at h
    obtain ⟨h1, h2, h3, h4, h5⟩ := h
    rw [← h1] at ho
    exact go_sound (sat_mono (fun p hp => by rw [hp]; exact hk e st h2 h3 h4 h5) (flat_sound hf ho))
  · cases h

/-- A value that says no less. -/
inductive Le1 : AV → AV → Prop
  | refl (a : AV) : Le1 a a
  | int (s : Bool) (k : IntKind) (n : Int) : Le1 (.int s k n) (.int true k n)
  | top (a : AV) : Le1 a .top
inductive LeL : List AV → List AV → Prop
  | nil : LeL [] []
  | cons {a b : AV} {l q : List AV} (h : Le1 a b) (hs : LeL l q) : LeL (a :: l) (b :: q)
theorem Le1.rep {a b : AV} (h : Le1 a b) {ρ : Nat → Loc3} {N : Nat → Prop} {v : Value} (hr : Rep ρ N a v) : Rep ρ N b v := by
  cases h with
  | refl => exact hr
  | int s k n => cases hr with | int _ _ _ h => exact .int _ _ _ h
  | top => exact .top _
theorem LeL.refl : ∀ (l : List AV), LeL l l
  | [] => .nil
  | a :: l => .cons (.refl a) (LeL.refl l)

/-- The slots ts bear the values avs. -/
def zipU : List Nat → List AV → List (Nat × AV)
  | t :: ts, a :: ars => (t, a) :: zipU ts ars
  | _, _ => []
theorem zipU_of {f : Nat → AV} : ∀ {ts : List Nat} {avs : List AV}, ts.map f = avs → ∀ p ∈ zipU ts avs, f p.1 = p.2
  | [], avs, h, p, hp => by simp [zipU] at hp
  | t :: ts, avs, h, p, hp => by
    subst h
    simp only [List.map_cons, zipU, List.mem_cons] at hp
    rcases hp with rfl | hp
    · rfl
    · exact zipU_of rfl p hp
theorem zipU_le {f : Nat → AV} : ∀ {ts : List Nat} {avs : List AV}, LeL (ts.map f) avs → ∀ p ∈ zipU ts avs, Le1 (f p.1) p.2
  | [], avs, h, p, hp => by simp [zipU] at hp
  | t :: ts, avs, h, p, hp => by
    simp only [List.map_cons] at h
    cases h with
    | cons h hs =>
      simp only [zipU, List.mem_cons] at hp
      rcases hp with rfl | hp
      · exact h
      · exact zipU_le hs p hp

/-- A family's handler: what is owed at the head, and what stands behind the block. -/
def famH {σ : Type} (id nt : Nat) (ts : List Nat) (pat : List AV → Mem → Option σ) (owe : σ → List Bool) (fin : σ → List (Nat × AV) × Mem) (Λ : LoopH) : LoopH := fun i st =>
  match Nat.beq i id && Nat.beq st.tm.length nt with
  | true => match pat (ts.map fun t => st.tm.getD t .top) st.mem with
    | some s => some (owe s, ⟨tmOf (ups (fun _ => .top) (fin s).1) nt, (fin s).2⟩)
    | none => Λ i st
  | false => Λ i st

/-- Names that nothing bears any more are given up. -/
theorem Inv.short {w0 : World} {S : Nat → Prop} {ρ : Nat → Loc3} {M ex : Mem} {w : World} (h : Inv w0 S (upto (M ++ ex).length) ρ (getName (M ++ ex)) w) (hb : bndM M.length M = true) : Inv w0 S (upto M.length) ρ (getName M) w := by
  have sub : ∀ n b, getName M n = some b → getName (M ++ ex) n = some b := fun n b hn => by
    rw [getName_app, if_pos (getName_lt hn)]; exact hn
  refine ⟨⟨fun n b hn => ?_, fun i j bi bj hi hj hij hr => h.sim.inj i j bi bj (sub i bi hi) (sub j bj hj) hij hr, fun n b hn => getName_lt hn, h.sim.tab, fun G c hG n b hn hr => h.sim.apart G c hG n b (sub n b hn) hr⟩,
    h.size, h.frame, h.os, h.tape, h.output, fun n b hn hr => h.rws n b (sub n b hn) hr⟩
  obtain ⟨cs, t, lo', hi', b1, b2, b3, b4, b5⟩ := (h.sim.blk n b (sub n b hn)).ex
  exact ⟨cs, t, lo', hi', b1, b2, b3, b4, b5.bnd fun l hl => bndM_get hb hn l hl⟩
/-- A slot that may be kept, or what is known of it no more. -/
def keepB (k : Nat) (a : AV) : AV := match bndA k a with | true => a | false => .top
theorem keepB_rep {k : Nat} {a : AV} {ρ : Nat → Loc3} {N : Nat → Prop} {v : Value} (h : Rep ρ N a v) : Rep ρ (upto k) (keepB k a) v := by
  unfold keepB
  split
  · rename_i hb; exact h.bnd hb
  · exact .top _
theorem bndL_mem {k : Nat} : ∀ {l : List AV}, bndL k l = true → ∀ a ∈ l, bndA k a = true
  | [], _, a, h => by cases h
  | x :: l, hb, a, h => by
    simp only [bndL, Bool.and_eq_true] at hb
    rcases List.mem_cons.1 h with rfl | h
    · exact hb.1
    · exact bndL_mem hb.2 a h
theorem zipU_mem : ∀ {ts : List Nat} {avs : List AV} {p : Nat × AV}, p ∈ zipU ts avs → p.2 ∈ avs
  | [], avs, p, h => by simp [zipU] at h
  | t :: ts, [], p, h => by simp [zipU] at h
  | t :: ts, a :: ars, p, h => by
    simp only [zipU, List.mem_cons] at h
    rcases h with rfl | h
    · exact List.mem_cons_self ..
    · exact List.mem_cons_of_mem _ (zipU_mem h)

theorem ups_slot {f : Nat → AV} {k t : Nat} {ρ : Nat → Loc3} {N : Nat → Prop} {v : Value} : ∀ {l : List (Nat × AV)}, (∀ p ∈ l, Le1 (f p.1) p.2) → (∀ p ∈ l, bndA k p.2 = true) → Rep ρ N (f t) v → Rep ρ (upto k) (ups (fun t => keepB k (f t)) l t) v
  | [], _, _, h => keepB_rep h
  | (i, a) :: r, h1, h2, h => by
    unfold ups
    cases hb : Nat.beq t i with
    | true =>
      have := Nat.eq_of_beq_eq_true hb
      subst this
      exact ((h1 _ (List.mem_cons_self ..)).rep h).bnd (h2 _ (List.mem_cons_self ..))
    | false => exact ups_slot (fun p hp => h1 p (List.mem_cons_of_mem _ hp)) (fun p hp => h2 p (List.mem_cons_of_mem _ hp)) h

section
variable {P : Program} {q : FuncId → Bool} {H : CallH} {Λ0 Λ : LoopH}
/-- What a round has to show: on it goes, to a further state of the family (new blocks are given up), or out. -/
def Round (P : Program) (q : FuncId → Bool) (H : CallH) (Λ0 : LoopH) (B : Code) (id nt n : Nat) (ts : List Nat) {σ : Type} (vals : σ → List AV) (M : σ → Mem) (J : σ → Prop) (μ : σ → Nat) (fin : List (Nat × AV) × Mem) (s1 : σ) (x : Nat → AV) : Prop :=
  (∃ ds o avs s2 ex, seesL ts ((codeL P q H Λ0 n (lp (blk id B)) ⟨tmOf (ups x (zipU ts (vals s1))) nt, M s1⟩).go ds) = some (o, 0, avs, nt, M s2 ++ ex) ∧ Paid o ∧ LeL avs (vals s2) ∧ J s2 ∧ (M s2).length = (M s1).length ∧ μ s2 < μ s1) ∨
  (∃ ds o avs, seesL ts ((codeL P q H Λ0 n (lp (blk id B)) ⟨tmOf (ups x (zipU ts (vals s1))) nt, M s1⟩).go ds) = some (o, id + 2, avs, nt, fin.2) ∧ Paid o ∧ ∀ p ∈ fin.1, ∃ a, (p.1, a) ∈ zipU ts avs ∧ Le1 a p.2)
theorem Round.on {B : Code} {id nt n : Nat} {ts : List Nat} {σ : Type} {vals : σ → List AV} {M : σ → Mem} {J : σ → Prop} {μ : σ → Nat} {fin : List (Nat × AV) × Mem} {s1 : σ} {x : Nat → AV} {ds o : List Bool} {avs : List AV} {m : Mem}
    (h : seesL ts ((codeL P q H Λ0 n (lp (blk id B)) ⟨tmOf (ups x (zipU ts (vals s1))) nt, M s1⟩).go ds) = some (o, 0, avs, nt, m)) (s2 : σ) (ex : Mem) (hm : m = M s2 ++ ex) (ho : Paid o) (hv : LeL avs (vals s2)) (hJ : J s2) (hl : (M s2).length = (M s1).length) (hμ : μ s2 < μ s1) :
    Round P q H Λ0 B id nt n ts vals M J μ fin s1 x := Or.inl ⟨ds, o, avs, s2, ex, by rw [h, hm], ho, hv, hJ, hl, hμ⟩
theorem Round.out {B : Code} {id nt n : Nat} {ts : List Nat} {σ : Type} {vals : σ → List AV} {M : σ → Mem} {J : σ → Prop} {μ : σ → Nat} {fin : List (Nat × AV) × Mem} {s1 : σ} {x : Nat → AV} {ds o : List Bool} {avs : List AV} {m : Mem} {k : Nat}
    (h : seesL ts ((codeL P q H Λ0 n (lp (blk id B)) ⟨tmOf (ups x (zipU ts (vals s1))) nt, M s1⟩).go ds) = some (o, k, avs, nt, m)) (hk : k = id + 2) (hm : m = fin.2) (ho : Paid o) (hf : ∀ p ∈ fin.1, ∃ a, (p.1, a) ∈ zipU ts avs ∧ Le1 a p.2) :
    Round P q H Λ0 B id nt n ts vals M J μ fin s1 x := Or.inr ⟨ds, o, avs, by rw [h, hm, hk], ho, hf⟩
end
end Go.Ev
namespace Go.Ev
set_option linter.unusedSectionVars false
variable [Tab]
def turnC (P : Program) (q : FuncId → Bool) (H : CallH) (fuel : Nat) (g : FuncId) (ds : List Bool) (X : CallH) : CallH := fun f args m =>
  match decide (f = g) with
  | true => match ((funcA P q H fuel f args (roAll m)).go ds).flat with
    | some (o, (v, m')) => some (o, (v, m ++ onlyRw (m'.drop m.length)))
    | none => X f args m
  | false => X f args m
section
variable {P : Program} {q : FuncId → Bool} {H X : CallH}
theorem HOk.turn (hm : P.follows .mixedOrders = true) (hng : noCount P = true) (hH : HOk P H) (hX : HOk P X) (fuel : Nat) (g : FuncId) (ds : List Bool) : HOk P (turnC P q H fuel g ds X) := by
  have both : ∀ {f : FuncId} {xs : List AV} {m : Mem} {ob : List Bool} {v : AV} {m' : Mem}, turnC P q H fuel g ds X f xs m = some (ob, (v, m')) → Paid ob →
      m.length ≤ m'.length ∧ ∀ {w0 : World} {S : Nat → Prop} {ρ : Nat → Loc3} {w : World} {vs : List Value}, Reps ρ (upto m.length) xs vs → Inv w0 S (upto m.length) ρ (getName m) w →
      CallRun P f vs.toArray w (fun u w' => ∃ ρ', Rep ρ' (upto m'.length) v u ∧ Inv w0 S (upto m'.length) ρ' (getName m') w' ∧ Agr ρ ρ' (upto m.length)) := by
    intro f xs m ob v m' h ho
    have hl : (roAll m).length = m.length := by simp [roAll]
    unfold turnC at h
    split at h
    · split at h
      · rename_i o1 x m1 hflat
        cases h
        have hsat := go_sound (flat_sound hflat ho)
        refine ⟨by simp, fun {w0 S ρ w vs} ha hi => ?_⟩
        obtain ⟨hf, hc⟩ := funcA_sound hm hH hsat (w0 := w) (S := fun _ => False) (by rw [hl]; exact ha) (ro_start hi)
        refine callRun_of hng hf (hc.mono fun e w' ⟨u, h1, x', m2, ρ', k1, k2, k3, k4, k5⟩ => ⟨u, h1, ρ', ?_⟩)
        cases k1
        rw [hl] at k4 k5
        have hlen : (m ++ onlyRw (m1.drop m.length)).length = m1.length := by simp [onlyRw]; omega
        rw [hlen]
        refine ⟨k2, hi.join k3 (fun _ h => h.elim) (fun i hi => by simp [upto] at *; omega) (fun _ h => h) k4 (fun _ _ => rfl) fun k b hk => ?_, k4⟩
        rw [getName_app] at hk
        split at hk
        · exact Or.inl ⟨hk, fun h => h⟩
        · right
          obtain ⟨g1, g2⟩ := getName_onlyRw hk
          rw [getName_drop, show m.length + (k - m.length) = k by omega] at g1
          exact ⟨g1, g2⟩
      · exact ⟨hX.le h ho, fun ha hi => hX.run h ho ha hi⟩
    · exact ⟨hX.le h ho, fun ha hi => hX.run h ho ha hi⟩
  exact ⟨@fun f xs m ob v m' h ho => (both h ho).1, @fun f xs m ob v m' h ho w0 S ρ w vs ha hi => (both h ho).2 ha hi⟩
end
end Go.Ev
