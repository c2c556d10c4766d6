/- Loops whose heads are one family of states: a round's evaluation, a step of the state, an end. Own work. -/
import Derived.Test.YthpafpifpdeikaaUEvWr
set_option linter.unusedSimpArgs false
set_option linter.unusedVariables false
set_option linter.unusedSectionVars false
namespace Go.Ev
set_option linter.unusedSectionVars false
variable [Tab]

def exNo : Ex → Nat
  | .normal => 0
  | .ret => 1
  | .exit id => id + 2
/-- What is seen of a way's end: the debts, how it ends, some slots, how many there are, the memory. -/
def seesL (ts : List Nat) (T : Tree (Ex × St)) : Option (List Bool × Nat × List AV × Nat × Mem) :=
  match T.flat with
  | some (o, (e, st)) => some (o, exNo e, ts.map (fun t => st.tm.getD t .top), st.tm.length, st.mem)
  | none => none
theorem seesL_sat {ts : List Nat} {T : Tree (Ex × St)} {ds : List Bool} {o : List Bool} {k n : Nat} {avs : List AV} {m : Mem} {K : Ex × St → Prop} (h : seesL ts (T.go ds) = some (o, k, avs, n, m)) (ho : Paid o)
    (hk : ∀ e st, exNo e = k → ts.map (fun t => st.tm.getD t .top) = avs → st.tm.length = n → st.mem = m → K (e, st)) : T.Sat K := by
  unfold seesL at h
  split at h
  · rename_i o' e st hf
    simp only [Option.some.injEq, Prod.mk.injEq] at h
    obtain ⟨h1, h2, h3, h4, h5⟩ := h
    rw [← h1] at ho
    exact go_sound (sat_mono (fun p hp => by rw [hp]; exact hk e st h2 h3 h4 h5) (flat_sound hf ho))
  · cases h

/-- A value that says no less. -/
inductive Le1 : AV → AV → Prop
  | refl (a : AV) : Le1 a a
  | int (s : Bool) (k : IntKind) (n : Int) : Le1 (.int s k n) (.int true k n)
  | top (a : AV) : Le1 a .top
inductive LeL : List AV → List AV → Prop
  | nil : LeL [] []
  | cons {a b : AV} {l q : List AV} (h : Le1 a b) (hs : LeL l q) : LeL (a :: l) (b :: q)
theorem Le1.rep {a b : AV} (h : Le1 a b) {ρ : Nat → Loc3} {N : Nat → Prop} {v : Value} (hr : Rep ρ N a v) : Rep ρ N b v := by
  cases h with
  | refl => exact hr
  | int s k n => cases hr with | int _ _ _ h => exact .int _ _ _ h
  | top => exact .top _
theorem LeL.refl : ∀ (l : List AV), LeL l l
  | [] => .nil
  | a :: l => .cons (.refl a) (LeL.refl l)

/-- The slots ts bear the values avs. -/
def zipU : List Nat → List AV → List (Nat × AV)
  | t :: ts, a :: ars => (t, a) :: zipU ts ars
  | _, _ => []
theorem zipU_of {f : Nat → AV} : ∀ {ts : List Nat} {avs : List AV}, ts.map f = avs → ∀ p ∈ zipU ts avs, f p.1 = p.2
  | [], avs, h, p, hp => by simp [zipU] at hp
  | t :: ts, avs, h, p, hp => by
    subst h
    simp only [List.map_cons, zipU, List.mem_cons] at hp
    rcases hp with rfl | hp
    · rfl
    · exact zipU_of rfl p hp
theorem bndL_mem {k : Nat} : ∀ {l : List AV}, bndL k l = true → ∀ a ∈ l, bndA k a = true
  | [], _, a, h => by cases h
  | x :: l, hb, a, h => by
    simp only [bndL, Bool.and_eq_true] at hb
    rcases List.mem_cons.1 h with rfl | h
    · exact hb.1
    · exact bndL_mem hb.2 a h
section
variable {P : Program} {q : FuncId → Bool} {H : CallH} {Λ0 Λ : LoopH}
/-- What a round has to show: on it goes, to a further state of the family (new blocks are given up), or out. -/
def Round (P : Program) (q : FuncId → Bool) (H : CallH) (Λ0 : LoopH) (B : Code) (id nt n : Nat) (ts : List Nat) {σ : Type} (vals : σ → List AV) (M : σ → Mem) (J : σ → Prop) (μ : σ → Nat) (fin : List (Nat × AV) × Mem) (s1 : σ) (x : Nat → AV) : Prop :=
  (∃ ds o avs s2 ex, seesL ts ((codeL P q H Λ0 n (lp (blk id B)) ⟨tmOf (ups x (zipU ts (vals s1))) nt, M s1⟩).go ds) = some (o, 0, avs, nt, M s2 ++ ex) ∧ Paid o ∧ LeL avs (vals s2) ∧ J s2 ∧ (M s2).length = (M s1).length ∧ μ s2 < μ s1) ∨
  (∃ ds o avs, seesL ts ((codeL P q H Λ0 n (lp (blk id B)) ⟨tmOf (ups x (zipU ts (vals s1))) nt, M s1⟩).go ds) = some (o, id + 2, avs, nt, fin.2) ∧ Paid o ∧ ∀ p ∈ fin.1, ∃ a, (p.1, a) ∈ zipU ts avs ∧ Le1 a p.2)
theorem Round.on {B : Code} {id nt n : Nat} {ts : List Nat} {σ : Type} {vals : σ → List AV} {M : σ → Mem} {J : σ → Prop} {μ : σ → Nat} {fin : List (Nat × AV) × Mem} {s1 : σ} {x : Nat → AV} {ds o : List Bool} {avs : List AV} {m : Mem}
    (h : seesL ts ((codeL P q H Λ0 n (lp (blk id B)) ⟨tmOf (ups x (zipU ts (vals s1))) nt, M s1⟩).go ds) = some (o, 0, avs, nt, m)) (s2 : σ) (ex : Mem) (hm : m = M s2 ++ ex) (ho : Paid o) (hv : LeL avs (vals s2)) (hJ : J s2) (hl : (M s2).length = (M s1).length) (hμ : μ s2 < μ s1) :
    Round P q H Λ0 B id nt n ts vals M J μ fin s1 x := Or.inl ⟨ds, o, avs, s2, ex, by rw [h, hm], ho, hv, hJ, hl, hμ⟩
theorem Round.out {B : Code} {id nt n : Nat} {ts : List Nat} {σ : Type} {vals : σ → List AV} {M : σ → Mem} {J : σ → Prop} {μ : σ → Nat} {fin : List (Nat × AV) × Mem} {s1 : σ} {x : Nat → AV} {ds o : List Bool} {avs : List AV} {m : Mem} {k : Nat}
    (h : seesL ts ((codeL P q H Λ0 n (lp (blk id B)) ⟨tmOf (ups x (zipU ts (vals s1))) nt, M s1⟩).go ds) = some (o, k, avs, nt, m)) (hk : k = id + 2) (hm : m = fin.2) (ho : Paid o) (hf : ∀ p ∈ fin.1, ∃ a, (p.1, a) ∈ zipU ts avs ∧ Le1 a p.2) :
    Round P q H Λ0 B id nt n ts vals M J μ fin s1 x := Or.inr ⟨ds, o, avs, by rw [h, hm, hk], ho, hf⟩
end
end Go.Ev
