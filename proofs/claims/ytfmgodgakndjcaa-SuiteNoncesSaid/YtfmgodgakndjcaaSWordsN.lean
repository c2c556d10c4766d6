/- A program whose package variables are not looked at. Own work. -/
import Derived.Test.YtfmgodgakndjcaaSEvLoop
import Derived.Test.YtfmgodgakndjcaaSEvOps
import Derived.Test.YtfmgodgakndjcaaRows
set_option linter.unusedSimpArgs false
set_option linter.unusedVariables false
set_option linter.unusedSectionVars false
namespace Go.Ev
instance tab0 : Tab := ⟨fun _ => none⟩
end Go.Ev
namespace Go.Ev
set_option linter.unusedSectionVars false
variable [Tab]

def isW : V → Bool
  | .ptw _ => true
  | _ => false
where
  aps (x : V) (n : Option Nat) : List V → List (Option Nat) → Bool
  | y :: ys, k :: ks => (match isW x || isW y, n, k with | true, some a, some b => !(Nat.beq a b) | _, _, _ => true) && aps x n ys ks
  | _, _ => true
section
variable {P : Program} {q : FuncId → Bool} {H : CallH} {Λ : LoopH}
end
end Go.Ev
namespace Go.Ev
set_option linter.unusedSectionVars false
variable [Tab]

def exNo : Ex → Nat
  | .normal => 0
  | .ret => 1
  | .exit id => id + 2
/-- What is seen of a way's end: the debts, how it ends, some slots, how many there are, the memory. -/
def seesL (ts : List Nat) (T : Tree (Ex × St)) : Option (List Bool × Nat × List AV × Nat × Mem) :=
  match T.flat with
  | some (o, (e, st)) => some (o, exNo e, ts.map (fun t => st.tm.getD t .top), st.tm.length, st.mem)
  | none => none
theorem seesL_sat {ts : List Nat} {T : Tree (Ex × St)} {ds : List Bool} {o : List Bool} {k n : Nat} {avs : List AV} {m : Mem} {K : Ex × St → Prop} (h : seesL ts (T.go ds) = some (o, k, avs, n, m)) (ho : Paid o)
    (hk : ∀ e st, exNo e = k → ts.map (fun t => st.tm.getD t .top) = avs → st.tm.length = n → st.mem = m → K (e, st)) : T.Sat K := by
  unfold seesL at h
  split at h
  · rename_i o' e st hf
    simp only [Option.some.injEq, Prod.mk.injEq] at h
    obtain ⟨h1, h2, h3, h4, h5⟩ := h
    rw [← h1] at ho
    exact go_sound (sat_mono (fun p hp => by rw [hp]; exact hk e st h2 h3 h4 h5) (flat_sound hf ho))
  · cases h

/-- A value that says no less. -/
inductive Le1 : AV → AV → Prop
  | refl (a : AV) : Le1 a a
  | int (s : Bool) (k : IntKind) (n : Int) : Le1 (.int s k n) (.int true k n)
  | top (a : AV) : Le1 a .top
inductive LeL : List AV → List AV → Prop
  | nil : LeL [] []
  | cons {a b : AV} {l q : List AV} (h : Le1 a b) (hs : LeL l q) : LeL (a :: l) (b :: q)
theorem Le1.rep {a b : AV} (h : Le1 a b) {ρ : Nat → Loc3} {N : Nat → Prop} {v : Value} (hr : Rep ρ N a v) : Rep ρ N b v := by
  cases h with
  | refl => exact hr
  | int s k n => cases hr with | int _ _ _ h => exact .int _ _ _ h
  | top => exact .top _
theorem LeL.refl : ∀ (l : List AV), LeL l l
  | [] => .nil
  | a :: l => .cons (.refl a) (LeL.refl l)

/-- The slots ts bear the values avs. -/
def zipU : List Nat → List AV → List (Nat × AV)
  | t :: ts, a :: ars => (t, a) :: zipU ts ars
  | _, _ => []
theorem zipU_of {f : Nat → AV} : ∀ {ts : List Nat} {avs : List AV}, ts.map f = avs → ∀ p ∈ zipU ts avs, f p.1 = p.2
  | [], avs, h, p, hp => by simp [zipU] at hp
  | t :: ts, avs, h, p, hp => by
    subst h
    simp only [List.map_cons, zipU, List.mem_cons] at hp
    rcases hp with rfl | hp
    · rfl
    · exact zipU_of rfl p hp
theorem zipU_le {f : Nat → AV} : ∀ {ts : List Nat} {avs : List AV}, LeL (ts.map f) avs → ∀ p ∈ zipU ts avs, Le1 (f p.1) p.2
  | [], avs, h, p, hp => by simp [zipU] at hp
  | t :: ts, avs, h, p, hp => by
    simp only [List.map_cons] at h
    cases h with
    | cons h hs =>
      simp only [zipU, List.mem_cons] at hp
      rcases hp with rfl | hp
      · exact h
      · exact zipU_le hs p hp

/-- A family's handler: what is owed at the head, and what stands behind the block. -/
def famH {σ : Type} (id nt : Nat) (ts : List Nat) (pat : List AV → Mem → Option σ) (owe : σ → List Bool) (fin : σ → List (Nat × AV) × Mem) (Λ : LoopH) : LoopH := fun i st =>
  match Nat.beq i id && Nat.beq st.tm.length nt with
  | true => match pat (ts.map fun t => st.tm.getD t .top) st.mem with
    | some s => some (owe s, ⟨tmOf (ups (fun _ => .top) (fin s).1) nt, (fin s).2⟩)
    | none => Λ i st
  | false => Λ i st

/-- Names that nothing bears any more are given up. -/
theorem Inv.short {w0 : World} {S : Nat → Prop} {ρ : Nat → Loc3} {M ex : Mem} {w : World} (h : Inv w0 S (upto (M ++ ex).length) ρ (getName (M ++ ex)) w) (hb : bndM M.length M = true) : Inv w0 S (upto M.length) ρ (getName M) w := by
  have sub : ∀ n b, getName M n = some b → getName (M ++ ex) n = some b := fun n b hn => by
    rw [getName_app, if_pos (getName_lt hn)]; exact hn
  refine ⟨⟨fun n b hn => ?_, fun i j bi bj hi hj hij hr => h.sim.inj i j bi bj (sub i bi hi) (sub j bj hj) hij hr, fun n b hn => getName_lt hn, h.sim.tab, fun G c hG n b hn hr => h.sim.apart G c hG n b (sub n b hn) hr⟩,
    h.size, h.frame, h.os, h.tape, h.output, fun n b hn hr => h.rws n b (sub n b hn) hr⟩
  obtain ⟨cs, t, lo', hi', b1, b2, b3, b4, b5⟩ := (h.sim.blk n b (sub n b hn)).ex
  exact ⟨cs, t, lo', hi', b1, b2, b3, b4, b5.bnd fun l hl => bndM_get hb hn l hl⟩
/-- A slot that may be kept, or what is known of it no more. -/
def keepB (k : Nat) (a : AV) : AV := match bndA k a with | true => a | false => .top
theorem keepB_rep {k : Nat} {a : AV} {ρ : Nat → Loc3} {N : Nat → Prop} {v : Value} (h : Rep ρ N a v) : Rep ρ (upto k) (keepB k a) v := by
  unfold keepB
  split
  · rename_i hb; exact h.bnd hb
  · exact .top _
theorem bndL_mem {k : Nat} : ∀ {l : List AV}, bndL k l = true → ∀ a ∈ l, bndA k a = true
  | [], _, a, h => by cases h
  | x :: l, hb, a, h => by
    simp only [bndL, Bool.and_eq_true] at hb
    rcases List.mem_cons.1 h with rfl | h
    · exact hb.1
    · exact bndL_mem hb.2 a h
theorem zipU_mem : ∀ {ts : List Nat} {avs : List AV} {p : Nat × AV}, p ∈ zipU ts avs → p.2 ∈ avs
  | [], avs, p, h => by simp [zipU] at h
  | t :: ts, [], p, h => by simp [zipU] at h
  | t :: ts, a :: ars, p, h => by
    simp only [zipU, List.mem_cons] at h
    rcases h with rfl | h
    · exact List.mem_cons_self ..
    · exact List.mem_cons_of_mem _ (zipU_mem h)

theorem ups_slot {f : Nat → AV} {k t : Nat} {ρ : Nat → Loc3} {N : Nat → Prop} {v : Value} : ∀ {l : List (Nat × AV)}, (∀ p ∈ l, Le1 (f p.1) p.2) → (∀ p ∈ l, bndA k p.2 = true) → Rep ρ N (f t) v → Rep ρ (upto k) (ups (fun t => keepB k (f t)) l t) v
  | [], _, _, h => keepB_rep h
  | (i, a) :: r, h1, h2, h => by
    unfold ups
    cases hb : Nat.beq t i with
    | true =>
      have := Nat.eq_of_beq_eq_true hb
      subst this
      exact ((h1 _ (List.mem_cons_self ..)).rep h).bnd (h2 _ (List.mem_cons_self ..))
    | false => exact ups_slot (fun p hp => h1 p (List.mem_cons_of_mem _ hp)) (fun p hp => h2 p (List.mem_cons_of_mem _ hp)) h

section
variable {P : Program} {q : FuncId → Bool} {H : CallH} {Λ0 Λ : LoopH}
/-- What a round has to show: on it goes, to a further state of the family (new blocks are given up), or out. -/
def Round (P : Program) (q : FuncId → Bool) (H : CallH) (Λ0 : LoopH) (B : Code) (id nt n : Nat) (ts : List Nat) {σ : Type} (vals : σ → List AV) (M : σ → Mem) (J : σ → Prop) (μ : σ → Nat) (fin : List (Nat × AV) × Mem) (s1 : σ) (x : Nat → AV) : Prop :=
  (∃ ds o avs s2 ex, seesL ts ((codeL P q H Λ0 n (lp (blk id B)) ⟨tmOf (ups x (zipU ts (vals s1))) nt, M s1⟩).go ds) = some (o, 0, avs, nt, M s2 ++ ex) ∧ Paid o ∧ LeL avs (vals s2) ∧ J s2 ∧ (M s2).length = (M s1).length ∧ μ s2 < μ s1) ∨
  (∃ ds o avs, seesL ts ((codeL P q H Λ0 n (lp (blk id B)) ⟨tmOf (ups x (zipU ts (vals s1))) nt, M s1⟩).go ds) = some (o, id + 2, avs, nt, fin.2) ∧ Paid o ∧ ∀ p ∈ fin.1, ∃ a, (p.1, a) ∈ zipU ts avs ∧ Le1 a p.2)
theorem Round.on {B : Code} {id nt n : Nat} {ts : List Nat} {σ : Type} {vals : σ → List AV} {M : σ → Mem} {J : σ → Prop} {μ : σ → Nat} {fin : List (Nat × AV) × Mem} {s1 : σ} {x : Nat → AV} {ds o : List Bool} {avs : List AV} {m : Mem}
    (h : seesL ts ((codeL P q H Λ0 n (lp (blk id B)) ⟨tmOf (ups x (zipU ts (vals s1))) nt, M s1⟩).go ds) = some (o, 0, avs, nt, m)) (s2 : σ) (ex : Mem) (hm : m = M s2 ++ ex) (ho : Paid o) (hv : LeL avs (vals s2)) (hJ : J s2) (hl : (M s2).length = (M s1).length) (hμ : μ s2 < μ s1) :
    Round P q H Λ0 B id nt n ts vals M J μ fin s1 x := Or.inl ⟨ds, o, avs, s2, ex, by rw [h, hm], ho, hv, hJ, hl, hμ⟩
theorem Round.out {B : Code} {id nt n : Nat} {ts : List Nat} {σ : Type} {vals : σ → List AV} {M : σ → Mem} {J : σ → Prop} {μ : σ → Nat} {fin : List (Nat × AV) × Mem} {s1 : σ} {x : Nat → AV} {ds o : List Bool} {avs : List AV} {m : Mem} {k : Nat}
    (h : seesL ts ((codeL P q H Λ0 n (lp (blk id B)) ⟨tmOf (ups x (zipU ts (vals s1))) nt, M s1⟩).go ds) = some (o, k, avs, nt, m)) (hk : k = id + 2) (hm : m = fin.2) (ho : Paid o) (hf : ∀ p ∈ fin.1, ∃ a, (p.1, a) ∈ zipU ts avs ∧ Le1 a p.2) :
    Round P q H Λ0 B id nt n ts vals M J μ fin s1 x := Or.inr ⟨ds, o, avs, by rw [h, hm, hk], ho, hf⟩
theorem fam_ok {σ : Type} {id nt n : Nat} {ts : List Nat} {B : Code} (vals : σ → List AV) (M : σ → Mem) (J : σ → σ → Prop) (μ : σ → Nat) {pat : List AV → Mem → Option σ} {owe : σ → List Bool} {fin : σ → List (Nat × AV) × Mem}
    (hm : P.follows .mixedOrders = true) (hH : HOk P H) (hΛ : LOk P B Λ) (hΛ0 : LOk P B Λ0) (h1 : one1 (blks id B) = true) (h2 : isLoop (blk id B) = true) (hbm : ∀ s, bndM (M s).length (M s) = true) (hbv : ∀ s, bndL (M s).length (vals s) = true)
    (hpat : ∀ avs m s, pat avs m = some s → Paid (owe s) → ∃ s1, LeL avs (vals s1) ∧ m = M s1 ∧ J s s1)
    (round : ∀ s s1, J s s1 → ∀ x : Nat → AV, Round P q H Λ0 B id nt n ts vals M (J s) μ (fin s) s1 x) :
    LOk P B (famH id nt ts pat owe fin Λ) := by
  refine ⟨fun {id' c st st' o} hc hl ho => ?_⟩
  unfold famH at hl
  split at hl
  · rename_i hb
    simp only [Bool.and_eq_true] at hb
    have hid := Nat.eq_of_beq_eq_true hb.1
    have hlen := Nat.eq_of_beq_eq_true hb.2
    subst hid
    split at hl
    · rename_i s hs
      simp only [Option.some.injEq, Prod.mk.injEq] at hl
      obtain ⟨rfl, rfl⟩ := hl
      obtain ⟨s1, p1, p2, p4⟩ := hpat _ _ _ hs ho
      have e := blk_of hc h1
      rw [lp_of h2] at e
      have hc' : ∀ x ∈ subs (lp (blk id' B)), x ∈ subs B := fun x hx => by
        refine subs_trans hc x ?_
        rw [e]
        simp only [subs, List.mem_cons]
        exact Or.inr (Or.inr hx)
      rw [e]
      refine Ok.leave ?_
      have key : ∀ (k : Nat) (s1 : σ) (st1 : St) (ex : Mem), μ s1 < k → J s s1 → st1.tm.length = nt → st1.mem = M s1 ++ ex → LeL (ts.map fun t => st1.tm.getD t .top) (vals s1) →
          ∀ (w0 : World) (S : Nat → Prop) (ρ0 : Nat → Loc3) (n0 : Nat) (ds : List Deferred) (a : Act) (w : World), n0 ≤ (M s1).length → SInv w0 S ρ0 n0 ds st1 a w →
          Code.rounds P (lp (blk id' B)) (Post w0 S ρ0 n0 ds (fun p => ∃ st2, p = (.exit id', st2) ∧ Wk st2 ⟨tmOf (ups (fun _ => .top) (fin s).1) nt, (fin s).2⟩)) k a w := by
        intro k
        induction k with
        | zero => intro s1 st1 ex h; omega
        | succ k ih =>
          intro s1 st1 ex hk hJ i3 i4 i5 w0 S ρ0 n0 ds a w hn0 hs1
          rw [rounds_succ]
          have hw : SInv w0 S ρ0 n0 ds ⟨tmOf (ups (fun t => keepB (M s1).length (st1.tm.getD t .top)) (zipU ts (vals s1))) nt, M s1⟩ a w := by
            obtain ⟨⟨ρ, r1, r2, r3⟩, r4, r5⟩ := hs1
            rw [i4] at r2
            refine ⟨⟨ρ, ⟨fun t => ?_, ?_⟩, r2.short (hbm s1), r3⟩, hn0, r5⟩
            · by_cases ht : t < nt
              · rw [tmOf_get ht]
                have hx := r1.rep t
                exact ups_slot (zipU_le i5) (fun p hp => bndL_mem (hbv s1) _ (zipU_mem hp)) hx
              · rw [tmOf_out ht]; exact .top _
            · rw [tmOf_len, ← i3]; exact r1.le
          have hsat : (codeL P q H Λ0 n (lp (blk id' B)) ⟨tmOf (ups (fun t => keepB (M s1).length (st1.tm.getD t .top)) (zipU ts (vals s1))) nt, M s1⟩).Sat (fun p => match p.1 with | .normal => ∃ s2 ex, μ s2 < μ s1 ∧ J s s2 ∧ p.2.tm.length = nt ∧ p.2.mem = M s2 ++ ex ∧ LeL (ts.map fun t => p.2.tm.getD t .top) (vals s2) ∧ n0 ≤ (M s2).length | _ => ∃ st2, p = (.exit id', st2) ∧ Wk st2 ⟨tmOf (ups (fun _ => .top) (fin s).1) nt, (fin s).2⟩) := by
            rcases round s s1 hJ (fun t => keepB (M s1).length (st1.tm.getD t .top)) with ⟨ds', o', avs, s2, ex2, r1, r2, r3, r4, r5, r6⟩ | ⟨ds', o', avs, r1, r2, r3⟩
            · refine seesL_sat r1 r2 fun ex st2 hx ha hn hmm => ?_
              cases ex with
              | normal => exact ⟨s2, ex2, r6, r4, hn, hmm, by rw [ha]; exact r3, by rw [r5]; exact hn0⟩
              | exit i => simp [exNo] at hx
              | ret => simp [exNo] at hx
            · refine seesL_sat r1 r2 fun ex st2 hx ha hn hmm => ?_
              cases ex with
              | normal => simp [exNo] at hx
              | ret => simp [exNo] at hx
              | exit i =>
                simp [exNo] at hx
                subst hx
                refine ⟨st2, rfl, hmm.symm, by rw [hn, tmOf_len], fun t ρ N v hr => ?_⟩
                by_cases ht : t < nt
                · rw [tmOf_get ht]
                  have : ∀ {l : List (Nat × AV)}, (∀ p ∈ l, ∃ a, (p.1, a) ∈ zipU ts avs ∧ Le1 a p.2) → Rep ρ N (ups (fun _ => .top) l t) v := by
                    intro l
                    induction l with
                    | nil => intro _; exact .top _
                    | cons p l ih =>
                      intro hl
                      obtain ⟨i, a⟩ := p
                      unfold ups
                      cases hb : Nat.beq t i with
                      | true =>
                        have := Nat.eq_of_beq_eq_true hb
                        subst this
                        obtain ⟨a', q1, q2⟩ := hl _ (List.mem_cons_self ..)
                        have := zipU_of ha _ q1
                        simp only at this
                        rw [this] at hr
                        exact q2.rep hr
                      | false => exact ih fun p hp => hl p (List.mem_cons_of_mem _ hp)
                  exact this r3
                · rw [tmOf_out ht]; exact .top _
          refine wp_mono ((codeL_sound hm hH hΛ0 n).1 hc' hsat w0 S ρ0 n0 ds a w hw) fun e a' w' he => ?_
          cases e with
          | normal => obtain ⟨st', ⟨s2, ex2, k1, k2, k3, k4, k5, k6⟩, k7⟩ := he; exact ih s2 st' ex2 (by omega) k2 k3 k4 k5 w0 S ρ0 n0 ds a' w' k6 k7
          | exit i => obtain ⟨st', k1, k2⟩ := he; exact ⟨st', k1, k2⟩
          | ret => obtain ⟨st', k1, k2⟩ := he; exact ⟨st', k1, k2⟩
          | goto l => exact he
          | panic ch => exact he
          | outgrown => exact he
      exact fun w0 S ρ0 n0 ds a w hs => wp_loop_rounds (μ s1 + 1) (key (μ s1 + 1) s1 st [] (by omega) p4 hlen (by rw [List.append_nil]; exact p2) p1 w0 S ρ0 n0 ds a w (by rw [← p2]; exact hs.le) hs)
    · exact hΛ.ok hc hl ho
  · exact hΛ.ok hc hl ho
end
end Go.Ev
namespace Go.Sh
open Go.Ev
/-- Bit by bit. -/
def ix (x y : Int) : Int := ((x.toNat ^^^ y.toNat : Nat) : Int)
def io (x y : Int) : Int := ((x.toNat ||| y.toNat : Nat) : Int)
/-- A word of w bits. -/
def Wd (w : Nat) (x : Int) : Prop := 0 ≤ x ∧ x < 2 ^ w
theorem wd_nat {w : Nat} {x : Int} (h : Wd w x) : ∃ a : Nat, a < 2 ^ w ∧ x = (a : Int) := by
  refine ⟨x.toNat, ?_, by unfold Wd at h; omega⟩
  have h1 : ((x.toNat : Nat) : Int) < ((2 ^ w : Nat) : Int) := by
    rw [Int.toNat_of_nonneg h.1]; simpa using h.2
  exact Int.ofNat_lt.1 h1
theorem nat_wd {w a : Nat} (h : a < 2 ^ w) : Wd w (a : Int) := by
  refine ⟨by omega, ?_⟩
  have : ((a : Nat) : Int) < ((2 ^ w : Nat) : Int) := Int.ofNat_lt.2 h
  simpa using this
theorem ix_wd {w : Nat} {x y : Int} (hx : Wd w x) (hy : Wd w y) : Wd w (ix x y) := by
  obtain ⟨a, ha, rfl⟩ := wd_nat hx
  obtain ⟨b, hb, rfl⟩ := wd_nat hy
  exact nat_wd (Nat.xor_lt_two_pow ha hb)
theorem io_wd {w : Nat} {x y : Int} (hx : Wd w x) (hy : Wd w y) : Wd w (io x y) := by
  obtain ⟨a, ha, rfl⟩ := wd_nat hx
  obtain ⟨b, hb, rfl⟩ := wd_nat hy
  exact nat_wd (Nat.or_lt_two_pow ha hb)
theorem wrap_u {k : IntKind} (hk : k.signed = false) (x : Int) : k.wrap x = x % 2 ^ k.bits := by
  unfold IntKind.wrap
  cases k <;> simp [IntKind.signed, IntKind.bits] at *
theorem wrap_wd {k : IntKind} (hk : k.signed = false) {x : Int} (h : Wd k.bits x) : k.wrap x = x := by
  rw [wrap_u hk]; exact Int.emod_eq_of_lt h.1 h.2
theorem ofInt_nat {n a : Nat} (h : a < 2 ^ n) : (BitVec.ofInt n (a : Int)).toNat = a := by
  rw [BitVec.ofInt_natCast, BitVec.toNat_ofNat, Nat.mod_eq_of_lt h]
theorem ixor_ix {k : IntKind} (hk : k.signed = false) {x y : Int} (hx : Wd k.bits x) (hy : Wd k.bits y) : ixor k x y = ix x y := by
  have h := ix_wd hx hy
  obtain ⟨a, ha, rfl⟩ := wd_nat hx
  obtain ⟨b, hb, rfl⟩ := wd_nat hy
  unfold ixor
  rw [BitVec.toNat_xor, ofInt_nat ha, ofInt_nat hb]
  exact wrap_wd hk h
theorem ior_io {k : IntKind} (hk : k.signed = false) {x y : Int} (hx : Wd k.bits x) (hy : Wd k.bits y) : ior k x y = io x y := by
  have h := io_wd hx hy
  obtain ⟨a, ha, rfl⟩ := wd_nat hx
  obtain ⟨b, hb, rfl⟩ := wd_nat hy
  unfold ior
  rw [BitVec.toNat_or, ofInt_nat ha, ofInt_nat hb]
  exact wrap_wd hk h
theorem shr_div {k : IntKind} {x : Int} {n : Nat} (hn : n ≤ k.bits) : ishr k x (n : Int) = x / 2 ^ n := by
  unfold ishr
  rw [Int.toNat_natCast, Nat.min_eq_left hn, Int.fdiv_eq_ediv_of_nonneg _ (Int.le_of_lt (Int.pow_pos (by omega)))]
theorem shl_mul {k : IntKind} (hk : k.signed = false) {x : Int} {n : Nat} (hn : n ≤ k.bits) : ishl k x (n : Int) = x * 2 ^ n % 2 ^ k.bits := by
  unfold ishl
  rw [Int.toNat_natCast, Nat.min_eq_left hn, wrap_u hk]
/-- Turned by n bits to the right, of w. -/
def rr (w n : Nat) (x : Int) : Int := x / 2 ^ n + x % 2 ^ n * 2 ^ (w - n)
theorem pow_split {w n : Nat} (h : n ≤ w) : (2 : Int) ^ w = 2 ^ n * 2 ^ (w - n) := by rw [← Int.pow_add]; congr 1; omega
theorem pos2 (n : Nat) : (0 : Int) < 2 ^ n := Int.pow_pos (by omega)
theorem div_lt {w n : Nat} (h : n ≤ w) {x : Int} (hx : Wd w x) : 0 ≤ x / 2 ^ n ∧ x / 2 ^ n < 2 ^ (w - n) := by
  refine ⟨Int.ediv_nonneg hx.1 (Int.le_of_lt (pos2 n)), ?_⟩
  apply Int.ediv_lt_of_lt_mul (pos2 n)
  rw [Int.mul_comm, ← pow_split h]; exact hx.2
theorem mul_mod {w n : Nat} (h : n ≤ w) (x : Int) : x * 2 ^ (w - n) % 2 ^ w = x % 2 ^ n * 2 ^ (w - n) := by
  rw [pow_split h, Int.mul_comm x, Int.mul_comm (2 ^ n), Int.mul_emod_mul_of_pos _ _ (pos2 _), Int.mul_comm]
theorem rr_wd {w n : Nat} (h : n ≤ w) {x : Int} (hx : Wd w x) : Wd w (rr w n x) := by
  obtain ⟨d1, d2⟩ := div_lt h hx
  have m1 := Int.emod_nonneg x (Int.ne_of_gt (pos2 n))
  have m2 := Int.emod_lt_of_pos x (pos2 n)
  have hp := pos2 (w - n)
  unfold rr Wd
  rw [pow_split h]
  generalize x / 2 ^ n = d at *
  generalize x % 2 ^ n = m at *
  generalize (2 : Int) ^ (w - n) = p at *
  generalize (2 : Int) ^ n = q at *
  have e1 : 0 ≤ m * p := Int.mul_nonneg m1 (Int.le_of_lt hp)
  have e2 : m * p ≤ (q - 1) * p := Int.mul_le_mul_of_nonneg_right (by omega) (Int.le_of_lt hp)
  have e3 : (q - 1) * p = q * p - p := by rw [Int.sub_mul, Int.one_mul]
  omega
theorem or_add {a b s : Nat} (h : b < 2 ^ s) : a * 2 ^ s ||| b = a * 2 ^ s + b := by
  have := Nat.shiftLeft_add_eq_or_of_lt h a
  rw [Nat.shiftLeft_eq] at this
  exact this.symm
/-- Turned, ars the program and the reference have it. -/
theorem rot_io {w n : Nat} (h : n ≤ w) {x : Int} (hx : Wd w x) : io (x * 2 ^ (w - n) % 2 ^ w) (x / 2 ^ n) = rr w n x := by
  obtain ⟨a, ha, rfl⟩ := wd_nat hx
  rw [mul_mod h]
  have e1 : ((a : Nat) : Int) % 2 ^ n * 2 ^ (w - n) = ((a % 2 ^ n * 2 ^ (w - n) : Nat) : Int) := by simp
  have e2 : ((a : Nat) : Int) / 2 ^ n = ((a / 2 ^ n : Nat) : Int) := by simp
  have hlt : a / 2 ^ n < 2 ^ (w - n) := by
    apply Nat.div_lt_of_lt_mul
    rw [← Nat.pow_add, show n + (w - n) = w by omega]; exact ha
  unfold rr io
  rw [e1, e2, Int.toNat_natCast, Int.toNat_natCast, or_add hlt]
  omega
theorem io_comm (x y : Int) : io x y = io y x := by unfold io; rw [Nat.or_comm]
end Go.Sh
namespace Go.Sh
open Go.Ev
theorem ior_add {k : IntKind} (hk : k.signed = false) {x y : Int} (s : Nat) (h0 : 0 ≤ x) (hm : x % 2 ^ s = 0) (hy : 0 ≤ y ∧ y < 2 ^ s) (hb : x + y < 2 ^ k.bits) : ior k x y = x + y := by
  rw [ior_io hk ⟨h0, by omega⟩ ⟨hy.1, by omega⟩]
  obtain ⟨b, hb2, rfl⟩ := wd_nat (w := s) hy
  have hx : x = ((x.toNat : Nat) : Int) := by omega
  have hd : x.toNat = x.toNat / 2 ^ s * 2 ^ s := by
    have h1 : ((x.toNat % 2 ^ s : Nat) : Int) = 0 := by
      rw [Int.natCast_emod, ← hx]; simpa using hm
    have h2 : x.toNat % 2 ^ s = 0 := by omega
    have := Nat.div_add_mod x.toNat (2 ^ s)
    rw [h2, Nat.add_zero, Nat.mul_comm] at this
    exact this.symm
  unfold io
  rw [Int.toNat_natCast, hd, or_add hb2, ← hd]
  omega
/-- Turned, ars the program has it. -/
def R (k : IntKind) (s n x : Int) : Int := ior k (ishl k x s) (ishr k x n)
theorem R_eq {k : IntKind} (hk : k.signed = false) {n : Nat} (h : n ≤ k.bits) {x : Int} (hx : Wd k.bits x) : R k ((k.bits - n : Nat) : Int) (n : Int) x = rr k.bits n x := by
  unfold R
  rw [shl_mul hk (by omega), shr_div h, ior_io hk, rot_io h hx]
  · exact ⟨Int.emod_nonneg _ (Int.ne_of_gt (pos2 _)), Int.emod_lt_of_pos _ (pos2 _)⟩
  · obtain ⟨d1, d2⟩ := div_lt h hx
    refine ⟨d1, Int.lt_of_lt_of_le d2 ?_⟩
    have : (2 : Int) ^ k.bits = 2 ^ n * 2 ^ (k.bits - n) := pow_split h
    rw [this]
    have h1 : (1 : Int) ≤ 2 ^ n := by have := pos2 n; omega
    have := Int.mul_le_mul_of_nonneg_right h1 (Int.le_of_lt (pos2 (k.bits - n)))
    omega
theorem R32 {x : Int} (n : Nat) (h : n ≤ 32) (hx : Wd 32 x) : R .u32 ((32 - n : Nat) : Int) (n : Int) x = rr 32 n x := R_eq (k := .u32) rfl h hx
theorem sd32 {x : Int} (n : Nat) (h : n ≤ 32) : ishr .u32 x (n : Int) = x / 2 ^ n := shr_div (k := .u32) h
theorem sd64 {x : Int} (n : Nat) (h : n ≤ 64) : ishr .u64 x (n : Int) = x / 2 ^ n := shr_div (k := .u64) h
/- bytes -/
def B8 (x : Int) : Prop := 0 ≤ x ∧ x < 256
def w4 (a b c d : Int) : Int := ior .u32 (ior .u32 (ior .u32 (ishl .u32 (IntKind.u32.wrap a) 24) (ishl .u32 (IntKind.u32.wrap b) 16)) (ishl .u32 (IntKind.u32.wrap c) 8)) (IntKind.u32.wrap d)
theorem sl32 {x : Int} (n : Nat) (h : n ≤ 32) : ishl .u32 x (n : Int) = x * 2 ^ n % 2 ^ 32 := shl_mul (k := .u32) rfl h
theorem sl64 {x : Int} (n : Nat) (h : n ≤ 64) : ishl .u64 x (n : Int) = x * 2 ^ n % 2 ^ 64 := shl_mul (k := .u64) rfl h
/- the words, ars an array that is filled -/
end Go.Sh
namespace Go.Proofs.Ytfmgodgakndjcaa
open Go.Ev Go.Sh
set_option maxRecDepth 100000
theorem mixed : Try.prog.follows .mixedOrders = true := by kernel_rfl
theorem noCount : Go.Ev.noCount Try.prog = true := by kernel_rfl
def qP (f : FuncId) : Bool := !Nat.beq f 1000000000
theorem inR_b8 {x : Int} (h : inR .u8 x = true) : B8 x := by rw [inR_iff] at h; simp only [lo, hi] at h; unfold B8; omega
end Go.Proofs.Ytfmgodgakndjcaa
namespace Go.Wn
def val (l : List Int) : Int := l.getD 0 0 + 18446744073709551616 * l.getD 1 0 + 340282366920938463463374607431768211456 * l.getD 2 0 + 6277101735386680763835789423207666416102355444464034512896 * l.getD 3 0
def limbs (n : Int) : List Int := [n % 18446744073709551616, n / 18446744073709551616 % 18446744073709551616, n / 340282366920938463463374607431768211456 % 18446744073709551616,
  n / 6277101735386680763835789423207666416102355444464034512896 % 18446744073709551616]
def W (x : Int) : Prop := 0 ≤ x ∧ x < 18446744073709551616

theorem limbs_of {s0 s1 s2 s3 c T : Int} (h0 : W s0) (h1 : W s1) (h2 : W s2) (h3 : W s3)
    (hT : T = s0 + 18446744073709551616 * s1 + 340282366920938463463374607431768211456 * s2 + 6277101735386680763835789423207666416102355444464034512896 * s3 + 115792089237316195423570985008687907853269984665640564039457584007913129639936 * c) :
    limbs T = [s0, s1, s2, s3] := by
  unfold limbs W at *
  have e0 : T % 18446744073709551616 = s0 := by omega
  have e1 : T / 18446744073709551616 % 18446744073709551616 = s1 := by omega
  have e2 : T / 340282366920938463463374607431768211456 % 18446744073709551616 = s2 := by omega
  have e3 : T / 6277101735386680763835789423207666416102355444464034512896 % 18446744073709551616 = s3 := by omega
  rw [e0, e1, e2, e3]
theorem val_limbs (T : Int) : val (limbs T) = T % 115792089237316195423570985008687907853269984665640564039457584007913129639936 := by
  simp [val, limbs]
  omega

def cy (x y c : Int) : Int := (x + y + c) / 18446744073709551616
def sm (x y c : Int) : Int := (x + y + c) % 18446744073709551616
theorem add_chain {a0 a1 a2 a3 b0 b1 b2 b3 : Int} (ha0 : W a0) (ha1 : W a1) (ha2 : W a2) (ha3 : W a3) (hb0 : W b0) (hb1 : W b1) (hb2 : W b2) (hb3 : W b3) :
    [sm a0 b0 0, sm a1 b1 (cy a0 b0 0), sm a2 b2 (cy a1 b1 (cy a0 b0 0)), sm a3 b3 (cy a2 b2 (cy a1 b1 (cy a0 b0 0)))] = limbs (val [a0, a1, a2, a3] + val [b0, b1, b2, b3]) ∧
    cy a3 b3 (cy a2 b2 (cy a1 b1 (cy a0 b0 0))) = (val [a0, a1, a2, a3] + val [b0, b1, b2, b3]) / 115792089237316195423570985008687907853269984665640564039457584007913129639936 ∧
    cy a0 b0 0 ≤ 1 ∧ cy a1 b1 (cy a0 b0 0) ≤ 1 ∧ cy a2 b2 (cy a1 b1 (cy a0 b0 0)) ≤ 1 := by
  have r : ∀ {x y c : Int}, W x → W y → 0 ≤ c ∧ c ≤ 1 → W (sm x y c) ∧ (0 ≤ cy x y c ∧ cy x y c ≤ 1) ∧ x + y + c = 18446744073709551616 * cy x y c + sm x y c := by
    intro x y c hx hy hc
    unfold W cy sm at *
    omega
  have h0 := r ha0 hb0 (c := 0) (by omega)
  generalize sm a0 b0 0 = s0 at *
  generalize cy a0 b0 0 = c0 at *
  have h1 := r ha1 hb1 h0.2.1
  generalize sm a1 b1 c0 = s1 at *
  generalize cy a1 b1 c0 = c1 at *
  have h2 := r ha2 hb2 h1.2.1
  generalize sm a2 b2 c1 = s2 at *
  generalize cy a2 b2 c1 = c2 at *
  have h3 := r ha3 hb3 h2.2.1
  generalize sm a3 b3 c2 = s3 at *
  generalize cy a3 b3 c2 = c3 at *
  have hT : val [a0, a1, a2, a3] + val [b0, b1, b2, b3] = s0 + 18446744073709551616 * s1 + 340282366920938463463374607431768211456 * s2 + 6277101735386680763835789423207666416102355444464034512896 * s3 + 115792089237316195423570985008687907853269984665640564039457584007913129639936 * c3 := by
    simp [val]
    omega
  refine ⟨(limbs_of h0.1 h1.1 h2.1 h3.1 hT).symm, ?_, h0.2.1.2, h1.2.1.2, h2.2.1.2⟩
  have g0 := h0.1; have g1 := h1.1; have g2 := h2.1; have g3 := h3.1
  unfold W at g0 g1 g2 g3
  rw [hT]
  omega

end Go.Wn
