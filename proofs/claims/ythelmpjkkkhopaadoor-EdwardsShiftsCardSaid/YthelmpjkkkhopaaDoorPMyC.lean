/- Loops whose heads are one family of states: a round's evaluation, a step of the state, an end. Own work. -/
import Derived.Test.YthelmpjkkkhopaaDoorPEvWr
import Derived.Test.YthelmpjkkkhopaaDoorPEvLoop
import Derived.Test.YthelmpjkkkhopaaDoorPEvLaw
import Derived.Test.YthelmpjkkkhopaaDoorRows
import Derived.Test.YthelmpjkkkhopaaDoorPWordsN
set_option linter.unusedSimpArgs false
set_option linter.unusedVariables false
set_option linter.unusedSectionVars false
namespace Go.Ev
set_option linter.unusedSectionVars false
variable [Tab]

def exNo : Ex → Nat
  | .normal => 0
  | .ret => 1
  | .exit id => id + 2
/-- What is seen of a way's end: the debts, how it ends, some slots, how many there are, the memory. -/
def seesL (ts : List Nat) (T : Tree (Ex × St)) : Option (List Bool × Nat × List AV × Nat × Mem) :=
  match T.flat with
  | some (o, (e, st)) => some (o, exNo e, ts.map (fun t => st.tm.getD t .top), st.tm.length, st.mem)
  | none => none
theorem seesL_sat {ts : List Nat} {T : Tree (Ex × St)} {ds : List Bool} {o : List Bool} {k n : Nat} {avs : List AV} {m : Mem} {K : Ex × St → Prop} (h : seesL ts (T.go ds) = some (o, k, avs, n, m)) (ho : Paid o)
    (hk : ∀ e st, exNo e = k → ts.map (fun t => st.tm.getD t .top) = avs → st.tm.length = n → st.mem = m → K (e, st)) : T.Sat K := by
  unfold seesL at h
  split at h
  · rename_i o' e st hf
    simp only [Option.some.injEq, Prod.mk.injEq] at h
    obtain ⟨h1, h2, h3, h4, h5⟩ := h
    rw [← h1] at ho
    exact go_sound (sat_mono (fun p hp => by rw [hp]; exact hk e st h2 h3 h4 h5) (flat_sound hf ho))
  · cases h

/-- A value that says no less. -/
inductive Le1 : AV → AV → Prop
  | refl (a : AV) : Le1 a a
  | int (s : Bool) (k : IntKind) (n : Int) : Le1 (.int s k n) (.int true k n)
  | top (a : AV) : Le1 a .top
inductive LeL : List AV → List AV → Prop
  | nil : LeL [] []
  | cons {a b : AV} {l q : List AV} (h : Le1 a b) (hs : LeL l q) : LeL (a :: l) (b :: q)
theorem Le1.rep {a b : AV} (h : Le1 a b) {ρ : Nat → Loc3} {N : Nat → Prop} {v : Value} (hr : Rep ρ N a v) : Rep ρ N b v := by
  cases h with
  | refl => exact hr
  | int s k n => cases hr with | int _ _ _ h => exact .int _ _ _ h
  | top => exact .top _
theorem LeL.refl : ∀ (l : List AV), LeL l l
  | [] => .nil
  | a :: l => .cons (.refl a) (LeL.refl l)

/-- The slots ts bear the values avs. -/
def zipU : List Nat → List AV → List (Nat × AV)
  | t :: ts, a :: ars => (t, a) :: zipU ts ars
  | _, _ => []
theorem zipU_of {f : Nat → AV} : ∀ {ts : List Nat} {avs : List AV}, ts.map f = avs → ∀ p ∈ zipU ts avs, f p.1 = p.2
  | [], avs, h, p, hp => by simp [zipU] at hp
  | t :: ts, avs, h, p, hp => by
    subst h
    simp only [List.map_cons, zipU, List.mem_cons] at hp
    rcases hp with rfl | hp
    · rfl
    · exact zipU_of rfl p hp
theorem zipU_le {f : Nat → AV} : ∀ {ts : List Nat} {avs : List AV}, LeL (ts.map f) avs → ∀ p ∈ zipU ts avs, Le1 (f p.1) p.2
  | [], avs, h, p, hp => by simp [zipU] at hp
  | t :: ts, avs, h, p, hp => by
    simp only [List.map_cons] at h
    cases h with
    | cons h hs =>
      simp only [zipU, List.mem_cons] at hp
      rcases hp with rfl | hp
      · exact h
      · exact zipU_le hs p hp

/-- A family's handler: what is owed at the head, and what stands behind the block. -/
def famH {σ : Type} (id nt : Nat) (ts : List Nat) (pat : List AV → Mem → Option σ) (owe : σ → List Bool) (fin : σ → List (Nat × AV) × Mem) (Λ : LoopH) : LoopH := fun i st =>
  match Nat.beq i id && Nat.beq st.tm.length nt with
  | true => match pat (ts.map fun t => st.tm.getD t .top) st.mem with
    | some s => some (owe s, ⟨tmOf (ups (fun _ => .top) (fin s).1) nt, (fin s).2⟩)
    | none => Λ i st
  | false => Λ i st

/-- Names that nothing bears any more are given up. -/
theorem Inv.short {w0 : World} {S : Nat → Prop} {ρ : Nat → Loc3} {M ex : Mem} {w : World} (h : Inv w0 S (upto (M ++ ex).length) ρ (getName (M ++ ex)) w) (hb : bndM M.length M = true) : Inv w0 S (upto M.length) ρ (getName M) w := by
  have sub : ∀ n b, getName M n = some b → getName (M ++ ex) n = some b := fun n b hn => by
    rw [getName_app, if_pos (getName_lt hn)]; exact hn
  refine ⟨⟨fun n b hn => ?_, fun i j bi bj hi hj hij hr => h.sim.inj i j bi bj (sub i bi hi) (sub j bj hj) hij hr, fun n b hn => getName_lt hn, h.sim.tab, fun G c hG n b hn hr => h.sim.apart G c hG n b (sub n b hn) hr⟩,
    h.size, h.frame, h.os, h.tape, h.output, fun n b hn hr => h.rws n b (sub n b hn) hr⟩
  obtain ⟨cs, t, lo', hi', b1, b2, b3, b4, b5⟩ := (h.sim.blk n b (sub n b hn)).ex
  exact ⟨cs, t, lo', hi', b1, b2, b3, b4, b5.bnd fun l hl => bndM_get hb hn l hl⟩
/-- A slot that may be kept, or what is known of it no more. -/
def keepB (k : Nat) (a : AV) : AV := match bndA k a with | true => a | false => .top
theorem keepB_rep {k : Nat} {a : AV} {ρ : Nat → Loc3} {N : Nat → Prop} {v : Value} (h : Rep ρ N a v) : Rep ρ (upto k) (keepB k a) v := by
  unfold keepB
  split
  · rename_i hb; exact h.bnd hb
  · exact .top _
theorem bndL_mem {k : Nat} : ∀ {l : List AV}, bndL k l = true → ∀ a ∈ l, bndA k a = true
  | [], _, a, h => by cases h
  | x :: l, hb, a, h => by
    simp only [bndL, Bool.and_eq_true] at hb
    rcases List.mem_cons.1 h with rfl | h
    · exact hb.1
    · exact bndL_mem hb.2 a h
theorem zipU_mem : ∀ {ts : List Nat} {avs : List AV} {p : Nat × AV}, p ∈ zipU ts avs → p.2 ∈ avs
  | [], avs, p, h => by simp [zipU] at h
  | t :: ts, [], p, h => by simp [zipU] at h
  | t :: ts, a :: ars, p, h => by
    simp only [zipU, List.mem_cons] at h
    rcases h with rfl | h
    · exact List.mem_cons_self ..
    · exact List.mem_cons_of_mem _ (zipU_mem h)

theorem ups_slot {f : Nat → AV} {k t : Nat} {ρ : Nat → Loc3} {N : Nat → Prop} {v : Value} : ∀ {l : List (Nat × AV)}, (∀ p ∈ l, Le1 (f p.1) p.2) → (∀ p ∈ l, bndA k p.2 = true) → Rep ρ N (f t) v → Rep ρ (upto k) (ups (fun t => keepB k (f t)) l t) v
  | [], _, _, h => keepB_rep h
  | (i, a) :: r, h1, h2, h => by
    unfold ups
    cases hb : Nat.beq t i with
    | true =>
      have := Nat.eq_of_beq_eq_true hb
      subst this
      exact ((h1 _ (List.mem_cons_self ..)).rep h).bnd (h2 _ (List.mem_cons_self ..))
    | false => exact ups_slot (fun p hp => h1 p (List.mem_cons_of_mem _ hp)) (fun p hp => h2 p (List.mem_cons_of_mem _ hp)) h

section
variable {P : Program} {q : FuncId → Bool} {H : CallH} {Λ0 Λ : LoopH}
/-- What a round has to show: on it goes, to a further state of the family (new blocks are given up), or out. -/
def Round (P : Program) (q : FuncId → Bool) (H : CallH) (Λ0 : LoopH) (B : Code) (id nt n : Nat) (ts : List Nat) {σ : Type} (vals : σ → List AV) (M : σ → Mem) (J : σ → Prop) (μ : σ → Nat) (fin : List (Nat × AV) × Mem) (s1 : σ) (x : Nat → AV) : Prop :=
  (∃ ds o avs s2 ex, seesL ts ((codeL P q H Λ0 n (lp (blk id B)) ⟨tmOf (ups x (zipU ts (vals s1))) nt, M s1⟩).go ds) = some (o, 0, avs, nt, M s2 ++ ex) ∧ Paid o ∧ LeL avs (vals s2) ∧ J s2 ∧ (M s2).length = (M s1).length ∧ μ s2 < μ s1) ∨
  (∃ ds o avs, seesL ts ((codeL P q H Λ0 n (lp (blk id B)) ⟨tmOf (ups x (zipU ts (vals s1))) nt, M s1⟩).go ds) = some (o, id + 2, avs, nt, fin.2) ∧ Paid o ∧ ∀ p ∈ fin.1, ∃ a, (p.1, a) ∈ zipU ts avs ∧ Le1 a p.2)
theorem Round.on {B : Code} {id nt n : Nat} {ts : List Nat} {σ : Type} {vals : σ → List AV} {M : σ → Mem} {J : σ → Prop} {μ : σ → Nat} {fin : List (Nat × AV) × Mem} {s1 : σ} {x : Nat → AV} {ds o : List Bool} {avs : List AV} {m : Mem}
    (h : seesL ts ((codeL P q H Λ0 n (lp (blk id B)) ⟨tmOf (ups x (zipU ts (vals s1))) nt, M s1⟩).go ds) = some (o, 0, avs, nt, m)) (s2 : σ) (ex : Mem) (hm : m = M s2 ++ ex) (ho : Paid o) (hv : LeL avs (vals s2)) (hJ : J s2) (hl : (M s2).length = (M s1).length) (hμ : μ s2 < μ s1) :
    Round P q H Λ0 B id nt n ts vals M J μ fin s1 x := Or.inl ⟨ds, o, avs, s2, ex, by rw [h, hm], ho, hv, hJ, hl, hμ⟩
theorem Round.out {B : Code} {id nt n : Nat} {ts : List Nat} {σ : Type} {vals : σ → List AV} {M : σ → Mem} {J : σ → Prop} {μ : σ → Nat} {fin : List (Nat × AV) × Mem} {s1 : σ} {x : Nat → AV} {ds o : List Bool} {avs : List AV} {m : Mem} {k : Nat}
    (h : seesL ts ((codeL P q H Λ0 n (lp (blk id B)) ⟨tmOf (ups x (zipU ts (vals s1))) nt, M s1⟩).go ds) = some (o, k, avs, nt, m)) (hk : k = id + 2) (hm : m = fin.2) (ho : Paid o) (hf : ∀ p ∈ fin.1, ∃ a, (p.1, a) ∈ zipU ts avs ∧ Le1 a p.2) :
    Round P q H Λ0 B id nt n ts vals M J μ fin s1 x := Or.inr ⟨ds, o, avs, by rw [h, hm, hk], ho, hf⟩
theorem fam_ok {σ : Type} {id nt n : Nat} {ts : List Nat} {B : Code} (vals : σ → List AV) (M : σ → Mem) (J : σ → σ → Prop) (μ : σ → Nat) {pat : List AV → Mem → Option σ} {owe : σ → List Bool} {fin : σ → List (Nat × AV) × Mem}
    (hm : P.follows .mixedOrders = true) (hH : HOk P H) (hΛ : LOk P B Λ) (hΛ0 : LOk P B Λ0) (h1 : one1 (blks id B) = true) (h2 : isLoop (blk id B) = true) (hbm : ∀ s, bndM (M s).length (M s) = true) (hbv : ∀ s, bndL (M s).length (vals s) = true)
    (hpat : ∀ avs m s, pat avs m = some s → Paid (owe s) → ∃ s1, LeL avs (vals s1) ∧ m = M s1 ∧ J s s1)
    (round : ∀ s s1, J s s1 → ∀ x : Nat → AV, Round P q H Λ0 B id nt n ts vals M (J s) μ (fin s) s1 x) :
    LOk P B (famH id nt ts pat owe fin Λ) := by
  refine ⟨fun {id' c st st' o} hc hl ho => ?_⟩
  unfold famH at hl
  split at hl
  · rename_i hb
    simp only [Bool.and_eq_true] at hb
    have hid := Nat.eq_of_beq_eq_true hb.1
    have hlen := Nat.eq_of_beq_eq_true hb.2
    subst hid
    split at hl
    · rename_i s hs
      simp only [Option.some.injEq, Prod.mk.injEq] at hl
      obtain ⟨rfl, rfl⟩ := hl
      obtain ⟨s1, p1, p2, p4⟩ := hpat _ _ _ hs ho
      have e := blk_of hc h1
      rw [lp_of h2] at e
      have hc' : ∀ x ∈ subs (lp (blk id' B)), x ∈ subs B := fun x hx => by
        refine subs_trans hc x ?_
        rw [e]
        simp only [subs, List.mem_cons]
        exact Or.inr (Or.inr hx)
      rw [e]
      refine Ok.leave ?_
      have key : ∀ (k : Nat) (s1 : σ) (st1 : St) (ex : Mem), μ s1 < k → J s s1 → st1.tm.length = nt → st1.mem = M s1 ++ ex → LeL (ts.map fun t => st1.tm.getD t .top) (vals s1) →
          ∀ (w0 : World) (S : Nat → Prop) (ρ0 : Nat → Loc3) (n0 : Nat) (ds : List Deferred) (a : Act) (w : World), n0 ≤ (M s1).length → SInv w0 S ρ0 n0 ds st1 a w →
          Code.rounds P (lp (blk id' B)) (Post w0 S ρ0 n0 ds (fun p => ∃ st2, p = (.exit id', st2) ∧ Wk st2 ⟨tmOf (ups (fun _ => .top) (fin s).1) nt, (fin s).2⟩)) k a w := by
        intro k
        induction k with
        | zero => intro s1 st1 ex h; omega
        | succ k ih =>
          intro s1 st1 ex hk hJ i3 i4 i5 w0 S ρ0 n0 ds a w hn0 hs1
          rw [rounds_succ]
          have hw : SInv w0 S ρ0 n0 ds ⟨tmOf (ups (fun t => keepB (M s1).length (st1.tm.getD t .top)) (zipU ts (vals s1))) nt, M s1⟩ a w := by
            obtain ⟨⟨ρ, r1, r2, r3⟩, r4, r5⟩ := hs1
            rw [i4] at r2
            refine ⟨⟨ρ, ⟨fun t => ?_, ?_⟩, r2.short (hbm s1), r3⟩, hn0, r5⟩
            · by_cases ht : t < nt
              · rw [tmOf_get ht]
                have hx := r1.rep t
                exact ups_slot (zipU_le i5) (fun p hp => bndL_mem (hbv s1) _ (zipU_mem hp)) hx
              · rw [tmOf_out ht]; exact .top _
            · rw [tmOf_len, ← i3]; exact r1.le
          have hsat : (codeL P q H Λ0 n (lp (blk id' B)) ⟨tmOf (ups (fun t => keepB (M s1).length (st1.tm.getD t .top)) (zipU ts (vals s1))) nt, M s1⟩).Sat (fun p => match p.1 with | .normal => ∃ s2 ex, μ s2 < μ s1 ∧ J s s2 ∧ p.2.tm.length = nt ∧ p.2.mem = M s2 ++ ex ∧ LeL (ts.map fun t => p.2.tm.getD t .top) (vals s2) ∧ n0 ≤ (M s2).length | _ => ∃ st2, p = (.exit id', st2) ∧ Wk st2 ⟨tmOf (ups (fun _ => .top) (fin s).1) nt, (fin s).2⟩) := by
            rcases round s s1 hJ (fun t => keepB (M s1).length (st1.tm.getD t .top)) with ⟨ds', o', avs, s2, ex2, r1, r2, r3, r4, r5, r6⟩ | ⟨ds', o', avs, r1, r2, r3⟩
            · refine seesL_sat r1 r2 fun ex st2 hx ha hn hmm => ?_
              cases ex with
              | normal => exact ⟨s2, ex2, r6, r4, hn, hmm, by rw [ha]; exact r3, by rw [r5]; exact hn0⟩
              | exit i => simp [exNo] at hx
              | ret => simp [exNo] at hx
            · refine seesL_sat r1 r2 fun ex st2 hx ha hn hmm => ?_
              cases ex with
              | normal => simp [exNo] at hx
              | ret => simp [exNo] at hx
              | exit i =>
                simp [exNo] at hx
                subst hx
                refine ⟨st2, rfl, hmm.symm, by rw [hn, tmOf_len], fun t ρ N v hr => ?_⟩
                by_cases ht : t < nt
                · rw [tmOf_get ht]
                  have : ∀ {l : List (Nat × AV)}, (∀ p ∈ l, ∃ a, (p.1, a) ∈ zipU ts avs ∧ Le1 a p.2) → Rep ρ N (ups (fun _ => .top) l t) v := by
                    intro l
                    induction l with
                    | nil => intro _; exact .top _
                    | cons p l ih =>
                      intro hl
                      obtain ⟨i, a⟩ := p
                      unfold ups
                      cases hb : Nat.beq t i with
                      | true =>
                        have := Nat.eq_of_beq_eq_true hb
                        subst this
                        obtain ⟨a', q1, q2⟩ := hl _ (List.mem_cons_self ..)
                        have := zipU_of ha _ q1
                        simp only at this
                        rw [this] at hr
                        exact q2.rep hr
                      | false => exact ih fun p hp => hl p (List.mem_cons_of_mem _ hp)
                  exact this r3
                · rw [tmOf_out ht]; exact .top _
          refine wp_mono ((codeL_sound hm hH hΛ0 n).1 hc' hsat w0 S ρ0 n0 ds a w hw) fun e a' w' he => ?_
          cases e with
          | normal => obtain ⟨st', ⟨s2, ex2, k1, k2, k3, k4, k5, k6⟩, k7⟩ := he; exact ih s2 st' ex2 (by omega) k2 k3 k4 k5 w0 S ρ0 n0 ds a' w' k6 k7
          | exit i => obtain ⟨st', k1, k2⟩ := he; exact ⟨st', k1, k2⟩
          | ret => obtain ⟨st', k1, k2⟩ := he; exact ⟨st', k1, k2⟩
          | goto l => exact he
          | panic ch => exact he
          | outgrown => exact he
      exact fun w0 S ρ0 n0 ds a w hs => wp_loop_rounds (μ s1 + 1) (key (μ s1 + 1) s1 st [] (by omega) p4 hlen (by rw [List.append_nil]; exact p2) p1 w0 S ρ0 n0 ds a w (by rw [← p2]; exact hs.le) hs)
    · exact hΛ.ok hc hl ho
  · exact hΛ.ok hc hl ho
end
end Go.Ev
namespace Go.Ev
def cubeL : List Int := [4794697086780616226, 8158064640168781261, 13096744586834688815, 16840607885511220156, 4131703408338449720, 6480981068601479193, 10538285296894168987, 12329834152419229976, 15566598209576043074, 1334009975649890238, 2608012711638119052, 6128411473006802146, 8268148722764581231, 9286055187155687089, 11230858885718282805, 13951009754708518548, 16472876342353939154, 17275323862435702243, 1135362057144423861, 2597628984639134821, 3308224258029322869, 5365058923640841347, 6679025012923562964, 8573033837759648693, 10970295158949994411, 12119686244451234320, 12683024718118986047, 13788192230050041572, 14330467153632333762, 15395433587784984357, 489312712824947311, 1452737877330783856, 2861767655752347644, 3322285676063803686, 5560940570517711597, 5996557281743188959, 7280758554555802590, 8532644243296465576, 9350256976987008742, 10552545826968843579, 11727347734174303076, 12113106623233404929, 14000437183269869457, 14369950271660146224, 15101387698204529176, 15463397548674623760, 17586052441742319658, 1182934255886127544, 1847814050463011016, 2177327727835720531, 2830643537854262169, 3796741975233480872, 4115178125766777443, 5681478168544905931, 6601373596472566643, 7507060721942968483, 8399075790359081724, 8693463985226723168, 9568029438360202098, 10144078919501101548, 10430055236837252648, 11840083180663258601, 13761210420658862357, 14299343276471374635, 14566680578165727644, 15097957966210449927, 16922976911328602910, 17689382322260857208, 500013540394364858, 748580250866718886, 1242879168328830382, 1977374033974150939, 2944078676154940804, 3659926193048069267, 4368137639120453308, 4836135668995329356, 5532061633213252278, 6448918945643986474, 6902733635092675308, 7801388544844847127]
def squareL : List Int := [7640891576956012808, 13503953896175478587, 4354685564936845355, 11912009170470909681, 5840696475078001361, 11170449401992604703, 2270897969802886507, 6620516959819538809, 14680500436340154072, 7105036623409894663, 10473403895298186519, 1526699215303891257, 7436329637833083697, 10282925794625328401, 15784041429090275239, 5167115440072839076]
def primeL : List Int := [18446744073709551597, 18446744073709551615, 18446744073709551615, 9223372036854775807]
def orderL : List Int := [6346243789798364141, 1503914060200516822, 0, 1152921504606846976]
def dL : List Int := [8496970652267935907, 31536524315187371, 10144147576115030168, 5909686906226998899]
def twoDL : List Int := [16993941304535871833, 63073048630374742, 1841551078520508720, 2596001775599221991]
def eighthL : List Int := [18446744073709551614, 18446744073709551615, 18446744073709551615, 1152921504606846975]
def imagL : List Int := [14190309331451158704, 3405592160176694392, 3120150775007532967, 3135389899092516619]
def baseL : List Int := [14507833142362363162, 7578651490590762930, 13881468655802702940, 2407515759118799870, 7378697629483820632, 7378697629483820646, 7378697629483820646, 7378697629483820646, 1, 0, 0, 0, 7916917699147980195, 2373572377730700021, 7415826109900252029, 7460035829407905381]
instance tabS : Tab := ⟨fun g => match Nat.beq g 8 with
  | true => some (.ints .u64 (some 80) cubeL)
  | false => match Nat.beq g 7 with
    | true => some (.ints .u64 (some 16) squareL)
    | false => match Nat.beq g 2 with
      | true => some (.ints .u64 (some 4) primeL)
      | false => match Nat.beq g 1 with
        | true => some (.ints .u64 (some 4) orderL)
        | false => match Nat.beq g 4 with
          | true => some (.ints .u64 (some 4) dL)
          | false => match Nat.beq g 3 with
            | true => some (.ints .u64 (some 4) twoDL)
            | false => match Nat.beq g 5 with
              | true => some (.ints .u64 (some 4) eighthL)
              | false => match Nat.beq g 6 with
                | true => some (.ints .u64 (some 4) imagL)
                | false => match Nat.beq g 0 with
                  | true => some (.ints .u64 (some 16) baseL)
                  | false => none⟩
end Go.Ev

namespace Go.Proofs.YthelmpjkkkhopaaDoor
open Go.Ev
set_option maxRecDepth 100000

def addX : List AV → E AV
  | [.int _ .u64 x, .int _ .u64 y, .int _ .u64 c] => some ([decide (c ≤ 1)], .tuple [.int true .u64 ((x + y + c) % 18446744073709551616), .int true .u64 ((x + y + c) / 18446744073709551616)])
  | _ => none
def subX : List AV → E AV
  | [.int _ .u64 x, .int _ .u64 y, .int _ .u64 c] => some ([decide (c ≤ 1)], .tuple [.int true .u64 ((x - y - c) % 18446744073709551616), .int true .u64 (if x < y + c then 1 else 0)])
  | _ => none

def subEntry : Array Value → Sem Value := fun args => do
    let (x, y, b) ← Extern.MathBitsCarry.three "Sub64" args
    pure (Extern.MathBitsCarry.pair ((x + Extern.MathBitsCarry.m64 - y - b) % Extern.MathBitsCarry.m64) (if x < y + b then 1 else 0))

theorem run_sub {P : Program} (x y c : Int) (hx : 0 ≤ x ∧ x ≤ 18446744073709551615) (hy : 0 ≤ y ∧ y ≤ 18446744073709551615) (hc0 : 0 ≤ c) (hc : c ≤ 1) (w : World) :
    (subEntry #[.int .u64 x, .int .u64 y, .int .u64 c]).run P w =
      .ok (.tuple #[.int .u64 ((x - y - c) % 18446744073709551616), .int .u64 (if x < y + c then 1 else 0)]) w := by
  have key : ∀ k : Nat, k ≤ 1 → (subEntry #[.int .u64 x, .int .u64 y, .int .u64 (k : Int)]).run P w =
      .ok (Extern.MathBitsCarry.pair ((x.toNat + Extern.MathBitsCarry.m64 - y.toNat - k) % Extern.MathBitsCarry.m64) (if x.toNat < y.toNat + k then 1 else 0)) w := by
    intro k hk
    have : k = 0 ∨ k = 1 := by omega
    rcases this with rfl | rfl <;> rfl
  obtain ⟨k, rfl⟩ := Int.eq_ofNat_of_zero_le hc0
  rw [key k (by omega)]
  obtain ⟨X, rfl⟩ := Int.eq_ofNat_of_zero_le hx.1
  obtain ⟨Y, rfl⟩ := Int.eq_ofNat_of_zero_le hy.1
  simp only [Extern.MathBitsCarry.pair, Extern.MathBitsCarry.m64, Int.toNat_natCast]
  have e1 : Int.ofNat ((X + 2 ^ 64 - Y - k) % 2 ^ 64) = ((X : Int) - Y - k) % 18446744073709551616 := by
    show (((X + 2 ^ 64 - Y - k) % 2 ^ 64 : Nat) : Int) = _
    omega
  have e2 : Int.ofNat (if X < Y + k then 1 else 0) = (if (X : Int) < Y + k then 1 else 0) := by
    by_cases h : X < Y + k
    · rw [if_pos h, if_pos (by omega)]; rfl
    · rw [if_neg h, if_neg (by omega)]; rfl
  rw [e1, e2]

theorem add64_ok {args : List AV} {o : List Bool} {v : AV} (h : addX args = some (o, v)) (ho : Paid o) : PureCall Tryd.prog 81 args v := by
  unfold addX at h
  split at h
  · rename_i s1 x s2 y s3 c
    cases h
    have hc := ho _ (List.mem_cons_self ..)
    simp only [decide_eq_true_eq] at hc
    intro ρ N vs ha w hT
    cases ha with
    | cons _ _ v1 _ r1 ha => cases ha with
      | cons _ _ v2 _ r2 ha => cases ha with
        | cons _ _ v3 _ r3 ha => cases ha with
          | nil => cases r1 with
            | int _ _ _ h1 => cases r2 with
              | int _ _ _ h2 => cases r3 with
                | int _ _ _ h3 =>
                  rw [inR_iff] at h1 h2 h3
                  simp only [lo, hi] at h1 h2 h3
                  refine callRun_extern (fn := Tryd.f81) (e := add64Entry) (by kernel_rfl) (by kernel_rfl) (by kernel_rfl) (by kernel_rfl) (by kernel_rfl) (run_add64 x y c h1.1 h2.1 h3.1 hc w) ⟨fun ρ N => ?_, Inv.same w hT⟩
                  exact .tuple _ [_, _] (.cons _ _ _ _ (.int _ _ _ (by rw [inR_iff]; simp only [lo, hi]; omega)) (.cons _ _ _ _ (.int _ _ _ (by rw [inR_iff]; simp only [lo, hi]; omega)) .nil))
  · cases h

theorem sub64_ok {args : List AV} {o : List Bool} {v : AV} (h : subX args = some (o, v)) (ho : Paid o) : PureCall Tryd.prog 82 args v := by
  unfold subX at h
  split at h
  · rename_i s1 x s2 y s3 c
    cases h
    have hc := ho _ (List.mem_cons_self ..)
    simp only [decide_eq_true_eq] at hc
    intro ρ N vs ha w hT
    cases ha with
    | cons _ _ v1 _ r1 ha => cases ha with
      | cons _ _ v2 _ r2 ha => cases ha with
        | cons _ _ v3 _ r3 ha => cases ha with
          | nil => cases r1 with
            | int _ _ _ h1 => cases r2 with
              | int _ _ _ h2 => cases r3 with
                | int _ _ _ h3 =>
                  rw [inR_iff] at h1 h2 h3
                  simp only [lo, hi] at h1 h2 h3
                  refine callRun_extern (fn := Tryd.f82) (e := subEntry) (by kernel_rfl) (by kernel_rfl) (by kernel_rfl) (by kernel_rfl) (by kernel_rfl) (run_sub x y c h1 h2 h3.1 hc w) ⟨fun ρ N => ?_, Inv.same w hT⟩
                  exact .tuple _ [_, _] (.cons _ _ _ _ (.int _ _ _ (by rw [inR_iff]; simp only [lo, hi]; omega)) (.cons _ _ _ _ (.int _ _ _ (by rw [inR_iff]; simp only [lo, hi]; split <;> omega)) .nil))
  · cases h

theorem mixed : Tryd.prog.follows .mixedOrders = true := by kernel_rfl
theorem noCount : Go.Ev.noCount Tryd.prog = true := by kernel_rfl
def h0 : CallH := withC 82 subX (withC 81 addX (fun _ _ _ => none))
theorem h0_ok : HOk Tryd.prog h0 := (HOk.none.withC fun _ _ _ h ho => add64_ok h ho).withC fun _ _ _ h ho => sub64_ok h ho
end Go.Proofs.YthelmpjkkkhopaaDoor
namespace Go.Proofs.YthelmpjkkkhopaaDoor
open Go.Ev Go.Wn
set_option maxRecDepth 100000

theorem inR_W {x : Int} (h : inR .u64 x = true) : W x := by rw [inR_iff] at h; simp only [lo, hi] at h; unfold W; omega
theorem four {l : List Int} (h : l.length = 4) : ∃ a b c d, l = [a, b, c, d] := by
  match l, h with
  | [a, b, c, d], _ => exact ⟨a, b, c, d, rfl⟩
/-- An argument that is a number of four words. -/
theorem num_arg {ρ : Nat → Loc3} {N : Nat → Prop} {l : List Int} {v : Value} (h : Rep ρ N (.ints .u64 4 l) v) : ∃ a b c d, l = [a, b, c, d] ∧ W a ∧ W b ∧ W c ∧ W d := by
  cases h with
  | ints _ _ _ hn hl =>
    obtain ⟨a, b, c, d, rfl⟩ := four hn
    exact ⟨a, b, c, d, rfl, inR_W (hl a (by simp)), inR_W (hl b (by simp)), inR_W (hl c (by simp)), inR_W (hl d (by simp))⟩

def qAll : FuncId → Bool := fun f => !Nat.beq f 1000000000
-- words.Add
def addS : List AV → E AV
  | [.ints .u64 4 a, .ints .u64 4 b] => some ([], .tuple [.ints .u64 4 (limbs (val a + val b)), .int true .u64 ((val a + val b) / 115792089237316195423570985008687907853269984665640564039457584007913129639936)])
  | _ => none
theorem add_eval (a0 a1 a2 a3 b0 b1 b2 b3 : Int) : res (funcA Tryd.prog qAll h0 100 78 [.ints .u64 4 [a0, a1, a2, a3], .ints .u64 4 [b0, b1, b2, b3]] []) =
    some ([decide ((0 : Int) ≤ 1), decide (cy a0 b0 0 ≤ 1), decide (cy a1 b1 (cy a0 b0 0) ≤ 1), decide (cy a2 b2 (cy a1 b1 (cy a0 b0 0)) ≤ 1)],
      .tuple [.ints .u64 4 [sm a0 b0 0, sm a1 b1 (cy a0 b0 0), sm a2 b2 (cy a1 b1 (cy a0 b0 0)), sm a3 b3 (cy a2 b2 (cy a1 b1 (cy a0 b0 0)))], .int true .u64 (cy a3 b3 (cy a2 b2 (cy a1 b1 (cy a0 b0 0))))]) := by kernel_rfl
theorem add_ok {args : List AV} {o : List Bool} {v : AV} (h : addS args = some (o, v)) : PureCall Tryd.prog 78 args v := by
  unfold addS at h
  split at h
  · rename_i a b
    cases h
    intro ρ N vs ha
    have hb := ha
    cases hb with
    | cons _ _ _ _ r1 hb => cases hb with
      | cons _ _ _ _ r2 hb =>
        obtain ⟨a0, a1, a2, a3, rfl, wa0, wa1, wa2, wa3⟩ := num_arg r1
        obtain ⟨b0, b1, b2, b3, rfl, wb0, wb1, wb2, wb3⟩ := num_arg r2
        obtain ⟨k1, k2, k3, k4, k5⟩ := add_chain wa0 wa1 wa2 wa3 wb0 wb1 wb2 wb3
        exact pure_of_res mixed noCount h0_ok (by kernel_rfl) (add_eval a0 a1 a2 a3 b0 b1 b2 b3)
          (paid_cons (by kernel_rfl) (paid_cons (decide_eq_true k3) (paid_cons (decide_eq_true k4) (paid_cons (decide_eq_true k5) Paid.nil)))) (by rw [k1, k2]) (by kernel_rfl) ha
  · cases h

-- words.Sub
def subS : List AV → E AV
  | [.ints .u64 4 a, .ints .u64 4 b] => some ([], .tuple [.ints .u64 4 (limbs (val a - val b)), .int true .u64 (if val a < val b then 1 else 0)])
  | _ => none
theorem sub_eval (a0 a1 a2 a3 b0 b1 b2 b3 : Int) : res (funcA Tryd.prog qAll h0 100 58 [.ints .u64 4 [a0, a1, a2, a3], .ints .u64 4 [b0, b1, b2, b3]] []) =
    some ([decide ((0 : Int) ≤ 1), decide (bw a0 b0 0 ≤ 1), decide (bw a1 b1 (bw a0 b0 0) ≤ 1), decide (bw a2 b2 (bw a1 b1 (bw a0 b0 0)) ≤ 1)],
      .tuple [.ints .u64 4 [df a0 b0 0, df a1 b1 (bw a0 b0 0), df a2 b2 (bw a1 b1 (bw a0 b0 0)), df a3 b3 (bw a2 b2 (bw a1 b1 (bw a0 b0 0)))], .int true .u64 (bw a3 b3 (bw a2 b2 (bw a1 b1 (bw a0 b0 0))))]) := by kernel_rfl
theorem sub_ok {args : List AV} {o : List Bool} {v : AV} (h : subS args = some (o, v)) : PureCall Tryd.prog 58 args v := by
  unfold subS at h
  split at h
  · rename_i a b
    cases h
    intro ρ N vs ha
    have hb := ha
    cases hb with
    | cons _ _ _ _ r1 hb => cases hb with
      | cons _ _ _ _ r2 hb =>
        obtain ⟨a0, a1, a2, a3, rfl, wa0, wa1, wa2, wa3⟩ := num_arg r1
        obtain ⟨b0, b1, b2, b3, rfl, wb0, wb1, wb2, wb3⟩ := num_arg r2
        obtain ⟨k1, k2, k3, k4, k5⟩ := sub_chain wa0 wa1 wa2 wa3 wb0 wb1 wb2 wb3
        exact pure_of_res mixed noCount h0_ok (by kernel_rfl) (sub_eval a0 a1 a2 a3 b0 b1 b2 b3)
          (paid_cons (by kernel_rfl) (paid_cons (decide_eq_true k3) (paid_cons (decide_eq_true k4) (paid_cons (decide_eq_true k5) Paid.nil)))) (by rw [k1, k2]) (by kernel_rfl) ha
  · cases h

def h1 : CallH := withC 58 subS (withC 78 addS h0)
theorem h1_ok : HOk Tryd.prog h1 := (h0_ok.withC fun _ _ _ h _ => add_ok h).withC fun _ _ _ h _ => sub_ok h

-- words.Less
def lessS : List AV → E AV
  | [.ints .u64 4 a, .ints .u64 4 b] => some ([], .bool true (decide (val a < val b)))
  | _ => none
theorem less_eval (a b : List Int) : res (funcA Tryd.prog qAll h1 100 27 [.ints .u64 4 a, .ints .u64 4 b] []) =
    some ([], .bool true ((if val a < val b then (1 : Int) else 0) == 1)) := by kernel_rfl
theorem less_ok {args : List AV} {o : List Bool} {v : AV} (h : lessS args = some (o, v)) : PureCall Tryd.prog 27 args v := by
  unfold lessS at h
  split at h
  · rename_i a b
    cases h
    exact pure_of_res mixed noCount h1_ok (by kernel_rfl) (less_eval a b) Paid.nil (by rw [show ((if val a < val b then (1 : Int) else 0) == 1) = decide (val a < val b) by split <;> simp [*]]) (by kernel_rfl)
  · cases h

def h2 : CallH := withC 27 lessS h1
theorem h2_ok : HOk Tryd.prog h2 := h1_ok.withC fun _ _ _ h _ => less_ok h
end Go.Proofs.YthelmpjkkkhopaaDoor
