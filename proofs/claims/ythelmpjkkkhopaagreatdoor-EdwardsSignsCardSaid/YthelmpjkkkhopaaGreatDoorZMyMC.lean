/- Loops whose heads are one family of states: a round's evaluation, a step of the state, an end. Own work. -/
import Derived.Test.YthelmpjkkkhopaaGreatDoorZEvWr
import Derived.Test.YthelmpjkkkhopaaGreatDoorZEvLoop
import Derived.Test.YthelmpjkkkhopaaGreatDoorZEvLaw
import Derived.Test.YthelmpjkkkhopaaGreatDoorRows
import Derived.Test.YthelmpjkkkhopaaGreatDoorZWordsN
import Derived.Test.YthelmpjkkkhopaaGreatDoorZModM
import Derived.Test.YthelmpjkkkhopaaGreatDoorZEvView
set_option linter.unusedSimpArgs false
set_option linter.unusedVariables false
set_option linter.unusedSectionVars false
namespace Go.Ev
variable [Tab]
def e4k : Ex → Nat
 | .normal=>0
 | .ret=>1
 | .exit id=>id + 2
def d8p (ts : List Nat) (T : Tree (Ex × St)) : Option (List Bool × Nat × List AV × Nat × Mem):=
 match T.flat with
 | some (o,(e,st))=>some (o,e4k e,ts.map (fun t=>st.tm.getD t .top),st.tm.length,st.mem)
 | none=>none
theorem a3u {ts : List Nat} {T : Tree (Ex × St)} {ds : List Bool} {o : List Bool} {k n : Nat} {avs : List AV} {m : Mem} {K : Ex × St → Prop} (h : d8p ts (T.go ds) = some (o,k,avs,n,m)) (ho : d7x o)
  (hk : ∀ e st,e4k e = k → ts.map (fun t=>st.tm.getD t .top) = avs → st.tm.length = n → st.mem = m → K (e,st)) : T.Sat K:=by
 unfold d8p at h
 split at h
 ·rename_i o' e st hf
  simp only [Option.some.injEq,Prod.mk.injEq] at h
  obtain ⟨h1,h2,h3,h4,h5⟩:=h
  rw [← h1] at ho
  exact a13 (a2f (fun p hp=>by rw [hp];exact hk e st h2 h3 h4 h5) (a0x hf ho))
 ·cases h
inductive Le1 : AV → AV → Prop
 | refl (a : AV) : Le1 a a
 | int (s : Bool) (k : IntKind) (n : Int) : Le1 (.int s k n) (.int true k n)
 | top (a : AV) : Le1 a .top
inductive LeL : List AV → List AV → Prop
 | nil : LeL [] []
 | cons {a b : AV} {l q : List AV} (h : Le1 a b) (hs : LeL l q) : LeL (a :: l) (b :: q)
theorem Le1.rep {a b : AV} (h : Le1 a b) {ρ : Nat → d8c} {N : Nat → Prop} {v : Value} (hr : Rep ρ N a v) : Rep ρ N b v:=by
 cases h with
 | refl=>exact hr
 | int s k n=>cases hr with | int _ _ _ h=>exact .int _ _ _ h
 | top=>exact .top _
theorem LeL.refl : ∀ (l : List AV),LeL l l
 | [] => .nil
 | a :: l => .cons (.refl a) (LeL.refl l)
def d8o : List Nat → List AV → List (Nat × AV)
 | t :: ts,a :: ars=>(t,a) :: d8o ts ars
 | _,_=>[]
theorem b1h {f : Nat → AV} : ∀ {ts : List Nat} {avs : List AV},ts.map f = avs → ∀ p ∈ d8o ts avs,f p.1 = p.2
 | [],avs,h,p,hp=>by simp [d8o] at hp
 | t :: ts,avs,h,p,hp=>by
  subst h
  simp only [List.map_cons,d8o,List.mem_cons] at hp
  rcases hp with rfl | hp
  ·rfl
  ·exact b1h rfl p hp
theorem b68 {f : Nat → AV} : ∀ {ts : List Nat} {avs : List AV},LeL (ts.map f) avs → ∀ p ∈ d8o ts avs,Le1 (f p.1) p.2
 | [],avs,h,p,hp=>by simp [d8o] at hp
 | t :: ts,avs,h,p,hp=>by
  simp only [List.map_cons] at h
  cases h with
  | cons h hs =>
   simp only [d8o,List.mem_cons] at hp
   rcases hp with rfl | hp
   ·exact h
   ·exact b68 hs p hp
def e0p {σ : Type} (id nt : Nat) (ts : List Nat) (pat : List AV → Mem → Option σ) (owe : σ → List Bool) (fin : σ → List (Nat × AV) × Mem) (Λ : d8r) : d8r:=fun i st =>
 match Nat.beq i id && Nat.beq st.tm.length nt with
 | true=>match pat (ts.map fun t=>st.tm.getD t .top) st.mem with
  | some s=>some (owe s,⟨d8m (ups (fun _ => .top) (fin s).1) nt,(fin s).2⟩)
  | none=>Λ i st
 | false=>Λ i st
theorem Inv.short {w0 : World} {S : Nat → Prop} {ρ : Nat → d8c} {M ex : Mem} {w : World} (h : Inv w0 S (upto (M ++ ex).length) ρ (getName (M ++ ex)) w) (hb : e1a M.length M = true) : Inv w0 S (upto M.length) ρ (getName M) w:=by
 have sub : ∀ n b,getName M n = some b → getName (M ++ ex) n = some b:=fun n b hn=>by
  rw [a07,if_pos (a0f hn)];exact hn
 refine ⟨⟨fun n b hn => ?_,fun i j bi bj hi hj hij hr=>h.sim.inj i j bi bj (sub i bi hi) (sub j bj hj) hij hr,fun n b hn=>a0f hn,h.sim.tab,fun G c hG n b hn hr=>h.sim.apart G c hG n b (sub n b hn) hr⟩,
  h.size,h.frame,h.os,h.tape,h.output,fun n b hn hr=>h.rws n b (sub n b hn) hr⟩
 obtain ⟨cs,t,lo',hi',b1,b2,b3,b4,b5⟩:=(h.sim.blk n b (sub n b hn)).ex
 exact ⟨cs,t,lo',hi',b1,b2,b3,b4,b5.bnd fun l hl=>a6h hb hn l hl⟩
def e3p (k : Nat) (a : AV) : AV:=match d9b k a with | true=>a | false => .top
theorem c2p {k : Nat} {a : AV} {ρ : Nat → d8c} {N : Nat → Prop} {v : Value} (h : Rep ρ N a v) : Rep ρ (upto k) (e3p k a) v:=by
 unfold e3p
 split
 ·rename_i hb;exact h.bnd hb
 ·exact .top _
theorem a6r {k : Nat} : ∀ {l : List AV},d9q k l = true → ∀ a ∈ l,d9b k a = true
 | [],_,a,h=>by cases h
 | x :: l,hb,a,h=>by
  simp only [d9q,Bool.and_eq_true] at hb
  rcases List.mem_cons.1 h with rfl | h
  ·exact hb.1
  ·exact a6r hb.2 a h
theorem b1i : ∀ {ts : List Nat} {avs : List AV} {p : Nat × AV},p ∈ d8o ts avs → p.2 ∈ avs
 | [],avs,p,h=>by simp [d8o] at h
 | t :: ts,[],p,h=>by simp [d8o] at h
 | t :: ts,a :: ars,p,h=>by
  simp only [d8o,List.mem_cons] at h
  rcases h with rfl | h
  ·exact f9b ..
  ·exact f9a _ (b1i h)
theorem b1j {f : Nat → AV} {k t : Nat} {ρ : Nat → d8c} {N : Nat → Prop} {v : Value} : ∀ {l : List (Nat × AV)},(∀ p ∈ l,Le1 (f p.1) p.2) → (∀ p ∈ l,d9b k p.2 = true) → Rep ρ N (f t) v → Rep ρ (upto k) (ups (fun t=>e3p k (f t)) l t) v
 | [],_,_,h=>c2p h
 | (i,a) :: r,h1,h2,h=>by
  unfold ups
  cases hb : Nat.beq t i with
  | true =>
   have:=Nat.eq_of_beq_eq_true hb
   subst this
   exact ((h1 _ (f9b ..)).rep h).bnd (h2 _ (f9b ..))
  | false=>exact b1j (fun p hp=>h1 p (f9a _ hp)) (fun p hp=>h2 p (f9a _ hp)) h
section
variable {P : Program} {q : FuncId → Bool} {H : d82} {Λ0 Λ : d8r}
def Round (P : Program) (q : FuncId → Bool) (H : d82) (Λ0 : d8r) (B : Code) (id nt n : Nat) (ts : List Nat) {σ : Type} (vals : σ → List AV) (M : σ → Mem) (J : σ → Prop) (μ : σ → Nat) (fin : List (Nat × AV) × Mem) (s1 : σ) (x : Nat → AV) : Prop:=
 (∃ ds o avs s2 ex,d8p ts ((d8d P q H Λ0 n (lp (blk id B)) ⟨d8m (ups x (d8o ts (vals s1))) nt,M s1⟩).go ds) = some (o,0,avs,nt,M s2 ++ ex) ∧ d7x o ∧ LeL avs (vals s2) ∧ J s2 ∧ (M s2).length = (M s1).length ∧ μ s2 < μ s1) ∨
 (∃ ds o avs,d8p ts ((d8d P q H Λ0 n (lp (blk id B)) ⟨d8m (ups x (d8o ts (vals s1))) nt,M s1⟩).go ds) = some (o,id + 2,avs,nt,fin.2) ∧ d7x o ∧ ∀ p ∈ fin.1, ∃ a,(p.1,a) ∈ d8o ts avs ∧ Le1 a p.2)
theorem Round.on {B : Code} {id nt n : Nat} {ts : List Nat} {σ : Type} {vals : σ → List AV} {M : σ → Mem} {J : σ → Prop} {μ : σ → Nat} {fin : List (Nat × AV) × Mem} {s1 : σ} {x : Nat → AV} {ds o : List Bool} {avs : List AV} {m : Mem}
  (h : d8p ts ((d8d P q H Λ0 n (lp (blk id B)) ⟨d8m (ups x (d8o ts (vals s1))) nt,M s1⟩).go ds) = some (o,0,avs,nt,m)) (s2 : σ) (ex : Mem) (hm : m = M s2 ++ ex) (ho : d7x o) (hv : LeL avs (vals s2)) (hJ : J s2) (hl : (M s2).length = (M s1).length) (hμ : μ s2 < μ s1) :
  Round P q H Λ0 B id nt n ts vals M J μ fin s1 x:=Or.inl ⟨ds,o,avs,s2,ex,by rw [h,hm],ho,hv,hJ,hl,hμ⟩
theorem Round.out {B : Code} {id nt n : Nat} {ts : List Nat} {σ : Type} {vals : σ → List AV} {M : σ → Mem} {J : σ → Prop} {μ : σ → Nat} {fin : List (Nat × AV) × Mem} {s1 : σ} {x : Nat → AV} {ds o : List Bool} {avs : List AV} {m : Mem} {k : Nat}
  (h : d8p ts ((d8d P q H Λ0 n (lp (blk id B)) ⟨d8m (ups x (d8o ts (vals s1))) nt,M s1⟩).go ds) = some (o,k,avs,nt,m)) (hk : k = id + 2) (hm : m = fin.2) (ho : d7x o) (hf : ∀ p ∈ fin.1, ∃ a,(p.1,a) ∈ d8o ts avs ∧ Le1 a p.2) :
  Round P q H Λ0 B id nt n ts vals M J μ fin s1 x:=Or.inr ⟨ds,o,avs,by rw [h,hm,hk],ho,hf⟩
theorem a29 {σ : Type} {id nt n : Nat} {ts : List Nat} {B : Code} (vals : σ → List AV) (M : σ → Mem) (J : σ → σ → Prop) (μ : σ → Nat) {pat : List AV → Mem → Option σ} {owe : σ → List Bool} {fin : σ → List (Nat × AV) × Mem}
  (hm : P.follows .mixedOrders = true) (hH : HOk P H) (hΛ : LOk P B Λ) (hΛ0 : LOk P B Λ0) (h1 : f0h (blks id B) = true) (h2 : e2x (blk id B) = true) (hbm : ∀ s,e1a (M s).length (M s) = true) (hbv : ∀ s,d9q (M s).length (vals s) = true)
  (hpat : ∀ avs m s,pat avs m = some s → d7x (owe s) → ∃ s1,LeL avs (vals s1) ∧ m = M s1 ∧ J s s1)
  (round : ∀ s s1,J s s1 → ∀ x : Nat → AV,Round P q H Λ0 B id nt n ts vals M (J s) μ (fin s) s1 x) :
  LOk P B (e0p id nt ts pat owe fin Λ):=by
 refine ⟨fun {id' c st st' o} hc hl ho => ?_⟩
 unfold e0p at hl
 split at hl
 ·rename_i hb
  simp only [Bool.and_eq_true] at hb
  have hid:=Nat.eq_of_beq_eq_true hb.1
  have hlen:=Nat.eq_of_beq_eq_true hb.2
  subst hid
  split at hl
  ·rename_i s hs
   simp only [Option.some.injEq,Prod.mk.injEq] at hl
   obtain ⟨rfl,rfl⟩:=hl
   obtain ⟨s1,p1,p2,p4⟩:=hpat _ _ _ hs ho
   have e:=b7g hc h1
   rw [c4k h2] at e
   have hc' : ∀ x ∈ subs (lp (blk id' B)),x ∈ subs B:=fun x hx=>by
    refine a53 hc x ?_
    rw [e]
    simp only [subs,List.mem_cons]
    exact Or.inr (Or.inr hx)
   rw [e]
   refine Ok.leave ?_
   have key : ∀ (k : Nat) (s1 : σ) (st1 : St) (ex : Mem),μ s1 < k → J s s1 → st1.tm.length = nt → st1.mem = M s1 ++ ex → LeL (ts.map fun t=>st1.tm.getD t .top) (vals s1) →
     ∀ (w0 : World) (S : Nat → Prop) (ρ0 : Nat → d8c) (n0 : Nat) (ds : List Deferred) (a : Act) (w : World),n0 ≤ (M s1).length → e0i w0 S ρ0 n0 ds st1 a w →
     Code.rounds P (lp (blk id' B)) (Post w0 S ρ0 n0 ds (fun p => ∃ st2,p = (.exit id',st2) ∧ Wk st2 ⟨d8m (ups (fun _ => .top) (fin s).1) nt,(fin s).2⟩)) k a w:=by
    intro k
    induction k with
    | zero=>intro s1 st1 ex h;omega
    | succ k ih =>
     intro s1 st1 ex hk hJ i3 i4 i5 w0 S ρ0 n0 ds a w hn0 hs1
     rw [rounds_succ]
     have hw : e0i w0 S ρ0 n0 ds ⟨d8m (ups (fun t=>e3p (M s1).length (st1.tm.getD t .top)) (d8o ts (vals s1))) nt,M s1⟩ a w:=by
      obtain ⟨⟨ρ,r1,r2,r3⟩,r4,r5⟩:=hs1
      rw [i4] at r2
      refine ⟨⟨ρ,⟨fun t => ?_, ?_⟩,r2.short (hbm s1),r3⟩,hn0,r5⟩
      ·by_cases ht : t < nt
       ·rw [a04 ht]
        have hx:=r1.rep t
        exact b1j (b68 i5) (fun p hp=>a6r (hbv s1) _ (b1i hp)) hx
       ·rw [a43 ht];exact .top _
      ·rw [a1a, ← i3];exact r1.le
     have hsat : (d8d P q H Λ0 n (lp (blk id' B)) ⟨d8m (ups (fun t=>e3p (M s1).length (st1.tm.getD t .top)) (d8o ts (vals s1))) nt,M s1⟩).Sat (fun p=>match p.1 with | .normal => ∃ s2 ex,μ s2 < μ s1 ∧ J s s2 ∧ p.2.tm.length = nt ∧ p.2.mem = M s2 ++ ex ∧ LeL (ts.map fun t=>p.2.tm.getD t .top) (vals s2) ∧ n0 ≤ (M s2).length | _ => ∃ st2,p = (.exit id',st2) ∧ Wk st2 ⟨d8m (ups (fun _ => .top) (fin s).1) nt,(fin s).2⟩):=by
      rcases round s s1 hJ (fun t=>e3p (M s1).length (st1.tm.getD t .top)) with ⟨ds',o',avs,s2,ex2,r1,r2,r3,r4,r5,r6⟩ | ⟨ds',o',avs,r1,r2,r3⟩
      ·refine a3u r1 r2 fun ex st2 hx ha hn hmm => ?_
       cases ex with
       | normal=>exact ⟨s2,ex2,r6,r4,hn,hmm,by rw [ha];exact r3,by rw [r5];exact hn0⟩
       | exit i=>simp [e4k] at hx
       | ret=>simp [e4k] at hx
      ·refine a3u r1 r2 fun ex st2 hx ha hn hmm => ?_
       cases ex with
       | normal=>simp [e4k] at hx
       | ret=>simp [e4k] at hx
       | exit i =>
        simp [e4k] at hx
        subst hx
        refine ⟨st2,rfl,hmm.symm,by rw [hn,a1a],fun t ρ N v hr => ?_⟩
        by_cases ht : t < nt
        ·rw [a04 ht]
         have : ∀ {l : List (Nat × AV)},(∀ p ∈ l, ∃ a,(p.1,a) ∈ d8o ts avs ∧ Le1 a p.2) → Rep ρ N (ups (fun _ => .top) l t) v:=by
          intro l
          induction l with
          | nil=>intro _;exact .top _
          | cons p l ih =>
           intro hl
           obtain ⟨i,a⟩:=p
           unfold ups
           cases hb : Nat.beq t i with
           | true =>
            have:=Nat.eq_of_beq_eq_true hb
            subst this
            obtain ⟨a',q1,q2⟩:=hl _ (f9b ..)
            have:=b1h ha _ q1
            simp only at this
            rw [this] at hr
            exact q2.rep hr
           | false=>exact ih fun p hp=>hl p (f9a _ hp)
         exact this r3
        ·rw [a43 ht];exact .top _
     refine wp_mono ((a42 hm hH hΛ0 n).1 hc' hsat w0 S ρ0 n0 ds a w hw) fun e a' w' he => ?_
     cases e with
     | normal=>obtain ⟨st',⟨s2,ex2,k1,k2,k3,k4,k5,k6⟩,k7⟩:=he;exact ih s2 st' ex2 (by omega) k2 k3 k4 k5 w0 S ρ0 n0 ds a' w' k6 k7
     | exit i=>obtain ⟨st',k1,k2⟩:=he;exact ⟨st',k1,k2⟩
     | ret=>obtain ⟨st',k1,k2⟩:=he;exact ⟨st',k1,k2⟩
     | goto l=>exact he
     | panic ch=>exact he
     | outgrown=>exact he
   exact fun w0 S ρ0 n0 ds a w hs=>wp_loop_rounds (μ s1 + 1) (key (μ s1 + 1) s1 st [] (by omega) p4 hlen (by rw [List.append_nil];exact p2) p1 w0 S ρ0 n0 ds a w (by rw [← p2];exact hs.le) hs)
  ·exact hΛ.ok hc hl ho
 ·exact hΛ.ok hc hl ho
end
end Go.Ev
namespace Go.Ev
def d9k : List Int:=[4794697086780616226,8158064640168781261,13096744586834688815,16840607885511220156,4131703408338449720,6480981068601479193,10538285296894168987,12329834152419229976,15566598209576043074,1334009975649890238,2608012711638119052,6128411473006802146,8268148722764581231,9286055187155687089,11230858885718282805,13951009754708518548,16472876342353939154,17275323862435702243,1135362057144423861,2597628984639134821,3308224258029322869,5365058923640841347,6679025012923562964,8573033837759648693,10970295158949994411,12119686244451234320,12683024718118986047,13788192230050041572,14330467153632333762,15395433587784984357,489312712824947311,1452737877330783856,2861767655752347644,3322285676063803686,5560940570517711597,5996557281743188959,7280758554555802590,8532644243296465576,9350256976987008742,10552545826968843579,11727347734174303076,12113106623233404929,14000437183269869457,14369950271660146224,15101387698204529176,15463397548674623760,17586052441742319658,1182934255886127544,1847814050463011016,2177327727835720531,2830643537854262169,3796741975233480872,4115178125766777443,5681478168544905931,6601373596472566643,7507060721942968483,8399075790359081724,8693463985226723168,9568029438360202098,10144078919501101548,10430055236837252648,11840083180663258601,13761210420658862357,14299343276471374635,14566680578165727644,15097957966210449927,16922976911328602910,17689382322260857208,500013540394364858,748580250866718886,1242879168328830382,1977374033974150939,2944078676154940804,3659926193048069267,4368137639120453308,4836135668995329356,5532061633213252278,6448918945643986474,6902733635092675308,7801388544844847127]
def e2g : List Int:=[7640891576956012808,13503953896175478587,4354685564936845355,11912009170470909681,5840696475078001361,11170449401992604703,2270897969802886507,6620516959819538809,14680500436340154072,7105036623409894663,10473403895298186519,1526699215303891257,7436329637833083697,10282925794625328401,15784041429090275239,5167115440072839076]
def e0f : List Int:=[18446744073709551597,18446744073709551615,18446744073709551615,9223372036854775807]
def e00 : List Int:=[6346243789798364141,1503914060200516822,0,1152921504606846976]
def dL : List Int:=[8496970652267935907,31536524315187371,10144147576115030168,5909686906226998899]
def e74 : List Int:=[16993941304535871833,63073048630374742,1841551078520508720,2596001775599221991]
def e0q : List Int:=[18446744073709551614,18446744073709551615,18446744073709551615,1152921504606846975]
def e75 : List Int:=[14190309331451158704,3405592160176694392,3120150775007532967,3135389899092516619]
def e2h : List Int:=[14507833142362363162,7578651490590762930,13881468655802702940,2407515759118799870,7378697629483820632,7378697629483820646,7378697629483820646,7378697629483820646,1,0,0,0,7916917699147980195,2373572377730700021,7415826109900252029,7460035829407905381]
instance tabS : Tab:=⟨fun g=>match Nat.beq g 10 with
 | true=>some (.ints .u64 (some 80) d9k)
 | false=>match Nat.beq g 7 with
  | true=>some (.ints .u64 (some 16) e2g)
  | false=>match Nat.beq g 2 with
   | true=>some (.ints .u64 (some 4) e0f)
   | false=>match Nat.beq g 1 with
    | true=>some (.ints .u64 (some 4) e00)
    | false=>match Nat.beq g 4 with
     | true=>some (.ints .u64 (some 4) dL)
     | false=>match Nat.beq g 3 with
      | true=>some (.ints .u64 (some 4) e74)
      | false=>match Nat.beq g 5 with
       | true=>some (.ints .u64 (some 4) e0q)
       | false=>match Nat.beq g 6 with
        | true=>some (.ints .u64 (some 4) e75)
        | false=>match Nat.beq g 0 with
         | true=>some (.ints .u64 (some 16) e2h)
         | false=>none⟩
end Go.Ev
namespace Go.Proofs.YthelmpjkkkhopaaGreatDoor
open Go.Ev
set_option maxRecDepth 100000
def f7h : List AV → E AV
 | [.int _ .u64 x, .int _ .u64 y, .int _ .u64 c]=>some ([decide (c ≤ 1)], .tuple [.int true .u64 ((x + y + c) % 18446744073709551616), .int true .u64 ((x + y + c) / 18446744073709551616)])
 | _=>none
def f7i : List AV → E AV
 | [.int _ .u64 x, .int _ .u64 y, .int _ .u64 c]=>some ([decide (c ≤ 1)], .tuple [.int true .u64 ((x - y - c) % 18446744073709551616), .int true .u64 (if x < y + c then 1 else 0)])
 | _=>none
def e3q : Array Value → Sem Value:=fun args=>do
  let (x, y, b) ← Extern.MathBitsCarry.three "Sub64" args
  pure (Extern.MathBitsCarry.pair ((x + Extern.MathBitsCarry.m64 - y - b) % Extern.MathBitsCarry.m64) (if x < y + b then 1 else 0))
theorem d28 {P : Program} (x y c : Int) (hx : 0 ≤ x ∧ x ≤ 18446744073709551615) (hy : 0 ≤ y ∧ y ≤ 18446744073709551615) (hc0 : 0 ≤ c) (hc : c ≤ 1) (w : World) :
  (e3q #[.int .u64 x, .int .u64 y, .int .u64 c]).run P w =
   .ok (.tuple #[.int .u64 ((x - y - c) % 18446744073709551616), .int .u64 (if x < y + c then 1 else 0)]) w:=by
 have key : ∀ k : Nat,k ≤ 1 → (e3q #[.int .u64 x, .int .u64 y, .int .u64 (k : Int)]).run P w =
   .ok (Extern.MathBitsCarry.pair ((x.toNat + Extern.MathBitsCarry.m64 - y.toNat - k) % Extern.MathBitsCarry.m64) (if x.toNat < y.toNat + k then 1 else 0)) w:=by
  intro k hk
  have : k = 0 ∨ k = 1:=by omega
  rcases this with rfl | rfl <;> rfl
 obtain ⟨k,rfl⟩:=Int.eq_ofNat_of_zero_le hc0
 rw [key k (by omega)]
 obtain ⟨X,rfl⟩:=Int.eq_ofNat_of_zero_le hx.1
 obtain ⟨Y,rfl⟩:=Int.eq_ofNat_of_zero_le hy.1
 simp only [Extern.MathBitsCarry.pair,Extern.MathBitsCarry.m64,Int.toNat_natCast]
 have e1 : Int.ofNat ((X + 2 ^ 64 - Y - k) % 2 ^ 64) = ((X : Int) - Y - k) % 18446744073709551616:=by
  show (((X + 2 ^ 64 - Y - k) % 2 ^ 64 : Nat) : Int) = _
  omega
 have e2 : Int.ofNat (if X < Y + k then 1 else 0) = (if (X : Int) < Y + k then 1 else 0):=by
  by_cases h : X < Y + k
  ·rw [if_pos h,if_pos (by omega)];rfl
  ·rw [if_neg h,if_neg (by omega)];rfl
 rw [e1,e2]
theorem c5g {args : List AV} {o : List Bool} {v : AV} (h : f7h args = some (o,v)) (ho : d7x o) : d86 Tryz.prog 64 args v:=by
 unfold f7h at h
 split at h
 ·rename_i s1 x s2 y s3 c
  cases h
  have hc:=ho _ (f9b ..)
  simp only [decide_eq_true_eq] at hc
  intro ρ N vs ha w hT
  cases ha with
  | cons _ _ v1 _ r1 ha=>cases ha with
   | cons _ _ v2 _ r2 ha=>cases ha with
    | cons _ _ v3 _ r3 ha=>cases ha with
     | nil=>cases r1 with
      | int _ _ _ h1=>cases r2 with
       | int _ _ _ h2=>cases r3 with
        | int _ _ _ h3 =>
         rw [a15] at h1 h2 h3
         simp only [lo,hi] at h1 h2 h3
         refine a5e (fn:=Tryz.f64) (e:=add64Entry) (by kernel_rfl) (by kernel_rfl) (by kernel_rfl) (by kernel_rfl) (by kernel_rfl) (run_add64 x y c h1.1 h2.1 h3.1 hc w) ⟨fun ρ N => ?_,Inv.same w hT⟩
         exact .tuple _ [_,_] (.cons _ _ _ _ (.int _ _ _ (by rw [a15];simp only [lo,hi];omega)) (.cons _ _ _ _ (.int _ _ _ (by rw [a15];simp only [lo,hi];omega)) .nil))
 ·cases h
theorem c5h {args : List AV} {o : List Bool} {v : AV} (h : f7i args = some (o,v)) (ho : d7x o) : d86 Tryz.prog 100 args v:=by
 unfold f7i at h
 split at h
 ·rename_i s1 x s2 y s3 c
  cases h
  have hc:=ho _ (f9b ..)
  simp only [decide_eq_true_eq] at hc
  intro ρ N vs ha w hT
  cases ha with
  | cons _ _ v1 _ r1 ha=>cases ha with
   | cons _ _ v2 _ r2 ha=>cases ha with
    | cons _ _ v3 _ r3 ha=>cases ha with
     | nil=>cases r1 with
      | int _ _ _ h1=>cases r2 with
       | int _ _ _ h2=>cases r3 with
        | int _ _ _ h3 =>
         rw [a15] at h1 h2 h3
         simp only [lo,hi] at h1 h2 h3
         refine a5e (fn:=Tryz.f100) (e:=e3q) (by kernel_rfl) (by kernel_rfl) (by kernel_rfl) (by kernel_rfl) (by kernel_rfl) (d28 x y c h1 h2 h3.1 hc w) ⟨fun ρ N => ?_,Inv.same w hT⟩
         exact .tuple _ [_,_] (.cons _ _ _ _ (.int _ _ _ (by rw [a15];simp only [lo,hi];omega)) (.cons _ _ _ _ (.int _ _ _ (by rw [a15];simp only [lo,hi];split <;> omega)) .nil))
 ·cases h
theorem mixed : Tryz.prog.follows .mixedOrders = true:=by kernel_rfl
theorem d7w : Go.Ev.d7w Tryz.prog = true:=by kernel_rfl
def h0 : d82:=d8g 100 f7i (d8g 64 f7h (fun _ _ _=>none))
theorem a36 : HOk Tryz.prog h0:=(HOk.none.d8g fun _ _ _ h ho=>c5g h ho).d8g fun _ _ _ h ho=>c5h h ho
end Go.Proofs.YthelmpjkkkhopaaGreatDoor
namespace Go.Proofs.YthelmpjkkkhopaaGreatDoor
open Go.Ev Go.Wn
set_option maxRecDepth 100000
theorem a1d {x : Int} (h : inR .u64 x = true) : W x:=by rw [a15] at h;simp only [lo,hi] at h;unfold W;omega
theorem four {l : List Int} (h : l.length = 4) : ∃ a b c d,l = [a,b,c,d]:=by
 match l,h with
 | [a,b,c,d],_=>exact ⟨a,b,c,d,rfl⟩
theorem a0g {ρ : Nat → d8c} {N : Nat → Prop} {l : List Int} {v : Value} (h : Rep ρ N (.ints .u64 4 l) v) : ∃ a b c d,l = [a,b,c,d] ∧ W a ∧ W b ∧ W c ∧ W d:=by
 cases h with
 | ints _ _ _ hn hl =>
  obtain ⟨a,b,c,d,rfl⟩:=four hn
  exact ⟨a,b,c,d,rfl,a1d (hl a (by simp)),a1d (hl b (by simp)),a1d (hl c (by simp)),a1d (hl d (by simp))⟩
def d93 : FuncId → Bool:=fun f=>!Nat.beq f 1000000000
def f0m : List AV → E AV
 | [.ints .u64 4 a, .ints .u64 4 b]=>some ([], .tuple [.ints .u64 4 (limbs (val a + val b)), .int true .u64 ((val a + val b) / 115792089237316195423570985008687907853269984665640564039457584007913129639936)])
 | _=>none
theorem c5i (a0 a1 a2 a3 b0 b1 b2 b3 : Int) : res (d81 Tryz.prog d93 h0 100 89 [.ints .u64 4 [a0,a1,a2,a3], .ints .u64 4 [b0,b1,b2,b3]] []) =
  some ([decide ((0 : Int) ≤ 1),decide (cy a0 b0 0 ≤ 1),decide (cy a1 b1 (cy a0 b0 0) ≤ 1),decide (cy a2 b2 (cy a1 b1 (cy a0 b0 0)) ≤ 1)],
   .tuple [.ints .u64 4 [sm a0 b0 0,sm a1 b1 (cy a0 b0 0),sm a2 b2 (cy a1 b1 (cy a0 b0 0)),sm a3 b3 (cy a2 b2 (cy a1 b1 (cy a0 b0 0)))], .int true .u64 (cy a3 b3 (cy a2 b2 (cy a1 b1 (cy a0 b0 0))))]):=by kernel_rfl
theorem d64 {args : List AV} {o : List Bool} {v : AV} (h : f0m args = some (o,v)) : d86 Tryz.prog 89 args v:=by
 unfold f0m at h
 split at h
 ·rename_i a b
  cases h
  intro ρ N vs ha
  have hb:=ha
  cases hb with
  | cons _ _ _ _ r1 hb=>cases hb with
   | cons _ _ _ _ r2 hb =>
    obtain ⟨a0,a1,a2,a3,rfl,wa0,wa1,wa2,wa3⟩:=a0g r1
    obtain ⟨b0,b1,b2,b3,rfl,wb0,wb1,wb2,wb3⟩:=a0g r2
    obtain ⟨k1,k2,k3,k4,k5⟩:=a6y wa0 wa1 wa2 wa3 wb0 wb1 wb2 wb3
    exact a0b mixed d7w a36 (by kernel_rfl) (c5i a0 a1 a2 a3 b0 b1 b2 b3)
     (a00 (by kernel_rfl) (a00 (decide_eq_true k3) (a00 (decide_eq_true k4) (a00 (decide_eq_true k5) d7x.nil)))) (by rw [k1,k2]) (by kernel_rfl) ha
 ·cases h
def f0n : List AV → E AV
 | [.ints .u64 4 a, .ints .u64 4 b]=>some ([], .tuple [.ints .u64 4 (limbs (val a - val b)), .int true .u64 (if val a < val b then 1 else 0)])
 | _=>none
theorem c5j (a0 a1 a2 a3 b0 b1 b2 b3 : Int) : res (d81 Tryz.prog d93 h0 100 71 [.ints .u64 4 [a0,a1,a2,a3], .ints .u64 4 [b0,b1,b2,b3]] []) =
  some ([decide ((0 : Int) ≤ 1),decide (bw a0 b0 0 ≤ 1),decide (bw a1 b1 (bw a0 b0 0) ≤ 1),decide (bw a2 b2 (bw a1 b1 (bw a0 b0 0)) ≤ 1)],
   .tuple [.ints .u64 4 [df a0 b0 0,df a1 b1 (bw a0 b0 0),df a2 b2 (bw a1 b1 (bw a0 b0 0)),df a3 b3 (bw a2 b2 (bw a1 b1 (bw a0 b0 0)))], .int true .u64 (bw a3 b3 (bw a2 b2 (bw a1 b1 (bw a0 b0 0))))]):=by kernel_rfl
theorem d65 {args : List AV} {o : List Bool} {v : AV} (h : f0n args = some (o,v)) : d86 Tryz.prog 71 args v:=by
 unfold f0n at h
 split at h
 ·rename_i a b
  cases h
  intro ρ N vs ha
  have hb:=ha
  cases hb with
  | cons _ _ _ _ r1 hb=>cases hb with
   | cons _ _ _ _ r2 hb =>
    obtain ⟨a0,a1,a2,a3,rfl,wa0,wa1,wa2,wa3⟩:=a0g r1
    obtain ⟨b0,b1,b2,b3,rfl,wb0,wb1,wb2,wb3⟩:=a0g r2
    obtain ⟨k1,k2,k3,k4,k5⟩:=a94 wa0 wa1 wa2 wa3 wb0 wb1 wb2 wb3
    exact a0b mixed d7w a36 (by kernel_rfl) (c5j a0 a1 a2 a3 b0 b1 b2 b3)
     (a00 (by kernel_rfl) (a00 (decide_eq_true k3) (a00 (decide_eq_true k4) (a00 (decide_eq_true k5) d7x.nil)))) (by rw [k1,k2]) (by kernel_rfl) ha
 ·cases h
def h1 : d82:=d8g 71 f0n (d8g 89 f0m h0)
theorem d66 : HOk Tryz.prog h1:=(a36.d8g fun _ _ _ h _=>d64 h).d8g fun _ _ _ h _=>d65 h
def e66 : List AV → E AV
 | [.ints .u64 4 a, .ints .u64 4 b]=>some ([], .bool true (decide (val a < val b)))
 | _=>none
theorem c2q (a b : List Int) : res (d81 Tryz.prog d93 h1 100 35 [.ints .u64 4 a, .ints .u64 4 b] []) =
  some ([], .bool true ((if val a < val b then (1 : Int) else 0) == 1)):=by kernel_rfl
theorem d29 {args : List AV} {o : List Bool} {v : AV} (h : e66 args = some (o,v)) : d86 Tryz.prog 35 args v:=by
 unfold e66 at h
 split at h
 ·rename_i a b
  cases h
  exact a0b mixed d7w d66 (by kernel_rfl) (c2q a b) d7x.nil (by rw [show ((if val a < val b then (1 : Int) else 0) == 1) = decide (val a < val b) by split <;> simp [*]]) (by kernel_rfl)
 ·cases h
def h2 : d82:=d8g 35 e66 h1
theorem f7j : HOk Tryz.prog h2:=d66.d8g fun _ _ _ h _=>d29 h
end Go.Proofs.YthelmpjkkkhopaaGreatDoor
namespace Go.Proofs.YthelmpjkkkhopaaGreatDoor
open Go.Ev Go.Wn
set_option maxRecDepth 100000
def f7k : List AV → E AV
 | [.ints .u64 4 a]=>some ([], .ints .i64 16 (e0e a))
 | _=>none
theorem c5k (a b c d : Int) : res (d81 Tryz.prog d93 h0 100 67 [.ints .u64 4 [a,b,c,d]] []) =
  some ([], .ints .i64 16 [dg a 0,dg a 16,dg a 32,dg a 48,dg b 0,dg b 16,dg b 32,dg b 48,dg c 0,dg c 16,dg c 32,dg c 48,dg d 0,dg d 16,dg d 32,dg d 48]):=by kernel_rfl
theorem d67 {args : List AV} {o : List Bool} {v : AV} (h : f7k args = some (o,v)) : d86 Tryz.prog 67 args v:=by
 unfold f7k at h
 split at h
 ·rename_i a
  cases h
  intro ρ N vs ha
  have hb:=ha
  cases hb with
  | cons _ _ _ _ r1 hb =>
   obtain ⟨a0,a1,a2,a3,rfl,w0,w1,w2,w3⟩:=a0g r1
   have d0:=b0x w0;have d1:=b0x w1;have d2:=b0x w2;have d3:=b0x w3
   exact a0b mixed d7w a36 (by kernel_rfl) (c5k a0 a1 a2 a3) d7x.nil
    (by rw [d0.1,d0.2.1,d0.2.2.1,d0.2.2.2,d1.1,d1.2.1,d1.2.2.1,d1.2.2.2,d2.1,d2.2.1,d2.2.2.1,d2.2.2.2,d3.1,d3.2.1,d3.2.2.1,d3.2.2.2];rfl) (by kernel_rfl) ha
 ·cases h
def f7l : List AV → E AV
 | [.ints .i64 16 l]=>some ([f1i l], .ints .u64 4 (f1j l))
 | _=>none
theorem c5l (x0 x1 x2 x3 x4 x5 x6 x7 x8 x9 xa xb xc xd xe xf : Int) : res (d81 Tryz.prog d93 h0 100 94 [.ints .i64 16 [x0,x1,x2,x3,x4,x5,x6,x7,x8,x9,xa,xb,xc,xd,xe,xf]] []) =
  some ([], .ints .u64 4 [w4 x0 x1 x2 x3,w4 x4 x5 x6 x7,w4 x8 x9 xa xb,w4 xc xd xe xf]):=by kernel_rfl
theorem d68 {args : List AV} {o : List Bool} {v : AV} (h : f7l args = some (o,v)) (ho : d7x o) : d86 Tryz.prog 94 args v:=by
 unfold f7l at h
 split at h
 ·rename_i l
  cases h
  have hD:=b7y.1 (ho _ (f9b ..))
  intro ρ N vs ha
  have hb:=ha
  cases hb with
  | cons _ _ _ _ r1 hb =>
   have hl : l.length = 16:=by cases r1 with | ints _ _ _ hn _=>exact hn
   obtain ⟨x0,x1,x2,x3,x4,x5,x6,x7,x8,x9,xa,xb,xc,xd,xe,xf,rfl⟩:=sixteen hl
   simp only [List.forall_mem_cons,List.not_mem_nil,false_implies,implies_true,and_true] at hD
   obtain ⟨k0,k1,k2,k3,k4,k5,k6,k7,k8,k9,ka,kb,kc,kd,ke,kf⟩:=hD
   exact a0b mixed d7w a36 (by kernel_rfl) (c5l x0 x1 x2 x3 x4 x5 x6 x7 x8 x9 xa xb xc xd xe xf) d7x.nil
    (by rw [b0z k0 k1 k2 k3,b0z k4 k5 k6 k7,b0z k8 k9 ka kb,b0z kc kd ke kf];rfl) (by kernel_rfl) ha
 ·cases h
def h3 : d82:=d8g 94 f7l (d8g 67 f7k h2)
theorem d69 : HOk Tryz.prog h3:=(f7j.d8g fun _ _ _ h _=>d67 h).d8g fun _ _ _ h ho=>d68 h ho
theorem b9p (a0 a1 a2 a3 b0 b1 b2 b3 : Int) : (d81 Tryz.prog d93 h3 100 39 [.ints .u64 4 [a0,a1,a2,a3], .ints .u64 4 [b0,b1,b2,b3]] []).mix = some ([], .bool true (e9o a3 b3 a2 b2 a1 b1 a0 b0)):=by kernel_rfl
theorem c5m {args : List AV} {o : List Bool} {v : AV} (h : e66 args = some (o,v)) : d86 Tryz.prog 39 args v:=by
 unfold e66 at h
 split at h
 ·rename_i a b
  cases h
  intro ρ N vs ha
  have hb:=ha
  cases hb with
  | cons _ _ _ _ r1 hb=>cases hb with
   | cons _ _ _ _ r2 hb =>
    obtain ⟨a0,a1,a2,a3,rfl,wa0,wa1,wa2,wa3⟩:=a0g r1
    obtain ⟨b0,b1,b2,b3,rfl,wb0,wb1,wb2,wb3⟩:=a0g r2
    exact a41 mixed d7w d69 (by kernel_rfl) (b9p a0 a1 a2 a3 b0 b1 b2 b3) d7x.nil (by rw [b9n wa0 wa1 wa2 wa3 wb0 wb1 wb2 wb3]) ha
 ·cases h
def h4 : d82:=d8g 39 e66 h3
theorem f7m : HOk Tryz.prog h4:=d69.d8g fun _ _ _ h _=>c5m h
end Go.Proofs.YthelmpjkkkhopaaGreatDoor
namespace Go.Proofs.YthelmpjkkkhopaaGreatDoor
open Go.Ev Go.Wn
set_option maxRecDepth 100000
def e2i (x : Int) (a b : List Int) : List Int:=if x % 2 = 1 then a else b
def e9q : List AV → E AV
 | [.int _ .u64 x, .ints .u64 4 a, .ints .u64 4 b]=>some ([], .ints .u64 4 (e2i x a b))
 | _=>none
theorem c2r (s : Bool) (x a b c d e f g h : Int) : res (d81 Tryz.prog d93 h0 100 69 [.int s .u64 x, .ints .u64 4 [a,b,c,d], .ints .u64 4 [e,f,g,h]] []) =
  some ([], .ints .u64 4 [e5y x a e,e5y x b f,e5y x c g,e5y x d h]):=by kernel_rfl
theorem d2a {args : List AV} {o : List Bool} {v : AV} (h : e9q args = some (o,v)) : d86 Tryz.prog 69 args v:=by
 unfold e9q at h
 split at h
 ·rename_i s x a b
  cases h
  intro ρ N vs ha
  have hb:=ha
  cases hb with
  | cons _ _ _ _ r0 hb=>cases hb with
   | cons _ _ _ _ r1 hb=>cases hb with
    | cons _ _ _ _ r2 hb =>
     have wx : W x:=by cases r0 with | int _ _ _ h=>exact a1d h
     obtain ⟨a0,a1,a2,a3,rfl,wa0,wa1,wa2,wa3⟩:=a0g r1
     obtain ⟨b0,b1,b2,b3,rfl,wb0,wb1,wb2,wb3⟩:=a0g r2
     exact a0b mixed d7w a36 (by kernel_rfl) (c2r s x a0 a1 a2 a3 b0 b1 b2 b3) d7x.nil
      (by rw [a58 wx wa0 wb0,a58 wx wa1 wb1,a58 wx wa2 wb2,a58 wx wa3 wb3];unfold e2i;split <;> rfl) (by kernel_rfl) ha
 ·cases h
def e5c (i : Int) : Bool:=match decide (i < 0) with | true=>true | false=>decide (i > 255)
def e3a (l : List Int) (i : Int) : Int:=match e5c i with | true=>0 | false=>f1l l i
def f7n : List AV → E AV
 | [.ints .u64 4 a, .int _ .i64 i]=>some ([], .int true .u64 (e3a a i))
 | _=>none
theorem c5n (a b c d i : Int) : (d81 Tryz.prog d93 h0 100 48 [.ints .u64 4 [a,b,c,d], .int true .i64 i] []).mix =
  some ([!(!decide (i < 0)) || !decide (i < 0),decide (i < 0) || !decide (i < 0),e5c i || (decide (0 ≤ w64 (i.tdiv 64)) && decide (w64 (i.tdiv 64) < ((4 : Nat) : Int))),e5c i || decide (0 + (w64 (i.tdiv 64)).toNat * 1 + 1 ≤ 4),e5c i || !decide (i.tmod 64 < 0)],
   .int true .u64 (e3a [a,b,c,d] i)):=by kernel_rfl
theorem c5o (i : Int) : d7x [!(!decide (i < 0)) || !decide (i < 0),decide (i < 0) || !decide (i < 0),e5c i || (decide (0 ≤ w64 (i.tdiv 64)) && decide (w64 (i.tdiv 64) < ((4 : Nat) : Int))),e5c i || decide (0 + (w64 (i.tdiv 64)).toNat * 1 + 1 ≤ 4),e5c i || !decide (i.tmod 64 < 0)]:=by
 refine a00 (by cases decide (i < 0) <;> rfl) (a00 (by cases decide (i < 0) <;> rfl) ?_)
 cases hc : e5c i with
 | true=>exact a00 rfl (a00 rfl (a00 rfl d7x.nil))
 | false =>
  have hi : 0 ≤ i ∧ i ≤ 255:=by
   unfold e5c at hc
   by_cases h : i < 0
   ·rw [decide_eq_true h] at hc;cases hc
   ·rw [decide_eq_false h] at hc
    simp at hc
    omega
  have e1 : i.tdiv 64 = i / 64:=Int.tdiv_eq_ediv_of_nonneg hi.1
  have e2 : i.tmod 64 = i % 64:=Int.tmod_eq_emod_of_nonneg hi.1
  rw [e1,e2,a28 (x:=i / 64) (by omega)]
  refine a00 ?_ (a00 ?_ (a00 ?_ d7x.nil))
  ·rw [decide_eq_true (by omega : 0 ≤ i / 64),decide_eq_true (by omega : i / 64 < ((4 : Nat) : Int))];rfl
  ·rw [decide_eq_true (by omega : 0 + (i / 64).toNat * 1 + 1 ≤ 4)];rfl
  ·rw [decide_eq_false (by omega : ¬ i % 64 < 0)];rfl
theorem c8i {args : List AV} {o : List Bool} {v : AV} (h : f7n args = some (o,v)) : d86 Tryz.prog 48 args v:=by
 unfold f7n at h
 split at h
 ·rename_i a s i
  cases h
  intro ρ N vs ha
  have hb:=ha
  cases hb with
  | cons _ _ _ _ r1 hb=>cases hb with
   | cons _ _ v2 _ r2 hb=>cases hb with
    | nil =>
     obtain ⟨a0,a1,a2,a3,rfl,wa0,wa1,wa2,wa3⟩:=a0g r1
     have r2' : Rep ρ N (.int true .i64 i) v2:=by cases r2 with | int _ _ _ h=>exact .int true _ _ h
     exact a41 mixed d7w a36 (by kernel_rfl) (c5n a0 a1 a2 a3 i) (c5o i) rfl (.cons _ _ _ _ r1 (.cons _ _ _ _ r2' .nil))
 ·cases h
def h5 : d82:=d8g 48 f7n (d8g 69 e9q h4)
theorem d6a : HOk Tryz.prog h5:=(f7m.d8g fun _ _ _ h _=>d2a h).d8g fun _ _ _ h _=>c8i h
end Go.Proofs.YthelmpjkkkhopaaGreatDoor
namespace Go.Wn
open Go.Ev
theorem a6s {x : Int} (h : W x) : d98 .u64 x 4294967295 = x % 4294967296:=by
 rw [b1b,BitVec.toNat_and]
 have h1 : (bv 4294967295).toNat = 2 ^ 32 - 1:=by decide
 rw [h1,Nat.and_two_pow_sub_one_eq_mod]
 have:=e7o h
 omega
theorem e1j {x : Int} : d88 .u64 x 32 = x / 4294967296:=by
 have:=a2c (k := .u64) (x:=x) (r:=32) (by simp [IntKind.bits])
 simpa using this
def f7o (a b : Int) : Int:=
 IntKind.u64.wrap (IntKind.u64.wrap (IntKind.u64.wrap (d88 .u64 a 32 * d88 .u64 b 32) + d88 .u64 (IntKind.u64.wrap (IntKind.u64.wrap (d88 .u64 a 32 * d98 .u64 b 4294967295) + d88 .u64 (IntKind.u64.wrap (d98 .u64 a 4294967295 * d98 .u64 b 4294967295)) 32)) 32) +
  d88 .u64 (IntKind.u64.wrap (d98 .u64 (IntKind.u64.wrap (IntKind.u64.wrap (d88 .u64 a 32 * d98 .u64 b 4294967295) + d88 .u64 (IntKind.u64.wrap (d98 .u64 a 4294967295 * d98 .u64 b 4294967295)) 32)) 4294967295 + IntKind.u64.wrap (d98 .u64 a 4294967295 * d88 .u64 b 32))) 32)
theorem a59 {x y : Int} (hx : 0 ≤ x ∧ x < 4294967296) (hy : 0 ≤ y ∧ y < 4294967296) : 0 ≤ x * y ∧ x * y ≤ 18446744065119617025:=by
 refine ⟨Int.mul_nonneg hx.1 hy.1, ?_⟩
 have h1 : x * y ≤ 4294967295 * y:=Int.mul_le_mul_of_nonneg_right (by omega) hy.1
 omega
theorem d2b {a b : Int} (ha : W a) (hb : W b) : f7o a b = a * b / 18446744073709551616:=by
 unfold f7o
 rw [a6s ha,a6s hb,e1j (x:=a),e1j (x:=b),e1j,a6s (c8d _),e1j,e1j]
 have e : a * b = (a / 4294967296) * (b / 4294967296) * 18446744073709551616 + ((a / 4294967296) * (b % 4294967296) + (a % 4294967296) * (b / 4294967296)) * 4294967296 + (a % 4294967296) * (b % 4294967296):=by
  have e1 : a = 4294967296 * (a / 4294967296) + a % 4294967296:=by omega
  have e2 : b = 4294967296 * (b / 4294967296) + b % 4294967296:=by omega
  generalize a / 4294967296 = a1 at *
  generalize a % 4294967296 = a0 at *
  generalize b / 4294967296 = b1 at *
  generalize b % 4294967296 = b0 at *
  rw [e1,e2]
  grind
 rw [e]
 unfold W at ha hb
 have h1:=a59 (x:=a / 4294967296) (y:=b / 4294967296) (by omega) (by omega)
 have h2:=a59 (x:=a / 4294967296) (y:=b % 4294967296) (by omega) (by omega)
 have h3:=a59 (x:=a % 4294967296) (y:=b / 4294967296) (by omega) (by omega)
 have h4:=a59 (x:=a % 4294967296) (y:=b % 4294967296) (by omega) (by omega)
 generalize a / 4294967296 * (b / 4294967296) = p at *
 generalize a / 4294967296 * (b % 4294967296) = q at *
 generalize a % 4294967296 * (b / 4294967296) = r at *
 generalize a % 4294967296 * (b % 4294967296) = s at *
 simp only [a25]
 omega
theorem b69 {a b c d : Int} (ha : W a) (hb : W b) (hc : W c) (hd : W d) :
  (a * b % 18446744073709551616 + c + 0) % 18446744073709551616 + d + 0 = (a * b % 18446744073709551616 + c + 0) % 18446744073709551616 + d ∧
  IntKind.u64.wrap (IntKind.u64.wrap (a * b / 18446744073709551616 + (a * b % 18446744073709551616 + c + 0) / 18446744073709551616) + ((a * b % 18446744073709551616 + c + 0) % 18446744073709551616 + d + 0) / 18446744073709551616) = pH a b c d ∧
  ((a * b % 18446744073709551616 + c + 0) % 18446744073709551616 + d + 0) % 18446744073709551616 = pL a b c d:=by
 have h:=d1u ha hb
 unfold W pH pL at *
 generalize a * b = P at *
 simp only [a25]
 omega
end Go.Wn
namespace Go.Proofs.YthelmpjkkkhopaaGreatDoor
open Go.Ev Go.Wn
set_option maxRecDepth 100000
theorem a2d {ρ : Nat → d8c} {N : Nat → Prop} {s : Bool} {x : Int} {v : Value} (h : Rep ρ N (.int s .u64 x) v) : W x:=by
 cases h with | int _ _ _ h=>exact a1d h
def f7p : List AV → E AV
 | [.int _ .u64 a, .int _ .u64 b]=>some ([], .tuple [.int true .u64 (a * b / 18446744073709551616), .int true .u64 (a * b % 18446744073709551616)])
 | _=>none
theorem c5p (a b : Int) : res (d81 Tryz.prog d93 h0 100 66 [.int true .u64 a, .int true .u64 b] []) = some ([], .tuple [.int true .u64 (f7o a b), .int true .u64 (IntKind.u64.wrap (a * b))]):=by kernel_rfl
theorem remark {ρ : Nat → d8c} {N : Nat → Prop} {s : Bool} {k : IntKind} {x : Int} {v : Value} (h : Rep ρ N (.int s k x) v) : Rep ρ N (.int true k x) v:=by
 cases h with | int _ _ _ h=>exact .int _ _ _ h
theorem d6b {args : List AV} {o : List Bool} {v : AV} (h : f7p args = some (o,v)) : d86 Tryz.prog 66 args v:=by
 unfold f7p at h
 split at h
 ·rename_i s a s' b
  cases h
  intro ρ N vs ha
  cases ha with
  | cons _ _ _ _ r0 hb=>cases hb with
   | cons _ _ _ _ r1 hb =>
    cases hb
    exact a0b mixed d7w a36 (by kernel_rfl) (c5p a b) d7x.nil (by rw [d2b (a2d r0) (a2d r1),a25]) (by kernel_rfl) (.cons _ _ _ _ (remark r0) (.cons _ _ _ _ (remark r1) .nil))
 ·cases h
def hm1 : d82:=d8g 66 f7p h5
theorem c2s : HOk Tryz.prog hm1:=d6a.d8g fun _ _ _ h _=>d6b h
def f7q : List AV → E AV
 | [.int _ .u64 a, .int _ .u64 b, .int _ .u64 c, .int _ .u64 d]=>some ([], .tuple [.int true .u64 (pH a b c d), .int true .u64 (pL a b c d)])
 | _=>none
theorem c5q (a b c d : Int) : res (d81 Tryz.prog d93 hm1 100 91 [.int true .u64 a, .int true .u64 b, .int true .u64 c, .int true .u64 d] []) =
  some ([true,true], .tuple [.int true .u64 (IntKind.u64.wrap (IntKind.u64.wrap (a * b / 18446744073709551616 + (a * b % 18446744073709551616 + c + 0) / 18446744073709551616) + ((a * b % 18446744073709551616 + c + 0) % 18446744073709551616 + d + 0) / 18446744073709551616)),
   .int true .u64 (((a * b % 18446744073709551616 + c + 0) % 18446744073709551616 + d + 0) % 18446744073709551616)]):=by kernel_rfl
theorem d6c {args : List AV} {o : List Bool} {v : AV} (h : f7q args = some (o,v)) : d86 Tryz.prog 91 args v:=by
 unfold f7q at h
 split at h
 ·rename_i s0 a s1 b s2 c s3 d
  cases h
  intro ρ N vs ha
  cases ha with
  | cons _ _ _ _ r0 hb=>cases hb with
   | cons _ _ _ _ r1 hb=>cases hb with
    | cons _ _ _ _ r2 hb=>cases hb with
     | cons _ _ _ _ r3 hb =>
      cases hb
      obtain ⟨_,e1,e2⟩:=b69 (a2d r0) (a2d r1) (a2d r2) (a2d r3)
      exact a0b mixed d7w c2s (by kernel_rfl) (c5q a b c d) (a00 rfl (a00 rfl d7x.nil)) (by rw [e1,e2]) (by kernel_rfl) (.cons _ _ _ _ (remark r0) (.cons _ _ _ _ (remark r1) (.cons _ _ _ _ (remark r2) (.cons _ _ _ _ (remark r3) .nil))))
 ·cases h
def hm2 : d82:=d8g 91 f7q hm1
theorem c8j : HOk Tryz.prog hm2:=c2s.d8g fun _ _ _ h _=>d6c h
end Go.Proofs.YthelmpjkkkhopaaGreatDoor
