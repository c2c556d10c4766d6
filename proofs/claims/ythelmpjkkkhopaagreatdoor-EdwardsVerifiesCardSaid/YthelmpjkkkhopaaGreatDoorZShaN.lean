/- Layer 10: bytes as numbers, the lowest first. Own work. -/
import Derived.Test.YthelmpjkkkhopaaGreatDoorZEoW
import Derived.Test.YthelmpjkkkhopaaGreatDoorZEoB
import Derived.Test.YthelmpjkkkhopaaGreatDoorZMyMC
import Derived.Test.YthelmpjkkkhopaaGreatDoorZEvOps
set_option linter.unusedSimpArgs false
set_option linter.unusedVariables false
set_option linter.unusedSectionVars false
namespace Go.Mo
open Go.Ev Go.Wn
def kwL (l : List Int) : List Int:=(l.set 0 (e0h .u64 (l.getD 0 0) 7)).set 3 (ior .u64 (e0h .u64 ((l.set 0 (e0h .u64 (l.getD 0 0) 7)).getD 3 0) 9223372036854775808) 4611686018427387904)
def uwL (l : List Int) : List Int:=l.set 3 (e0h .u64 (l.getD 3 0) 9223372036854775808)
theorem e4u {a b c d e f g h : Int} (ha : B8 a) (hb : B8 b) (hc : B8 c) (hd : B8 d) (he : B8 e) (hf : B8 f) (hg : B8 g) (hh : B8 h) : W (W8 a b c d e f g h):=by
 unfold B8 W W8 at *;omega
def clI (K : Int) : Int:=K % 28948022309329048855892746252171976963317496166410141009864396001978282409984 - K % 8 + 28948022309329048855892746252171976963317496166410141009864396001978282409984
def upI (U : Int) : Int:=U % 57896044618658097711785492504343953926634992332820282019728792003956564819968
end Go.Mo
namespace Go.Proofs.YthelmpjkkkhopaaGreatDoor
open Go.Ev Go.Wn Go.Mo
set_option maxRecDepth 100000
def leI (l : List Int) : Int:=val (e1s l)
theorem a6v {l : List Int} (hl : l.length = 32) (hr : ∀ x ∈ l,inR .u8 x = true) : ∃ a b c d,e1s l = [a,b,c,d] ∧ W a ∧ W b ∧ W c ∧ W d:=by
 obtain ⟨b0,b1,b2,b3,b4,b5,b6,b7,b8,b9,b10,b11,b12,b13,b14,b15,b16,b17,b18,b19,b20,b21,b22,b23,b24,b25,b26,b27,b28,b29,b30,b31,rfl⟩:=thirty hl
 simp only [List.forall_mem_cons,List.not_mem_nil,false_implies,implies_true,and_true] at hr
 obtain ⟨k0,k1,k2,k3,k4,k5,k6,k7,k8,k9,k10,k11,k12,k13,k14,k15,k16,k17,k18,k19,k20,k21,k22,k23,k24,k25,k26,k27,k28,k29,k30,k31⟩:=hr
 exact ⟨_,_,_,_,rfl,e4u (a03 k7) (a03 k6) (a03 k5) (a03 k4) (a03 k3) (a03 k2) (a03 k1) (a03 k0),e4u (a03 k15) (a03 k14) (a03 k13) (a03 k12) (a03 k11) (a03 k10) (a03 k9) (a03 k8),e4u (a03 k23) (a03 k22) (a03 k21) (a03 k20) (a03 k19) (a03 k18) (a03 k17) (a03 k16),e4u (a03 k31) (a03 k30) (a03 k29) (a03 k28) (a03 k27) (a03 k26) (a03 k25) (a03 k24)⟩
theorem a3j {a b c d : Int} (ha : W a) (hb : W b) (hc : W c) (hd : W d) : limbs (val [a,b,c,d]) = [a,b,c,d]:=by
 unfold limbs val W at *
 simp only [List.getD_cons_zero,List.getD_cons_succ,List.cons.injEq,and_true]
 refine ⟨?_, ?_, ?_, ?_⟩ <;> omega
theorem f8q {l : List Int} (hl : l.length = 32) (hr : ∀ x ∈ l,inR .u8 x = true) : val (kwL (e1s l)) = clI (leI l) ∧ limbs (val (kwL (e1s l))) = kwL (e1s l):=by
 obtain ⟨a,b,c,d,e,ha,hb,hc,hd⟩:=a6v hl hr
 unfold leI
 rw [e]
 have e2 : kwL [a,b,c,d] = [e0h .u64 a 7,b,c,ior .u64 (e0h .u64 d 9223372036854775808) 4611686018427387904]:=rfl
 have hd2 : 0 ≤ d % 9223372036854775808 ∧ d % 9223372036854775808 < 9223372036854775808:=by omega
 rw [e2,a7w ha,a7x hd,c0y hd2]
 refine ⟨?_,a3j (by unfold W at *;omega) hb hc (by unfold W at *;omega)⟩
 unfold clI val W at *
 simp only [List.getD_cons_zero,List.getD_cons_succ]
 omega
theorem f8r {l : List Int} (hl : l.length = 32) (hr : ∀ x ∈ l,inR .u8 x = true) : val (uwL (e1s l)) = upI (leI l) ∧ limbs (val (uwL (e1s l))) = uwL (e1s l) ∧ (uwL (e1s l)).length = 4:=by
 obtain ⟨a,b,c,d,e,ha,hb,hc,hd⟩:=a6v hl hr
 unfold leI
 rw [e]
 have e2 : uwL [a,b,c,d] = [a,b,c,e0h .u64 d 9223372036854775808]:=rfl
 rw [e2,a7x hd]
 refine ⟨?_,a3j ha hb hc (by unfold W at *;omega),rfl⟩
 unfold upI val W at *
 simp only [List.getD_cons_zero,List.getD_cons_succ]
 omega
def okb (l : List Int) : Prop:=l.length = 32 ∧ ∀ x ∈ l,inR .u8 x = true
theorem a4d {l : List Int} (h : okb l) : 0 ≤ leI l ∧ leI l < 115792089237316195423570985008687907853269984665640564039457584007913129639936:=by
 obtain ⟨a,b,c,d,e,ha,hb,hc,hd⟩:=a6v h.1 h.2
 unfold leI
 rw [e]
 exact a08 ha hb hc hd
theorem d7b {l : List Int} (h : okb l) : ∃ N : Nat,clI (leI l) = (N : Int) ∧ N < 2 ^ 255 ∧ N % 8 = 0 ∧ 0 < N:=by
 have hr:=a4d h
 generalize leI l = K at *
 have h1 : 0 < clI K ∧ clI K < 57896044618658097711785492504343953926634992332820282019728792003956564819968 ∧ clI K % 8 = 0:=by unfold clI;omega
 generalize clI K = x at *
 obtain ⟨N,rfl⟩:=Int.eq_ofNat_of_zero_le (by omega : 0 ≤ x)
 have hN : N < 57896044618658097711785492504343953926634992332820282019728792003956564819968:=by omega
 exact ⟨N,rfl,hN,by omega,by omega⟩
theorem b6n {l : List Int} (h : l.length = 32) : e4m l.reverse = e1s l:=by
 obtain ⟨b0,b1,b2,b3,b4,b5,b6,b7,b8,b9,b10,b11,b12,b13,b14,b15,b16,b17,b18,b19,b20,b21,b22,b23,b24,b25,b26,b27,b28,b29,b30,b31,rfl⟩:=thirty h
 rfl
end Go.Proofs.YthelmpjkkkhopaaGreatDoor
namespace Go.Mo
open Go.Ev Go.Wn Go.Ed
set_option maxRecDepth 100000
theorem c3j : L25 < 2 ^ 255:=by decide +kernel
def wnI (p : E4) : Int:=eWy p + d8q * (eWx p % 2)
theorem d7c {p : E4} {P : Pt P25} (h : p.R P) : wnI p = ptI P:=by
 obtain ⟨h1,h2⟩:=f4e h
 unfold wnI ptI
 rw [h1,h2]
 rfl
def e93 (p : E4) : E4:=⟨sI 0 p.x,p.y,p.z,sI 0 p.t⟩
theorem d7d {p : E4} {P : Pt P25} (h : p.R P) : (e93 p).R (cA.neg P):=by
 obtain ⟨⟨o1,o2,o3,o4⟩,h⟩:=h
 refine ⟨⟨a64 _ _,o2,o3,a64 _ _⟩, ?_⟩
 show cA.PT (ph (sI 0 p.x)) (ph p.y) (ph p.z) (ph (sI 0 p.t)) _
 rw [e6o e7k o1,e6o e7k o4,f2d]
 exact cA.d3t h
def pubI (s : Int) : Int:=wnI (e4q s eB)
theorem d7e {s : Nat} (h : s < 2 ^ 255) : pubI (s : Int) = ptI (cA.mul s ptB):=d7c (c0t a9j f4f h)
end Go.Mo
namespace Go.Ev
section
variable [Tab]
variable {P : Program} {q : FuncId → Bool} {Λ0 Λ : d8r}
theorem d2w {σ : Type} {id nt n : Nat} {ts : List Nat} {B : Code} (vals : σ → List AV) (M : σ → Mem) (J : σ → σ → Prop) (μ : σ → Nat) {pat : List AV → Mem → Option σ} {owe : σ → List Bool} {fin : σ → List (Nat × AV) × Mem}
  (hm : P.follows .mixedOrders = true) (hΛ : LOk P B Λ) (hΛ0 : LOk P B Λ0) (h1 : f0h (blks id B) = true) (h2 : e2x (blk id B) = true) (hbm : ∀ s,e1a (M s).length (M s) = true) (hbv : ∀ s,d9q (M s).length (vals s) = true)
  (hpat : ∀ avs m s,pat avs m = some s → d7x (owe s) → ∃ s1,LeL avs (vals s1) ∧ m = M s1 ∧ J s s1)
  (round : ∀ s s1,J s s1 → ∀ x : Nat → AV, ∃ H,HOk P H ∧ Round P q H Λ0 B id nt n ts vals M (J s) μ (fin s) s1 x) :
  LOk P B (e0p id nt ts pat owe fin Λ):=by
 refine ⟨fun {id' c st st' o} hc hl ho => ?_⟩
 unfold e0p at hl
 split at hl
 ·rename_i hb
  simp only [Bool.and_eq_true] at hb
  have hid:=Nat.eq_of_beq_eq_true hb.1
  have hlen:=Nat.eq_of_beq_eq_true hb.2
  subst hid
  split at hl
  ·rename_i s hs
   simp only [Option.some.injEq,Prod.mk.injEq] at hl
   obtain ⟨rfl,rfl⟩:=hl
   obtain ⟨s1,p1,p2,p4⟩:=hpat _ _ _ hs ho
   have e:=b7g hc h1
   rw [c4k h2] at e
   have hc' : ∀ x ∈ subs (lp (blk id' B)),x ∈ subs B:=fun x hx=>by
    refine a53 hc x ?_
    rw [e]
    simp only [subs,List.mem_cons]
    exact Or.inr (Or.inr hx)
   rw [e]
   refine Ok.leave ?_
   have key : ∀ (k : Nat) (s1 : σ) (st1 : St) (ex : Mem),μ s1 < k → J s s1 → st1.tm.length = nt → st1.mem = M s1 ++ ex → LeL (ts.map fun t=>st1.tm.getD t .top) (vals s1) →
     ∀ (w0 : World) (S : Nat → Prop) (ρ0 : Nat → d8c) (n0 : Nat) (ds : List Deferred) (a : Act) (w : World),n0 ≤ (M s1).length → e0i w0 S ρ0 n0 ds st1 a w →
     Code.rounds P (lp (blk id' B)) (Post w0 S ρ0 n0 ds (fun p => ∃ st2,p = (.exit id',st2) ∧ Wk st2 ⟨d8m (ups (fun _ => .top) (fin s).1) nt,(fin s).2⟩)) k a w:=by
    intro k
    induction k with
    | zero=>intro s1 st1 ex h;omega
    | succ k ih =>
     intro s1 st1 ex hk hJ i3 i4 i5 w0 S ρ0 n0 ds a w hn0 hs1
     rw [rounds_succ]
     have hw : e0i w0 S ρ0 n0 ds ⟨d8m (ups (fun t=>e3p (M s1).length (st1.tm.getD t .top)) (d8o ts (vals s1))) nt,M s1⟩ a w:=by
      obtain ⟨⟨ρ,r1,r2,r3⟩,r4,r5⟩:=hs1
      rw [i4] at r2
      refine ⟨⟨ρ,⟨fun t => ?_, ?_⟩,r2.short (hbm s1),r3⟩,hn0,r5⟩
      ·by_cases ht : t < nt
       ·rw [a04 ht]
        have hx:=r1.rep t
        exact b1j (b68 i5) (fun p hp=>a6r (hbv s1) _ (b1i hp)) hx
       ·rw [a43 ht];exact .top _
      ·rw [a1a, ← i3];exact r1.le
     obtain ⟨H,hH,hround⟩:=round s s1 hJ (fun t=>e3p (M s1).length (st1.tm.getD t .top))
     have hsat : (d8d P q H Λ0 n (lp (blk id' B)) ⟨d8m (ups (fun t=>e3p (M s1).length (st1.tm.getD t .top)) (d8o ts (vals s1))) nt,M s1⟩).Sat (fun p=>match p.1 with | .normal => ∃ s2 ex,μ s2 < μ s1 ∧ J s s2 ∧ p.2.tm.length = nt ∧ p.2.mem = M s2 ++ ex ∧ LeL (ts.map fun t=>p.2.tm.getD t .top) (vals s2) ∧ n0 ≤ (M s2).length | _ => ∃ st2,p = (.exit id',st2) ∧ Wk st2 ⟨d8m (ups (fun _ => .top) (fin s).1) nt,(fin s).2⟩):=by
      rcases hround with ⟨ds',o',avs,s2,ex2,r1,r2,r3,r4,r5,r6⟩ | ⟨ds',o',avs,r1,r2,r3⟩
      ·refine a3u r1 r2 fun ex st2 hx ha hn hmm => ?_
       cases ex with
       | normal=>exact ⟨s2,ex2,r6,r4,hn,hmm,by rw [ha];exact r3,by rw [r5];exact hn0⟩
       | exit i=>simp [e4k] at hx
       | ret=>simp [e4k] at hx
      ·refine a3u r1 r2 fun ex st2 hx ha hn hmm => ?_
       cases ex with
       | normal=>simp [e4k] at hx
       | ret=>simp [e4k] at hx
       | exit i =>
        simp [e4k] at hx
        subst hx
        refine ⟨st2,rfl,hmm.symm,by rw [hn,a1a],fun t ρ N v hr => ?_⟩
        by_cases ht : t < nt
        ·rw [a04 ht]
         have : ∀ {l : List (Nat × AV)},(∀ p ∈ l, ∃ a,(p.1,a) ∈ d8o ts avs ∧ Le1 a p.2) → Rep ρ N (ups (fun _ => .top) l t) v:=by
          intro l
          induction l with
          | nil=>intro _;exact .top _
          | cons p l ih =>
           intro hl
           obtain ⟨i,a⟩:=p
           unfold ups
           cases hb : Nat.beq t i with
           | true =>
            have:=Nat.eq_of_beq_eq_true hb
            subst this
            obtain ⟨a',q1,q2⟩:=hl _ (f9b ..)
            have:=b1h ha _ q1
            simp only at this
            rw [this] at hr
            exact q2.rep hr
           | false=>exact ih fun p hp=>hl p (f9a _ hp)
         exact this r3
        ·rw [a43 ht];exact .top _
     refine wp_mono ((a42 hm hH hΛ0 n).1 hc' hsat w0 S ρ0 n0 ds a w hw) fun e a' w' he => ?_
     cases e with
     | normal=>obtain ⟨st',⟨s2,ex2,k1,k2,k3,k4,k5,k6⟩,k7⟩:=he;exact ih s2 st' ex2 (by omega) k2 k3 k4 k5 w0 S ρ0 n0 ds a' w' k6 k7
     | exit i=>obtain ⟨st',k1,k2⟩:=he;exact ⟨st',k1,k2⟩
     | ret=>obtain ⟨st',k1,k2⟩:=he;exact ⟨st',k1,k2⟩
     | goto l=>exact he
     | panic ch=>exact he
     | outgrown=>exact he
   exact fun w0 S ρ0 n0 ds a w hs=>wp_loop_rounds (μ s1 + 1) (key (μ s1 + 1) s1 st [] (by omega) p4 hlen (by rw [List.append_nil];exact p2) p1 w0 S ρ0 n0 ds a w (by rw [← p2];exact hs.le) hs)
  ·exact hΛ.ok hc hl ho
 ·exact hΛ.ok hc hl ho
end
end Go.Ev
namespace Go.Sh
open Go.Ev
def ix (x y : Int) : Int:=((x.toNat ^^^ y.toNat : Nat) : Int)
def ia (x y : Int) : Int:=((x.toNat &&& y.toNat : Nat) : Int)
def io (x y : Int) : Int:=((x.toNat ||| y.toNat : Nat) : Int)
def Wd (w : Nat) (x : Int) : Prop:=0 ≤ x ∧ x < 2 ^ w
theorem a2q {w : Nat} {x : Int} (h : Wd w x) : ∃ a : Nat,a < 2 ^ w ∧ x = (a : Int):=by
 refine ⟨x.toNat, ?_,by unfold Wd at h;omega⟩
 have h1 : ((x.toNat : Nat) : Int) < ((2 ^ w : Nat) : Int):=by
  rw [Int.toNat_of_nonneg h.1];simpa using h.2
 exact Int.ofNat_lt.1 h1
theorem c3k {w a : Nat} (h : a < 2 ^ w) : Wd w (a : Int):=by
 refine ⟨by omega, ?_⟩
 have : ((a : Nat) : Int) < ((2 ^ w : Nat) : Int):=Int.ofNat_lt.2 h
 simpa using this
theorem d7f {w : Nat} {x y : Int} (hx : Wd w x) (hy : Wd w y) : Wd w (ix x y):=by
 obtain ⟨a,ha,rfl⟩:=a2q hx
 obtain ⟨b,hb,rfl⟩:=a2q hy
 exact c3k (Nat.xor_lt_two_pow ha hb)
theorem a5y {w : Nat} {x y : Int} (hx : Wd w x) : Wd w (ia x y):=by
 obtain ⟨a,ha,rfl⟩:=a2q hx
 exact c3k (Nat.lt_of_le_of_lt Nat.and_le_left ha)
theorem d2x {w : Nat} {x y : Int} (hx : Wd w x) (hy : Wd w y) : Wd w (io x y):=by
 obtain ⟨a,ha,rfl⟩:=a2q hx
 obtain ⟨b,hb,rfl⟩:=a2q hy
 exact c3k (Nat.or_lt_two_pow ha hb)
theorem a0m {k : IntKind} (hk : k.signed = false) (x : Int) : k.wrap x = x % 2 ^ k.bits:=by
 unfold IntKind.wrap
 cases k <;> simp [IntKind.signed,IntKind.bits] at *
theorem a4e {k : IntKind} (hk : k.signed = false) {x : Int} (h : Wd k.bits x) : k.wrap x = x:=by
 rw [a0m hk];exact Int.emod_eq_of_lt h.1 h.2
theorem a38 {n a : Nat} (h : a < 2 ^ n) : (BitVec.ofInt n (a : Int)).toNat = a:=by
 rw [BitVec.ofInt_natCast,BitVec.toNat_ofNat,Nat.mod_eq_of_lt h]
theorem c3l {k : IntKind} (hk : k.signed = false) {x y : Int} (hx : Wd k.bits x) (hy : Wd k.bits y) : e0b k x y = ix x y:=by
 have h:=d7f hx hy
 obtain ⟨a,ha,rfl⟩:=a2q hx
 obtain ⟨b,hb,rfl⟩:=a2q hy
 unfold e0b
 rw [BitVec.toNat_xor,a38 ha,a38 hb]
 exact a4e hk h
theorem a3k {k : IntKind} (hk : k.signed = false) {x y : Int} (hx : Wd k.bits x) (hy : Wd k.bits y) : d98 k x y = ia x y:=by
 have h:=a5y (y:=y) hx
 obtain ⟨a,ha,rfl⟩:=a2q hx
 obtain ⟨b,hb,rfl⟩:=a2q hy
 unfold d98
 rw [BitVec.toNat_and,a38 ha,a38 hb]
 exact a4e hk h
theorem a6w {k : IntKind} (hk : k.signed = false) {x y : Int} (hx : Wd k.bits x) (hy : Wd k.bits y) : ior k x y = io x y:=by
 have h:=d2x hx hy
 obtain ⟨a,ha,rfl⟩:=a2q hx
 obtain ⟨b,hb,rfl⟩:=a2q hy
 unfold ior
 rw [BitVec.toNat_or,a38 ha,a38 hb]
 exact a4e hk h
theorem c3m {k : IntKind} {x : Int} {n : Nat} (hn : n ≤ k.bits) : d88 k x (n : Int) = x / 2 ^ n:=by
 unfold d88
 rw [Int.toNat_natCast,Nat.min_eq_left hn,Int.fdiv_eq_ediv_of_nonneg _ (Int.le_of_lt (Int.pow_pos (by omega)))]
theorem c3n {k : IntKind} (hk : k.signed = false) {x : Int} {n : Nat} (hn : n ≤ k.bits) : d9l k x (n : Int) = x * 2 ^ n % 2 ^ k.bits:=by
 unfold d9l
 rw [Int.toNat_natCast,Nat.min_eq_left hn,a0m hk]
def rr (w n : Nat) (x : Int) : Int:=x / 2 ^ n + x % 2 ^ n * 2 ^ (w - n)
theorem a6x {w n : Nat} (h : n ≤ w) : (2 : Int) ^ w = 2 ^ n * 2 ^ (w - n):=by rw [← Int.pow_add];congr 1;omega
theorem pos2 (n : Nat) : (0 : Int) < 2 ^ n:=Int.pow_pos (by omega)
theorem c8w {w n : Nat} (h : n ≤ w) {x : Int} (hx : Wd w x) : 0 ≤ x / 2 ^ n ∧ x / 2 ^ n < 2 ^ (w - n):=by
 refine ⟨Int.ediv_nonneg hx.1 (Int.le_of_lt (pos2 n)), ?_⟩
 apply Int.ediv_lt_of_lt_mul (pos2 n)
 rw [Int.mul_comm, ← a6x h];exact hx.2
theorem b8c {w n : Nat} (h : n ≤ w) (x : Int) : x * 2 ^ (w - n) % 2 ^ w = x % 2 ^ n * 2 ^ (w - n):=by
 rw [a6x h,Int.mul_comm x,Int.mul_comm (2 ^ n),Int.mul_emod_mul_of_pos _ _ (pos2 _),Int.mul_comm]
theorem a4z {w n : Nat} (h : n ≤ w) {x : Int} (hx : Wd w x) : Wd w (rr w n x):=by
 obtain ⟨d1,d2⟩:=c8w h hx
 have m1:=Int.emod_nonneg x (Int.ne_of_gt (pos2 n))
 have m2:=Int.emod_lt_of_pos x (pos2 n)
 have hp:=pos2 (w - n)
 unfold rr Wd
 rw [a6x h]
 generalize x / 2 ^ n = d at *
 generalize x % 2 ^ n = m at *
 generalize (2 : Int) ^ (w - n) = p at *
 generalize (2 : Int) ^ n = q at *
 have e1 : 0 ≤ m * p:=Int.mul_nonneg m1 (Int.le_of_lt hp)
 have e2 : m * p ≤ (q - 1) * p:=Int.mul_le_mul_of_nonneg_right (by omega) (Int.le_of_lt hp)
 have e3 : (q - 1) * p = q * p - p:=by rw [Int.sub_mul,Int.one_mul]
 omega
theorem c8x {a b s : Nat} (h : b < 2 ^ s) : a * 2 ^ s ||| b = a * 2 ^ s + b:=by
 have:=Nat.shiftLeft_add_eq_or_of_lt h a
 rw [Nat.shiftLeft_eq] at this
 exact this.symm
theorem c8y {w n : Nat} (h : n ≤ w) {x : Int} (hx : Wd w x) : io (x * 2 ^ (w - n) % 2 ^ w) (x / 2 ^ n) = rr w n x:=by
 obtain ⟨a,ha,rfl⟩:=a2q hx
 rw [b8c h]
 have e1 : ((a : Nat) : Int) % 2 ^ n * 2 ^ (w - n) = ((a % 2 ^ n * 2 ^ (w - n) : Nat) : Int):=by simp
 have e2 : ((a : Nat) : Int) / 2 ^ n = ((a / 2 ^ n : Nat) : Int):=by simp
 have hlt : a / 2 ^ n < 2 ^ (w - n):=by
  apply Nat.div_lt_of_lt_mul
  rw [← Nat.pow_add,show n + (w - n) = w by omega];exact ha
 unfold rr io
 rw [e1,e2,Int.toNat_natCast,Int.toNat_natCast,c8x hlt]
 omega
theorem d2y (x y : Int) : io x y = io y x:=by unfold io;rw [Nat.or_comm]
def cho (w : Nat) (e f g : Int) : Int:=io (ia e f) (ia (2 ^ w - 1 - e) g)
def maj (a b c : Int) : Int:=io (io (ia a b) (ia a c)) (ia b c)
def e7p (w : Nat) (a : Int) : Int:=if w = 32 then ix (ix (rr 32 2 a) (rr 32 13 a)) (rr 32 22 a) else ix (ix (rr 64 28 a) (rr 64 34 a)) (rr 64 39 a)
def e7e (w : Nat) (e : Int) : Int:=if w = 32 then ix (ix (rr 32 6 e) (rr 32 11 e)) (rr 32 25 e) else ix (ix (rr 64 14 e) (rr 64 18 e)) (rr 64 41 e)
def e9y (w : Nat) (x : Int) : Int:=if w = 32 then ix (ix (rr 32 7 x) (rr 32 18 x)) (x / 2 ^ 3) else ix (ix (rr 64 1 x) (rr 64 8 x)) (x / 2 ^ 7)
def e9z (w : Nat) (x : Int) : Int:=if w = 32 then ix (ix (rr 32 17 x) (rr 32 19 x)) (x / 2 ^ 10) else ix (ix (rr 64 19 x) (rr 64 61 x)) (x / 2 ^ 6)
def beS (l : List Int) : Int:=l.foldl (fun a x=>a * 256 + x) 0
def d9r (w : Nat) (b : List Int) (ws : List Int) : Int:=
 if ws.length < 16 then beS ((b.drop (w / 8 * ws.length)).take (w / 8))
 else (ws.getD (ws.length - 16) 0 + e9y w (ws.getD (ws.length - 15) 0) + ws.getD (ws.length - 7) 0 + e9z w (ws.getD (ws.length - 2) 0)) % 2 ^ w
def d8k (w : Nat) (b : List Int) : Nat → List Int
 | 0=>[]
 | n + 1=>d8k w b n ++ [d9r w b (d8k w b n)]
def e0a (w : Nat) (K x : Int) : List Int → List Int
 | [a,b,c,d,e,f,g,h] =>
  [((h + e7e w e + cho w e f g + K + x) + (e7p w a + maj a b c)) % 2 ^ w,a,b,c,(d + (h + e7e w e + cho w e f g + K + x)) % 2 ^ w,e,f,g]
 | l=>l
end Go.Sh
namespace Go.Sh
open Go.Ev
theorem a5z {k : IntKind} (hk : k.signed = false) {x y : Int} (s : Nat) (h0S : 0 ≤ x) (hm : x % 2 ^ s = 0) (hy : 0 ≤ y ∧ y < 2 ^ s) (hb : x + y < 2 ^ k.bits) : ior k x y = x + y:=by
 rw [a6w hk ⟨h0S,by omega⟩ ⟨hy.1,by omega⟩]
 obtain ⟨b,hb2,rfl⟩:=a2q (w:=s) hy
 have hx : x = ((x.toNat : Nat) : Int):=by omega
 have hd : x.toNat = x.toNat / 2 ^ s * 2 ^ s:=by
  have h1 : ((x.toNat % 2 ^ s : Nat) : Int) = 0:=by
   rw [Int.natCast_emod, ← hx];simpa using hm
  have h2 : x.toNat % 2 ^ s = 0:=by omega
  have:=Nat.div_add_mod x.toNat (2 ^ s)
  rw [h2,Nat.add_zero,Nat.mul_comm] at this
  exact this.symm
 unfold io
 rw [Int.toNat_natCast,hd,c8x hb2, ← hd]
 omega
def R (k : IntKind) (s n x : Int) : Int:=ior k (d9l k x s) (d88 k x n)
theorem R_eq {k : IntKind} (hk : k.signed = false) {n : Nat} (h : n ≤ k.bits) {x : Int} (hx : Wd k.bits x) : R k ((k.bits - n : Nat) : Int) (n : Int) x = rr k.bits n x:=by
 unfold R
 rw [c3n hk (by omega),c3m h,a6w hk,c8y h hx]
 ·exact ⟨Int.emod_nonneg _ (Int.ne_of_gt (pos2 _)),Int.emod_lt_of_pos _ (pos2 _)⟩
 ·obtain ⟨d1,d2⟩:=c8w h hx
  refine ⟨d1,Int.lt_of_lt_of_le d2 ?_⟩
  have : (2 : Int) ^ k.bits = 2 ^ n * 2 ^ (k.bits - n):=a6x h
  rw [this]
  have h1 : (1 : Int) ≤ 2 ^ n:=by have:=pos2 n;omega
  have:=Int.mul_le_mul_of_nonneg_right h1 (Int.le_of_lt (pos2 (k.bits - n)))
  omega
theorem R64 {x : Int} (n : Nat) (h : n ≤ 64) (hx : Wd 64 x) : R .u64 ((64 - n : Nat) : Int) (n : Int) x = rr 64 n x:=R_eq (k := .u64) rfl h hx
theorem b4j {w n : Nat} {x : Int} (hx : Wd w x) : Wd w (x / 2 ^ n):=by
 have hp:=pos2 n
 refine ⟨Int.ediv_nonneg hx.1 (Int.le_of_lt hp),Int.lt_of_le_of_lt (Int.ediv_le_self _ hx.1) hx.2⟩
def b9x (x : Int) : Int:=e0b .u64 (e0b .u64 (R .u64 63 1 x) (R .u64 56 8 x)) (d88 .u64 x 7)
def b9y (x : Int) : Int:=e0b .u64 (e0b .u64 (R .u64 45 19 x) (R .u64 3 61 x)) (d88 .u64 x 6)
def d2z (x : Int) : Int:=e0b .u64 (e0b .u64 (R .u64 36 28 x) (R .u64 30 34 x)) (R .u64 25 39 x)
def c6o (x : Int) : Int:=e0b .u64 (e0b .u64 (R .u64 50 14 x) (R .u64 46 18 x)) (R .u64 23 41 x)
theorem e94 {a b c : Int} (ha : Wd 64 a) (hb : Wd 64 b) (hc : Wd 64 c) : e0b .u64 (e0b .u64 a b) c = ix (ix a b) c:=by
 rw [c3l (k := .u64) rfl ha hb,c3l (k := .u64) rfl (d7f ha hb) hc]
theorem e7q {x : Int} (n : Nat) (h : n ≤ 64) : d88 .u64 x (n : Int) = x / 2 ^ n:=c3m (k := .u64) h
theorem b8d {x : Int} (h : Wd 64 x) : b9x x = e9y 64 x:=by
 unfold b9x e9y
 rw [show R .u64 63 1 x = rr 64 1 x from R64 1 (by decide) h,show R .u64 56 8 x = rr 64 8 x from R64 8 (by decide) h,show d88 .u64 x 7 = x / 2 ^ 7 from e7q 7 (by decide),if_neg (by decide),
  e94 (a4z (by decide) h) (a4z (by decide) h) (b4j h)]
theorem b8e {x : Int} (h : Wd 64 x) : b9y x = e9z 64 x:=by
 unfold b9y e9z
 rw [show R .u64 45 19 x = rr 64 19 x from R64 19 (by decide) h,show R .u64 3 61 x = rr 64 61 x from R64 61 (by decide) h,show d88 .u64 x 6 = x / 2 ^ 6 from e7q 6 (by decide),if_neg (by decide),
  e94 (a4z (by decide) h) (a4z (by decide) h) (b4j h)]
theorem c6p {x : Int} (h : Wd 64 x) : d2z x = e7p 64 x:=by
 unfold d2z e7p
 rw [show R .u64 36 28 x = rr 64 28 x from R64 28 (by decide) h,show R .u64 30 34 x = rr 64 34 x from R64 34 (by decide) h,show R .u64 25 39 x = rr 64 39 x from R64 39 (by decide) h,if_neg (by decide),
  e94 (a4z (by decide) h) (a4z (by decide) h) (a4z (by decide) h)]
theorem c6q {x : Int} (h : Wd 64 x) : c6o x = e7e 64 x:=by
 unfold c6o e7e
 rw [show R .u64 50 14 x = rr 64 14 x from R64 14 (by decide) h,show R .u64 46 18 x = rr 64 18 x from R64 18 (by decide) h,show R .u64 23 41 x = rr 64 41 x from R64 41 (by decide) h,if_neg (by decide),
  e94 (a4z (by decide) h) (a4z (by decide) h) (a4z (by decide) h)]
def B8S (x : Int) : Prop:=0 ≤ x ∧ x < 256
theorem b1r {l : List Int} {k n : Nat} (h : k + n ≤ l.length) : (l.drop k).take n = (List.range n).map fun j=>l.getD (k + j) 0:=by
 apply List.ext_getElem?
 intro i
 by_cases hi : i < n
 ·rw [List.getElem?_take_of_lt hi,List.getElem?_drop,List.getElem?_map,List.getElem?_range hi,Option.map_some,List.getD,List.getElem?_eq_getElem (show k + i < l.length by omega),Option.getD_some]
 ·rw [List.getElem?_eq_none (by simp;omega),List.getElem?_eq_none (by simp;omega)]
def w4S (a b c d : Int) : Int:=ior .u32 (ior .u32 (ior .u32 (d9l .u32 (IntKind.u32.wrap a) 24) (d9l .u32 (IntKind.u32.wrap b) 16)) (d9l .u32 (IntKind.u32.wrap c) 8)) (IntKind.u32.wrap d)
theorem sl64 {x : Int} (n : Nat) (h : n ≤ 64) : d9l .u64 x (n : Int) = x * 2 ^ n % 2 ^ 64:=c3n (k := .u64) rfl h
def w8 (a b c d e f g h : Int) : Int:=ior .u64 (ior .u64 (ior .u64 (ior .u64 (ior .u64 (ior .u64 (ior .u64 (d9l .u64 (IntKind.u64.wrap a) 56) (d9l .u64 (IntKind.u64.wrap b) 48)) (d9l .u64 (IntKind.u64.wrap c) 40)) (d9l .u64 (IntKind.u64.wrap d) 32)) (d9l .u64 (IntKind.u64.wrap e) 24)) (d9l .u64 (IntKind.u64.wrap f) 16)) (d9l .u64 (IntKind.u64.wrap g) 8)) (IntKind.u64.wrap h)
theorem c6r {a b c d e f g h : Int} (ha : B8S a) (hb : B8S b) (hc : B8S c) (hd : B8S d) (he : B8S e) (hf : B8S f) (hg : B8S g) (hh : B8S h) : w8 a b c d e f g h = beS [a,b,c,d,e,f,g,h] ∧ Wd 64 (beS [a,b,c,d,e,f,g,h]):=by
 unfold B8S at *
 have wr : ∀ {x : Int},0 ≤ x ∧ x < 256 → IntKind.u64.wrap x = x:=fun h=>a4e (k := .u64) rfl ⟨h.1,by simp [IntKind.bits];omega⟩
 unfold w8
 rw [wr ha,wr hb,wr hc,wr hd,wr he,wr hf,wr hg,wr hh,show d9l .u64 a 56 = a * 2 ^ 56 % 2 ^ 64 from sl64 56 (by decide),show d9l .u64 b 48 = b * 2 ^ 48 % 2 ^ 64 from sl64 48 (by decide),show d9l .u64 c 40 = c * 2 ^ 40 % 2 ^ 64 from sl64 40 (by decide),show d9l .u64 d 32 = d * 2 ^ 32 % 2 ^ 64 from sl64 32 (by decide),show d9l .u64 e 24 = e * 2 ^ 24 % 2 ^ 64 from sl64 24 (by decide),show d9l .u64 f 16 = f * 2 ^ 16 % 2 ^ 64 from sl64 16 (by decide),show d9l .u64 g 8 = g * 2 ^ 8 % 2 ^ 64 from sl64 8 (by decide)]
 have e1 : ior .u64 (a * 2 ^ 56 % 2 ^ 64) (b * 2 ^ 48 % 2 ^ 64) = a * 72057594037927936 + b * 281474976710656:=by
  rw [a5z (k := .u64) rfl 56 (by omega) (by omega) (by omega) (by simp [IntKind.bits];omega)];omega
 have e2 : ior .u64 (a * 72057594037927936 + b * 281474976710656) (c * 2 ^ 40 % 2 ^ 64) = a * 72057594037927936 + b * 281474976710656 + c * 1099511627776:=by
  rw [a5z (k := .u64) rfl 48 (by omega) (by omega) (by omega) (by simp [IntKind.bits];omega)];omega
 have e3 : ior .u64 (a * 72057594037927936 + b * 281474976710656 + c * 1099511627776) (d * 2 ^ 32 % 2 ^ 64) = a * 72057594037927936 + b * 281474976710656 + c * 1099511627776 + d * 4294967296:=by
  rw [a5z (k := .u64) rfl 40 (by omega) (by omega) (by omega) (by simp [IntKind.bits];omega)];omega
 have e4 : ior .u64 (a * 72057594037927936 + b * 281474976710656 + c * 1099511627776 + d * 4294967296) (e * 2 ^ 24 % 2 ^ 64) = a * 72057594037927936 + b * 281474976710656 + c * 1099511627776 + d * 4294967296 + e * 16777216:=by
  rw [a5z (k := .u64) rfl 32 (by omega) (by omega) (by omega) (by simp [IntKind.bits];omega)];omega
 have e5 : ior .u64 (a * 72057594037927936 + b * 281474976710656 + c * 1099511627776 + d * 4294967296 + e * 16777216) (f * 2 ^ 16 % 2 ^ 64) = a * 72057594037927936 + b * 281474976710656 + c * 1099511627776 + d * 4294967296 + e * 16777216 + f * 65536:=by
  rw [a5z (k := .u64) rfl 24 (by omega) (by omega) (by omega) (by simp [IntKind.bits];omega)];omega
 have e6 : ior .u64 (a * 72057594037927936 + b * 281474976710656 + c * 1099511627776 + d * 4294967296 + e * 16777216 + f * 65536) (g * 2 ^ 8 % 2 ^ 64) = a * 72057594037927936 + b * 281474976710656 + c * 1099511627776 + d * 4294967296 + e * 16777216 + f * 65536 + g * 256:=by
  rw [a5z (k := .u64) rfl 16 (by omega) (by omega) (by omega) (by simp [IntKind.bits];omega)];omega
 have e7 : ior .u64 (a * 72057594037927936 + b * 281474976710656 + c * 1099511627776 + d * 4294967296 + e * 16777216 + f * 65536 + g * 256) h = a * 72057594037927936 + b * 281474976710656 + c * 1099511627776 + d * 4294967296 + e * 16777216 + f * 65536 + g * 256 + h:=by
  rw [a5z (k := .u64) rfl 8 (by omega) (by omega) (by omega) (by simp [IntKind.bits];omega)]
 rw [e1,e2,e3,e4,e5,e6,e7]
 simp only [beS,List.foldl_cons,List.foldl_nil,Wd]
 omega
theorem a0p (w : Nat) (b : List Int) : ∀ n,(d8k w b n).length = n
 | 0=>rfl
 | n + 1=>by simp [d8k,a0p w b n]
def d8e (N w : Nat) (b : List Int) (n : Nat) : List Int:=d8k w b n ++ List.replicate (N - n) 0
theorem a2g {N w : Nat} {b : List Int} {n : Nat} (h : n < N) : (d8e N w b n).set n (d9r w b (d8k w b n)) = d8e N w b (n + 1):=by
 unfold d8e
 have e : List.replicate (N - n) (0 : Int) = 0 :: List.replicate (N - (n + 1)) 0:=by rw [← List.replicate_succ];congr 1;omega
 rw [List.set_append,if_neg (by rw [a0p];omega),a0p,Nat.sub_self,e,List.set_cons_zero]
 simp [d8k]
theorem a4f {N w : Nat} {b : List Int} {n j : Nat} (h : j < n) : (d8e N w b n).getD j 0 = (d8k w b n).getD j 0:=by
 unfold d8e
 rw [List.getD,List.getD,List.getElem?_append_left (by rw [a0p];exact h)]
theorem a5a {w : Nat} {b : List Int} (hw : ∀ n,n < 16 → Wd w (beS ((b.drop (w / 8 * n)).take (w / 8)))) : ∀ n, ∀ x ∈ d8k w b n,Wd w x
 | 0,x,h=>by cases h
 | n + 1,x,h=>by
  rcases List.mem_append.1 h with h | h
  ·exact a5a hw n x h
  ·simp only [List.mem_singleton] at h
   subst h
   unfold d9r
   rw [a0p]
   split
   ·rename_i hn;exact hw n hn
   ·exact ⟨Int.emod_nonneg _ (Int.ne_of_gt (pos2 w)),Int.emod_lt_of_pos _ (pos2 w)⟩
theorem a50 {w : Nat} {l : List Int} (h : ∀ x ∈ l,Wd w x) (i : Nat) : Wd w (l.getD i 0):=by
 by_cases hi : i < l.length
 ·rw [List.getD,List.getElem?_eq_getElem hi];exact h _ (List.getElem_mem hi)
 ·rw [List.getD,List.getElem?_eq_none (by omega)];exact ⟨by decide,pos2 w⟩
theorem a0i {l : List Int} (h : ∀ x ∈ l,B8S x) (i : Nat) : B8S (l.getD i 0):=by
 by_cases hi : i < l.length
 ·rw [List.getD,List.getElem?_eq_getElem hi];exact h _ (List.getElem_mem hi)
 ·rw [List.getD,List.getElem?_eq_none (by omega)];exact ⟨by decide,by decide⟩
end Go.Sh
