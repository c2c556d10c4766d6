/- The reference's long division: what was taken too often is put back. Own work. -/
import Derived.Test.YthelmpjkkkhopaaGreatDoorZEeRemC
set_option linter.unusedSimpArgs false
set_option linter.unusedVariables false
set_option linter.unusedSectionVars false
namespace Go.Proofs.YthelmpjkkkhopaaGreatDoor
open Go.Ev Go.Wn
set_option maxRecDepth 100000
theorem b74 {n : Nat} {j bo : Int} {x : Nat → AV} : (∀ p ∈ e8m n j bo,x p.1 = p.2) ↔ x 5 = .int false .i64 n ∧ x 7 = .ptr false 5 0 ∧ x 8 = .ptr false 6 0 ∧ x 11 = .int true .i64 j ∧ x 13 = .int true .u64 bo:=by simp [e8m]
theorem c49 {st : St} {t : List AV} {m : Mem} (h1 : st.tm = t) (h2 : st.mem = m) : st = ⟨t,m⟩:=by cases st;simp only at h1 h2;rw [h1,h2]
structure I10 (n : Nat) (j : Int) (x4 x6 : AV) (u m r b a : List Int) (v : Int) (s : List Int × Int) (st1 : St) : Prop where
 len : st1.tm.length = 239
 sl : ∀ p ∈ e8m n j s.2,st1.tm.getD p.1 .top = p.2
 k4 : st1.tm.getD 4 .top = x4
 k6 : st1.tm.getD 6 .top = x6
 mem : st1.mem = e1u u m r b s.1
 al : s.1.length = 10
 w : ∀ t,W (s.1.getD t 0)
 out : ∀ t,t < j.toNat ∨ j.toNat + (n + 1) ≤ t → s.1.getD t 0 = a.getD t 0
 bo : 0 ≤ s.2 ∧ s.2 ≤ 1
 lt : e2q s.1 j s.2 n < d9a b n
 eq : e2q s.1 j s.2 n % d9a b n = v
set_option maxHeartbeats 1000000 in
theorem c4a {c : Code} {st st' : St} {o : List Bool} (hc : Code.block 10 c ∈ subs (d80 Tryz.prog 65)) (hl : remΛ1 10 st = some (o,st')) (ho : d7x o) : Ok Tryz.prog (.block 10 c) st (fun p=>p = (.normal,st')):=by
 unfold remΛ1 at hl
 simp only at hl
 split at hl
 case h_2=>cases hl
 rename_i n j bo0 S h5 h11 h13 hmem hfl
 cases hl
 rw [Bool.and_eq_true,Bool.and_eq_true] at hfl
 have e5:=b02 h5
 have e11:=c47 h11
 have em:=b71 hmem
 have e7:=b70 hfl.1.1
 have e8:=b70 hfl.1.2
 have hlen:=Nat.eq_of_beq_eq_true hfl.2
 obtain ⟨u,m,r,b,a⟩:=S
 simp only at em ho ⊢
 unfold o10 at ho
 have p1:=ho _ (f9b ..)
 have p2:=ho _ (f9a _ (f9b ..))
 have p3:=ho _ (f9a _ (f9a _ (f9b ..)))
 have p4:=ho _ (f9a _ (f9a _ (f9a _ (f9b ..))))
 have p5:=ho _ (f9a _ (f9a _ (f9a _ (f9a _ (f9b ..)))))
 have p6:=ho _ (f9a _ (f9a _ (f9a _ (f9a _ (f9a _ (f9b ..))))))
 have p7:=ho _ (f9a _ (f9a _ (f9a _ (f9a _ (f9a _ (f9a _ (f9b ..)))))))
 have p8:=ho _ (f9a _ (f9a _ (f9a _ (f9a _ (f9a _ (f9a _ (f9a _ (f9b ..))))))))
 rw [decide_eq_true_eq] at p1 p2 p3 p4 p7 p8
 clear ho
 have hR:=c9g p1
 have hb:=a7p p6
 refine a2w (q:=d93) mixed a9g LOk.none (n:=100) (σ:=List Int × Int) (inv:=I10 n j (st.tm.getD 4 .top) (st.tm.getD 6 .top) u m r b a (e2q a j bo0 n % d9a b n)) (μ:=fun s=>(- e2q s.1 j s.2 n).toNat) hc (by kernel_rfl) (by kernel_rfl)
  (fun s st1 hi => ?_) (a,bo0) st ⟨d8m (ups (fun t=>st.tm.getD t .top) (e8m n j bo0)) 239,e1u u m r b a⟩ ?_ (Wk.head hlen em.symm ?_)
 ·obtain ⟨al,bo⟩:=s
  obtain ⟨i1,i2,i3,i4,i5,i6,i7,i8,i9,i10,i11⟩:=hi
  simp only at i2 i5 i6 i7 i8 i9 i10 i11
  have ee : st1 = ⟨d8m (ups (fun t=>st1.tm.getD t .top) (e8m n j bo)) 239,e1u u m r b al⟩:=c49 (a9p i1 i2) i5
  have k4 : (fun t=>st1.tm.getD t .top) 4 = st.tm.getD 4 .top:=i3
  have k6 : (fun t=>st1.tm.getD t .top) 6 = st.tm.getD 6 .top:=i4
  rw [ee]
  generalize (fun t=>st1.tm.getD t .top) = x at k4 k6 ⊢
  obtain ⟨R1,R2⟩:=hR x j bo u m r b al
  obtain ⟨g1,g2,g3,g4,g5,g6⟩:=c48 (n:=n) (bo:=bo) p2 i6 i7 hb
  by_cases hbo : bo > 0
  ·refine a7u R1 (a00 (decide_eq_true hbo) (a01.2 ⟨b73 p2 g6 n (Nat.le_refl _),b03 p2 (Nat.le_refl _) (decide_eq_true (g6 n (Nat.le_refl _)))⟩)) fun e st2 he hs hn hm => ?_
   cases e with
   | normal =>
    have hw : IntKind.u64.wrap (bo - e3v b al j n / 18446744073709551616) = bo - e3v b al j n / 18446744073709551616:=e2n (by omega)
    rw [hw] at hs
    simp only [List.map_cons,List.map_nil,List.cons.injEq,and_true] at hs
    obtain ⟨s4,s5,s6,s7,s8,s11,s13⟩:=hs
    have hneg : e2q al j bo n < 0:=by
     have hr:=a1e (f:=fun t=>al.getD (j.toNat + t) 0) (fun t=>i7 _) (n + 1)
     have h1 : bo = 1:=by omega
     subst h1
     unfold e2q
     omega
    refine ⟨(e5m b al j n,bo - e3v b al j n / 18446744073709551616),⟨hn,(b74 (x:=fun t=>st2.tm.getD t .top)).2 ⟨s5,s7,s8,s11,s13⟩,by rw [s4];exact k4,by rw [s6];exact k6,hm,g1,g2,fun t ht=>by rw [g3 t ht];exact i8 t ht,by show 0 ≤ _ ∧ _ ≤ (1 : Int);omega, ?_, ?_⟩, ?_⟩
    ·show e2q _ j _ n < _
     rw [g5];omega
    ·show e2q _ j _ n % _ = _
     rw [g5,Int.add_emod_right];exact i11
    ·show (- e2q _ j _ n).toNat < (- e2q al j bo n).toNat
     rw [g5];omega
   | exit i=>simp [exN] at he
   | ret=>simp [exN] at he
  ·refine a7u R2 (a00 (by rw [decide_eq_false hbo];rfl) d7x.nil) fun e st2 he hs hn hm => ?_
   have hb0 : bo = 0:=by omega
   subst hb0
   cases e with
   | normal=>simp [exN] at he
   | ret=>simp [exN] at he
   | exit i =>
    have hi10 : i = 10:=by simp [exN] at he;exact he
    subst hi10
    simp only [List.map_cons,List.map_nil,List.cons.injEq,and_true] at hs
    obtain ⟨s4,s5,s6,s7,s8,s11,s13⟩:=hs
    refine ⟨st2,rfl, ?_⟩
    have hst : st2 = ⟨d8m (fun t=>st2.tm.getD t .top) 239,st2.mem⟩:=c49 (a8b hn) rfl
    rw [hst]
    refine Wk.tail ?_ ?_
    ·rw [hm]
     have hr:=a1e (f:=fun t=>al.getD (j.toNat + t) 0) (fun t=>i7 _) (n + 1)
     have hv : e2q al j 0 n = sg (fun t=>al.getD (j.toNat + t) 0) (n + 1):=by unfold e2q;omega
     have hmod : e2q a j bo0 n % d9a b n = sg (fun t=>al.getD (j.toNat + t) 0) (n + 1):=by
      rw [← i11,hv]
      rw [hv] at i10
      exact Int.emod_eq_of_lt hr.1 i10
     have:=c69 (a:=a) (al:=al) (J:=j.toNat) (n:=n + 1) (by rw [i6,p4]) (by rw [p4];omega) i7 i8
     unfold e3x
     rw [hmod, ← this]
    ·intro p hp
     simp only [List.mem_cons,List.not_mem_nil,or_false] at hp
     rcases hp with rfl | rfl | rfl | rfl | rfl | rfl
     ·show st2.tm.getD 4 .top = _;rw [s4];exact k4
     ·exact s5
     ·show st2.tm.getD 6 .top = _;rw [s6];exact k6
     ·exact s7
     ·exact s8
     ·exact s11
 ·refine ⟨a1a, ?_, ?_, ?_,rfl,p4,a7p p5,fun _ _=>rfl,p3,p8,rfl⟩
  ·refine (b74 (x:=fun t=>(d8m _ 239).getD t .top)).2 ⟨?_, ?_, ?_, ?_, ?_⟩ <;> simp only [a04 (show 5 < 239 by omega),a04 (show 7 < 239 by omega),a04 (show 8 < 239 by omega),a04 (show 11 < 239 by omega),a04 (show 13 < 239 by omega)] <;> rfl
  ·simp only [a04 (show 4 < 239 by omega)];rfl
  ·simp only [a04 (show 6 < 239 by omega)];rfl
 ·intro p hp ρ N v hr'
  simp only [e8m,List.mem_cons,List.not_mem_nil,or_false] at hp
  rcases hp with rfl | rfl | rfl | rfl | rfl
  ·rw [e5] at hr';exact hr'
  ·rw [e7] at hr';exact hr'
  ·rw [e8] at hr';exact hr'
  ·rw [e11] at hr';exact hr'
  ·exact a1p h13 hr'
end Go.Proofs.YthelmpjkkkhopaaGreatDoor
namespace Go.Proofs.YthelmpjkkkhopaaGreatDoor
open Go.Ev Go.Wn
set_option maxRecDepth 100000
def r6U (n : Nat) (j : Int) : List (Nat × AV):=[(5, .int false .i64 n),(7, .ptr false 5 0),(8, .ptr false 6 0),(11, .int true .i64 j)]
def dMS (q : Int) (b a : List Int) (j : Int) : Nat → List Bool
 | 0=>[]
 | i + 1=>dMS q b a j i ++ (true :: dJ j i (decide ((msN q b (jx j) a i).2.1 ≤ 1)))
def msT (q : Int) (b a : List Int) (j : Int) (n : Nat) : List Int:=
 (msN q b (jx j) a n).1.set (jx j n) (((msN q b (jx j) a n).1.getD (jx j n) 0 - (msN q b (jx j) a n).2.2 - (msN q b (jx j) a n).2.1) % 18446744073709551616)
def msB (q : Int) (b a : List Int) (j : Int) (n : Nat) : Int:=if (msN q b (jx j) a n).1.getD (jx j n) 0 < (msN q b (jx j) a n).2.2 + (msN q b (jx j) a n).2.1 then 1 else 0
def wy (j : Int) (n : Nat) : Int:=IntKind.i64.wrap (IntKind.i64.wrap (j + (n : Int)) - 1)
def jy (j : Int) (n : Nat) : Nat:=0 + (wy j n).toNat * 1
def qT (b a : List Int) (j : Int) (n : Nat) : Int:=(a.getD (jx j n) 0 * 18446744073709551616 + a.getD (jy j n) 0) / b.getD (n - 1) 0
def d6 (q : Int) (b a : List Int) (j : Int) (n : Nat) : List Bool:=dMS q b a j n ++ (dJ j n (decide ((msN q b (jx j) a n).2.1 ≤ 1)) ++ o10 n j (msB q b a j n) b (msT q b a j n))
def d6T (b a : List Int) (j : Int) (n : Nat) : List Bool:=
 [decide (j ≥ 0),dIx j n,decide (jx j n + 1 ≤ 10),decide (a.getD (jx j n) 0 < b.getD (n - 1) 0),dIx j n,decide (jx j n + 1 ≤ 10),decide (0 ≤ wy j n) && decide (wy j n < ((10 : Nat) : Int)),decide (jy j n + 1 ≤ 10),
  decide (a.getD (jx j n) 0 < b.getD (n - 1) 0),decide (9223372036854775808 ≤ b.getD (n - 1) 0)]
def d6F (b a : List Int) (j : Int) (n : Nat) : List Bool:=[decide (j ≥ 0),dIx j n,decide (jx j n + 1 ≤ 10), !decide (a.getD (jx j n) 0 < b.getD (n - 1) 0)]
def R6 (n : Nat) : Prop := ∀ (x : Nat → AV) (j : Int) (u m r b a : List Int),
 obs [4,5,6,7,8,11] ((d8d Tryz.prog d93 hv3 remΛ1 100 (lp (blk 6 (d80 Tryz.prog 65))) ⟨d8m (ups x (r6U n j)) 239,e1u u m r b a⟩).go [true,true]) =
  some (d6T b a j n ++ d6 (qT b a j n) b a j n,0,[x 4, .int false .i64 n,x 6, .ptr false 5 0, .ptr false 6 0, .int true .i64 (IntKind.i64.wrap (j - 1))],239,e1u u m r b (e3x n j (msB (qT b a j n) b a j n) b (msT (qT b a j n) b a j n))) ∧
 obs [4,5,6,7,8,11] ((d8d Tryz.prog d93 hv3 remΛ1 100 (lp (blk 6 (d80 Tryz.prog 65))) ⟨d8m (ups x (r6U n j)) 239,e1u u m r b a⟩).go [true,false]) =
  some (d6F b a j n ++ d6 18446744073709551615 b a j n,0,[x 4, .int false .i64 n,x 6, .ptr false 5 0, .ptr false 6 0, .int true .i64 (IntKind.i64.wrap (j - 1))],239,e1u u m r b (e3x n j (msB 18446744073709551615 b a j n) b (msT 18446744073709551615 b a j n))) ∧
 obs [4,5,6,7,8,11] ((d8d Tryz.prog d93 hv3 remΛ1 100 (lp (blk 6 (d80 Tryz.prog 65))) ⟨d8m (ups x (r6U n j)) 239,e1u u m r b a⟩).go [false]) =
  some ([!decide (j ≥ 0)],8,[x 4, .int false .i64 n,x 6, .ptr false 5 0, .ptr false 6 0, .int true .i64 j],239,e1u u m r b a)
theorem R6_1 : R6 1:=fun x j u m r b a=>⟨by kernel_rfl,by kernel_rfl,by kernel_rfl⟩
theorem R6_2 : R6 2:=fun x j u m r b a=>⟨by kernel_rfl,by kernel_rfl,by kernel_rfl⟩
theorem R6_3 : R6 3:=fun x j u m r b a=>⟨by kernel_rfl,by kernel_rfl,by kernel_rfl⟩
theorem R6_4 : R6 4:=fun x j u m r b a=>⟨by kernel_rfl,by kernel_rfl,by kernel_rfl⟩
theorem d3i {n : Nat} (h : 1 ≤ n ∧ n ≤ 4) : R6 n:=by
 match n,h with
 | 1,_=>exact R6_1
 | 2,_=>exact R6_2
 | 3,_=>exact R6_3
 | 4,_=>exact R6_4
 | 0,h=>exact absurd h.1 (by decide)
 | k + 5,h=>exact absurd h.2 (by omega)
end Go.Proofs.YthelmpjkkkhopaaGreatDoor
namespace Go.Wn
open Go.Ev
theorem b04 (f : Nat → Int) : ∀ k : Nat,sg f (k + 1) = f 0 + 18446744073709551616 * sg (fun t=>f (t + 1)) k
 | 0=>by simp [sg]
 | k + 1=>by
  rw [sg,b04 f k,sg,Int.pow_succ]
  grind
theorem b2a {X : Int} : ∀ {k : Nat},0 ≤ X → X < 18446744073709551616 ^ k → sg (fun t=>X / 18446744073709551616 ^ t % 18446744073709551616) k = X
 | 0,h0,h1=>by
  rw [Int.pow_zero] at h1
  have : X = 0:=by omega
  subst this
  rfl
 | k + 1,h0,h1=>by
  rw [b04]
  have hd : 0 ≤ X / 18446744073709551616:=Int.ediv_nonneg h0 (by omega)
  have hl : X / 18446744073709551616 < 18446744073709551616 ^ k:=by
   apply Int.ediv_lt_of_lt_mul (by omega)
   rw [Int.pow_succ] at h1
   omega
  have ih:=b2a hd hl
  have e : (fun t=>X / 18446744073709551616 ^ (t + 1) % 18446744073709551616) = fun t=>X / 18446744073709551616 / 18446744073709551616 ^ t % 18446744073709551616:=by
   funext t
   rw [Int.ediv_ediv_of_nonneg (by omega),Int.pow_succ,Int.mul_comm]
  rw [e,ih,Int.pow_zero,Int.ediv_one]
  omega
theorem a70 {X : Int} {n t : Nat} (h0 : 0 ≤ X) (h1 : X < 18446744073709551616 ^ n) (ht : n ≤ t) : X / 18446744073709551616 ^ t % 18446744073709551616 = 0:=by
 have : (18446744073709551616 : Int) ^ n ≤ 18446744073709551616 ^ t:=by
  have e : (18446744073709551616 : Int) ^ t = 18446744073709551616 ^ n * 18446744073709551616 ^ (t - n):=by rw [← Int.pow_add];congr 1;omega
  have h2:=Int.mul_le_mul_of_nonneg_left (show (1 : Int) ≤ 18446744073709551616 ^ (t - n) from bp (t - n)) (Int.le_of_lt (bp n))
  rw [Int.mul_one] at h2
  rw [e];exact h2
 rw [Int.ediv_eq_zero_of_lt h0 (by omega)]
 rfl
theorem f3l (X : Int) (t : Nat) : W (X / 18446744073709551616 ^ t % 18446744073709551616):=by unfold W;omega
theorem b2b {a al : List Int} {J k : Nat} {X : Int} (hl : al.length = a.length) (hJ : J + k ≤ a.length) (ho : ∀ t,t < J ∨ J + k ≤ t → al.getD t 0 = a.getD t 0) : e0g al J X k = e0g a J X k:=by
 apply a2j (by rw [a2e,a2e,hl])
 intro t ht
 rw [a3x (by rw [hl];exact hJ),a3x hJ]
 split
 ·rfl
 ·exact ho t (by omega)
def d9u (a0 : List Int) (B : Int) (k : Nat) : List Int:=
 (List.range 10).map fun t=>if t < k then a0.getD t 0 else (sg (fun t=>a0.getD t 0) 10 / 18446744073709551616 ^ k % B) / 18446744073709551616 ^ (t - k) % 18446744073709551616
theorem a3a {a0 : List Int} {B : Int} {k : Nat} : (d9u a0 B k).length = 10:=by simp [d9u]
theorem a3z {a0 : List Int} {B : Int} {k t : Nat} (ht : t < 10) : (d9u a0 B k).getD t 0 = if t < k then a0.getD t 0 else (sg (fun t=>a0.getD t 0) 10 / 18446744073709551616 ^ k % B) / 18446744073709551616 ^ (t - k) % 18446744073709551616:=by
 unfold d9u
 simp [List.getD,ht]
theorem c77 {a0 : List Int} {B : Int} {k : Nat} (hw : ∀ t,W (a0.getD t 0)) (t : Nat) : W ((d9u a0 B k).getD t 0):=by
 by_cases ht : t < 10
 ·rw [a3z ht]
  split
  ·exact hw t
  ·exact f3l _ _
 ·rw [List.getD,List.getElem?_eq_none (by rw [a3a];omega)]
  exact ⟨by decide,by decide⟩
theorem b75 {a0 : List Int} {B : Int} {k n : Nat} (hw : ∀ t,W (a0.getD t 0)) (hB : 0 < B) (hBn : B ≤ 18446744073709551616 ^ n) (hk : 1 ≤ k) (hkn : k + n ≤ 10) :
  sg (fun t=>(d9u a0 B k).getD (k - 1 + t) 0) (n + 1) = a0.getD (k - 1) 0 + 18446744073709551616 * (sg (fun t=>a0.getD t 0) 10 / 18446744073709551616 ^ k % B) ∧
  sg (fun t=>(d9u a0 B k).getD (k - 1 + t) 0) (n + 1) % B = sg (fun t=>a0.getD t 0) 10 / 18446744073709551616 ^ (k - 1) % B:=by
 have hR0:=Int.emod_nonneg (sg (fun t=>a0.getD t 0) 10 / 18446744073709551616 ^ k) (show B ≠ 0 by omega)
 have hR1:=Int.emod_lt_of_pos (sg (fun t=>a0.getD t 0) 10 / 18446744073709551616 ^ k) hB
 have e1 : sg (fun t=>(d9u a0 B k).getD (k - 1 + t) 0) (n + 1) = a0.getD (k - 1) 0 + 18446744073709551616 * (sg (fun t=>a0.getD t 0) 10 / 18446744073709551616 ^ k % B):=by
  rw [b04]
  have c0 : (d9u a0 B k).getD (k - 1 + 0) 0 = a0.getD (k - 1) 0:=by rw [a3z (by omega),if_pos (by omega)];rfl
  have c1 : sg (fun t=>(d9u a0 B k).getD (k - 1 + (t + 1)) 0) n = sg (fun t=>(sg (fun t=>a0.getD t 0) 10 / 18446744073709551616 ^ k % B) / 18446744073709551616 ^ t % 18446744073709551616) n:=
   a4b fun t ht=>by rw [a3z (by omega),if_neg (by omega),show k - 1 + (t + 1) - k = t by omega]
  rw [c0,c1,b2a hR0 (by omega)]
 refine ⟨e1, ?_⟩
 rw [e1]
 have hd:=a7t hw (n:=10) (k:=k - 1) (by omega)
 have hp:=bp (k - 1)
 have e2 : sg (fun t=>a0.getD t 0) 10 / 18446744073709551616 ^ k = sg (fun t=>a0.getD t 0) 10 / 18446744073709551616 ^ (k - 1) / 18446744073709551616:=by
  rw [Int.ediv_ediv_of_nonneg (Int.le_of_lt hp), ← Int.pow_succ,show (k - 1).succ = k by omega]
 have e3 : sg (fun t=>a0.getD t 0) 10 / 18446744073709551616 ^ (k - 1) = a0.getD (k - 1) 0 + 18446744073709551616 * (sg (fun t=>a0.getD t 0) 10 / 18446744073709551616 ^ k):=by
  rw [e2, ← hd];omega
 rw [e3]
 generalize sg (fun t=>a0.getD t 0) 10 / 18446744073709551616 ^ k = Y
 rw [Int.add_emod,a1c, ← Int.add_emod]
theorem c0n {a0 : List Int} {B : Int} {k n : Nat} (hw : ∀ t,W (a0.getD t 0)) (hB : 0 < B) (hBn : B ≤ 18446744073709551616 ^ n) (hk : 1 ≤ k) (hkn : k + n ≤ 10) :
  e0g (d9u a0 B k) (k - 1) (sg (fun t=>(d9u a0 B k).getD (k - 1 + t) 0) (n + 1) % B) (n + 1) = d9u a0 B (k - 1):=by
 rw [(b75 hw hB hBn hk hkn).2]
 have hR0:=Int.emod_nonneg (sg (fun t=>a0.getD t 0) 10 / 18446744073709551616 ^ k) (show B ≠ 0 by omega)
 have hR1:=Int.emod_lt_of_pos (sg (fun t=>a0.getD t 0) 10 / 18446744073709551616 ^ k) hB
 have hX0:=Int.emod_nonneg (sg (fun t=>a0.getD t 0) 10 / 18446744073709551616 ^ (k - 1)) (show B ≠ 0 by omega)
 have hX1:=Int.emod_lt_of_pos (sg (fun t=>a0.getD t 0) 10 / 18446744073709551616 ^ (k - 1)) hB
 apply a2j (by rw [a2e,a3a,a3a])
 intro t ht
 rw [a2e,a3a] at ht
 rw [a3x (by rw [a3a];omega),a3z ht,a3z ht]
 by_cases h1 : t < k - 1
 ·rw [if_neg (by omega),if_pos (by omega),if_pos h1]
 ·by_cases h2 : t < k - 1 + (n + 1)
  ·rw [if_pos (by omega),if_neg h1]
  ·rw [if_neg (by omega),if_neg (by omega),if_neg h1,a70 hR0 (n:=n) (by omega) (by omega),a70 hX0 (n:=n) (by omega) (by omega)]
theorem c4b {f b : Nat → Int} {n : Nat} (hn : 1 ≤ n) (hf : ∀ t,W (f t)) (hb : ∀ t,W (b t)) (hy : 0 < b (n - 1)) : sg f (n + 1) / sg b n ≤ (f n * 18446744073709551616 + f (n - 1)) / b (n - 1):=by
 obtain ⟨k,rfl⟩ : ∃ k,n = k + 1:=⟨n - 1,by omega⟩
 simp only [Nat.add_sub_cancel] at *
 have r1:=a1e hf k
 have r2:=a1e hb k
 have hp:=bp k
 have e1 : sg f (k + 1 + 1) = sg f k + (f (k + 1) * 18446744073709551616 + f k) * 18446744073709551616 ^ k:=by
  rw [sg,sg,Int.pow_succ];grind
 have h0:=(a1e hf (k + 1 + 1)).1
 refine c68 hp hy ?_ ?_ h0
 ·rw [sg];omega
 ·rw [e1]
  generalize f (k + 1) * 18446744073709551616 + f k = c
  rw [Int.add_mul,Int.one_mul];omega
theorem c9h {V B q : Int} (hB : 0 < B) (h : V / B ≤ q) : V - q * B < B:=by
 have h1:=Int.lt_ediv_add_one_mul_self V hB
 have h2 : (V / B) * B ≤ q * B:=Int.mul_le_mul_of_nonneg_right h (by omega)
 rw [Int.add_mul,Int.one_mul] at h1
 omega
end Go.Wn
namespace Go.Proofs.YthelmpjkkkhopaaGreatDoor
open Go.Ev Go.Wn
theorem d3j {q : Int} {n : Nat} {j : Int} {b a : List Int} (h : 0 ≤ j ∧ j + n ≤ 9) (hl : a.length = 10) (hw : ∀ t,W (a.getD t 0)) (hb : ∀ t,W (b.getD t 0)) (hq : W q) :
  (msT q b a j n).length = 10 ∧ (∀ t,W ((msT q b a j n).getD t 0)) ∧ (∀ t,t < j.toNat ∨ j.toNat + (n + 1) ≤ t → (msT q b a j n).getD t 0 = a.getD t 0) ∧ (0 ≤ msB q b a j n ∧ msB q b a j n ≤ 1) ∧
   e2q (msT q b a j n) j (msB q b a j n) n = sg (fun t=>a.getD (j.toNat + t) 0) (n + 1) - q * d9a b n ∧ ∀ i,i ≤ n → (msN q b (jx j) a i).2.1 ≤ 1:=by
 have hs:=c34 hl hw hb hq (b93 h) (J:=j.toNat) (by omega)
 obtain ⟨e1,e2,e3,e4,e5,e6⟩:=hs n (Nat.le_refl _)
 have hx:=b93 h n (Nat.le_refl _)
 have hk : j.toNat + n < (msN q b (jx j) a n).1.length:=by omega
 have c2 : (msN q b (jx j) a n).1.getD (j.toNat + n) 0 = a.getD (j.toNat + n) 0:=e3 _ (by omega)
 have w1:=hw (j.toNat + n)
 have g : W ((a.getD (j.toNat + n) 0 - (msN q b (jx j) a n).2.2 - (msN q b (jx j) a n).2.1) % 18446744073709551616) ∧ (0 ≤ msB q b a j n ∧ msB q b a j n ≤ 1) ∧
   a.getD (j.toNat + n) 0 - (msN q b (jx j) a n).2.2 - (msN q b (jx j) a n).2.1 = (a.getD (j.toNat + n) 0 - (msN q b (jx j) a n).2.2 - (msN q b (jx j) a n).2.1) % 18446744073709551616 - msB q b a j n * 18446744073709551616:=by
  unfold msB
  rw [hx,c2]
  unfold W at *
  split <;> omega
 obtain ⟨g1,g2,g3⟩:=g
 refine ⟨by unfold msT;simp [e1],by unfold msT;rw [hx,c2];exact b9q e2 g1,fun t ht => ?_,g2, ?_,fun i hi=>(hs i hi).2.2.2.1.2⟩
 ·unfold msT
  rw [hx,a0j hk,if_neg (by omega)]
  exact e3 t (by omega)
 ·have c1 : sg (fun t=>(msT q b a j n).getD (j.toNat + t) 0) n = sg (fun t=>(msN q b (jx j) a n).1.getD (j.toNat + t) 0) n:=
   a4b fun t ht=>by unfold msT;rw [hx,a0j hk,if_neg (by omega)]
  have c3 : (msT q b a j n).getD (j.toNat + n) 0 = (a.getD (j.toNat + n) 0 - (msN q b (jx j) a n).2.2 - (msN q b (jx j) a n).2.1) % 18446744073709551616:=by unfold msT;rw [hx,a0j hk,if_pos rfl,c2]
  unfold e2q d9a
  simp only [sg]
  rw [c1,c3,Int.pow_succ]
  generalize (a.getD (j.toNat + n) 0 - (msN q b (jx j) a n).2.2 - (msN q b (jx j) a n).2.1) % 18446744073709551616 = X at *
  generalize msB q b a j n = bo' at *
  generalize a.getD (j.toNat + n) 0 = x at *
  generalize (18446744073709551616 : Int) ^ n = p at *
  generalize sg (fun t=>a.getD (j.toNat + t) 0) n = A at *
  generalize sg (fun t=>b.getD t 0) n = Bs at *
  generalize sg (fun t=>(msN q b (jx j) a n).1.getD (j.toNat + t) 0) n = A' at *
  generalize (msN q b (jx j) a n).2.1 = bo at *
  generalize (msN q b (jx j) a n).2.2 = ca at *
  grind
end Go.Proofs.YthelmpjkkkhopaaGreatDoor
namespace Go.Wn
open Go.Ev
theorem b94 {a0 : List Int} {B : Int} {k : Nat} (hl : a0.length = 10) (hw : ∀ t,W (a0.getD t 0)) (hB : sg (fun t=>a0.getD t 0) 10 / 18446744073709551616 ^ k < B) : d9u a0 B k = a0:=by
 apply a2j (by rw [a3a,hl])
 intro t ht
 rw [a3a] at ht
 rw [a3z ht]
 split
 ·rfl
 ·have h0:=(a1e hw 10).1
  have hp:=bp k
  rw [Int.emod_eq_of_lt (Int.ediv_nonneg h0 (Int.le_of_lt hp)) hB,Int.ediv_ediv_of_nonneg (Int.le_of_lt hp), ← Int.pow_add,show k + (t - k) = t by omega]
  exact a7t hw ht
end Go.Wn
namespace Go.Proofs.YthelmpjkkkhopaaGreatDoor
open Go.Ev Go.Wn
set_option maxRecDepth 100000
theorem b4r {z : Int} (h : -9223372036854775808 ≤ z ∧ z < 9223372036854775808) : IntKind.i64.wrap z = z:=by unfold IntKind.wrap;simp [IntKind.bits,IntKind.signed];omega
theorem b05 {l : List Int} (h : ∀ t,W (l.getD t 0)) : e8n l = true:=by
 rw [e8n,List.all_eq_true]
 intro x hx
 obtain ⟨i,hi,rfl⟩:=List.getElem_of_mem hx
 have:=h i
 rw [List.getD,List.getElem?_eq_getElem hi] at this
 obtain ⟨h1,h2⟩:=this
 simp only [Option.getD_some] at h1 h2
 rw [Bool.and_eq_true,decide_eq_true_eq,decide_eq_true_eq]
 exact ⟨h1,h2⟩
theorem b76 {q : Int} {b a : List Int} {j : Int} {n : Nat} (h : 0 ≤ j ∧ j + n ≤ 9) (hc : ∀ i,i ≤ n → (msN q b (jx j) a i).2.1 ≤ 1) : ∀ i,i ≤ n → d7x (dMS q b a j i)
 | 0,_=>d7x.nil
 | i + 1,hi=>a01.2 ⟨b76 h hc i (by omega),a00 rfl (b03 h (by omega) (decide_eq_true (hc i (by omega))))⟩
theorem a9h {q : Int} {n k : Nat} {b a : List Int} (hn : 1 ≤ n ∧ n ≤ 4) (hk : 1 ≤ k) (hkn : k + n ≤ 10) (hw : ∀ t,W (a.getD t 0)) (hb : ∀ t,W (b.getD t 0)) (hB : 0 < d9a b n) (hq : W q)
  (hge : sg (fun t=>(d9u a (d9a b n) k).getD (k - 1 + t) 0) (n + 1) / d9a b n ≤ q) :
  d7x (d6 q b (d9u a (d9a b n) k) ((k : Int) - 1) n) ∧ e3x n ((k : Int) - 1) (msB q b (d9u a (d9a b n) k) ((k : Int) - 1) n) b (msT q b (d9u a (d9a b n) k) ((k : Int) - 1) n) = d9u a (d9a b n) (k - 1):=by
 have hj : 0 ≤ (k : Int) - 1 ∧ (k : Int) - 1 + n ≤ 9:=by omega
 have hJ : ((k : Int) - 1).toNat = k - 1:=by omega
 have hl : (d9u a (d9a b n) k).length = 10:=a3a
 have hW:=c77 (a0:=a) (B:=d9a b n) (k:=k) hw
 obtain ⟨g1,g2,g3,g4,g5,g6⟩:=d3j hj hl hW hb hq
 have hBn : d9a b n ≤ 18446744073709551616 ^ n:=Int.le_of_lt (a1e hb n).2
 have hseg : e2q (msT q b (d9u a (d9a b n) k) ((k : Int) - 1) n) ((k : Int) - 1) (msB q b (d9u a (d9a b n) k) ((k : Int) - 1) n) n < d9a b n:=by
  rw [g5,hJ]
  exact c9h hB hge
 refine ⟨?_, ?_⟩
 ·unfold d6 o10
  refine a01.2 ⟨b76 hj g6 n (Nat.le_refl _),a01.2 ⟨b03 hj (Nat.le_refl _) (decide_eq_true (g6 n (Nat.le_refl _))), ?_⟩⟩
  exact a00 (decide_eq_true hn) (a00 (decide_eq_true hj) (a00 (decide_eq_true g4) (a00 (decide_eq_true g1) (a00 (b05 g2) (a00 (b05 hb) (a00 (decide_eq_true hB) (a00 (decide_eq_true hseg) d7x.nil)))))))
 ·unfold e3x
  rw [g5,hJ] at *
  have e : (sg (fun t=>(d9u a (d9a b n) k).getD (k - 1 + t) 0) (n + 1) - q * d9a b n) % d9a b n = sg (fun t=>(d9u a (d9a b n) k).getD (k - 1 + t) 0) (n + 1) % d9a b n:=by
   rw [show sg (fun t=>(d9u a (d9a b n) k).getD (k - 1 + t) 0) (n + 1) - q * d9a b n = sg (fun t=>(d9u a (d9a b n) k).getD (k - 1 + t) 0) (n + 1) + (-q) * d9a b n by rw [Int.neg_mul];omega,Int.add_mul_emod_self_right]
  rw [e,b2b (a:=d9u a (d9a b n) k) (by rw [g1,hl]) (by rw [hl];omega) g3]
  exact c0n hw hB hBn hk hkn
def o6 (n j : Nat) (b a : List Int) : List Bool:=[decide (1 ≤ n ∧ n ≤ 4),decide (j + n = 9),decide (a.length = 10),e8n a,e8n b,decide (9223372036854775808 ≤ b.getD (n - 1) 0),decide (sg (fun t=>a.getD t 0) 10 / 18446744073709551616 ^ (10 - n) < d9a b n)]
def remΛ2 : d8r:=fun id st=>match id with
 | 6=>match e6n (st.tm.getD 5 .top),e6n (st.tm.getD 11 .top),e7r st.mem,f0f 5 (st.tm.getD 7 .top) && f0f 6 (st.tm.getD 8 .top) && Nat.beq st.tm.length 239 with
  | some n,some j,some s,true=>some (o6 n j s.b s.a,⟨d8m (ups (fun _ => .top) [(4,st.tm.getD 4 .top),(5, .int false .i64 n),(6,st.tm.getD 6 .top),(7, .ptr false 5 0),(8, .ptr false 6 0)]) 239,e1u s.u s.m s.r s.b (d9u s.a (d9a s.b n) 0)⟩)
  | _,_,_,_=>none
 | _=>none
theorem c4c : LOk Tryz.prog (d80 Tryz.prog 65) remΛ1:=by
 refine ⟨fun {id c st st' o} hc hl ho => ?_⟩
 have hid : id = 10:=by
  unfold remΛ1 at hl
  split at hl
  ·rfl
  ·cases hl
 subst hid
 exact c4a hc hl ho
theorem c0o {n : Nat} {j : Int} {x : Nat → AV} : (∀ p ∈ r6U n j,x p.1 = p.2) ↔ x 5 = .int false .i64 n ∧ x 7 = .ptr false 5 0 ∧ x 8 = .ptr false 6 0 ∧ x 11 = .int true .i64 j:=by simp [r6U]
structure I6 (n : Nat) (x4 x6 : AV) (u m r b a : List Int) (k : Nat) (st1 : St) : Prop where
 len : st1.tm.length = 239
 sl : ∀ p ∈ r6U n ((k : Int) - 1),st1.tm.getD p.1 .top = p.2
 k4 : st1.tm.getD 4 .top = x4
 k6 : st1.tm.getD 6 .top = x6
 mem : st1.mem = e1u u m r b (d9u a (d9a b n) k)
 le : k + n ≤ 10
set_option maxHeartbeats 1000000 in
theorem c9i {c : Code} {st st' : St} {o : List Bool} (hc : Code.block 6 c ∈ subs (d80 Tryz.prog 65)) (hl : remΛ2 6 st = some (o,st')) (ho : d7x o) : Ok Tryz.prog (.block 6 c) st (fun p=>p = (.normal,st')):=by
 unfold remΛ2 at hl
 simp only at hl
 split at hl
 case h_2=>cases hl
 rename_i n j0 S h5 h11 hmem hfl
 cases hl
 rw [Bool.and_eq_true,Bool.and_eq_true] at hfl
 have e5:=b02 h5
 have e11:=b02 h11
 have em:=b71 hmem
 have e7:=b70 hfl.1.1
 have e8:=b70 hfl.1.2
 have hlen:=Nat.eq_of_beq_eq_true hfl.2
 obtain ⟨u,m,r,b,a⟩:=S
 simp only at em ho ⊢
 unfold o6 at ho
 have p1:=ho _ (f9b ..)
 have p2:=ho _ (f9a _ (f9b ..))
 have p3:=ho _ (f9a _ (f9a _ (f9b ..)))
 have p4:=ho _ (f9a _ (f9a _ (f9a _ (f9b ..))))
 have p5:=ho _ (f9a _ (f9a _ (f9a _ (f9a _ (f9b ..)))))
 have p6:=ho _ (f9a _ (f9a _ (f9a _ (f9a _ (f9a _ (f9b ..))))))
 have p7:=ho _ (f9a _ (f9a _ (f9a _ (f9a _ (f9a _ (f9a _ (f9b ..)))))))
 rw [decide_eq_true_eq] at p1 p2 p3 p6 p7
 clear ho
 have hR:=d3i p1
 have hb:=a7p p5
 have ha:=a7p p4
 have hB : 0 < d9a b n:=by
  obtain ⟨i,rfl⟩ : ∃ i,n = i + 1:=⟨n - 1,by omega⟩
  simp only [Nat.add_sub_cancel] at p6
  have r1:=a1e hb i
  have hm:=Int.mul_pos (show 0 < b.getD i 0 by omega) (bp i)
  unfold d9a
  rw [sg]
  omega
 refine a2w (q:=d93) mixed a9g c4c (n:=100) (σ:=Nat) (inv:=I6 n (st.tm.getD 4 .top) (st.tm.getD 6 .top) u m r b a) (μ:=fun k=>k) hc (by kernel_rfl) (by kernel_rfl)
  (fun k st1 hi => ?_) (10 - n) st ⟨d8m (ups (fun t=>st.tm.getD t .top) (r6U n (((10 - n : Nat) : Int) - 1))) 239,e1u u m r b a⟩ ?_ (Wk.head hlen em.symm ?_)
 ·obtain ⟨i1,i2,i3,i4,i5,i6⟩:=hi
  have ee : st1 = ⟨d8m (ups (fun t=>st1.tm.getD t .top) (r6U n ((k : Int) - 1))) 239,e1u u m r b (d9u a (d9a b n) k)⟩:=c49 (a9p i1 i2) i5
  have k4 : (fun t=>st1.tm.getD t .top) 4 = st.tm.getD 4 .top:=i3
  have k6 : (fun t=>st1.tm.getD t .top) 6 = st.tm.getD 6 .top:=i4
  rw [ee]
  generalize (fun t=>st1.tm.getD t .top) = x at k4 k6 ⊢
  obtain ⟨R1,R2,R3⟩:=hR x ((k : Int) - 1) u m r b (d9u a (d9a b n) k)
  by_cases hk : 1 ≤ k
  ·have hj : 0 ≤ (k : Int) - 1 ∧ (k : Int) - 1 + n ≤ 9:=by omega
   have hjn : ((k : Int) - 1).toNat = k - 1:=by omega
   have hge : (k : Int) - 1 ≥ 0:=by omega
   have e1:=b72 hj (Nat.le_refl n)
   have hx:=b93 hj n (Nat.le_refl _)
   have e2 : decide (jx ((k : Int) - 1) n + 1 ≤ 10) = true:=decide_eq_true (by rw [hx];omega)
   have hW:=c77 (a0:=a) (B:=d9a b n) (k:=k) ha
   have wrapj : IntKind.i64.wrap ((k : Int) - 1 - 1) = (k : Int) - 1 - 1:=a28 (by omega)
   have fin : ∀ {q : Int} {dd : List Bool},e3x n ((k : Int) - 1) (msB q b (d9u a (d9a b n) k) ((k : Int) - 1) n) b (msT q b (d9u a (d9a b n) k) ((k : Int) - 1) n) = d9u a (d9a b n) (k - 1) → ∀ e st2,exN e = 0 →
     [4,5,6,7,8,11].map (fun t=>st2.tm.getD t .top) = [x 4, .int false .i64 n,x 6, .ptr false 5 0, .ptr false 6 0, .int true .i64 (IntKind.i64.wrap ((k : Int) - 1 - 1))] → st2.tm.length = 239 →
     st2.mem = e1u u m r b (e3x n ((k : Int) - 1) (msB q b (d9u a (d9a b n) k) ((k : Int) - 1) n) b (msT q b (d9u a (d9a b n) k) ((k : Int) - 1) n)) →
     (fun p : Ex × St=>match p.1 with | .normal => ∃ s',I6 n (st.tm.getD 4 .top) (st.tm.getD 6 .top) u m r b a s' p.2 ∧ s' < k | _ => ∃ st1,p = (.exit 6,st1) ∧ Wk st1 ⟨d8m (ups (fun _ => .top) [(4,st.tm.getD 4 .top),(5, .int false .i64 n),(6,st.tm.getD 6 .top),(7, .ptr false 5 0),(8, .ptr false 6 0)]) 239,e1u u m r b (d9u a (d9a b n) 0)⟩) (e,st2):=by
    intro q dd hr e st2 he hs hn2 hm2
    cases e with
    | normal =>
     simp only [List.map_cons,List.map_nil,List.cons.injEq,and_true] at hs
     obtain ⟨s4,s5,s6,s7,s8,s11⟩:=hs
     refine ⟨k - 1,⟨hn2, ?_,by rw [s4];exact k4,by rw [s6];exact k6,by rw [hm2,hr],by omega⟩,by omega⟩
     refine (c0o (x:=fun t=>st2.tm.getD t .top)).2 ⟨s5,s7,s8, ?_⟩
     show st2.tm.getD 11 .top = _
     rw [s11,wrapj,show (((k - 1 : Nat) : Int)) = (k : Int) - 1 by omega]
    | exit i=>simp [exN] at he
    | ret=>simp [exN] at he
   have hseg:=b75 (B:=d9a b n) ha hB (Int.le_of_lt (a1e hb n).2) hk i6
   by_cases hc2 : (d9u a (d9a b n) k).getD (jx ((k : Int) - 1) n) 0 < b.getD (n - 1) 0
   ·have wyn : wy ((k : Int) - 1) n = (k : Int) - 1 + n - 1:=by
     unfold wy
     rw [b4r (show -9223372036854775808 ≤ (k : Int) - 1 + n ∧ (k : Int) - 1 + n < 9223372036854775808 by omega),b4r (by omega)]
    have hjy : jy ((k : Int) - 1) n = k - 1 + (n - 1):=by unfold jy;rw [wyn];omega
    have hq : W (qT b (d9u a (d9a b n) k) ((k : Int) - 1) n):=by
     have h1:=hW (jx ((k : Int) - 1) n)
     have h2:=hW (jy ((k : Int) - 1) n)
     obtain ⟨h11,h12⟩:=h1
     obtain ⟨h21,h22⟩:=h2
     unfold qT
     refine ⟨Int.ediv_nonneg (by omega) (by omega), ?_⟩
     apply Int.ediv_lt_of_lt_mul (by omega)
     omega
    have hguess : sg (fun t=>(d9u a (d9a b n) k).getD (k - 1 + t) 0) (n + 1) / d9a b n ≤ qT b (d9u a (d9a b n) k) ((k : Int) - 1) n:=by
     have:=c4b (f:=fun t=>(d9u a (d9a b n) k).getD (k - 1 + t) 0) (b:=fun t=>b.getD t 0) p1.1 (fun t=>hW _) hb (by show 0 < b.getD (n - 1) 0;omega)
     unfold qT
     rw [hx,hjn,hjy]
     exact this
    obtain ⟨t1,t2⟩:=a9h p1 hk i6 ha hb hB hq hguess
    refine a7u R1 (a01.2 ⟨?_,t1⟩) (fin (dd:=[]) t2)
    unfold d6T
    rw [wyn,hjy]
    exact a00 (decide_eq_true hge) (a00 e1 (a00 e2 (a00 (decide_eq_true hc2) (a00 e1 (a00 e2 (a00 (by rw [decide_eq_true (by omega : 0 ≤ (k : Int) - 1 + n - 1),decide_eq_true (by omega : (k : Int) - 1 + n - 1 < ((10 : Nat) : Int))];rfl)
     (a00 (decide_eq_true (by omega)) (a00 (decide_eq_true hc2) (a00 (decide_eq_true p6) d7x.nil)))))))))
   ·have hq : W 18446744073709551615:=⟨by decide,by decide⟩
    have hguess : sg (fun t=>(d9u a (d9a b n) k).getD (k - 1 + t) 0) (n + 1) / d9a b n ≤ 18446744073709551615:=by
     have hlt : sg (fun t=>(d9u a (d9a b n) k).getD (k - 1 + t) 0) (n + 1) / d9a b n < 18446744073709551616:=by
      apply Int.ediv_lt_of_lt_mul hB
      rw [hseg.1]
      have h1:=ha (k - 1)
      obtain ⟨h11,h12⟩:=h1
      have h2:=Int.emod_lt_of_pos (sg (fun t=>a.getD t 0) 10 / 18446744073709551616 ^ k) hB
      generalize sg (fun t=>a.getD t 0) 10 / 18446744073709551616 ^ k % d9a b n = R at *
      omega
     omega
    obtain ⟨t1,t2⟩:=a9h p1 hk i6 ha hb hB hq hguess
    refine a7u R2 (a01.2 ⟨?_,t1⟩) (fin (dd:=[]) t2)
    unfold d6F
    exact a00 (decide_eq_true hge) (a00 e1 (a00 e2 (a00 (by rw [decide_eq_false hc2];rfl) d7x.nil)))
  ·have hk0 : k = 0:=by omega
   subst hk0
   refine a7u R3 (a00 (by rw [decide_eq_false (by omega)];rfl) d7x.nil) fun e st2 he hs hn hm => ?_
   cases e with
   | normal=>simp [exN] at he
   | ret=>simp [exN] at he
   | exit i =>
    have hi6 : i = 6:=by simp [exN] at he;exact he
    subst hi6
    simp only [List.map_cons,List.map_nil,List.cons.injEq,and_true] at hs
    obtain ⟨s4,s5,s6,s7,s8,s11⟩:=hs
    refine ⟨st2,rfl, ?_⟩
    have hst : st2 = ⟨d8m (fun t=>st2.tm.getD t .top) 239,st2.mem⟩:=c49 (a8b hn) rfl
    rw [hst]
    refine Wk.tail hm.symm ?_
    intro p hp
    simp only [List.mem_cons,List.not_mem_nil,or_false] at hp
    rcases hp with rfl | rfl | rfl | rfl | rfl
    ·show st2.tm.getD 4 .top = _;rw [s4];exact k4
    ·exact s5
    ·show st2.tm.getD 6 .top = _;rw [s6];exact k6
    ·exact s7
    ·exact s8
 ·refine ⟨a1a, ?_, ?_, ?_, ?_,by omega⟩
  ·refine (c0o (x:=fun t=>(d8m _ 239).getD t .top)).2 ⟨?_, ?_, ?_, ?_⟩ <;> simp only [a04 (show 5 < 239 by omega),a04 (show 7 < 239 by omega),a04 (show 8 < 239 by omega),a04 (show 11 < 239 by omega)] <;> rfl
  ·simp only [a04 (show 4 < 239 by omega)];rfl
  ·simp only [a04 (show 6 < 239 by omega)];rfl
  ·show e1u u m r b a = e1u u m r b _
   rw [b94 p3 ha p7]
 ·intro p hp ρ N v hr'
  simp only [r6U,List.mem_cons,List.not_mem_nil,or_false] at hp
  rcases hp with rfl | rfl | rfl | rfl
  ·rw [e5] at hr';exact hr'
  ·rw [e7] at hr';exact hr'
  ·rw [e8] at hr';exact hr'
  ·rw [e11] at hr'
   have : ((10 - n : Nat) : Int) - 1 = (j0 : Int):=by omega
   rw [this]
   cases hr' with | int _ _ _ h=>exact .int _ _ _ h
end Go.Proofs.YthelmpjkkkhopaaGreatDoor
