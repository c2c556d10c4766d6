/- What the library's long division answers, of a divisor whose highest bit is 1. Own work. -/
import Derived.Test.YthelmpjkkkhopaaGreatDoorZEeLenC
set_option linter.unusedSimpArgs false
set_option linter.unusedVariables false
set_option linter.unusedSectionVars false
namespace Go.Proofs.YthelmpjkkkhopaaGreatDoor
open Go.Ev Go.Wn
set_option maxRecDepth 100000
def e07 (q r y1 y0 c : Int) : Int:=((q * y1 + r) * 4294967296 + c) / (y1 * 4294967296 + y0)
def e6e (q r y1 y0 c : Int) : Prop:=2147483648 ≤ y1 ∧ y1 < 4294967296 ∧ 0 ≤ y0 ∧ y0 < 4294967296 ∧ 0 ≤ c ∧ c < 4294967296 ∧ 0 ≤ r ∧ r < 4294967296 ∧ 0 ≤ q ∧ q ≤ 4294967297 ∧ e07 q r y1 y0 c ≤ q ∧ e07 q r y1 y0 c < 4294967296
instance (q r y1 y0 c : Int) : Decidable (e6e q r y1 y0 c):=by unfold e6e;infer_instance
def e7i (q r y0 c : Int) : Bool:=match decide (q ≥ 4294967296) with | true=>true | false=>decide (IntKind.u64.wrap (q * y0) > IntKind.u64.wrap (IntKind.u64.wrap (4294967296 * r) + c))
def f2z (p : Bool) : List Bool:=rep 7 (!(!p) || !p) [p || !p]
theorem b1t (p : Bool) : d7x (f2z p):=by cases p <;> exact a7q rfl (a00 rfl d7x.nil) 7
theorem b1u {q r y1 y0 c : Int} (h : e6e q r y1 y0 c) (ht : e7i q r y0 c = false) : q = e07 q r y1 y0 c:=by
 obtain ⟨a1,a2,a3,a4,a5,a6,a7,a8,a9,b1,b2,b3⟩:=h
 unfold e7i at ht
 split at ht
 ·cases ht
 ·rename_i hq
  rw [decide_eq_false_iff_not] at hq ht
  have hp : 0 ≤ q * y0 ∧ q * y0 ≤ 18446744065119617025:=a59 (by omega) (by omega)
  simp only [a25] at ht
  have:=b1w (H:=q * y1 + r) (c:=c) (q:=q) (r:=r) (y1:=y1) (y0:=y0) (by omega) (by omega) (by generalize q * y0 = P at *;omega)
  unfold e07 at *
  omega
theorem b6z {q r y1 y0 c : Int} (h : e6e q r y1 y0 c) (ht : e7i q r y0 c = true) : e07 q r y1 y0 c < q:=by
 obtain ⟨a1,a2,a3,a4,a5,a6,a7,a8,a9,b1,b2,b3⟩:=h
 unfold e7i at ht
 split at ht
 ·rename_i hq
  rw [decide_eq_true_eq] at hq
  omega
 ·rename_i hq
  rw [decide_eq_false_iff_not] at hq
  rw [decide_eq_true_eq] at ht
  have hp : 0 ≤ q * y0 ∧ q * y0 ≤ 18446744065119617025:=a59 (by omega) (by omega)
  simp only [a25] at ht
  exact b91 (r:=r) (by omega) (by omega) (by generalize q * y0 = P at *;omega)
theorem a3y (q r y1 y0 c : Int) : e07 (q - 1) (r + y1) y1 y0 c = e07 q r y1 y0 c:=by
 unfold e07
 rw [show (q - 1) * y1 + (r + y1) = q * y1 + r by rw [Int.sub_mul,Int.one_mul];omega]
theorem b1v {q r y1 y0 c : Int} (h : e6e q r y1 y0 c) (ht : e07 q r y1 y0 c < q) (hr : 4294967296 ≤ r + y1) : q - 1 = e07 q r y1 y0 c:=by
 obtain ⟨a1,a2,a3,a4,a5,a6,a7,a8,a9,b1,b2,b3⟩:=h
 have e:=a3y q r y1 y0 c
 have hQ : 0 ≤ e07 q r y1 y0 c:=by
  unfold e07
  have:=Int.mul_nonneg a9 (show 0 ≤ y1 by omega)
  exact Int.ediv_nonneg (by omega) (by omega)
 have:=b1w (H:=q * y1 + r) (c:=c) (q:=q - 1) (r:=r + y1) (y1:=y1) (y0:=y0) (by omega) (by rw [Int.sub_mul,Int.one_mul];omega) (b4p (by omega) a5 (by omega) hr)
 unfold e07 at *
 omega
def e2o (q r y1 y0 c : Int) : List (Nat × AV):=[(15, .int true .u64 q),(16, .int true .u64 r),(9, .int true .u64 y1),(10, .int true .u64 y0),(13, .int true .u64 c)]
def f3a (q r y0 c : Int) : List (Nat × AV):=[(67, .int true .u64 q),(68, .bool true (decide (q ≥ 4294967296))),(69, .bool true (decide (q ≥ 4294967296))),(70, .grd (!decide (q ≥ 4294967296)) (.int true .u64 q)),(71, .grd (!decide (q ≥ 4294967296)) (.int true .u64 y0)),(72, .grd (!decide (q ≥ 4294967296)) (.int true .u64 (IntKind.u64.wrap (q * y0)))),(73, .grd (!decide (q ≥ 4294967296)) (.int true .u64 r)),(74, .grd (!decide (q ≥ 4294967296)) (.int true .u64 (IntKind.u64.wrap (4294967296 * r)))),(75, .grd (!decide (q ≥ 4294967296)) (.int true .u64 c)),(76, .grd (!decide (q ≥ 4294967296)) (.int true .u64 (IntKind.u64.wrap (IntKind.u64.wrap (4294967296 * r) + c)))),(77, .grd (!decide (q ≥ 4294967296)) (.bool true (decide (IntKind.u64.wrap (q * y0) > IntKind.u64.wrap (IntKind.u64.wrap (4294967296 * r) + c))))),(78, .bool true (e7i q r y0 c))]
def f0r (q r y1 y0 c : Int) : List (Nat × AV):=[(67, .int true .u64 q),(68, .bool true (decide (q ≥ 4294967296))),(69, .bool true (decide (q ≥ 4294967296))),(70, .grd (!decide (q ≥ 4294967296)) (.int true .u64 q)),(71, .grd (!decide (q ≥ 4294967296)) (.int true .u64 y0)),(72, .grd (!decide (q ≥ 4294967296)) (.int true .u64 (IntKind.u64.wrap (q * y0)))),(73, .grd (!decide (q ≥ 4294967296)) (.int true .u64 r)),(74, .grd (!decide (q ≥ 4294967296)) (.int true .u64 (IntKind.u64.wrap (4294967296 * r)))),(75, .grd (!decide (q ≥ 4294967296)) (.int true .u64 c)),(76, .grd (!decide (q ≥ 4294967296)) (.int true .u64 (IntKind.u64.wrap (IntKind.u64.wrap (4294967296 * r) + c)))),(77, .grd (!decide (q ≥ 4294967296)) (.bool true (decide (IntKind.u64.wrap (q * y0) > IntKind.u64.wrap (IntKind.u64.wrap (4294967296 * r) + c))))),(78, .bool true (e7i q r y0 c)),(79, .int true .u64 q),(80, .int true .u64 (IntKind.u64.wrap (q - 1))),(81, .int true .u64 r),(82, .int true .u64 y1),(83, .int true .u64 (IntKind.u64.wrap (r + y1))),(84, .int true .u64 (IntKind.u64.wrap (r + y1))),(85, .bool true (decide ((IntKind.u64.wrap (r + y1)) ≥ 4294967296)))]
theorem b8y (x : Nat → AV) (q r y1 y0 c : Int) : d8d Tryz.prog d93 hv1 (fun _ _=>none) 100 (lp (blk 0 (d80 Tryz.prog 99))) ⟨d8m (ups x (e2o q r y1 y0 c)) 135,[none,none,none]⟩ =
  Tree.needs (f2z (decide (q ≥ 4294967296))) (.ite (e7i q r y0 c) (.ite (decide ((IntKind.u64.wrap (r + y1)) ≥ 4294967296)) (.leaf (.exit 0,⟨d8m (ups x (f0r q r y1 y0 c ++ e2o (IntKind.u64.wrap (q - 1)) (IntKind.u64.wrap (r + y1)) y1 y0 c)) 135,[none,none,none]⟩))
    (.leaf (.normal,⟨d8m (ups x (f0r q r y1 y0 c ++ e2o (IntKind.u64.wrap (q - 1)) (IntKind.u64.wrap (r + y1)) y1 y0 c)) 135,[none,none,none]⟩)))
   (.leaf (.exit 0,⟨d8m (ups x (f3a q r y0 c ++ e2o q r y1 y0 c)) 135,[none,none,none]⟩))):=by kernel_rfl
def e2p (q r y1 y0 c : Int) : List (Nat × AV):=[(18, .int true .u64 q),(16, .int true .u64 r),(9, .int true .u64 y1),(10, .int true .u64 y0),(14, .int true .u64 c)]
def f3b (q r y0 c : Int) : List (Nat × AV):=[(102, .int true .u64 q),(103, .bool true (decide (q ≥ 4294967296))),(104, .bool true (decide (q ≥ 4294967296))),(105, .grd (!decide (q ≥ 4294967296)) (.int true .u64 q)),(106, .grd (!decide (q ≥ 4294967296)) (.int true .u64 y0)),(107, .grd (!decide (q ≥ 4294967296)) (.int true .u64 (IntKind.u64.wrap (q * y0)))),(108, .grd (!decide (q ≥ 4294967296)) (.int true .u64 r)),(109, .grd (!decide (q ≥ 4294967296)) (.int true .u64 (IntKind.u64.wrap (4294967296 * r)))),(110, .grd (!decide (q ≥ 4294967296)) (.int true .u64 c)),(111, .grd (!decide (q ≥ 4294967296)) (.int true .u64 (IntKind.u64.wrap (IntKind.u64.wrap (4294967296 * r) + c)))),(112, .grd (!decide (q ≥ 4294967296)) (.bool true (decide (IntKind.u64.wrap (q * y0) > IntKind.u64.wrap (IntKind.u64.wrap (4294967296 * r) + c))))),(113, .bool true (e7i q r y0 c))]
def f0s (q r y1 y0 c : Int) : List (Nat × AV):=[(102, .int true .u64 q),(103, .bool true (decide (q ≥ 4294967296))),(104, .bool true (decide (q ≥ 4294967296))),(105, .grd (!decide (q ≥ 4294967296)) (.int true .u64 q)),(106, .grd (!decide (q ≥ 4294967296)) (.int true .u64 y0)),(107, .grd (!decide (q ≥ 4294967296)) (.int true .u64 (IntKind.u64.wrap (q * y0)))),(108, .grd (!decide (q ≥ 4294967296)) (.int true .u64 r)),(109, .grd (!decide (q ≥ 4294967296)) (.int true .u64 (IntKind.u64.wrap (4294967296 * r)))),(110, .grd (!decide (q ≥ 4294967296)) (.int true .u64 c)),(111, .grd (!decide (q ≥ 4294967296)) (.int true .u64 (IntKind.u64.wrap (IntKind.u64.wrap (4294967296 * r) + c)))),(112, .grd (!decide (q ≥ 4294967296)) (.bool true (decide (IntKind.u64.wrap (q * y0) > IntKind.u64.wrap (IntKind.u64.wrap (4294967296 * r) + c))))),(113, .bool true (e7i q r y0 c)),(114, .int true .u64 q),(115, .int true .u64 (IntKind.u64.wrap (q - 1))),(116, .int true .u64 r),(117, .int true .u64 y1),(118, .int true .u64 (IntKind.u64.wrap (r + y1))),(119, .int true .u64 (IntKind.u64.wrap (r + y1))),(120, .bool true (decide ((IntKind.u64.wrap (r + y1)) ≥ 4294967296)))]
theorem b8z (x : Nat → AV) (q r y1 y0 c : Int) : d8d Tryz.prog d93 hv1 (fun _ _=>none) 100 (lp (blk 2 (d80 Tryz.prog 99))) ⟨d8m (ups x (e2p q r y1 y0 c)) 135,[none,none,none]⟩ =
  Tree.needs (f2z (decide (q ≥ 4294967296))) (.ite (e7i q r y0 c) (.ite (decide ((IntKind.u64.wrap (r + y1)) ≥ 4294967296)) (.leaf (.exit 2,⟨d8m (ups x (f0s q r y1 y0 c ++ e2p (IntKind.u64.wrap (q - 1)) (IntKind.u64.wrap (r + y1)) y1 y0 c)) 135,[none,none,none]⟩))
    (.leaf (.normal,⟨d8m (ups x (f0s q r y1 y0 c ++ e2p (IntKind.u64.wrap (q - 1)) (IntKind.u64.wrap (r + y1)) y1 y0 c)) 135,[none,none,none]⟩)))
   (.leaf (.exit 2,⟨d8m (ups x (f3b q r y0 c ++ e2p q r y1 y0 c)) 135,[none,none,none]⟩))):=by kernel_rfl
def intOf : AV → Option Int
 | .int _ .u64 x=>some x
 | _=>none
theorem a1p {a : AV} {x : Int} (h : intOf a = some x) {ρ : Nat → d8c} {N : Nat → Prop} {v : Value} (hr : Rep ρ N a v) : Rep ρ N (.int true .u64 x) v:=by
 unfold intOf at h
 split at h
 ·cases h;exact remark hr
 ·cases h
def f2c : Mem → Bool
 | [none,none,none]=>true
 | _=>false
theorem c0i {m : Mem} (h : f2c m = true) : m = [none,none,none]:=by
 unfold f2c at h
 split at h
 ·rfl
 ·cases h
def divΛ : d8r:=fun id st=>match id with
 | 0=>match intOf (st.tm.getD 15 .top),intOf (st.tm.getD 16 .top),intOf (st.tm.getD 9 .top),intOf (st.tm.getD 10 .top),intOf (st.tm.getD 13 .top),Nat.beq st.tm.length 135 && f2c st.mem with
  | some q,some r,some y1,some y0,some c,true=>some ([decide (e6e q r y1 y0 c)],⟨d8m (ups (fun _ => .top) [(15, .int true .u64 (e07 q r y1 y0 c)),(9, .int true .u64 y1),(10, .int true .u64 y0),(13, .int true .u64 c),(2,st.tm.getD 2 .top),(8,st.tm.getD 8 .top),(11,st.tm.getD 11 .top),(14,st.tm.getD 14 .top)]) 135,[none,none,none]⟩)
  | _,_,_,_,_,_=>none
 | 2=>match intOf (st.tm.getD 18 .top),intOf (st.tm.getD 16 .top),intOf (st.tm.getD 9 .top),intOf (st.tm.getD 10 .top),intOf (st.tm.getD 14 .top),Nat.beq st.tm.length 135 && f2c st.mem with
  | some q,some r,some y1,some y0,some c,true=>some ([decide (e6e q r y1 y0 c)],⟨d8m (ups (fun _ => .top) [(18, .int true .u64 (e07 q r y1 y0 c)),(9, .int true .u64 y1),(10, .int true .u64 y0),(14, .int true .u64 c),(2,st.tm.getD 2 .top),(8,st.tm.getD 8 .top),(15,st.tm.getD 15 .top),(17,st.tm.getD 17 .top)]) 135,[none,none,none]⟩)
  | _,_,_,_,_,_=>none
 | _=>none
theorem a4k {α : Type} {Q : α → Prop} {t : Tree α} : ∀ {l : List Bool},d7x l → t.Sat Q → (Tree.needs l t).Sat Q
 | [],_,h=>h
 | p :: l,hp,h=>⟨hp p (f9b ..),a4k (l:=l) (fun q hq=>hp q (f9a _ hq)) h⟩
set_option maxHeartbeats 1000000 in
theorem c43 {c : Code} {st st' : St} {o : List Bool} (hc : Code.block 0 c ∈ subs (d80 Tryz.prog 99)) (hl : divΛ 0 st = some (o,st')) (ho : d7x o) : Ok Tryz.prog (.block 0 c) st (fun p=>p = (.normal,st')):=by
 unfold divΛ at hl
 simp only at hl
 split at hl
 case h_2=>cases hl
 rename_i q0 r0 y1 y0 cc hq hr h9 h10 hcc hlen
 cases hl
 rw [Bool.and_eq_true] at hlen
 have hlen':=Nat.eq_of_beq_eq_true hlen.1
 have hmem:=c0i hlen.2
 have hI:=ho _ (f9b ..)
 rw [decide_eq_true_eq] at hI
 clear ho
 have hU : ∀ (z : Nat → AV) (q r : Int),(∀ p ∈ e2o q r y1 y0 cc,z p.1 = p.2) ↔ z 15 = .int true .u64 q ∧ z 16 = .int true .u64 r ∧ z 9 = .int true .u64 y1 ∧ z 10 = .int true .u64 y0 ∧ z 13 = .int true .u64 cc:=fun z q r=>by simp [e2o]
 have wI : ∀ q r : Int,e6e q r y1 y0 cc → e07 q r y1 y0 cc = e07 q0 r0 y1 y0 cc → True:=fun _ _ _ _=>trivial
 refine a2w (q:=d93) mixed a9f LOk.none (n:=100) (σ:=Int × Int) (inv:=fun s st1=>e6e s.1 s.2 y1 y0 cc ∧ e07 s.1 s.2 y1 y0 cc = e07 q0 r0 y1 y0 cc ∧ st1.tm.length = 135 ∧ (∀ p ∈ e2o s.1 s.2 y1 y0 cc,st1.tm.getD p.1 .top = p.2) ∧ (st1.tm.getD 2 .top = st.tm.getD 2 .top ∧ st1.tm.getD 8 .top = st.tm.getD 8 .top ∧ st1.tm.getD 11 .top = st.tm.getD 11 .top ∧ st1.tm.getD 14 .top = st.tm.getD 14 .top) ∧ st1.mem = [none,none,none]) (μ:=fun s=>s.1.toNat) hc (by kernel_rfl) (by kernel_rfl)
  (fun s st1 hi => ?_) (q0,r0) st ⟨d8m (ups (fun t=>st.tm.getD t .top) (e2o q0 r0 y1 y0 cc)) 135,[none,none,none]⟩ ?_ (Wk.head hlen' hmem.symm ?_)
 ·obtain ⟨q,r⟩:=s
  obtain ⟨i0,iq,i2,i3,i5,i4⟩:=hi
  simp only at i0 iq i3
  have ee : st1 = ⟨d8m (ups (fun t=>st1.tm.getD t .top) (e2o q r y1 y0 cc)) 135,[none,none,none]⟩:=by
   obtain ⟨tm,mem⟩:=st1
   simp only at i2 i3 i4
   rw [i4]
   congr 1
   exact a9p i2 i3
  rw [ee]
  have i6 : (fun t=>st1.tm.getD t .top) 2 = st.tm.getD 2 .top ∧ (fun t=>st1.tm.getD t .top) 8 = st.tm.getD 8 .top ∧ (fun t=>st1.tm.getD t .top) 11 = st.tm.getD 11 .top ∧ (fun t=>st1.tm.getD t .top) 14 = st.tm.getD 14 .top:=i5
  generalize (fun t=>st1.tm.getD t .top) = x at i6 ⊢
  have k0:=i6.1;have k1:=i6.2.1;have k2:=i6.2.2.1;have k3:=i6.2.2.2
  rw [b8y]
  have hi0:=i0
  obtain ⟨a1,a2,a3,a4,a5,a6,a7,a8,a9,b1,b2,b3⟩:=i0
  have w2 : IntKind.u64.wrap (r + y1) = r + y1:=e2n (by omega)
  refine a4k (b1t _) ⟨fun ht => ?_,fun ht => ?_⟩
  ·have hlt:=b6z hi0 ht
   have hQ0 : 0 ≤ e07 q r y1 y0 cc:=by
    unfold e07
    have:=Int.mul_nonneg a9 (show 0 ≤ y1 by omega)
    exact Int.ediv_nonneg (by omega) (by omega)
   have w1 : IntKind.u64.wrap (q - 1) = q - 1:=e2n (by omega)
   rw [w1,w2]
   refine ⟨fun hk => ?_,fun hk => ?_⟩
   ·rw [decide_eq_true_eq] at hk
    have e:=b1v hi0 hlt hk
    refine ⟨_,rfl,Wk.tail rfl ?_⟩
    intro p hp
    simp only [List.mem_cons,List.not_mem_nil,or_false] at hp
    rcases hp with rfl | rfl | rfl | rfl | rfl | rfl | rfl | rfl
    ·show AV.int true .u64 (q - 1) = AV.int true .u64 (e07 q0 r0 y1 y0 cc);rw [e,iq]
    ·rfl
    ·rfl
    ·rfl
    ·exact k0
    ·exact k1
    ·exact k2
    ·exact k3
   ·rw [decide_eq_false_iff_not] at hk
    refine ⟨(q - 1,r + y1),⟨?_, ?_,a1a, ?_, ?_,rfl⟩, ?_⟩
    ·exact ⟨a1,a2,a3,a4,a5,a6,by show 0 ≤ r + y1;omega,by show r + y1 < 4294967296;omega,by show 0 ≤ q - 1;omega,by show q - 1 ≤ 4294967297;omega,by rw [a3y];show e07 q r y1 y0 cc ≤ q - 1;omega,by rw [a3y];exact b3⟩
    ·show e07 (q - 1) (r + y1) y1 y0 cc = _
     rw [a3y];exact iq
    ·refine (hU (fun t=>(d8m _ 135).getD t .top) _ _).2 ⟨?_, ?_, ?_, ?_, ?_⟩ <;> simp only [a04 (show 15 < 135 by omega),a04 (show 16 < 135 by omega),a04 (show 9 < 135 by omega),a04 (show 10 < 135 by omega),a04 (show 13 < 135 by omega)] <;> rfl
    ·refine ⟨?_, ?_, ?_, ?_⟩ <;> simp only [a04 (show 2 < 135 by omega),a04 (show 8 < 135 by omega),a04 (show 11 < 135 by omega),a04 (show 14 < 135 by omega)]
     ·exact k0
     ·exact k1
     ·exact k2
     ·exact k3
    ·show (q - 1).toNat < q.toNat
     omega
  ·have e:=b1u hi0 ht
   refine ⟨_,rfl,Wk.tail rfl ?_⟩
   intro p hp
   simp only [List.mem_cons,List.not_mem_nil,or_false] at hp
   rcases hp with rfl | rfl | rfl | rfl | rfl | rfl | rfl | rfl
   ·show AV.int true .u64 q = AV.int true .u64 (e07 q0 r0 y1 y0 cc);rw [← iq, ← e]
   ·rfl
   ·rfl
   ·rfl
   ·exact k0
   ·exact k1
   ·exact k2
   ·exact k3
 ·refine ⟨hI,rfl,a1a, ?_, ?_,rfl⟩
  ·refine (hU (fun t=>(d8m _ 135).getD t .top) _ _).2 ⟨?_, ?_, ?_, ?_, ?_⟩ <;> simp only [a04 (show 15 < 135 by omega),a04 (show 16 < 135 by omega),a04 (show 9 < 135 by omega),a04 (show 10 < 135 by omega),a04 (show 13 < 135 by omega)] <;> rfl
  ·refine ⟨?_, ?_, ?_, ?_⟩ <;> simp only [a04 (show 2 < 135 by omega),a04 (show 8 < 135 by omega),a04 (show 11 < 135 by omega),a04 (show 14 < 135 by omega)] <;> rfl
 ·intro p hp ρ N v hr'
  simp only [e2o,List.mem_cons,List.not_mem_nil,or_false] at hp
  rcases hp with rfl | rfl | rfl | rfl | rfl
  ·exact a1p hq hr'
  ·exact a1p hr hr'
  ·exact a1p h9 hr'
  ·exact a1p h10 hr'
  ·exact a1p hcc hr'
set_option maxHeartbeats 1000000 in
theorem c44 {c : Code} {st st' : St} {o : List Bool} (hc : Code.block 2 c ∈ subs (d80 Tryz.prog 99)) (hl : divΛ 2 st = some (o,st')) (ho : d7x o) : Ok Tryz.prog (.block 2 c) st (fun p=>p = (.normal,st')):=by
 unfold divΛ at hl
 simp only at hl
 split at hl
 case h_2=>cases hl
 rename_i q0 r0 y1 y0 cc hq hr h9 h10 hcc hlen
 cases hl
 rw [Bool.and_eq_true] at hlen
 have hlen':=Nat.eq_of_beq_eq_true hlen.1
 have hmem:=c0i hlen.2
 have hI:=ho _ (f9b ..)
 rw [decide_eq_true_eq] at hI
 clear ho
 have hU : ∀ (z : Nat → AV) (q r : Int),(∀ p ∈ e2p q r y1 y0 cc,z p.1 = p.2) ↔ z 18 = .int true .u64 q ∧ z 16 = .int true .u64 r ∧ z 9 = .int true .u64 y1 ∧ z 10 = .int true .u64 y0 ∧ z 14 = .int true .u64 cc:=fun z q r=>by simp [e2p]
 have wI : ∀ q r : Int,e6e q r y1 y0 cc → e07 q r y1 y0 cc = e07 q0 r0 y1 y0 cc → True:=fun _ _ _ _=>trivial
 refine a2w (q:=d93) mixed a9f LOk.none (n:=100) (σ:=Int × Int) (inv:=fun s st1=>e6e s.1 s.2 y1 y0 cc ∧ e07 s.1 s.2 y1 y0 cc = e07 q0 r0 y1 y0 cc ∧ st1.tm.length = 135 ∧ (∀ p ∈ e2p s.1 s.2 y1 y0 cc,st1.tm.getD p.1 .top = p.2) ∧ (st1.tm.getD 2 .top = st.tm.getD 2 .top ∧ st1.tm.getD 8 .top = st.tm.getD 8 .top ∧ st1.tm.getD 15 .top = st.tm.getD 15 .top ∧ st1.tm.getD 17 .top = st.tm.getD 17 .top) ∧ st1.mem = [none,none,none]) (μ:=fun s=>s.1.toNat) hc (by kernel_rfl) (by kernel_rfl)
  (fun s st1 hi => ?_) (q0,r0) st ⟨d8m (ups (fun t=>st.tm.getD t .top) (e2p q0 r0 y1 y0 cc)) 135,[none,none,none]⟩ ?_ (Wk.head hlen' hmem.symm ?_)
 ·obtain ⟨q,r⟩:=s
  obtain ⟨i0,iq,i2,i3,i5,i4⟩:=hi
  simp only at i0 iq i3
  have ee : st1 = ⟨d8m (ups (fun t=>st1.tm.getD t .top) (e2p q r y1 y0 cc)) 135,[none,none,none]⟩:=by
   obtain ⟨tm,mem⟩:=st1
   simp only at i2 i3 i4
   rw [i4]
   congr 1
   exact a9p i2 i3
  rw [ee]
  have i6 : (fun t=>st1.tm.getD t .top) 2 = st.tm.getD 2 .top ∧ (fun t=>st1.tm.getD t .top) 8 = st.tm.getD 8 .top ∧ (fun t=>st1.tm.getD t .top) 15 = st.tm.getD 15 .top ∧ (fun t=>st1.tm.getD t .top) 17 = st.tm.getD 17 .top:=i5
  generalize (fun t=>st1.tm.getD t .top) = x at i6 ⊢
  have k0:=i6.1;have k1:=i6.2.1;have k2:=i6.2.2.1;have k3:=i6.2.2.2
  rw [b8z]
  have hi0:=i0
  obtain ⟨a1,a2,a3,a4,a5,a6,a7,a8,a9,b1,b2,b3⟩:=i0
  have w2 : IntKind.u64.wrap (r + y1) = r + y1:=e2n (by omega)
  refine a4k (b1t _) ⟨fun ht => ?_,fun ht => ?_⟩
  ·have hlt:=b6z hi0 ht
   have hQ0 : 0 ≤ e07 q r y1 y0 cc:=by
    unfold e07
    have:=Int.mul_nonneg a9 (show 0 ≤ y1 by omega)
    exact Int.ediv_nonneg (by omega) (by omega)
   have w1 : IntKind.u64.wrap (q - 1) = q - 1:=e2n (by omega)
   rw [w1,w2]
   refine ⟨fun hk => ?_,fun hk => ?_⟩
   ·rw [decide_eq_true_eq] at hk
    have e:=b1v hi0 hlt hk
    refine ⟨_,rfl,Wk.tail rfl ?_⟩
    intro p hp
    simp only [List.mem_cons,List.not_mem_nil,or_false] at hp
    rcases hp with rfl | rfl | rfl | rfl | rfl | rfl | rfl | rfl
    ·show AV.int true .u64 (q - 1) = AV.int true .u64 (e07 q0 r0 y1 y0 cc);rw [e,iq]
    ·rfl
    ·rfl
    ·rfl
    ·exact k0
    ·exact k1
    ·exact k2
    ·exact k3
   ·rw [decide_eq_false_iff_not] at hk
    refine ⟨(q - 1,r + y1),⟨?_, ?_,a1a, ?_, ?_,rfl⟩, ?_⟩
    ·exact ⟨a1,a2,a3,a4,a5,a6,by show 0 ≤ r + y1;omega,by show r + y1 < 4294967296;omega,by show 0 ≤ q - 1;omega,by show q - 1 ≤ 4294967297;omega,by rw [a3y];show e07 q r y1 y0 cc ≤ q - 1;omega,by rw [a3y];exact b3⟩
    ·show e07 (q - 1) (r + y1) y1 y0 cc = _
     rw [a3y];exact iq
    ·refine (hU (fun t=>(d8m _ 135).getD t .top) _ _).2 ⟨?_, ?_, ?_, ?_, ?_⟩ <;> simp only [a04 (show 18 < 135 by omega),a04 (show 16 < 135 by omega),a04 (show 9 < 135 by omega),a04 (show 10 < 135 by omega),a04 (show 14 < 135 by omega)] <;> rfl
    ·refine ⟨?_, ?_, ?_, ?_⟩ <;> simp only [a04 (show 2 < 135 by omega),a04 (show 8 < 135 by omega),a04 (show 15 < 135 by omega),a04 (show 17 < 135 by omega)]
     ·exact k0
     ·exact k1
     ·exact k2
     ·exact k3
    ·show (q - 1).toNat < q.toNat
     omega
  ·have e:=b1u hi0 ht
   refine ⟨_,rfl,Wk.tail rfl ?_⟩
   intro p hp
   simp only [List.mem_cons,List.not_mem_nil,or_false] at hp
   rcases hp with rfl | rfl | rfl | rfl | rfl | rfl | rfl | rfl
   ·show AV.int true .u64 q = AV.int true .u64 (e07 q0 r0 y1 y0 cc);rw [← iq, ← e]
   ·rfl
   ·rfl
   ·rfl
   ·exact k0
   ·exact k1
   ·exact k2
   ·exact k3
 ·refine ⟨hI,rfl,a1a, ?_, ?_,rfl⟩
  ·refine (hU (fun t=>(d8m _ 135).getD t .top) _ _).2 ⟨?_, ?_, ?_, ?_, ?_⟩ <;> simp only [a04 (show 18 < 135 by omega),a04 (show 16 < 135 by omega),a04 (show 9 < 135 by omega),a04 (show 10 < 135 by omega),a04 (show 14 < 135 by omega)] <;> rfl
  ·refine ⟨?_, ?_, ?_, ?_⟩ <;> simp only [a04 (show 2 < 135 by omega),a04 (show 8 < 135 by omega),a04 (show 15 < 135 by omega),a04 (show 17 < 135 by omega)] <;> rfl
 ·intro p hp ρ N v hr'
  simp only [e2p,List.mem_cons,List.not_mem_nil,or_false] at hp
  rcases hp with rfl | rfl | rfl | rfl | rfl
  ·exact a1p hq hr'
  ·exact a1p hr hr'
  ·exact a1p h9 hr'
  ·exact a1p h10 hr'
  ·exact a1p hcc hr'
theorem c0j : LOk Tryz.prog (d80 Tryz.prog 99) divΛ:=by
 refine ⟨fun {id c st st' o} hc hl ho => ?_⟩
 match id,hl,hc with
 | 0,hl,hc=>exact c43 hc hl ho
 | 2,hl,hc=>exact c44 hc hl ho
 | 1,hl,_=>cases hl
 | n + 3,hl,_=>cases hl
end Go.Proofs.YthelmpjkkkhopaaGreatDoor
