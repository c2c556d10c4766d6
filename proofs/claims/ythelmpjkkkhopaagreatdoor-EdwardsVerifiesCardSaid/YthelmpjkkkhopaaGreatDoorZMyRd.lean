/- Calls whose first argument is a struct of two pointers, handed by value: what both show, and views; in memory laid anew. Own work. -/
import Derived.Test.YthelmpjkkkhopaaGreatDoorZEvCan
import Derived.Test.YthelmpjkkkhopaaGreatDoorZMyMI
import Derived.Test.YthelmpjkkkhopaaGreatDoorZMyW
import Derived.Test.YthelmpjkkkhopaaGreatDoorZMyMC
set_option linter.unusedSimpArgs false
set_option linter.unusedVariables false
set_option linter.unusedSectionVars false
namespace Go.Ev
variable [Tab]
def e1p (c d : Cells) (xs : List V) : Mem:=some ⟨false,c⟩ :: some ⟨false,d⟩ :: d87 xs
def e06 (xs : List V) : List AV := .agg [.ptr false 0 0, .ptr false 1 0] :: d7z 2 xs
def e0j (g : FuncId) (spec : Cells → Cells → List V → E (AV × Mem)) (X : d82) : d82:=fun f args m =>
 match decide (f = g),args with
 | true, .agg [.ptr false n 0, .ptr false p 0] :: ars=>(match getName m n with
  | some b1=>(match getName m p with
   | some b2=>(match e1i b1.c && e1i b2.c with
    | true=>(match e2y m ars with
     | some (o1,xs)=>(match spec b1.c b2.c xs with
      | some (o2,(v,bs))=>some (o1 ++ o2,(upA m.length v,m ++ d8b (bs.map (upB m.length))))
      | none=>X f args m)
     | none=>X f args m)
    | false=>X f args m)
   | none=>X f args m)
  | none=>X f args m)
 | _,_=>X f args m
section
variable {P : Program} {H : d82}
theorem HOk.e0j {g : FuncId} {spec : Cells → Cells → List V → E (AV × Mem)} (hX : HOk P H) (h : ∀ c d xs o v bs,spec c d xs = some (o,(v,bs)) → d7x o → e0t P g (e06 xs) (e1p c d xs) v bs) : HOk P (e0j g spec H):=by
 have both : ∀ {f : FuncId} {ars : List AV} {m : Mem} {ob : List Bool} {v : AV} {m' : Mem},Go.Ev.e0j g spec H f ars m = some (ob,(v,m')) → d7x ob →
   m.length ≤ m'.length ∧ ∀ {w0 : World} {S : Nat → Prop} {ρ : Nat → d8c} {w : World} {vs : List Value},d8i ρ (upto m.length) ars vs → Inv w0 S (upto m.length) ρ (getName m) w →
   d8t P f vs.toArray w (fun u w' => ∃ ρ',Rep ρ' (upto m'.length) v u ∧ Inv w0 S (upto m'.length) ρ' (getName m') w' ∧ Agr ρ ρ' (upto m.length)):=by
  intro f ars m ob v m' hr ho
  have old : ∀ {f ars m ob v m'},H f ars m = some (ob,(v,m')) → d7x ob → m.length ≤ m'.length ∧ ∀ {w0 : World} {S : Nat → Prop} {ρ : Nat → d8c} {w : World} {vs : List Value},d8i ρ (upto m.length) ars vs → Inv w0 S (upto m.length) ρ (getName m) w →
   d8t P f vs.toArray w (fun u w' => ∃ ρ',Rep ρ' (upto m'.length) v u ∧ Inv w0 S (upto m'.length) ρ' (getName m') w' ∧ Agr ρ ρ' (upto m.length)):=fun hr ho=>⟨hX.le hr ho,fun ha hi=>hX.run hr ho ha hi⟩
  unfold Go.Ev.e0j at hr
  split at hr
  case h_2=>exact old hr ho
  rename_i n p ars' hf
  simp at hf
  subst hf
  split at hr
  case h_2=>exact old hr ho
  rename_i b1 hn
  split at hr
  case h_2=>exact old hr ho
  rename_i b2 hp
  split at hr
  case h_2=>exact old hr ho
  rename_i hpl
  simp only [Bool.and_eq_true] at hpl
  obtain ⟨p1,p3⟩:=hpl
  split at hr
  case h_2=>exact old hr ho
  rename_i o1 xs hv
  split at hr
  case h_2=>exact old hr ho
  rename_i o2 v1 bs hs
  cases hr
  have hpd:=a01.1 ho
  refine ⟨by simp,fun {w0 S ρ w vs} ha hi => ?_⟩
  have hc : e0t P f (e06 xs) (e1p b1.c b2.c xs) v1 bs:=h _ _ _ _ _ _ hs hpd.2
  cases ha with
  | cons _ _ u us hu hus =>
  obtain ⟨Lv,c1,c2⟩:=a8t hi.sim hv hpd.1 hus 2
  let ρ2 : Nat → d8c:=fun x=>match x with | 0=>ρ n | 1=>ρ p | x + 2=>Lv x
  have hML : (e1p b1.c b2.c xs).length = xs.length + 2:=by simp [e1p,d87]
  have hρ : ∀ i,ρ2 (2 + i) = Lv i:=fun i=>by rw [Nat.add_comm]
  obtain ⟨cs,t,lo',hi',a1,a2,a3,a4,a5⟩:=(hi.sim.blk n _ hn).ex
  obtain ⟨cs2,t2,lo2,hi2,d1,d2,d3,d4,d5⟩:=(hi.sim.blk p _ hp).ex
  have gM : ∀ x b,getName (e1p b1.c b2.c xs) x = some b → b.rw = false ∧ ((x = 0 ∧ b = ⟨false,b1.c⟩) ∨ (x = 1 ∧ b = ⟨false,b2.c⟩) ∨ ∃ i,x = i + 2 ∧ getName (d87 xs) i = some b):=fun x b hx=>by
   match x,hx with
   | 0,hx=>cases hx;exact ⟨rfl,Or.inl ⟨rfl,rfl⟩⟩
   | 1,hx=>cases hx;exact ⟨rfl,Or.inr (Or.inl ⟨rfl,rfl⟩)⟩
   | i + 2,hx =>
    have hx' : getName (d87 xs) i = some b:=by
     unfold getName e1p at hx
     unfold getName
     simpa using hx
    exact ⟨(c2 i b hx').1,Or.inr (Or.inr ⟨i,rfl,hx'⟩)⟩
  refine hc.use (Ls:=ρ2) hi ?_ ?_
  ·rw [hML]
   refine .cons _ _ _ _ ?_ (c1 ρ2 _ fun i hi=>⟨hρ i,by simp [upto];omega⟩)
   cases hu with
   | agg _ us hr =>
    cases hr with
    | cons _ _ _ _ r1 hr=>cases hr with
     | cons _ _ _ _ r2 hr =>
      cases hr
      cases r1
      cases r2
      exact .agg _ _ (.cons _ _ _ _ (Rep.ptr (ρ:=ρ2) (N:=upto (xs.length + 2)) false 0 0 (show (0 : Nat) < xs.length + 2 by omega)) (.cons _ _ _ _ (Rep.ptr (ρ:=ρ2) (N:=upto (xs.length + 2)) false 1 0 (show (1 : Nat) < xs.length + 2 by omega)) .nil))
  ·refine Inv.start _ ⟨fun x b hx => ?_,fun i j bi bj h1 h2 hij hrw => ?_,fun x b hx=>a0f hx,hi.sim.tab,fun G c hG x b hx hrw => ?_⟩ fun x b hx hrw => ?_
   ·rcases (gM x b hx).2 with ⟨rfl,rfl⟩ | ⟨rfl,rfl⟩ | ⟨i,rfl,hx'⟩
    ·exact ⟨cs,t,lo',hi',a1,a2,(fun h=>by cases h),a4,a3r a5 p1⟩
    ·exact ⟨cs2,t2,lo2,hi2,d1,d2,(fun h=>by cases h),d4,a3r d5 p3⟩
    ·have:=(c2 i b hx').2 ρ2 (upto (e1p b1.c b2.c xs).length) (hρ i)
     rwa [Nat.add_comm] at this
   ·rw [(gM i bi h1).1] at hrw;cases hrw
   ·rw [(gM x b hx).1] at hrw;cases hrw
   ·rw [(gM x b hx).1] at hrw;cases hrw
 exact ⟨@fun f ars m ob v m' h ho=>(both h ho).1, @fun f ars m ob v m' h ho w0 S ρ w vs ha hi=>(both h ho).2 ha hi⟩
end
theorem a1u {P : Program} {q : FuncId → Bool} {H : d82} {Λ : d8r} (hm : P.follows .mixedOrders = true) (hng : d7w P = true) (hH : HOk P H) {n : Nat} {g : FuncId} (hΛ : ∀ fn c,P.funcs[g]? = some fn → fn.body = some c → LOk P c Λ) {xs : List V} {o : List Bool} {v v' : AV} (ds : List Bool)
  (h : res ((d8a P q H Λ n g (d7z 0 xs) (d87 xs)).go ds) = some (o,v)) (ho : d7x o) (hv : v = v') (hpl : d8z v' = true) : d7y P g xs v' []:=
 a1v hm hng hH hΛ hpl (a13 (a5d h ho hv hpl))
end Go.Ev
namespace Go.Proofs.YthelmpjkkkhopaaGreatDoor
open Go.Ev Go.Wn
set_option maxRecDepth 100000
def f8f : List V → E (AV × Mem)
 | [.buf _ .u8 32 l]=>some ([],(.tuple [.ints .u64 4 (e4m l), .bool false true],[]))
 | _=>none
theorem d2j {xs : List V} {o : List Bool} {v : AV} {bs : Mem} (h : f8f xs = some (o,(v,bs))) (ho : d7x o) : d7y Tryz.prog 88 xs v bs:=by
 unfold f8f at h
 split at h
 ·rename_i s l
  cases h
  intro ρ vs w ha hi
  have hb : d8i ρ (upto 1) (d7z 0 [.buf false .u8 32 l]) vs:=by
   cases ha with
   | cons _ _ _ _ r0 hr=>cases hr with
    | nil=>cases r0 with
     | slice _ _ _ _ _ _ c ad hn hc hl hw had=>exact .cons _ _ _ _ (.slice false 0 0 32 none 1 c ad hn hc hl hw had) .nil
  exact d6t (xs:=[.buf false .u8 32 l]) (o:=[]) rfl d7x.nil hb hi
 ·cases h
def hd0 : d82:=d84 88 f8f f2r
theorem c8n : HOk Tryz.prog hd0:=b6a.d84 fun _ _ _ _ h ho=>d2j h ho
def be (l : List Int) : Int:=l.foldl (fun a x=>a * 256 + x) 0
structure RdS where
 L : List Int
 n : Nat
 l : List Int
 F : List Int
 r : List Int
 z : List Int
 o : Nat
 k : Nat
def e9u : List Nat:=[0,1,4,7]
def rdV (s : RdS) : List AV:=[.ptr false 0 0, .slice true 1 s.o s.k none 1, .ptr false 2 0, .ptr false 4 0]
def rdM (s : RdS) : Mem:=[some ⟨false, .ints .u64 (some 9) s.L⟩,some ⟨false, .ints .u8 (some s.n) s.l⟩,some ⟨true, .ints .u64 (some 4) s.z⟩,some ⟨true, .ints .u8 (some 32) s.F⟩,some ⟨true, .ints .u64 (some 4) s.r⟩]
def rdP : List AV → Mem → Option RdS
 | [.ptr false 0 0, .slice true 1 o k none 1, .ptr false 2 0, .ptr false 4 0],[some ⟨false, .ints .u64 (some 9) L⟩,some ⟨false, .ints .u8 (some n) l⟩,some ⟨true, .ints .u64 (some 4) z⟩,some ⟨true, .ints .u8 (some 32) F⟩,some ⟨true, .ints .u64 (some 4) r⟩]=>some ⟨L,n,l,F,r,z,o,k⟩
 | _,_=>none
def rdO (s : RdS) : List Bool:=[good s.L,decide (val s.L < W4),decide (s.o + s.k = s.n),decide (s.k % 32 = 0),decide (s.l.length = s.n),s.l.all (inR .u8),decide (s.n < 9223372036854775808),decide (s.r = limbs (be (s.l.take s.o) % val s.L))]
def rdF (s : RdS) : List (Nat × AV) × Mem:=([(4, .ptr false 2 0),(7, .ptr false 4 0)],rdM { s with r:=limbs (be s.l % val s.L) })
def rdΛ : d8r:=e0p 0 55 e9u rdP rdO rdF fun _ _=>none
def rdX (s : RdS) : List Int:=(s.l.drop s.o).take 32
def rdA (s : RdS) : Int:=val (limbs (val s.r * 2 ^ 256 % val s.L)) + val (limbs (val (e4m (rdX s)) % val s.L))
theorem rd_t (x : Nat → AV) (s : RdS) : d8p e9u ((d8d Tryz.prog d93 hd0 (fun _ _=>none) 100 (lp (blk 0 (d80 Tryz.prog 53))) ⟨d8m (ups x (d8o e9u (rdV s))) 55,rdM s⟩).go [true]) =
  some ([decide (s.k < 9223372036854775808),decide ((s.k : Int) > 0),decide ((0 : Int) ≤ 32) && decide ((32 : Int) ≤ s.k),decide (s.o + 32 ≤ s.n),good s.L,good s.L,decide (0 < val s.L),decide (rdA s < 2 * val s.L),decide ((0 : Int) ≤ 32) && decide ((32 : Int) ≤ s.k)],0,
   [.ptr false 0 0, .slice true 1 (s.o + 32) (s.k - 32) none 1, .ptr false 2 0, .ptr false 4 0],55,rdM { s with r:=limbs (rdA s % val s.L) } ++ [some ⟨true, .ints .u64 (some 4) (e4m (rdX s))⟩]):=by kernel_rfl
theorem rd_f (x : Nat → AV) (s : RdS) : d8p e9u ((d8d Tryz.prog d93 hd0 (fun _ _=>none) 100 (lp (blk 0 (d80 Tryz.prog 53))) ⟨d8m (ups x (d8o e9u (rdV s))) 55,rdM s⟩).go [false]) =
  some ([decide (s.k < 9223372036854775808), !decide ((s.k : Int) > 0)],2,rdV s,55,rdM s):=by kernel_rfl
theorem d2k (l : List Int) (a : Int) : ∀ (b : Int),l.foldl (fun a x=>a * 256 + x) (a + b) = a * 256 ^ l.length + l.foldl (fun a x=>a * 256 + x) b:=by
 induction l generalizing a with
 | nil=>intro b;simp
 | cons x l ih =>
  intro b
  simp only [List.foldl_cons,List.length_cons]
  have e : (a + b) * 256 + x = a * 256 + (b * 256 + x):=by rw [Int.add_mul,Int.add_assoc]
  rw [e,ih (a * 256) (b * 256 + x),Int.pow_succ,Int.mul_assoc,Int.mul_comm 256]
theorem b4c (a b : List Int) : be (a ++ b) = be a * 256 ^ b.length + be b:=by
 unfold be
 rw [List.foldl_append]
 have:=d2k b (a.foldl (fun a x=>a * 256 + x) 0) 0
 rwa [Int.add_zero] at this
theorem b84 : ∀ (k : Nat) (x : List Int),be (List.replicate k 0 ++ x) = be x
 | 0,x=>by simp
 | k + 1,x=>by
  have:=b84 k x
  unfold be at *
  rw [List.replicate_succ,List.cons_append,List.foldl_cons]
  exact this
theorem b85 {X : List Int} (h : X.length = 32) : val (e4m X) = be X:=by
 obtain ⟨b0,b1,b2,b3,b4,b5,b6,b7,b8,b9,b10,b11,b12,b13,b14,b15,b16,b17,b18,b19,b20,b21,b22,b23,b24,b25,b26,b27,b28,b29,b30,b31,rfl⟩:=thirty h
 simp only [e4m,W8,val,be,List.foldl_cons,List.foldl_nil,List.getD_cons_zero,List.getD_cons_succ]
 omega
theorem f8g : (256 : Int) ^ 32 = 2 ^ 256:=by decide
theorem a2v {x M : Int} (h0 : 0 < M) (h1 : M < W4) : val (limbs (x % M)) = x % M:=by
 rw [a1f]
 exact Int.emod_eq_of_lt (Int.emod_nonneg _ (by omega)) (Int.lt_trans (Int.emod_lt_of_pos _ h0) h1)
structure RdJ (s0 s : RdS) : Prop where
 hL : s.L = s0.L
 hn : s.n = s0.n
 hl : s.l = s0.l
 hF : s.F = s0.F
 hz : s.z = s0.z
 g : good s.L = true
 g4 : val s.L < W4
 sum : s.o + s.k = s.n
 k32 : s.k % 32 = 0
 len : s.l.length = s.n
 small : s.n < 9223372036854775808
 r : s.r = limbs (be (s.l.take s.o) % val s.L)
set_option maxHeartbeats 1000000 in
theorem d6r : LOk Tryz.prog (d80 Tryz.prog 53) rdΛ:=by
 refine a29 (q:=d93) (n:=100) rdV rdM RdJ (fun s=>s.k) mixed c8n LOk.none LOk.none (by kernel_rfl) (by kernel_rfl) (fun s=>rfl) (fun s=>rfl) (fun avs m s h ho => ?_) (fun s0 s hJ x => ?_)
 ·unfold rdP at h
  split at h
  ·cases h
   have o1:=ho _ (f9b ..)
   have o2:=ho _ (f9a _ (f9b ..))
   have o3:=ho _ (f9a _ (f9a _ (f9b ..)))
   have o4:=ho _ (f9a _ (f9a _ (f9a _ (f9b ..))))
   have o5:=ho _ (f9a _ (f9a _ (f9a _ (f9a _ (f9b ..)))))
   have o7:=ho _ (f9a _ (f9a _ (f9a _ (f9a _ (f9a _ (f9a _ (f9b ..)))))))
   have o8:=ho _ (f9a _ (f9a _ (f9a _ (f9a _ (f9a _ (f9a _ (f9a _ (f9b ..))))))))
   exact ⟨_,LeL.refl _,rfl,⟨rfl,rfl,rfl,rfl,rfl,o1,f9c o2,f9c o3,f9c o4,f9c o5,f9c o7,f9c o8⟩⟩
  ·cases h
 ·obtain ⟨L,n,l,F,r,z,o,k⟩:=s
  obtain ⟨L0,n0,l0,F0,r0,z0,oo,k0⟩:=s0
  obtain ⟨hL,hn,hl,hF,hz,g,g4,sum,k32,len,small,hr⟩:=hJ
  simp only at hL hn hl hF hz g g4 sum k32 len small hr
  subst hL hn hl hF hz
  obtain ⟨h1,h2,h3,h4⟩:=a26.1 g
  have hM : 0 < val L:=by omega
  by_cases hk : k = 0
  ·subst hk
   have ho : l.take o = l:=List.take_of_length_le (by omega)
   rw [ho] at hr
   refine Round.out (rd_f x ⟨L,n,l,F,r,z,o,0⟩) rfl (by simp only [rdF,hr];rfl) (a00 (by simp) (a00 (by simp) d7x.nil)) fun p hp => ?_
   simp only [rdF,List.mem_cons,List.not_mem_nil,or_false] at hp
   rcases hp with rfl | rfl
   ·exact ⟨_,by simp [e9u,rdV,d8o],Le1.refl _⟩
   ·exact ⟨_,by simp [e9u,rdV,d8o],Le1.refl _⟩
  ·have hX : (rdX ⟨L,n,l,F,r,z,o,k⟩).length = 32:=by simp only [rdX,List.length_take,List.length_drop];omega
   have hvr : val r = be (l.take o) % val L:=by rw [hr];exact a2v hM g4
   have hA : rdA ⟨L,n,l,F,r,z,o,k⟩ = be (l.take o) % val L * 2 ^ 256 % val L + be (rdX ⟨L,n,l,F,r,z,o,k⟩) % val L:=by
    simp only [rdA]
    rw [hvr,a2v hM g4,b85 hX,a2v hM g4]
   have hstep : be (l.take (o + 32)) = be (l.take o) * 2 ^ 256 + be (rdX ⟨L,n,l,F,r,z,o,k⟩):=by
    rw [List.take_add,b4c,show ((l.drop o).take 32).length = 32 from hX,f8g]
    rfl
   have hlt : rdA ⟨L,n,l,F,r,z,o,k⟩ < 2 * val L:=by
    rw [hA]
    have a1:=Int.emod_lt_of_pos (be (l.take o) % val L * 2 ^ 256) hM
    have a2:=Int.emod_lt_of_pos (be (rdX ⟨L,n,l,F,r,z,o,k⟩)) hM
    omega
   have e : rdA ⟨L,n,l,F,r,z,o,k⟩ % val L = be (l.take (o + 32)) % val L:=by
    rw [hA,hstep,Int.add_emod,Int.emod_emod_of_dvd _ (Int.dvd_refl _),Int.emod_emod_of_dvd _ (Int.dvd_refl _),Int.mul_emod,Int.emod_emod_of_dvd _ (Int.dvd_refl _), ← Int.mul_emod, ← Int.add_emod]
   refine Round.on (rd_t x ⟨L,n,l,F,r,z,o,k⟩) ⟨L,n,l,F,limbs (be (l.take (o + 32)) % val L),z,o + 32,k - 32⟩ [some ⟨true, .ints .u64 (some 4) (e4m (rdX ⟨L,n,l,F,r,z,o,k⟩))⟩] (by simp only [rdM,e]) ?_ (LeL.refl _) ⟨rfl,rfl,rfl,rfl,rfl,g,g4,by simp only;omega,by simp only;omega,len,small,rfl⟩ rfl (by show k - 32 < k;omega)
   ·exact a00 (decide_eq_true (by simp only;omega)) (a00 (decide_eq_true (by simp only;omega)) (a00 (by simp;omega) (a00 (decide_eq_true (by simp only;omega)) (a00 g (a00 g (a00 (decide_eq_true hM) (a00 (decide_eq_true hlt) (a00 (by simp;omega) d7x.nil))))))))
def f2t : List Int:=[0,0,0,0,0,0,0,0,0,0,0,0,0,0,0,0,0,0,0,0,0,0,0,0,0,0,0,0,0,0,0,0]
def e4t (n : Nat) : Int:=(n : Int).tmod 32
def e9v (n : Nat) : Nat:=(IntKind.i64.wrap (32 - e4t n)).toNat
def f1s (n : Nat) : Nat:=Nat.min ((e4t n).toNat - 0) (32 - e9v n)
def f1t (n : Nat) (l : List Int) : List Int:=f2t.take (0 + e9v n * 1) ++ (((l.drop (0 + 0 * 1)).take ((e4t n).toNat - 0)).take (f1s n)) ++ f2t.drop (0 + e9v n * 1 + f1s n)
def f8h : List V → E (AV × Mem)
 | [.pt (.ints .u64 (some 9) L), .buf true .u8 n l]=>some ([good L,decide (n < 9223372036854775808)],(.ints .u64 4 (limbs (be l % val L)),[]))
 | _=>none
def f2u (L : List Int) (n : Nat) (l : List Int) : RdS:=⟨L,n,l,f1t n l,limbs (val (e4m (f1t n l)) % val L),[0,0,0,0],0 + (e4t n).toNat * 1,n - (e4t n).toNat⟩
theorem c6c (L : List Int) (n : Nat) (l : List Int) : res ((d8a Tryz.prog d93 hd0 rdΛ 100 53 (d7z 0 [.pt (.ints .u64 (some 9) L), .buf true .u8 n l]) (d87 [.pt (.ints .u64 (some 9) L), .buf true .u8 n l])).go []) =
  some ([decide (n < 9223372036854775808),decide (0 ≤ IntKind.i64.wrap (32 - e4t n)) && decide (IntKind.i64.wrap (32 - e4t n) ≤ ((32 : Nat) : Int)),decide (0 ≤ e4t n) && decide (e4t n ≤ n),decide (0 + 0 * 1 + ((e4t n).toNat - 0) ≤ n),decide (32 - e9v n < 9223372036854775808),decide (0 + e9v n * 1 + f1s n ≤ f2t.length),good L,decide (0 ≤ e4t n) && decide (e4t n ≤ n)] ++ rdO (f2u L n l), .ints .u64 4 (limbs (be l % val L))):=by kernel_rfl
theorem b1l (n : Nat) : e4t n = ((n % 32 : Nat) : Int):=by
 unfold e4t
 rw [Int.tmod_eq_emod_of_nonneg (by omega)]
 omega
theorem b6b (n : Nat) : IntKind.i64.wrap (32 - e4t n) = ((32 - n % 32 : Nat) : Int) ∧ e9v n = 32 - n % 32:=by
 have h : IntKind.i64.wrap (32 - e4t n) = ((32 - n % 32 : Nat) : Int):=by
  rw [b1l]
  unfold IntKind.wrap
  simp [IntKind.bits,IntKind.signed]
  omega
 exact ⟨h,by unfold e9v;rw [h,Int.toNat_natCast]⟩
theorem c3a (n : Nat) : f1s n = n % 32:=by
 unfold f1s
 rw [(b6b n).2,b1l,Int.toNat_natCast]
 have : Nat.min (n % 32 - 0) (32 - (32 - n % 32)) = min (n % 32 - 0) (32 - (32 - n % 32)):=rfl
 omega
theorem d2l (n : Nat) (l : List Int) : f1t n l = List.replicate (32 - n % 32) 0 ++ l.take (n % 32):=by
 unfold f1t
 rw [(b6b n).2,c3a,b1l,Int.toNat_natCast]
 have hz : f2t = List.replicate 32 0:=rfl
 rw [hz,List.take_replicate,List.drop_replicate,show 32 - (0 + (32 - n % 32) * 1 + n % 32) = 0 by omega,show min (0 + (32 - n % 32) * 1) 32 = 32 - n % 32 by omega]
 simp [List.take_take]
theorem c8o {xs : List V} {o : List Bool} {v : AV} {bs : Mem} (h : f8h xs = some (o,(v,bs))) (ho : d7x o) : d7y Tryz.prog 53 xs v bs:=by
 unfold f8h at h
 split at h
 ·rename_i L n l
  cases h
  have g:=ho _ (f9b ..)
  have hn:=ho _ (f9a _ (f9b ..))
  rw [decide_eq_true_eq] at hn
  obtain ⟨h1,h2,h3,h4⟩:=a26.1 g
  intro ρ vs w ha hi
  obtain ⟨hl,hr⟩:=a0l hi 1 rfl
  have hL : val L < W4:=by
   obtain ⟨m0,m1,m2,m3,ni,s0,s1,s2,s3,rfl,w0,w1,w2,w3,_⟩:=a2n hi rfl
   exact (a08 w0 w1 w2 w3).2
  have hM : 0 < val L:=by omega
  obtain ⟨c1,c2⟩:=b6b n
  have t:=b1l n
  have k:=c3a n
  have hx:=d2l n l
  have hxl : (f1t n l).length = 32:=by rw [hx];simp;omega
  refine a1u mixed d7w c8n (fun fn c hf hb=>by rw [a0r hf hb];exact d6r) [] (c6c L n l) ?_ rfl (by kernel_rfl) ha hi
  rw [c1,c2,t,k]
  refine a01.2 ⟨a00 (decide_eq_true hn) (a00 (by simp;omega) (a00 (by simp;omega) (a00 (decide_eq_true (by rw [Int.toNat_natCast];omega)) (a00 (decide_eq_true (by omega)) (a00 (decide_eq_true (by show _ ≤ 32;omega)) (a00 g (a00 (by simp;omega) d7x.nil))))))), ?_⟩
  refine a00 g (a00 (decide_eq_true hL) (a00 (decide_eq_true ?_) (a00 (decide_eq_true ?_) (a00 (decide_eq_true hl) (a00 (List.all_eq_true.2 hr) (a00 (decide_eq_true hn) (a00 (decide_eq_true ?_) d7x.nil)))))))
  ·simp only [f2u,t,Int.toNat_natCast];omega
  ·simp only [f2u,t,Int.toNat_natCast];omega
  ·simp only [f2u]
   rw [b85 hxl,hx,b84,t,Int.toNat_natCast,Nat.zero_add,Nat.mul_one]
 ·cases h
def hd1 : d82:=d84 53 f8h f2r
theorem d6s : HOk Tryz.prog hd1:=b6a.d84 fun _ _ _ _ h ho=>c8o h ho
end Go.Proofs.YthelmpjkkkhopaaGreatDoor
