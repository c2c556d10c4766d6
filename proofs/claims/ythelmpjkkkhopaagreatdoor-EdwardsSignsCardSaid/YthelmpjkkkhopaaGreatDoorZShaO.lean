/- The reference's Reduce of bytes. Own work. -/
import Derived.Test.YthelmpjkkkhopaaGreatDoorZMrA
import Derived.Test.YthelmpjkkkhopaaGreatDoorZMyRd
import Derived.Test.YthelmpjkkkhopaaGreatDoorZEwC
set_option linter.unusedSimpArgs false
set_option linter.unusedVariables false
set_option linter.unusedSectionVars false
namespace Go.Proofs.YthelmpjkkkhopaaGreatDoor
open Go.Ev Go.Wn
set_option maxRecDepth 100000
structure ReS where
 m : List Int
 n : Nat
 l : List Int
 r : List Int
 z : List Int
 i : Int
 q : Nat
def f00 : List Nat:=[0,3,4,5,6]
def rqV (s : ReS) : List AV:=[.slice true 0 0 s.q none 1, .ptr false 2 0, .ptr false 3 0, .ptr false 4 0, .int true .i64 s.i]
def rqM (s : ReS) : Mem:=[some ⟨false, .ints .u8 (some s.n) s.l⟩,none,some ⟨true, .ints .u64 (some 4) s.m⟩,some ⟨true, .ints .u64 (some 4) s.z⟩,some ⟨true, .ints .u64 (some 4) s.r⟩]
def rqP : List AV → Mem → Option ReS
 | [.slice true 0 0 q none 1, .ptr false 2 0, .ptr false 3 0, .ptr false 4 0, .int _ .i64 i],[some ⟨false, .ints .u8 (some n) l⟩,none,some ⟨true, .ints .u64 (some 4) m⟩,some ⟨true, .ints .u64 (some 4) z⟩,some ⟨true, .ints .u64 (some 4) r⟩]=>some ⟨m,n,l,r,z,i,q⟩
 | _,_=>none
def rqW (s : ReS) : List Int:=
 [IntKind.u64.wrap (d9l .u64 (s.r.getD 0 0) 8 + IntKind.u64.wrap (s.l.getD (0 + s.i.toNat * 1) 0)),IntKind.u64.wrap (d9l .u64 (s.r.getD 1 0) 8 + d88 .u64 (s.r.getD 0 0) 56),IntKind.u64.wrap (d9l .u64 (s.r.getD 2 0) 8 + d88 .u64 (s.r.getD 1 0) 56),IntKind.u64.wrap (d9l .u64 (s.r.getD 3 0) 8 + d88 .u64 (s.r.getD 2 0) 56),d88 .u64 (s.r.getD 3 0) 56,0,0,0,0]
def rqN (s : ReS) : List Int:=limbs (sg (fun t=>(rqW s).getD t 0) 9 % val s.m)
theorem rq_t (x : Nat → AV) (s : ReS) : d8p f00 ((d8d Tryz.prog d93 hf3 (fun _ _=>none) 100 (lp (blk 0 (d80 Tryz.prog 63))) ⟨d8m (ups x (d8o f00 (rqV s))) 50,rqM s⟩).go [true]) =
  some ([decide (s.q < 9223372036854775808),decide (s.i < s.q),decide (0 ≤ s.i) && decide (s.i < s.q),decide (0 + s.i.toNat * 1 + 1 ≤ s.n),decide (0 < val s.m)],0,
   [.slice true 0 0 s.q none 1, .ptr false 2 0, .ptr false 3 0, .ptr false 4 0, .int true .i64 (IntKind.i64.wrap (s.i + 1))],50,rqM { s with r:=rqN s } ++ []):=by kernel_rfl
theorem rq_f (x : Nat → AV) (s : ReS) : d8p f00 ((d8d Tryz.prog d93 hf3 (fun _ _=>none) 100 (lp (blk 0 (d80 Tryz.prog 63))) ⟨d8m (ups x (d8o f00 (rqV s))) 50,rqM s⟩).go [false]) =
  some ([decide (s.q < 9223372036854775808), !decide (s.i < s.q)],2,rqV s,50,rqM s):=by kernel_rfl
theorem f0p (x : Int) : IntKind.u64.wrap x = x % 18446744073709551616:=by
 unfold IntKind.wrap;simp [IntKind.bits,IntKind.signed]
theorem f2y (x : Int) : d9l .u64 x 8 = x * 256 % 18446744073709551616:=by
 unfold d9l
 rw [f0p]
 have : (2 : Int) ^ (min (Int.toNat 8) (IntKind.bits .u64)) = 256:=by decide
 rw [this]
theorem e8h (x : Int) : d88 .u64 x 56 = x / 72057594037927936:=by
 unfold d88
 have : (2 : Int) ^ (min (Int.toNat 56) (IntKind.bits .u64)) = 72057594037927936:=by decide
 rw [this,Int.fdiv_eq_ediv_of_nonneg _ (by omega)]
theorem d30 {a b c d x : Int} (ha : W a) (hb : W b) (hc : W c) (hd : W d) (hx : 0 ≤ x ∧ x < 256) (s : ReS) (hs : s.r = [a,b,c,d]) (hl : s.l.getD (0 + s.i.toNat * 1) 0 = x) :
  sg (fun t=>(rqW s).getD t 0) 9 = val [a,b,c,d] * 256 + x:=by
 unfold W at ha hb hc hd
 unfold rqW
 rw [hs,hl]
 simp only [List.getD_cons_zero,List.getD_cons_succ]
 rw [sg9,f2y,f2y,f2y,f2y,e8h,e8h,e8h,e8h,f0p,f0p,f0p,f0p,f0p]
 simp only [val,W4,List.getD_cons_zero,List.getD_cons_succ]
 omega
structure ReJ (s0 s : ReS) : Prop where
 hm : s.m = s0.m
 hn : s.n = s0.n
 hl : s.l = s0.l
 hz : s.z = s0.z
 pos : 0 < val s.m
 g4 : val s.m < W4
 i0 : 0 ≤ s.i
 le : s.i ≤ s.n
 len : s.l.length = s.n
 byte : ∀ x ∈ s.l,inR .u8 x = true
 small : s.n < 9223372036854775808
 r : s.r = limbs (be (s.l.take s.i.toNat) % val s.m)
 qn : s.q = s.n
def rqO (s : ReS) : List Bool:=[decide (s.i = 0),decide (s.r = [0,0,0,0]),decide (0 < val s.m),decide (val s.m < W4),decide (s.l.length = s.n),s.l.all (inR .u8),decide (s.n < 9223372036854775808),decide (s.q = s.n)]
def rqF (s : ReS) : List (Nat × AV) × Mem:=([(4, .ptr false 3 0),(5, .ptr false 4 0)],rqM { s with r:=limbs (be s.l % val s.m) })
def rqΛ : d8r:=e0p 0 50 f00 rqP rqO rqF fun _ _=>none
set_option maxHeartbeats 1000000 in
theorem d7g : LOk Tryz.prog (d80 Tryz.prog 63) rqΛ:=by
 refine a29 (q:=d93) (n:=100) rqV rqM ReJ (fun s=>s.n - s.i.toNat) mixed c2n LOk.none LOk.none (by kernel_rfl) (by kernel_rfl) (fun s=>rfl) (fun s=>rfl) (fun avs m s h ho => ?_) (fun s0 s hJ x => ?_)
 ·unfold rqP at h
  split at h
  ·rename_i q sm i n l m z r
   cases h
   simp only [rqO] at ho
   have o1:=f9c (ho _ (f9b ..))
   have o2:=f9c (ho _ (f9a _ (f9b ..)))
   have o3:=f9c (ho _ (f9a _ (f9a _ (f9b ..))))
   have o4:=f9c (ho _ (f9a _ (f9a _ (f9a _ (f9b ..)))))
   have o5:=f9c (ho _ (f9a _ (f9a _ (f9a _ (f9a _ (f9b ..))))))
   have o6:=ho _ (f9a _ (f9a _ (f9a _ (f9a _ (f9a _ (f9b ..))))))
   have o7:=f9c (ho _ (f9a _ (f9a _ (f9a _ (f9a _ (f9a _ (f9a _ (f9b ..))))))))
   have o8:=f9c (ho _ (f9a _ (f9a _ (f9a _ (f9a _ (f9a _ (f9a _ (f9a _ (f9b ..)))))))))
   refine ⟨⟨m,n,l,r,z,i,q⟩, .cons (.refl _) (.cons (.refl _) (.cons (.refl _) (.cons (.refl _) (.cons (.int _ _ _) .nil)))),rfl,⟨rfl,rfl,rfl,rfl,o3,o4,by simp only at o1 ⊢;omega,by simp only at o1 ⊢;omega,o5,fun x hx=>List.all_eq_true.1 o6 x hx,o7, ?_,o8⟩⟩
   rw [o1,o2]
   show [0,0,0,0] = limbs (be (l.take 0) % val m)
   simp [be,limbs]
  ·cases h
 ·obtain ⟨m,n,l,r,z,i,q⟩:=s
  obtain ⟨m0,n0,l0,r0,z0,i00,q0⟩:=s0
  obtain ⟨hm,hn,hl,hz,pos,g4,i0,le,len,byte,small,hr,qn⟩:=hJ
  simp only at hm hn hl hz pos g4 i0 le len byte small hr qn
  subst hm hn hl hz qn
  by_cases hk : i = q
  ·subst hk
   have ho : l.take (Int.toNat (q : Int)) = l:=List.take_of_length_le (by omega)
   rw [ho] at hr
   refine Round.out (rq_f x ⟨m,q,l,r,z,q,q⟩) rfl (by simp only [rqF,hr];rfl) (a00 (decide_eq_true small) (a00 (by simp) d7x.nil)) fun p hp => ?_
   simp only [rqF,List.mem_cons,List.not_mem_nil,or_false] at hp
   rcases hp with rfl | rfl
   ·exact ⟨_,by simp [f00,rqV,d8o],Le1.refl _⟩
   ·exact ⟨_,by simp [f00,rqV,d8o],Le1.refl _⟩
  ·have hlt : i < q:=by omega
   have hit : i.toNat < l.length:=by omega
   have hb : 0 ≤ l[i.toNat] ∧ l[i.toNat] < 256:=a6f (byte _ (List.getElem_mem hit))
   have hd : l.getD (0 + i.toNat * 1) 0 = l[i.toNat]:=by rw [Nat.zero_add,Nat.mul_one,List.getD,List.getElem?_eq_getElem hit,Option.getD_some]
   have hrr : ∃ a b c d,r = [a,b,c,d] ∧ W a ∧ W b ∧ W c ∧ W d:=by
    rw [hr]
    exact ⟨_,_,_,_,rfl,by unfold W;omega,by unfold W;omega,by unfold W;omega,by unfold W;omega⟩
   obtain ⟨a,b,c,d,hr4,wa,wb,wc,wd⟩:=hrr
   have hvr : val [a,b,c,d] = be (l.take i.toNat) % val m:=by rw [← hr4,hr];exact a2v pos g4
   have hN : rqN ⟨m,q,l,r,z,i,q⟩ = limbs (be (l.take (i.toNat + 1)) % val m):=by
    unfold rqN
    rw [d30 wa wb wc wd hb ⟨m,q,l,r,z,i,q⟩ hr4 hd,hvr]
    have : be (l.take (i.toNat + 1)) = be (l.take i.toNat) * 256 + l[i.toNat]:=by
     rw [List.take_add_one,b4c,List.getElem?_eq_getElem hit]
     simp [be]
    simp only
    rw [this,Int.add_emod,Int.mul_emod,Int.emod_emod_of_dvd _ (Int.dvd_refl _), ← Int.mul_emod, ← Int.add_emod]
   have hw : IntKind.i64.wrap (i + 1) = i + 1:=by
    unfold IntKind.wrap;simp [IntKind.bits,IntKind.signed];omega
   have ht : (i + 1).toNat = i.toNat + 1:=by omega
   refine Round.on (rq_t x ⟨m,q,l,r,z,i,q⟩) ⟨m,q,l,limbs (be (l.take (i.toNat + 1)) % val m),z,i + 1,q⟩ [] (by simp only [rqM,hN]) ?_ (by simp only [hw];exact LeL.refl _)
    ⟨rfl,rfl,rfl,rfl,pos,g4,by simp only;omega,by simp only;omega,len,byte,small,by simp only [ht],rfl⟩ rfl (by simp only;omega)
   exact a00 (decide_eq_true small) (a00 (decide_eq_true hlt) (a00 (by simp;omega) (a00 (decide_eq_true (by simp only;omega)) (a00 (decide_eq_true pos) d7x.nil))))
def rqdS : List V → E (AV × Mem)
 | [.buf true .u8 n l, .pl (.ints .u64 4 m)]=>some ([decide (0 < val m),decide (n < 9223372036854775808)],(.ints .u64 4 (limbs (be l % val m)),[]))
 | _=>none
theorem c6s (n : Nat) (l m : List Int) : res ((d8a Tryz.prog d93 hf3 rqΛ 100 63 (d7z 0 [.buf true .u8 n l, .pl (.ints .u64 4 m)]) (d87 [.buf true .u8 n l, .pl (.ints .u64 4 m)])).go []) =
  some (rqO ⟨m,n,l,[0,0,0,0],[0,0,0,0],0,n⟩, .ints .u64 4 (limbs (be l % val m))):=by kernel_rfl
theorem d7h {xs : List V} {o : List Bool} {v : AV} {bs : Mem} (h : rqdS xs = some (o,(v,bs))) (ho : d7x o) : d7y Tryz.prog 63 xs v bs:=by
 unfold rqdS at h
 split at h
 ·rename_i n l m
  cases h
  have hp:=f9c (ho _ (f9b ..))
  have hn:=f9c (ho _ (f9a _ (f9b ..)))
  intro ρ vs w ha hi
  obtain ⟨hl,hr⟩:=a0l hi 0 rfl
  have hm : val m < W4:=by
   cases ha with
   | cons _ _ _ _ r0 hb=>cases hb with
    | cons _ _ _ _ r1 hb =>
     obtain ⟨a,b,c,d,rfl,w0,w1,w2,w3⟩:=a0g r1
     exact (a08 w0 w1 w2 w3).2
  exact a1u mixed d7w c2n (fun fn c hf hb=>by rw [a0r hf hb];exact d7g) [] (c6s n l m) (a00 rfl (a00 rfl (a00 (decide_eq_true hp) (a00 (decide_eq_true hm) (a00 (decide_eq_true hl) (a00 (List.all_eq_true.2 hr) (a00 (decide_eq_true hn) (a00 (decide_eq_true rfl) d7x.nil)))))))) rfl (by kernel_rfl) ha hi
 ·cases h
def f8s : List V → E (AV × Mem)
 | [.buf false .u8 n l, .pl (.ints .u64 4 m)]=>some ([decide (0 < val m),decide (n < 9223372036854775808)],(.ints .u64 4 (limbs (be l % val m)),[]))
 | _=>none
theorem d7i {xs : List V} {o : List Bool} {v : AV} {bs : Mem} (h : f8s xs = some (o,(v,bs))) (ho : d7x o) : d7y Tryz.prog 63 xs v bs:=by
 unfold f8s at h
 split at h
 ·rename_i n l m
  cases h
  intro ρ vs w ha hi
  have hb : d8i ρ (upto 2) (d7z 0 [.buf true .u8 n l, .pl (.ints .u64 4 m)]) vs:=by
   cases ha with
   | cons _ _ _ _ r0 hr=>cases r0 with
    | slice _ _ _ _ _ _ c ad hn hc hl hw had=>exact .cons _ _ _ _ (.slice true 0 0 n none 1 c ad hn hc hl hw had) hr
  exact d7h (xs:=[.buf true .u8 n l, .pl (.ints .u64 4 m)]) (o:=[decide (0 < val m),decide (n < 9223372036854775808)]) rfl ho hb hi
 ·cases h
end Go.Proofs.YthelmpjkkkhopaaGreatDoor
namespace Go.Sh
open Go.Ev
theorem c6t {n : Nat} (h : n ≤ 32) {x : Int} (hx : Wd 32 x) : (IntKind.u64.wrap (d88 .u64 x (n : Int) + d9l .u64 x (IntKind.i64.wrap (32 - (n : Int))))).tmod 4294967296 = rr 32 n x:=by
 have e1 : IntKind.i64.wrap (32 - (n : Int)) = ((32 - n : Nat) : Int):=by rw [e09 (by omega)];omega
 rw [e1,e7q n (by omega),sl64 (32 - n) (by omega),a0m (k := .u64) rfl,Int.tmod_eq_emod_of_nonneg (Int.emod_nonneg _ (by decide))]
 have hr:=a4z h hx
 have hm:=b8c h x
 unfold rr at hr ⊢
 rw [← hm] at hr ⊢
 generalize x / 2 ^ n = a at *
 generalize x * 2 ^ (32 - n) = b at *
 unfold Wd at hr
 simp only [IntKind.bits]
 omega
theorem c6u {n : Nat} (h : n ≤ 64) {x : Int} (hx : Wd 64 x) : ior .u64 (d88 .u64 x (n : Int)) (d9l .u64 x (IntKind.i64.wrap (64 - (n : Int)))) = rr 64 n x:=by
 have e1 : IntKind.i64.wrap (64 - (n : Int)) = ((64 - n : Nat) : Int):=by rw [e09 (by omega)];omega
 have e2 : ior .u64 (x / 2 ^ n) (x * 2 ^ (64 - n) % 2 ^ 64) = io (x / 2 ^ n) (x * 2 ^ (64 - n) % 2 ^ 64):=a6w (k := .u64) rfl (b4j hx) ⟨Int.emod_nonneg _ (by decide),Int.emod_lt_of_pos _ (by decide)⟩
 rw [e1,e7q n h,sl64 (64 - n) (by omega),e2,d2y]
 exact c8y h hx
theorem d7j {x : Int} (h : 0 ≤ x) : x.tmod 4294967296 = x % 2 ^ 32:=Int.tmod_eq_emod_of_nonneg h
theorem d7k {a g : Int} (ha : Wd 64 a) (hg : Wd 32 g) : ia a g = ia (a % 2 ^ 32) g:=by
 obtain ⟨x,hx,rfl⟩:=a2q ha
 obtain ⟨y,hy,rfl⟩:=a2q hg
 have e : ((x : Nat) : Int) % 2 ^ 32 = ((x % 2 ^ 32 : Nat) : Int):=by simp
 unfold ia
 rw [e,Int.toNat_natCast,Int.toNat_natCast,Int.toNat_natCast]
 have h1 : (x &&& y) % 2 ^ 32 = (x % 2 ^ 32) &&& (y % 2 ^ 32):=Nat.and_mod_two_pow
 rw [Nat.mod_eq_of_lt hy] at h1
 rw [← h1,Nat.mod_eq_of_lt (Nat.lt_of_le_of_lt Nat.and_le_right hy)]
theorem d31 {e : Int} (h : Wd 32 e) : (2 ^ 64 - 1 - e) % 2 ^ 32 = 2 ^ 32 - 1 - e:=by unfold Wd at h;omega
theorem d32 {e f g : Int} (he : Wd 32 e) (hg : Wd 32 g) : io (ia e f) (ia (2 ^ 64 - 1 - e) g) = cho 32 e f g:=by
 have h : Wd 64 (2 ^ 64 - 1 - e):=by unfold Wd at he ⊢;omega
 rw [d7k h hg,d31 he]
 rfl
def d8v (w : Nat) (a b c x : Int) : Int:=ix (ix (rr w a.toNat x) (rr w b.toNat x)) (if c < 0 then x / 2 ^ (-c).toNat else rr w c.toNat x)
end Go.Sh
namespace Go.Ev
section
variable [Tab] {P : Program}
theorem LeL.reps {ρ : Nat → d8c} {N : Nat → Prop} : ∀ {l q : List AV} {vs : List Value},LeL l q → d8i ρ N l vs → d8i ρ N q vs
 | _,_,_, .nil,h=>h
 | _,_,_, .cons h hs,h'=>by
  cases h' with
  | cons _ _ _ _ r0 hr=>exact .cons _ _ _ _ (h.rep r0) (hs.reps hr)
theorem a7b {g : FuncId} {l q : List AV} {v : AV} (h : LeL l q) (hp : d86 P g q v) : d86 P g l v:=fun hr w hT=>hp (h.reps hr) w hT
end
end Go.Ev
namespace Go.Proofs.YthelmpjkkkhopaaGreatDoor
open Go.Ev Go.Sh
set_option maxRecDepth 100000
theorem c6v (x n : Int) : res ((d81 Tryz.prog qS h0S 100 109 [.int true .u64 x, .int true .i64 n, .int false .i64 32] []).go []) = some ([!decide (n < 0), !decide (IntKind.i64.wrap (32 - n) < 0)], .int true .u64 ((IntKind.u64.wrap (d88 .u64 x n + d9l .u64 x (IntKind.i64.wrap (32 - n)))).tmod 4294967296)):=by kernel_rfl
theorem c6w (x n : Int) : res ((d81 Tryz.prog qS h0S 100 109 [.int true .u64 x, .int true .i64 n, .int false .i64 64] []).go []) = some ([!decide (n < 0), !decide (IntKind.i64.wrap (64 - n) < 0)], .int true .u64 (ior .u64 (d88 .u64 x n) (d9l .u64 x (IntKind.i64.wrap (64 - n))))):=by kernel_rfl
def f8t : List AV → E AV
 | [.int _ .u64 x, .int _ .i64 n, .int false .i64 32]=>some ([decide (0 ≤ x ∧ x < 4294967296),decide (0 ≤ n ∧ n ≤ 32)], .int true .u64 (rr 32 n.toNat x))
 | [.int _ .u64 x, .int _ .i64 n, .int false .i64 64]=>some ([decide (0 ≤ x ∧ x < 18446744073709551616),decide (0 ≤ n ∧ n ≤ 64)], .int true .u64 (rr 64 n.toNat x))
 | _=>none
theorem d7l {args : List AV} {o : List Bool} {v : AV} (h : f8t args = some (o,v)) (ho : d7x o) : d86 Tryz.prog 109 args v:=by
 unfold f8t at h
 split at h
 ·rename_i s1 x s2 n
  cases h
  have o1:=f9c (ho _ (f9b ..))
  have o2:=f9c (ho _ (f9a _ (f9b ..)))
  obtain ⟨k,rfl⟩ : ∃ k : Nat,n = k:=⟨n.toNat,by omega⟩
  refine @a7b _ _ _ _ [.int true .u64 x, .int true .i64 k, .int false .i64 32] _ (.cons (.int _ _ _) (.cons (.int _ _ _) (.cons (.refl _) .nil))) ?_
  refine a0k d89 d83 a2p [] rfl (c6v x k) (a00 ?_ (a00 ?_ d7x.nil)) ?_ rfl
  ·simp
  ·rw [e09 (by omega)];simp;omega
  ·rw [c6t (by omega) ⟨o1.1,by omega⟩,Int.toNat_natCast]
 ·rename_i s1 x s2 n
  cases h
  have o1:=f9c (ho _ (f9b ..))
  have o2:=f9c (ho _ (f9a _ (f9b ..)))
  obtain ⟨k,rfl⟩ : ∃ k : Nat,n = k:=⟨n.toNat,by omega⟩
  refine @a7b _ _ _ _ [.int true .u64 x, .int true .i64 k, .int false .i64 64] _ (.cons (.int _ _ _) (.cons (.int _ _ _) (.cons (.refl _) .nil))) ?_
  refine a0k d89 d83 a2p [] rfl (c6w x k) (a00 ?_ (a00 ?_ d7x.nil)) ?_ rfl
  ·simp
  ·rw [e09 (by omega)];simp;omega
  ·rw [c6u (by omega) ⟨o1.1,by omega⟩,Int.toNat_natCast]
 ·cases h
def f8u : List AV → E AV
 | [.int _ .u64 x, .int false .i64 32]=>some ([decide (0 ≤ x)], .int true .u64 (x % 2 ^ 32))
 | [.int _ .u64 x, .int false .i64 64]=>some ([], .int true .u64 x)
 | _=>none
theorem c6x (x : Int) : res ((d81 Tryz.prog qS h0S 100 96 [.int true .u64 x, .int false .i64 32] []).go []) = some ([], .int true .u64 (x.tmod 4294967296)):=by kernel_rfl
theorem c6y (x : Int) : res ((d81 Tryz.prog qS h0S 100 96 [.int true .u64 x, .int false .i64 64] []).go []) = some ([], .int true .u64 x):=by kernel_rfl
theorem d7m {args : List AV} {o : List Bool} {v : AV} (h : f8u args = some (o,v)) (ho : d7x o) : d86 Tryz.prog 96 args v:=by
 unfold f8u at h
 split at h
 ·rename_i s1 x
  cases h
  have o1:=f9c (ho _ (f9b ..))
  refine @a7b _ _ _ _ [.int true .u64 x, .int false .i64 32] _ (.cons (.int _ _ _) (.cons (.refl _) .nil)) ?_
  exact a0k d89 d83 a2p [] rfl (c6x x) d7x.nil (by rw [d7j o1]) rfl
 ·rename_i s1 x
  cases h
  refine @a7b _ _ _ _ [.int true .u64 x, .int false .i64 64] _ (.cons (.int _ _ _) (.cons (.refl _) .nil)) ?_
  exact a0k d89 d83 a2p [] rfl (c6y x) d7x.nil rfl rfl
 ·cases h
def f0q : d82:=d8g 109 f8t (d8g 96 f8u h0S)
theorem a92 : HOk Tryz.prog f0q:=(a2p.d8g fun _ _ _ h ho=>d7m h ho).d8g fun _ _ _ h ho=>d7l h ho
theorem d33 (x a b c : Int) : res ((d81 Tryz.prog qS f0q 100 97 [.int true .u64 x, .int true .i64 a, .int true .i64 b, .int true .i64 c, .int false .i64 32] []).go [true]) = some ([decide (c < 0), !decide (IntKind.i64.wrap (0 - c) < 0),decide (0 ≤ x ∧ x < 4294967296),decide (0 ≤ a ∧ a ≤ 32),decide (0 ≤ x ∧ x < 4294967296),decide (0 ≤ b ∧ b ≤ 32)],
  .int true .u64 (e0b .u64 (e0b .u64 (rr 32 a.toNat x) (rr 32 b.toNat x)) (d88 .u64 x (IntKind.i64.wrap (0 - c))))):=by kernel_rfl
theorem d34 (x a b c : Int) : res ((d81 Tryz.prog qS f0q 100 97 [.int true .u64 x, .int true .i64 a, .int true .i64 b, .int true .i64 c, .int false .i64 32] []).go [false]) = some ([!decide (c < 0),decide (0 ≤ x ∧ x < 4294967296),decide (0 ≤ c ∧ c ≤ 32),decide (0 ≤ x ∧ x < 4294967296),decide (0 ≤ a ∧ a ≤ 32),decide (0 ≤ x ∧ x < 4294967296),decide (0 ≤ b ∧ b ≤ 32)],
  .int true .u64 (e0b .u64 (e0b .u64 (rr 32 a.toNat x) (rr 32 b.toNat x)) (rr 32 c.toNat x))):=by kernel_rfl
theorem d35 (x a b c : Int) : res ((d81 Tryz.prog qS f0q 100 97 [.int true .u64 x, .int true .i64 a, .int true .i64 b, .int true .i64 c, .int false .i64 64] []).go [true]) = some ([decide (c < 0), !decide (IntKind.i64.wrap (0 - c) < 0),decide (0 ≤ x ∧ x < 18446744073709551616),decide (0 ≤ a ∧ a ≤ 64),decide (0 ≤ x ∧ x < 18446744073709551616),decide (0 ≤ b ∧ b ≤ 64)],
  .int true .u64 (e0b .u64 (e0b .u64 (rr 64 a.toNat x) (rr 64 b.toNat x)) (d88 .u64 x (IntKind.i64.wrap (0 - c))))):=by kernel_rfl
theorem d36 (x a b c : Int) : res ((d81 Tryz.prog qS f0q 100 97 [.int true .u64 x, .int true .i64 a, .int true .i64 b, .int true .i64 c, .int false .i64 64] []).go [false]) = some ([!decide (c < 0),decide (0 ≤ x ∧ x < 18446744073709551616),decide (0 ≤ c ∧ c ≤ 64),decide (0 ≤ x ∧ x < 18446744073709551616),decide (0 ≤ a ∧ a ≤ 64),decide (0 ≤ x ∧ x < 18446744073709551616),decide (0 ≤ b ∧ b ≤ 64)],
  .int true .u64 (e0b .u64 (e0b .u64 (rr 64 a.toNat x) (rr 64 b.toNat x)) (rr 64 c.toNat x))):=by kernel_rfl
def f8v : List AV → E AV
 | [.int _ .u64 x, .int _ .i64 a, .int _ .i64 b, .int _ .i64 c, .int false .i64 32]=>some ([decide (0 ≤ x ∧ x < 4294967296),decide (0 ≤ a ∧ a ≤ 32),decide (0 ≤ b ∧ b ≤ 32),decide (-32 ≤ c ∧ c ≤ 32)], .int true .u64 (d8v 32 a b c x))
 | [.int _ .u64 x, .int _ .i64 a, .int _ .i64 b, .int _ .i64 c, .int false .i64 64]=>some ([decide (0 ≤ x ∧ x < 18446744073709551616),decide (0 ≤ a ∧ a ≤ 64),decide (0 ≤ b ∧ b ≤ 64),decide (-64 ≤ c ∧ c ≤ 64)], .int true .u64 (d8v 64 a b c x))
 | _=>none
theorem e8i {w : Nat} (h : w = 32 ∨ w = 64) {x : Int} (hx : Wd w x) : Wd 64 x:=by
 rcases h with rfl | rfl <;> (unfold Wd at hx ⊢;omega)
theorem d7n {args : List AV} {o : List Bool} {v : AV} (h : f8v args = some (o,v)) (ho : d7x o) : d86 Tryz.prog 97 args v:=by
 unfold f8v at h
 split at h
 ·rename_i s1 x s2 a s3 b s4 c
  cases h
  have o1:=ho _ (f9b ..)
  have o2:=ho _ (f9a _ (f9b ..))
  have o3:=ho _ (f9a _ (f9a _ (f9b ..)))
  have o4:=f9c (ho _ (f9a _ (f9a _ (f9a _ (f9b ..)))))
  have p1:=f9c o1
  have p2:=f9c o2
  have p3:=f9c o3
  have hx : Wd 32 x:=⟨p1.1,by omega⟩
  have ra:=e8i (by decide) (a4z (w:=32) (n:=a.toNat) (by omega) hx)
  have rb:=e8i (by decide) (a4z (w:=32) (n:=b.toNat) (by omega) hx)
  refine @a7b _ _ _ _ [.int true .u64 x, .int true .i64 a, .int true .i64 b, .int true .i64 c, .int false .i64 32] _ (.cons (.int _ _ _) (.cons (.int _ _ _) (.cons (.int _ _ _) (.cons (.int _ _ _) (.cons (.refl _) .nil))))) ?_
  by_cases hc : c < 0
  ·have e : IntKind.i64.wrap (0 - c) = (((-c).toNat : Nat) : Int):=by rw [e09 (by omega)];omega
   refine a0k d89 d83 a92 [true] rfl (d33 x a b c) (a00 (decide_eq_true hc) (a00 (by rw [e];simp;omega) (a00 o1 (a00 o2 (a00 o1 (a00 o3 d7x.nil)))))) ?_ rfl
   rw [e,e7q _ (by omega)]
   unfold d8v
   rw [if_pos hc,e94 ra rb (b4j (e8i (by decide) hx))]
  ·have rc:=e8i (by decide) (a4z (w:=32) (n:=c.toNat) (by omega) hx)
   refine a0k d89 d83 a92 [false] rfl (d34 x a b c) (a00 (by rw [decide_eq_false hc];rfl) (a00 o1 (a00 (decide_eq_true (by omega)) (a00 o1 (a00 o2 (a00 o1 (a00 o3 d7x.nil))))))) ?_ rfl
   unfold d8v
   rw [if_neg hc,e94 ra rb rc]
 ·rename_i s1 x s2 a s3 b s4 c
  cases h
  have o1:=ho _ (f9b ..)
  have o2:=ho _ (f9a _ (f9b ..))
  have o3:=ho _ (f9a _ (f9a _ (f9b ..)))
  have o4:=f9c (ho _ (f9a _ (f9a _ (f9a _ (f9b ..)))))
  have p1:=f9c o1
  have p2:=f9c o2
  have p3:=f9c o3
  have hx : Wd 64 x:=⟨p1.1,by omega⟩
  have ra:=e8i (by decide) (a4z (w:=64) (n:=a.toNat) (by omega) hx)
  have rb:=e8i (by decide) (a4z (w:=64) (n:=b.toNat) (by omega) hx)
  refine @a7b _ _ _ _ [.int true .u64 x, .int true .i64 a, .int true .i64 b, .int true .i64 c, .int false .i64 64] _ (.cons (.int _ _ _) (.cons (.int _ _ _) (.cons (.int _ _ _) (.cons (.int _ _ _) (.cons (.refl _) .nil))))) ?_
  by_cases hc : c < 0
  ·have e : IntKind.i64.wrap (0 - c) = (((-c).toNat : Nat) : Int):=by rw [e09 (by omega)];omega
   refine a0k d89 d83 a92 [true] rfl (d35 x a b c) (a00 (decide_eq_true hc) (a00 (by rw [e];simp;omega) (a00 o1 (a00 o2 (a00 o1 (a00 o3 d7x.nil)))))) ?_ rfl
   rw [e,e7q _ (by omega)]
   unfold d8v
   rw [if_pos hc,e94 ra rb (b4j (e8i (by decide) hx))]
  ·have rc:=e8i (by decide) (a4z (w:=64) (n:=c.toNat) (by omega) hx)
   refine a0k d89 d83 a92 [false] rfl (d36 x a b c) (a00 (by rw [decide_eq_false hc];rfl) (a00 o1 (a00 (decide_eq_true (by omega)) (a00 o1 (a00 o2 (a00 o1 (a00 o3 d7x.nil))))))) ?_ rfl
   unfold d8v
   rw [if_neg hc,e94 ra rb rc]
 ·cases h
def f01 : d82:=d8g 97 f8v f0q
theorem c3o : HOk Tryz.prog f01:=a92.d8g fun _ _ _ h ho=>d7n h ho
end Go.Proofs.YthelmpjkkkhopaaGreatDoor
