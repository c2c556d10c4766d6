/- The reference's Sum: what fills up, and block after block, as families of loops. Own work. -/
import Derived.Test.YthelmpjkkkhopaaGreatDoorZShaY
import Derived.Test.YthelmpjkkkhopaaGreatDoorZEvRen
import Derived.Test.YthelmpjkkkhopaaGreatDoorZEvOne
import Derived.Test.YthelmpjkkkhopaaGreatDoorZShaF
import Derived.Test.YthelmpjkkkhopaaGreatDoorZEwT64
import Derived.Test.YthelmpjkkkhopaaGreatDoorZShaO
set_option linter.unusedSimpArgs false
set_option linter.unusedVariables false
set_option linter.unusedSectionVars false
namespace Go.Sh
open Go.Ev
def e05 (B n : Nat) : Nat:=d85 B (n : Int) - 1 - B / 8
theorem a4w {B : Nat} (hB : B = 64 ∨ B = 128) (n : Nat) : e05 B n + 1 + B / 8 = d85 B (n : Int):=by
 have:=a0s (B:=B) (by omega) (n : Int)
 unfold e05
 omega
theorem d0e {B : Nat} (hB : B = 64 ∨ B = 128) {n k : Nat} (hk : k ≤ e05 B n) : (n + 1 + k) % B = B - B / 8 ↔ k = e05 B n:=by
 have h:=a4w hB n
 unfold d85 at h
 rcases hB with rfl | rfl <;> split at h <;> omega
end Go.Sh
namespace Go.Proofs.YthelmpjkkkhopaaGreatDoor
open Go.Ev Go.Sh
set_option maxRecDepth 100000
structure PdS where
 b : AV
 h : List Int
 m : List Int
 n : Nat
def f0i : List Nat:=[0,1,5,7,9]
def pdV (K w : Int) (s : PdS) : List AV:=[.int false .i64 K,s.b, .int false .i64 w, .ptr false 2 0, .slice true 3 0 s.n none 1]
def pdM (s : PdS) : Mem:=[none,none,some ⟨true, .ints .u64 (some 8) s.h⟩,some ⟨true, .ints .u8 none s.m⟩]
structure BkS where
 h : List Int
 m : List Int
 n : Nat
 len : Int
 at' : Int
def f0j : List Nat:=[0,5,7,9,10,13]
def bkV (K w : Int) (s : BkS) : List AV:=[.int false .i64 K, .int false .i64 w, .ptr false 2 0, .slice true 3 0 s.n none 1, .int true .i64 s.len, .int true .i64 s.at']
def bkM (s : BkS) : Mem:=[none,none,some ⟨true, .ints .u64 (some 8) s.h⟩,some ⟨true, .ints .u8 none s.m⟩]
theorem d4n (K : Int) (s : PdS) : d8p f0i ((d8d Tryz.prog qS e95 (fun _ _=>none) 100 (lp (blk 3 (d80 Tryz.prog 25))) ⟨d8m (ups (fun _ => .top) (d8o f0i (pdV K 64 s))) 141,pdM s⟩).go [true]) = some ([decide (s.n < 9223372036854775808),((s.n : Int).tmod 128 != 112),decide (0 + s.n ≤ s.m.length),decide (s.n + 1 ≤ 1000000000)],0,[.int false .i64 K,s.b, .int false .i64 64, .ptr false 2 0, .slice true 5 0 (s.n + 1) none 1],141,
  [none,none,some ⟨true, .ints .u64 (some 8) s.h⟩,none,some ⟨true, .vals [.int false .u8 0]⟩,some ⟨true, .ints .u8 none ((s.m.drop 0).take s.n ++ [0])⟩]):=by kernel_rfl
theorem d4o (K : Int) (s : PdS) : d8p f0i ((d8d Tryz.prog qS e95 (fun _ _=>none) 100 (lp (blk 3 (d80 Tryz.prog 25))) ⟨d8m (ups (fun _ => .top) (d8o f0i (pdV K 64 s))) 141,pdM s⟩).go [false]) = some ([decide (s.n < 9223372036854775808), !((s.n : Int).tmod 128 != 112)],5,pdV K 64 s,141,pdM s):=by kernel_rfl
def f1d : List AV → Mem → Option (Int × PdS)
 | [.int false .i64 K,b, .int false .i64 64, .ptr false 3 0, .slice true 6 0 n none 1],[_,_,_,some ⟨true, .ints .u64 (some 8) h⟩,_,_,some ⟨true, .ints .u8 none m⟩]=>some (K,⟨b,h,m,n⟩)
 | [.int false .i64 K,b, .int false .i64 64, .ptr false 3 0, .slice false 5 0 n none 1],[_,_,_,some ⟨true, .ints .u64 (some 8) h⟩,_,some ⟨true, .ints .u8 (some 1) m⟩]=>some (K,⟨b,h,m,n⟩)
 | _,_=>none
def f4x (s : Int × PdS) : List Bool:=[decide (s.2.m.length = s.2.n),decide (1 ≤ s.2.n),decide (s.2.n ≤ 500000000),d9b 2 s.2.b]
def e85 (s : PdS) : PdS := { s with m:=s.m ++ List.replicate (e05 128 (s.n - 1)) 0,n:=s.n + e05 128 (s.n - 1) }
def f1e (s : Int × PdS) : List (Nat × AV) × Mem:=(d8o f0i (pdV s.1 64 (e85 s.2)),pdM (e85 s.2))
def pdΛ64 (Λ : d8r) : d8r:=e0p 3 141 f0i f1d f4x f1e Λ
structure f4y (s0 s : Int × PdS) : Prop where
 hk : s.1 = s0.1
 hb : s.2.b = s0.2.b
 hh : s.2.h = s0.2.h
 k : ∃ k,k ≤ e05 128 (s0.2.n - 1) ∧ s.2.n = s0.2.n + k ∧ s.2.m = s0.2.m ++ List.replicate k 0
 len : s0.2.m.length = s0.2.n
 n1 : 1 ≤ s0.2.n
 n2 : s0.2.n ≤ 500000000
 bb : d9b 2 s0.2.b = true
theorem c4t {Λ : d8r} (hΛ : e2m 2 Tryz.prog (d80 Tryz.prog 25) Λ) : e2m 2 Tryz.prog (d80 Tryz.prog 25) (pdΛ64 Λ):=by
 refine c1m (q:=qS) (H:=e95) (Λ0:=fun _ _=>none) (n:=100) (fun s : Int × PdS=>pdV s.1 64 s.2) (fun s=>pdM s.2) f4y (fun s=>(112 + 128 - s.2.n % 128) % 128) d89 b6w hΛ e2m.none (by kernel_rfl) (by kernel_rfl) (fun avs m s h ho => ?_) (fun s0 s hJ => ?_)
 ·unfold f1d at h
  split at h
  ·cases h
   have o1:=f9c (ho _ (f9b ..))
   have o2:=f9c (ho _ (f9a _ (f9b ..)))
   have o3:=f9c (ho _ (f9a _ (f9a _ (f9b ..))))
   have o4:=ho _ (f9a _ (f9a _ (f9a _ (f9b ..))))
   simp only at o1 o2 o3 o4
   refine ⟨_,fun n=>[0,1,3,6].getD n 0,Goes.zip (.cons (.refl _) (.cons (by rw [a49 (k:=2) (fun i hi=>by match i,hi with | 0,_=>rfl | 1,_=>rfl) _ o4];exact .refl _) (.cons (.refl _) (.cons (.refl _) (.cons (.refl _) .nil))))) ⟨⟨_,rfl, .refl _⟩,⟨_,rfl, .refl _⟩,trivial⟩ rfl rfl (Nat.le_of_ble_eq_true rfl) rfl ?_,⟨rfl,rfl,rfl,⟨0,Nat.zero_le _,rfl,(List.append_nil _).symm⟩,o1,o2,o3,o4⟩⟩
   simp only [pdV,d9q,Bool.and_eq_true]
   exact ⟨rfl,a5s (Nat.le_of_ble_eq_true rfl) _ o4,rfl,rfl,rfl,trivial⟩
  ·cases h
   have o1:=f9c (ho _ (f9b ..))
   have o2:=f9c (ho _ (f9a _ (f9b ..)))
   have o3:=f9c (ho _ (f9a _ (f9a _ (f9b ..))))
   have o4:=ho _ (f9a _ (f9a _ (f9a _ (f9b ..))))
   simp only at o1 o2 o3 o4
   refine ⟨_,fun n=>[0,1,3,5].getD n 0,Goes.zip (.cons (.refl _) (.cons (by rw [a49 (k:=2) (fun i hi=>by match i,hi with | 0,_=>rfl | 1,_=>rfl) _ o4];exact .refl _) (.cons (.refl _) (.cons (.refl _) (.cons (.slice _ _ _ _ _ _ _ _ (Or.inl rfl)) .nil))))) ⟨⟨_,rfl, .refl _⟩,⟨_,rfl, .free _ _ _⟩,trivial⟩ rfl rfl (Nat.le_of_ble_eq_true rfl) rfl ?_,⟨rfl,rfl,rfl,⟨0,Nat.zero_le _,rfl,(List.append_nil _).symm⟩,o1,o2,o3,o4⟩⟩
   simp only [pdV,d9q,Bool.and_eq_true]
   exact ⟨rfl,a5s (Nat.le_of_ble_eq_true rfl) _ o4,rfl,rfl,rfl,trivial⟩
  ·cases h
 ·obtain ⟨hk,hb,hh,⟨k,k1,k2,k3⟩,len,n1,n2,bb⟩:=hJ
  obtain ⟨K,s⟩:=s
  obtain ⟨K0,s0⟩:=s0
  simp only at hk hb hh k1 k2 k3 len n1 n2 bb
  subst hk
  have hz:=a4w (B:=128) (by decide) (s0.n - 1)
  have hr:=a0s (B:=128) (by decide) ((s0.n - 1 : Nat) : Int)
  have hlen : s.m.length = s.n:=by rw [k3,List.length_append,List.length_replicate,len,k2]
  have hmod : (s.n : Int).tmod 128 = ((s.n % 128 : Nat) : Int):=by rw [Int.tmod_eq_emod_of_nonneg (by omega)];omega
  have hend:=d0e (B:=128) (by decide) (n:=s0.n - 1) k1
  rw [show s0.n - 1 + 1 + k = s.n by omega] at hend
  have fx : ∀ i,i < 2 → (fun n : Nat=>[0,1,2,5].getD n 0) i = i:=fun i hi=>by match i,hi with | 0,_=>rfl | 1,_=>rfl
  by_cases hkz : k = e05 128 (s0.n - 1)
  ·have hs : e85 s0 = s:=by
    unfold e85
    obtain ⟨b,h,m,n⟩:=s
    simp only at hb hh k2 k3
    subst hb hh k2 k3
    rw [hkz]
   refine e0u.out (d4o K s) rfl (fun n=>n) (a00 (decide_eq_true (by omega)) (a00 (by rw [hmod,hend.2 hkz];rfl) d7x.nil)) ?_
   unfold f1e
   simp only
   rw [hs]
   refine Goes.zip (.cons (.refl _) (.cons (by rw [a49 (k:=2) (fun i hi=>rfl) _ (by rw [hb];exact bb)];exact .refl _) (.cons (.refl _) (.cons (.refl _) (.cons (.refl _) .nil))))) ⟨⟨_,rfl, .refl _⟩,⟨_,rfl, .refl _⟩,trivial⟩ rfl rfl (Nat.le_of_ble_eq_true rfl) rfl ?_
   simp only [pdV,d9q,Bool.and_eq_true]
   exact ⟨rfl,a5s (Nat.le_of_ble_eq_true rfl) _ (by rw [hb];exact bb),rfl,rfl,rfl,trivial⟩
  ·have hne : ¬ s.n % 128 = 112:=fun h=>hkz (hend.1 h)
   have htk : (s.m.drop 0).take s.n = s.m:=by rw [List.drop_zero,List.take_of_length_le (by omega)]
   have key:=d4n K s
   rw [htk] at key
   refine e0u.on key (K,⟨s.b,s.h,s.m ++ [0],s.n + 1⟩) (fun n=>[0,1,2,5].getD n 0) (a00 (decide_eq_true (by omega)) (a00 (by rw [hmod,bne_iff_ne];omega) (a00 (decide_eq_true (by omega)) (a00 (decide_eq_true (by omega)) d7x.nil)))) ?_ ⟨rfl,hb,hh,⟨k + 1,by simp only;omega,by simp only;omega,by simp only;rw [k3,List.append_assoc,List.replicate_succ']⟩,len,n1,n2,bb⟩ (by simp only;omega)
   refine Goes.zip (.cons (.refl _) (.cons (by rw [a49 (k:=2) fx _ (by rw [hb];exact bb)];exact .refl _) (.cons (.refl _) (.cons (.refl _) (.cons (.refl _) .nil))))) ⟨⟨_,rfl, .refl _⟩,⟨_,rfl, .refl _⟩,trivial⟩ rfl rfl (Nat.le_of_ble_eq_true rfl) rfl ?_
   simp only [pdV,d9q,Bool.and_eq_true]
   exact ⟨rfl,a5s (Nat.le_of_ble_eq_true rfl) _ (by rw [hb];exact bb),rfl,rfl,rfl,trivial⟩
theorem d4p (K : Int) (s : BkS) : d8p f0j ((d8d Tryz.prog qS e95 (fun _ _=>none) 100 (lp (blk 7 (d80 Tryz.prog 25))) ⟨d8m (ups (fun _ => .top) (d8o f0j (bkV K 64 s))) 141,bkM s⟩).go [true]) = some ([decide (s.at' < s.len),decide (0 ≤ IntKind.i64.wrap (s.at' + 128)) && decide (IntKind.i64.wrap (s.at' + 128) ≤ ((s.n : Nat) : Int)),decide (0 ≤ s.at') && decide (s.at' ≤ ((IntKind.i64.wrap (s.at' + 128)).toNat : Int)),decide (0 + s.at'.toNat * 1 + ((IntKind.i64.wrap (s.at' + 128)).toNat - s.at'.toNat) ≤ s.m.length),e03 s.h,decide ((IntKind.i64.wrap (s.at' + 128)).toNat - s.at'.toNat = 128)],0,
  bkV K 64 { s with at':=IntKind.i64.wrap (s.at' + 128) },141,bkM { s with h:=d91 64 80 s.h ((s.m.drop (0 + s.at'.toNat * 1)).take ((IntKind.i64.wrap (s.at' + 128)).toNat - s.at'.toNat)) }):=by kernel_rfl
theorem d4q (K : Int) (s : BkS) : d8p f0j ((d8d Tryz.prog qS e95 (fun _ _=>none) 100 (lp (blk 7 (d80 Tryz.prog 25))) ⟨d8m (ups (fun _ => .top) (d8o f0j (bkV K 64 s))) 141,bkM s⟩).go [false]) = some ([!decide (s.at' < s.len)],9,bkV K 64 s,141,bkM s):=by kernel_rfl
def f1f : List AV → Mem → Option (Int × BkS)
 | [.int false .i64 K, .int false .i64 64, .ptr false 2 0, .slice true 4 0 n none 1, .int true .i64 len, .int _ .i64 i],[_,_,some ⟨true, .ints .u64 (some 8) h⟩,_,some ⟨true, .ints .u8 none m⟩]=>some (K,⟨h,m,n,len,i⟩)
 | _,_=>none
def f4z (s : Int × BkS) : List Bool:=[decide (s.2.at' = 0),decide (s.2.len = (s.2.n : Int)),decide (s.2.m.length = s.2.n),decide (s.2.n ≤ 1000000000),decide (s.2.n % 128 = 0),decide (s.2.h.length = 8),e03 s.2.h]
def f1g (s : Int × BkS) : List (Nat × AV) × Mem:=(d8o f0j [.int false .i64 s.1, .int false .i64 64, .ptr false 2 0, .top, .top, .top],[none,none,some ⟨true, .ints .u64 (some 8) (e1q 64 80 128 s.2.h s.2.m (s.2.n / 128))⟩])
def bkΛ64 (Λ : d8r) : d8r:=e0p 7 141 f0j f1f f4z f1g Λ
structure f5a (s0 s : Int × BkS) : Prop where
 hk : s.1 = s0.1
 hm : s.2.m = s0.2.m
 hn : s.2.n = s0.2.n
 hl : s.2.len = s0.2.len
 k : ∃ k : Nat,s.2.at' = ((128 * k : Nat) : Int) ∧ 128 * k ≤ s0.2.n ∧ s.2.h = e1q 64 80 128 s0.2.h s0.2.m k
 len : s0.2.len = (s0.2.n : Int)
 ml : s0.2.m.length = s0.2.n
 n1 : s0.2.n ≤ 1000000000
 n2 : s0.2.n % 128 = 0
 hhl : s0.2.h.length = 8
 wd : ∀ x ∈ s0.2.h,Wd 64 x
theorem c4u {Λ : d8r} (hΛ : e2m 2 Tryz.prog (d80 Tryz.prog 25) Λ) : e2m 2 Tryz.prog (d80 Tryz.prog 25) (bkΛ64 Λ):=by
 refine c1m (q:=qS) (H:=e95) (Λ0:=fun _ _=>none) (n:=100) (fun s : Int × BkS=>bkV s.1 64 s.2) (fun s=>bkM s.2) f5a (fun s=>(s.2.n : Nat) - s.2.at'.toNat) d89 b6w hΛ e2m.none (by kernel_rfl) (by kernel_rfl) (fun avs m s h ho => ?_) (fun s0 s hJ => ?_)
 ·unfold f1f at h
  split at h
  ·cases h
   have o1:=f9c (ho _ (f9b ..))
   have o2:=f9c (ho _ (f9a _ (f9b ..)))
   have o3:=f9c (ho _ (f9a _ (f9a _ (f9b ..))))
   have o4:=f9c (ho _ (f9a _ (f9a _ (f9a _ (f9b ..)))))
   have o5:=f9c (ho _ (f9a _ (f9a _ (f9a _ (f9a _ (f9b ..))))))
   have o6:=f9c (ho _ (f9a _ (f9a _ (f9a _ (f9a _ (f9a _ (f9b ..)))))))
   have o7:=ho _ (f9a _ (f9a _ (f9a _ (f9a _ (f9a _ (f9a _ (f9b ..)))))))
   simp only at o1 o2 o3 o4 o5 o6 o7
   exact ⟨_,fun n=>[0,1,2,4].getD n 0,Goes.zip (.cons (.refl _) (.cons (.refl _) (.cons (.refl _) (.cons (.refl _) (.cons (.refl _) (.cons (.int _ _ _ _) .nil)))))) ⟨⟨_,rfl, .refl _⟩,⟨_,rfl, .refl _⟩,trivial⟩ rfl rfl (Nat.le_of_ble_eq_true rfl) rfl rfl,⟨rfl,rfl,rfl,rfl,⟨0,o1,Nat.zero_le _,rfl⟩,o2,o3,o4,o5,o6,a4c o7⟩⟩
  ·cases h
 ·obtain ⟨hk,hm,hn,hl,⟨k,k1,k2,k3⟩,len,ml,n1,n2,hhl,wd⟩:=hJ
  obtain ⟨K,s⟩:=s
  obtain ⟨K0,s0⟩:=s0
  simp only at hk hm hn hl k1 k2 k3 len ml n1 n2 hhl wd
  subst hk
  obtain ⟨f1,f2⟩:=b8f (N:=80) (B:=128) (l:=s0.m) hhl wd k
  by_cases he : 128 * k = s0.n
  ·have hkn : k = s0.n / 128:=by omega
   refine e0u.out (d4q K s) rfl (fun n=>n) (a00 (by rw [hl,k1,len,he];simp) d7x.nil) ?_
   unfold f1g
   simp only
   rw [← hkn, ← k3]
   exact Goes.zip (.cons (.refl _) (.cons (.refl _) (.cons (.refl _) (.cons (.top _) (.cons (.top _) (.cons (.top _) .nil)))))) ⟨⟨_,rfl, .refl _⟩,trivial⟩ rfl rfl (Nat.le_of_ble_eq_true rfl) rfl rfl
  ·have hw : IntKind.i64.wrap (s.at' + 128) = ((128 * (k + 1) : Nat) : Int):=by rw [k1,e09 (by omega)];omega
   have ht : s.at'.toNat = 128 * k:=by rw [k1];omega
   have key:=d4p K s
   rw [hw,ht,show ((128 * (k + 1) : Nat) : Int).toNat - 128 * k = 128 by omega,show 0 + 128 * k * 1 = 128 * k by omega] at key
   refine e0u.on key (K, { s with h:=e1q 64 80 128 s0.h s0.m (k + 1),at':=((128 * (k + 1) : Nat) : Int) }) (fun n=>n) ?_ ?_ ⟨rfl,hm,hn,hl,⟨k + 1,rfl,by simp only;omega,rfl⟩,len,ml,n1,n2,hhl,wd⟩ (by simp only;omega)
   ·refine a00 (decide_eq_true (by omega)) (a00 (by simp;omega) (a00 (by simp;omega) (a00 (decide_eq_true (by rw [hm];omega)) (a00 (by rw [k3];exact b1p f2) (a00 rfl d7x.nil)))))
   ·have hf : e1q 64 80 128 s0.h s0.m (k + 1) = d91 64 80 s.h ((s.m.drop (128 * k)).take 128):=by rw [k3,hm];rfl
    rw [hf]
    exact Goes.zip (.cons (.refl _) (.cons (.refl _) (.cons (.refl _) (.cons (.refl _) (.cons (.refl _) (.cons (.refl _) .nil)))))) ⟨⟨_,rfl, .refl _⟩,⟨_,rfl, .refl _⟩,trivial⟩ rfl rfl (Nat.le_of_ble_eq_true rfl) rfl rfl
end Go.Proofs.YthelmpjkkkhopaaGreatDoor
namespace Go.Sh
open Go.Ev
def rsL (T bits : Int) (m : List Int) : Nat → List Int
 | 0=>m
 | i + 1=>(rsL T bits m i).set (0 + (e3o T i).toNat * 1) (IntKind.u8.wrap (d88 .u64 bits (IntKind.i64.wrap (8 * (i : Int)))))
def rsO (n : Nat) (T bits : Int) (m : List Int) : Nat → List Bool
 | 0=>[]
 | i + 1=>rsO n T bits m i ++ [decide (0 ≤ e3o T i) && decide (e3o T i < ((n : Nat) : Int)),decide (0 + (e3o T i).toNat * 1 + 1 ≤ (rsL T bits m i).length)]
def e1e (n : Int) : Int:=IntKind.u64.wrap (IntKind.u64.wrap n * 8)
theorem c4v (n : Nat) (hn : n ≤ 1000000000) {i : Nat} (hi : i < 8) : IntKind.u8.wrap (d88 .u64 (e1e n) (IntKind.i64.wrap (8 * (i : Int)))) = (n : Int) * 8 / 2 ^ (8 * i) % 256:=by
 have e1 : IntKind.i64.wrap (8 * (i : Int)) = ((8 * i : Nat) : Int):=by rw [e09 (by omega)];omega
 have e2 : e1e n = ((n : Int) * 8) % 2 ^ 64:=by
  unfold e1e
  rw [a0m (k := .u64) rfl,a0m (k := .u64) rfl]
  simp only [IntKind.bits]
  omega
 rw [e1,e2,a0m (k := .u8) rfl]
 have e3 : d88 .u64 ((n : Int) * 8 % 2 ^ 64) ((8 * i : Nat) : Int) = (n : Int) * 8 % 2 ^ 64 / 2 ^ (8 * i):=e7q (8 * i) (by omega)
 rw [e3]
 simp only [IntKind.bits]
 have : i = 0 ∨ i = 1 ∨ i = 2 ∨ i = 3 ∨ i = 4 ∨ i = 5 ∨ i = 6 ∨ i = 7:=by omega
 rcases this with rfl | rfl | rfl | rfl | rfl | rfl | rfl | rfl <;> omega
theorem c1w {B pz : Nat} (hB : B = 64 ∨ B = 128) (hp : pz = B / 8) {l m : List Int} (hl : l.length ≤ 500000000) (hm : m = l ++ [128] ++ List.replicate (e05 B l.length) 0 ++ List.replicate pz 0) {T : Nat} (hT : T = l.length + 1 + e05 B l.length + pz) :
  ∀ i,i ≤ 8 → rsL T (e1e l.length) m i = l ++ d8s (d85 B (l.length : Int)) (l.length : Int) i ∧ d7x (rsO T T (e1e l.length) m i)
 | 0,_=>by
  have hz:=a4w hB l.length
  have hr:=a0s (B:=B) (by omega) (l.length : Int)
  refine ⟨?_,d7x.nil⟩
  show m = l ++ (128 :: List.replicate (d85 B (l.length : Int) - 1) 0)
  rw [hm,show d85 B (l.length : Int) - 1 = e05 B l.length + pz by omega,List.append_assoc,List.append_assoc,List.replicate_append_replicate]
  rfl
 | i + 1,h=>by
  obtain ⟨ih1,ih2⟩:=c1w hB hp hl hm hT i (by omega)
  have hz:=a4w hB l.length
  have hr:=a0s (B:=B) (by omega) (l.length : Int)
  have hTf : T = l.length + d85 B (l.length : Int):=by omega
  have hfu : d85 B (l.length : Int) ≤ 200:=by omega
  have hj : e3o (T : Int) (i : Int) = ((l.length + (d85 B (l.length : Int) - 1 - i) : Nat) : Int):=by
   unfold e3o
   rw [e09 (x:=(T : Int) - 1) (by omega),e09 (by omega)]
   omega
  have hlen : (rsL T (e1e l.length) m i).length = T:=by rw [ih1,List.length_append,a1t hr.1,hTf]
  constructor
  ·unfold rsL d8s
   rw [ih1,hj,c4v _ (by omega) (by omega),Int.toNat_natCast,Nat.zero_add,Nat.mul_one,List.set_append_right _ _ (by omega),Nat.add_sub_cancel_left]
  ·unfold rsO
   refine a01.2 ⟨ih2,a00 ?_ (a00 ?_ d7x.nil)⟩
   ·rw [hj];simp;omega
   ·rw [hlen,hj];simp;omega
end Go.Sh
namespace Go.Proofs.YthelmpjkkkhopaaGreatDoor
open Go.Ev Go.Sh
set_option maxRecDepth 100000
end Go.Proofs.YthelmpjkkkhopaaGreatDoor
namespace Go.Proofs.YthelmpjkkkhopaaGreatDoor
open Go.Ev Go.Sh
set_option maxRecDepth 100000
theorem c1x (n : Nat) (l : List Int) : d92 130 ((d8a Tryz.prog qS e95 (pdΛ64 (bkΛ64 fun _ _=>none)) 200 25 (d7z 0 [.pl (.int false .i64 512), .buf true .u8 n l]) (d87 [.pl (.int false .i64 512), .buf true .u8 n l])).go []) =
  some ([decide (0 + n ≤ n),decide (1 ≤ n) && decide (n ≤ 1000000000),decide (0 + n ≤ (((l.drop 0).take n)).length),decide (n + 1 ≤ 1000000000)] ++ [decide (((((l.drop 0).take n).drop 0).take n ++ [128]).length = (n + 1)),decide (1 ≤ (n + 1)),decide ((n + 1) ≤ 500000000),true] ++ [decide (0 + ((n + 1) + e05 128 ((n + 1) - 1)) ≤ (((((l.drop 0).take n).drop 0).take n ++ [128]) ++ List.replicate (e05 128 ((n + 1) - 1)) 0).length),decide ((((n + 1) + e05 128 ((n + 1) - 1)) + 16) ≤ 1000000000)] ++ [decide ((((n + 1) + e05 128 ((n + 1) - 1)) + 16) < 9223372036854775808)] ++ [decide (n < 9223372036854775808)] ++ rsO (((n + 1) + e05 128 ((n + 1) - 1)) + 16) (((((n + 1) + e05 128 ((n + 1) - 1)) + 16) : Nat) : Int) (e1e ((n : Nat) : Int)) ((((((((l.drop 0).take n).drop 0).take n ++ [128]) ++ List.replicate (e05 128 ((n + 1) - 1)) 0).drop 0).take ((n + 1) + e05 128 ((n + 1) - 1))) ++ List.replicate 16 0) 8 ++ [decide ((0 : Int) = 0),decide ((((((n + 1) + e05 128 ((n + 1) - 1)) + 16) : Nat) : Int) = (((((n + 1) + e05 128 ((n + 1) - 1)) + 16) : Nat) : Int)),decide ((rsL (((((n + 1) + e05 128 ((n + 1) - 1)) + 16) : Nat) : Int) (e1e ((n : Nat) : Int)) ((((((((l.drop 0).take n).drop 0).take n ++ [128]) ++ List.replicate (e05 128 ((n + 1) - 1)) 0).drop 0).take ((n + 1) + e05 128 ((n + 1) - 1))) ++ List.replicate 16 0) 8).length = (((n + 1) + e05 128 ((n + 1) - 1)) + 16)),decide ((((n + 1) + e05 128 ((n + 1) - 1)) + 16) ≤ 1000000000),decide ((((n + 1) + e05 128 ((n + 1) - 1)) + 16) % 128 = 0),decide (d9g.length = 8),e03 d9g],
   .slice false 130 0 64 none 1,some (some ⟨true, .ints .u8 (some 64) (d9f 64 8 (e1q 64 80 128 d9g (rsL (((((n + 1) + e05 128 ((n + 1) - 1)) + 16) : Nat) : Int) (e1e ((n : Nat) : Int)) ((((((((l.drop 0).take n).drop 0).take n ++ [128]) ++ List.replicate (e05 128 ((n + 1) - 1)) 0).drop 0).take ((n + 1) + e05 128 ((n + 1) - 1))) ++ List.replicate 16 0) 8) ((((n + 1) + e05 128 ((n + 1) - 1)) + 16) / 128)))⟩)):=by kernel_rfl
end Go.Proofs.YthelmpjkkkhopaaGreatDoor
namespace Go.Proofs.YthelmpjkkkhopaaGreatDoor
open Go.Ev Go.Sh
set_option maxRecDepth 100000
theorem c4w {w N B pz : Nat} (hB : B = 64 ∨ B = 128) (hp : pz = B / 8) (v l m : List Int) (hl : l.length ≤ 400000000) {T : Nat} (hm : m = l ++ [128] ++ List.replicate (e05 B l.length) 0 ++ List.replicate pz 0) (hT : T = l.length + 1 + e05 B l.length + pz) :
  e1q w N B v (rsL T (e1e l.length) m 8) (T / B) = e3u w N B v l ∧ d7x (rsO T T (e1e l.length) m 8) ∧ (rsL T (e1e l.length) m 8).length = T ∧ T % B = 0 ∧ T ≤ 500000000:=by
 obtain ⟨h1,h2⟩:=c1w hB hp (by omega) hm hT 8 (Nat.le_refl _)
 obtain ⟨h3,h4⟩:=b4m hB l
 have hz:=a4w hB l.length
 have hr:=a0s (B:=B) (by omega) (l.length : Int)
 have e : rsL T (e1e l.length) m 8 = e0v B l:=h1
 have hTl : (e0v B l).length = T:=by omega
 rw [e]
 refine ⟨?_,h2,hTl,by rw [← hTl];exact h3,by omega⟩
 unfold e3u
 rw [hTl]
def refV (s b : Nat) (l : List Int) : AV × Mem:=(.slice false 0 0 s none 1,[some ⟨true, .ints .u8 (some b) l⟩])
def f5b : List V → E (AV × Mem)
 | [.pl (.int false .i64 512), .buf _ .u8 n l]=>some ([decide (1 ≤ n),decide (n ≤ 400000000)],refV 64 64 (d9f 64 8 (e3u 64 80 128 d9g l)))
 | _=>none
theorem d0f {n : Nat} {l : List Int} (ho : d7x [decide (1 ≤ n),decide (n ≤ 400000000)]) : d7y Tryz.prog 25 [.pl (.int false .i64 512), .buf true .u8 n l] (.slice false 0 0 64 none 1) [some ⟨true, .ints .u8 (some 64) (d9f 64 8 (e3u 64 80 128 d9g l))⟩]:=by
 have o1:=f9c (ho _ (f9b ..))
 have o2:=f9c (ho _ (f9a _ (f9b ..)))
 intro ρ vs w ha hi
 obtain ⟨cs2,t2,lo2,hi2,c1,c2,c3,c4,c5⟩:=(hi.sim.blk 1 _ rfl).ex
 have hl : l.length = n:=c5.1 _ rfl
 subst hl
 have hX0 : (l.drop 0).take l.length = l:=by rw [List.drop_zero,List.take_of_length_le (Nat.le_refl _)]
 have hX : ((((l.drop 0).take l.length).drop 0).take l.length) = l:=by rw [hX0,hX0]
 have hY : (((((((l.drop 0).take l.length).drop 0).take l.length ++ [128]) ++ List.replicate (e05 128 (l.length + 1 - 1)) 0).drop 0).take (l.length + 1 + e05 128 (l.length + 1 - 1))) = l ++ [128] ++ List.replicate (e05 128 l.length) 0:=by
  rw [hX,Nat.add_sub_cancel,List.drop_zero,List.take_of_length_le (by simp;omega)]
 obtain ⟨g1,g2,g3,g4,g5⟩:=c4w (w:=64) (N:=80) (B:=128) (pz:=16) (by decide) rfl d9g l ((((((((l.drop 0).take l.length).drop 0).take l.length ++ [128]) ++ List.replicate (e05 128 (l.length + 1 - 1)) 0).drop 0).take (l.length + 1 + e05 128 (l.length + 1 - 1))) ++ List.replicate 16 0) o2 (T:=l.length + 1 + e05 128 (l.length + 1 - 1) + 16) (by rw [hY]) (by rw [Nat.add_sub_cancel])
 have hc := @a12 _ _ _ _ _ d89 d83 b6w _ _ _ (fun fn c hf hb=>by rw [a0r hf hb];exact c4t (c4u e2m.none)) _ (.slice false 0 0 64 none 1) _ _ _ _ [] 130 (c1x l.length l) ?_ (by simp) rfl rfl
 ·rw [g1] at hc
  exact hc ha hi
 ·have hYl : ((((l.drop 0).take l.length).drop 0).take l.length ++ [128] ++ List.replicate (e05 128 (l.length + 1 - 1)) (0 : Int)).length = l.length + 1 + e05 128 (l.length + 1 - 1):=by rw [hX];simp;omega
  refine a01.2 ⟨a01.2 ⟨a01.2 ⟨a01.2 ⟨a01.2 ⟨a01.2 ⟨?_, ?_⟩, ?_⟩, ?_⟩, ?_⟩,g2⟩, ?_⟩
  ·exact a00 (decide_eq_true (by omega)) (a00 (by simp;omega) (a00 (decide_eq_true (by rw [hX0];omega)) (a00 (decide_eq_true (by omega)) d7x.nil)))
  ·exact a00 (decide_eq_true (by rw [hX];simp)) (a00 (decide_eq_true (by omega)) (a00 (decide_eq_true (by omega)) (a00 rfl d7x.nil)))
  ·exact a00 (decide_eq_true (by rw [hYl];omega)) (a00 (decide_eq_true (by omega)) d7x.nil)
  ·exact a00 (decide_eq_true (by omega)) d7x.nil
  ·exact a00 (decide_eq_true (by omega)) d7x.nil
  ·exact a00 rfl (a00 (decide_eq_true rfl) (a00 (decide_eq_true g3) (a00 (decide_eq_true (by omega)) (a00 (decide_eq_true g4) (a00 rfl (a00 (by kernel_rfl) d7x.nil))))))
theorem d4r {xs : List V} {o : List Bool} {v : AV} {bs : Mem} (h : f5b xs = some (o,(v,bs))) (ho : d7x o) : d7y Tryz.prog 25 xs v bs:=by
 unfold f5b at h
 split at h
 ·rename_i b n l
  cases h
  intro ρ vs w ha hi
  have ha2 : d8i ρ (upto 2) (d7z 0 [.pl (.int false .i64 512), .buf true .u8 n l]) vs:=by
   cases ha with
   | cons _ _ _ _ r0 hr=>cases hr with
    | cons _ _ _ _ r1 hr=>cases hr with
     | nil=>cases r1 with
      | slice _ _ _ _ _ _ c ad hn hc hl hw had=>exact .cons _ _ _ _ r0 (.cons _ _ _ _ (.slice true 1 0 n none 1 c ad hn hc hl hw had) .nil)
  exact d0f ho ha2 hi
 ·cases h
end Go.Proofs.YthelmpjkkkhopaaGreatDoor
namespace Go.Proofs.YthelmpjkkkhopaaGreatDoor
open Go.Ev Go.Wn Go.Mo
set_option maxRecDepth 100000
def iv5 : List Int:=[11068046444225730966,11068046444225730969,11068046444225730969,1844674407370955161]
theorem i_5 : limbs (fP (val [5,0,0,0]) pE) = iv5:=by
 have h : pE < 2 ^ 256:=by decide +kernel
 rw [show val [5,0,0,0] = ((5 : Nat) : Int) from rfl,d1d 5 h]
 decide +kernel
def f5c : List AV → E AV
 | [.ints .u64 4 [5,0,0,0]]=>some ([], .ints .u64 4 iv5)
 | _=>none
theorem d4s {args : List AV} {o : List Bool} {v : AV} (h : f5c args = some (o,v)) : d86 Tryz.prog 92 args v:=by
 unfold f5c at h
 split at h
 ·cases h
  rw [← i_5]
  exact d1c (args:=[.ints .u64 4 [5,0,0,0]]) (o:=[decide (val [5,0,0,0] < pN)]) rfl (a00 (by decide +kernel) d7x.nil)
 ·cases h
def rrV (fr : List Int → List Int) (fo : List Int → Bool) : List V → E (AV × Mem)
 | [.buf false .u8 32 b]=>some ([],(.tuple [.ints .u64 12 (fr b), .bool true (fo b)],[]))
 | _=>none
def hb0 (fr : List Int → List Int) (fo : List Int → Bool) : d82:=d8g 92 f5c (d84 38 (rrV fr fo) ht7)
theorem d4t : HOk Tryz.prog (hb0 rrL d9c):=(c8c.d84 fun xs o v bs h ho=>by
 unfold rrV at h
 split at h
 ·rename_i b;cases h;exact d5l (xs:=[.buf false .u8 32 b]) (o:=[]) rfl
 ·cases h).d8g fun _ _ _ h _=>d4s h
def bsB : List Int:=d8l (limbs 46316835694926478169428394003475163141307993866256225615783033603165251855960)
theorem d0g (fr : List Int → List Int) (fo : List Int → Bool) : res (d81 Tryz.prog qn (deep Tryz.prog qn (hb0 fr fo) 100 4) 400 26 [] []) = some ([], .ints .u64 12 (fr bsB)):=by kernel_rfl
def fB : E3:=⟨15112221349535400772501151409588531511454012693041857206046113283949847762202,46316835694926478169428394003475163141307993866256225615783033603165251855960,1⟩
theorem c4x : leI bsB % d8q = 46316835694926478169428394003475163141307993866256225615783033603165251855960 ∧ leI bsB / d8q = 0:=by decide +kernel
theorem d4u : d9c bsB = true:=by
 unfold d9c
 rw [c4x.1,c4x.2,c7j]
 decide +kernel
theorem d0h : ryX 46316835694926478169428394003475163141307993866256225615783033603165251855960 0 = 15112221349535400772501151409588531511454012693041857206046113283949847762202:=by
 rw [c17]
 decide +kernel
theorem b7t {b : List Int} (h : d9c b = true) : rrL b = limbs (ryX (leI b % d8q) (leI b / d8q)) ++ limbs (leI b % d8q) ++ [1,0,0,0]:=by
 unfold rrL
 rw [h]
theorem d4v : rrL bsB = e3L fB:=by
 rw [b7t d4u,c4x.1,c4x.2,d0h]
 decide +kernel
theorem f5d : fB.R ptB:=⟨⟨⟨by decide,by decide⟩,⟨by decide,by decide⟩,e4p⟩,by
 refine ⟨by decide +kernel,by decide +kernel,by decide +kernel⟩⟩
def baS : List AV → E AV
 | []=>some ([], .ints .u64 12 (e3L fB))
 | _=>none
theorem f5e {args : List AV} {o : List Bool} {v : AV} (h : baS args = some (o,v)) : d86 Tryz.prog 26 args v:=by
 unfold baS at h
 split at h
 ·cases h
  exact a0b mixed d7w (d4t.deep (q:=qn) mixed d7w 100 4) (by kernel_rfl) (d0g rrL d9c) d7x.nil (by rw [d4v]) (by kernel_rfl)
 ·cases h
def hu0 : d82:=d8g 26 baS (d84 25 f5b (d84 63 f8s (d84 31 tvS ht7)))
theorem c7t : HOk Tryz.prog hu0:=(((c8c.d84 fun _ _ _ _ h _=>f6k h).d84 fun _ _ _ _ h ho=>d7i h ho).d84 fun _ _ _ _ h ho=>d4r h ho).d8g fun _ _ _ h _=>f5e h
end Go.Proofs.YthelmpjkkkhopaaGreatDoor
