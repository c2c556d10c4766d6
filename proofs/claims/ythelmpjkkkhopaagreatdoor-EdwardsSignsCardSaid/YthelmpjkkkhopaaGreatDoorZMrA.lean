/- The reference's long division, whole. Own work. -/
import Derived.Test.YthelmpjkkkhopaaGreatDoorZEeRemF
import Derived.Test.YthelmpjkkkhopaaGreatDoorZMyRd
import Derived.Test.YthelmpjkkkhopaaGreatDoorZEwC
import Derived.Test.YthelmpjkkkhopaaGreatDoorZEvOne
set_option linter.unusedSimpArgs false
set_option linter.unusedVariables false
set_option linter.unusedSectionVars false
namespace Go.Wn
open Go.Ev
def shN (l : List Int) (s : Int) (len : Nat) : Nat → List Int
 | 0=>List.replicate len 0
 | i + 1=>((shN l s len i).set i (IntKind.u64.wrap ((shN l s len i).getD i 0 + d9l .u64 (l.getD i 0) s))).set (i + 1) (d88 .u64 (l.getD i 0) (IntKind.i64.wrap (64 - s)))
def f0k (a : List Int) (s : Int) : Nat → List Int
 | 0=>[0,0,0,0]
 | i + 1=>(f0k a s i).set i (IntKind.u64.wrap (d88 .u64 (a.getD i 0) s + d9l .u64 (a.getD (i + 1) 0) (IntKind.i64.wrap (64 - s))))
def dSN (s : Int) : Nat → List Bool
 | 0=>[]
 | k + 1=>(!decide (s < 0)) :: (!decide (IntKind.i64.wrap (64 - s) < 0)) :: dSN s k
end Go.Wn
namespace Go.Proofs.YthelmpjkkkhopaaGreatDoor
open Go.Ev Go.Wn
set_option maxRecDepth 100000
def f1m : Nat → List Bool
 | 4=>[false]
 | 3=>[true,false]
 | 2=>[true,true,false]
 | _=>[true,true,true,false]
def remC (m : List Int) : Nat → List Bool
 | 4=>[!(m.getD 3 0 == 0)]
 | 3=>[m.getD 3 0 == 0, !(m.getD 2 0 == 0)]
 | 2=>[m.getD 3 0 == 0,m.getD 2 0 == 0, !(m.getD 1 0 == 0)]
 | _=>[m.getD 3 0 == 0,m.getD 2 0 == 0,m.getD 1 0 == 0, !(m.getD 0 0 == 0)]
def e89 (m : List Int) (n : Nat) : Int:=64 - e1m (m.getD (n - 1) 0)
def remO (u m : List Int) (s : Int) (n : Nat) : List Bool:=remC m n ++ (decide (0 < m.getD (n - 1) 0) :: (dSN s (n + 9) ++ (o6 n (9 - n) (shN m s 5 n) (shN u s 10 9) ++ dSN s n)))
def f6l (u m : List Int) (s : Int) (n : Nat) : List Int:=f0k (d9u (shN u s 10 9) (d9a (shN m s 5 n) n) 0) s n
def RG (n : Nat) : Prop := ∀ (u m : List Int),res ((d8a Tryz.prog d93 hv3 remΛ2 100 65 (d7z 0 [.pl (.ints .u64 9 u), .pl (.ints .u64 4 m)]) (d87 [.pl (.ints .u64 9 u), .pl (.ints .u64 4 m)])).go (f1m n)) =
 some (remO u m (e89 m n) n, .ints .u64 4 (f6l u m (e89 m n) n))
theorem RG_1 : RG 1:=fun u m=>by kernel_rfl
theorem RG_2 : RG 2:=fun u m=>by kernel_rfl
theorem RG_3 : RG 3:=fun u m=>by kernel_rfl
theorem RG_4 : RG 4:=fun u m=>by kernel_rfl
end Go.Proofs.YthelmpjkkkhopaaGreatDoor
namespace Go.Wn
open Go.Ev
theorem p64 {s : Nat} (hs : s ≤ 64) : (18446744073709551616 : Int) = 2 ^ s * 2 ^ (64 - s):=by
 rw [← Int.pow_add,show s + (64 - s) = 64 by omega];rfl
theorem a4x (s : Nat) : (0 : Int) < 2 ^ s:=Int.pow_pos (by omega)
theorem c8e {x : Int} {s : Nat} (hs : s ≤ 64) : d9l .u64 x (s : Int) = x * 2 ^ s % 18446744073709551616:=by
 unfold d9l
 rw [Int.toNat_natCast,show min s IntKind.u64.bits = s by simp [IntKind.bits];omega,a25]
theorem c8f {x : Int} {s : Nat} (hs : s ≤ 64) : d88 .u64 x (s : Int) = x / 2 ^ s:=a2c (by simp [IntKind.bits];omega)
theorem d5t {x : Int} {s : Nat} (hs : s ≤ 64) : d88 .u64 x ((64 - s : Nat) : Int) = x * 2 ^ s / 18446744073709551616:=by
 rw [c8f (by omega)]
 have e:=p64 hs
 rw [e,Int.mul_comm x,Int.mul_ediv_mul_of_pos _ _ (a4x s)]
theorem wrap64 {s : Nat} (hs : s ≤ 64) : IntKind.i64.wrap (64 - (s : Int)) = ((64 - s : Nat) : Int):=by
 have : IntKind.i64.wrap (64 - (s : Int)) = 64 - (s : Int):=Go.Proofs.YthelmpjkkkhopaaGreatDoor.b4r (by omega)
 rw [this];omega
theorem room {x : Int} {s : Nat} (hs : s ≤ 64) : 0 ≤ x * 2 ^ s % 18446744073709551616 ∧ x * 2 ^ s % 18446744073709551616 + 2 ^ s ≤ 18446744073709551616:=by
 have e:=p64 hs
 have h1:=a4x s
 have h2:=a4x (64 - s)
 have e2 : x * 2 ^ s % 18446744073709551616 = 2 ^ s * (x % 2 ^ (64 - s)):=by
  rw [e,Int.mul_comm x,Int.mul_emod_mul_of_pos _ _ h1]
 have h3:=Int.emod_nonneg x (Int.ne_of_gt h2)
 have h4:=Int.emod_lt_of_pos x h2
 have h5 : 2 ^ s * (x % 2 ^ (64 - s)) ≤ 2 ^ s * (2 ^ (64 - s) - 1):=Int.mul_le_mul_of_nonneg_left (by omega) (by omega)
 rw [Int.mul_sub,Int.mul_one, ← e] at h5
 rw [e2]
 exact ⟨Int.mul_nonneg (by omega) h3,by omega⟩
theorem d1w {x : Int} {s : Nat} (_hs : s ≤ 64) (hx : W x) : 0 ≤ x * 2 ^ s / 18446744073709551616 ∧ x * 2 ^ s / 18446744073709551616 < 2 ^ s:=by
 have h1:=a4x s
 refine ⟨Int.ediv_nonneg (Int.mul_nonneg hx.1 (by omega)) (by omega), ?_⟩
 apply Int.ediv_lt_of_lt_mul (by omega)
 rw [Int.mul_comm]
 exact Int.mul_lt_mul_of_pos_left hx.2 h1
theorem b1e {l : List Int} {s len : Nat} (hs : s ≤ 63) (hw : ∀ t,W (l.getD t 0)) : ∀ i : Nat,i < len → (shN l s len i).length = len ∧ (∀ t,W ((shN l s len i).getD t 0)) ∧ (∀ t,i < t → (shN l s len i).getD t 0 = 0) ∧
  (shN l s len i).getD i 0 < 2 ^ s ∧ sg (fun t=>(shN l s len i).getD t 0) (i + 1) = 2 ^ s * sg (fun t=>l.getD t 0) i
 | 0,hi=>by
  have z : ∀ t,(List.replicate len (0 : Int)).getD t 0 = 0:=fun t=>by
   simp only [List.getD,List.getElem?_replicate];split <;> rfl
  have h1:=a4x s
  refine ⟨by simp [shN],fun t => ?_,fun t _=>z t, ?_, ?_⟩
  ·show W ((List.replicate len (0 : Int)).getD t 0)
   rw [z];exact ⟨by decide,by decide⟩
  ·show (List.replicate len (0 : Int)).getD 0 0 < _
   rw [z];exact h1
  ·simp only [sg,shN,z];simp
 | i + 1,hi=>by
  obtain ⟨e1,e2,e3,e4,e5⟩:=b1e (len:=len) hs hw i (by omega)
  unfold shN
  rw [wrap64 (by omega),d5t (by omega),c8e (by omega)]
  generalize shN l s len i = X at *
  have hx:=hw i
  obtain ⟨r1,r2⟩:=room (x:=l.getD i 0) (s:=s) (by omega)
  obtain ⟨h1,h2⟩:=d1w (s:=s) (by omega) hx
  have hd:=Int.emod_add_mul_ediv (l.getD i 0 * 2 ^ s) 18446744073709551616
  have x0:=(e2 i).1
  have hp : (2 : Int) ^ s ≤ 18446744073709551616:=by
   have:=room (x:=0) (s:=s) (by omega)
   omega
  have hlo : IntKind.u64.wrap (X.getD i 0 + l.getD i 0 * 2 ^ s % 18446744073709551616) = X.getD i 0 + l.getD i 0 * 2 ^ s % 18446744073709551616:=e2n (by omega)
  rw [hlo]
  generalize hA : l.getD i 0 * 2 ^ s % 18446744073709551616 = A at *
  generalize hC : l.getD i 0 * 2 ^ s / 18446744073709551616 = C at *
  have k1 : i < X.length:=by omega
  have k2 : i + 1 < (X.set i (X.getD i 0 + A)).length:=by simp;omega
  have g : ∀ t,((X.set i (X.getD i 0 + A)).set (i + 1) C).getD t 0 = if i + 1 = t then C else if i = t then X.getD i 0 + A else X.getD t 0:=fun t=>by
   rw [a0j k2,a0j k1]
  refine ⟨by simp [e1],b9q (b9q e2 ⟨by omega,by omega⟩) ⟨h1,by omega⟩,fun t ht => ?_, ?_, ?_⟩
  ·rw [g,if_neg (by omega),if_neg (by omega)]
   exact e3 t (by omega)
  ·rw [g,if_pos rfl];exact h2
  ·have c1 : sg (fun t=>((X.set i (X.getD i 0 + A)).set (i + 1) C).getD t 0) i = sg (fun t=>X.getD t 0) i:=
    a4b fun t ht=>by rw [g,if_neg (by omega),if_neg (by omega)]
   rw [sg] at e5
   simp only [sg]
   rw [c1,g,if_neg (by omega),if_pos rfl,g,if_pos rfl,Int.pow_succ]
   generalize (18446744073709551616 : Int) ^ i = p at *
   generalize sg (fun t=>X.getD t 0) i = S at *
   generalize sg (fun t=>l.getD t 0) i = L at *
   generalize X.getD i 0 = x at *
   generalize l.getD i 0 = y at *
   generalize (2 : Int) ^ s = q at *
   grind
theorem b3u {a : List Int} {s : Nat} {r : Int} (hs : s ≤ 63) (hr : 0 ≤ r) (ha : ∀ t,t < 10 → a.getD t 0 = r * 2 ^ s / 18446744073709551616 ^ t % 18446744073709551616) : ∀ n : Nat,n ≤ 4 → (f0k a s n).length = 4 ∧ ∀ t,t < 4 → (f0k a s n).getD t 0 = if t < n then r / 18446744073709551616 ^ t % 18446744073709551616 else 0
 | 0,_=>by
  refine ⟨rfl,fun t ht => ?_⟩
  have : t = 0 ∨ t = 1 ∨ t = 2 ∨ t = 3:=by omega
  rcases this with rfl | rfl | rfl | rfl <;> rfl
 | i + 1,hi=>by
  obtain ⟨e1,e2⟩:=b3u hs hr ha i (by omega)
  unfold f0k
  rw [wrap64 (by omega),c8f (by omega),c8e (by omega)]
  have hp:=bp i
  have q1:=a4x s
  have q2:=a4x (64 - s)
  have key : IntKind.u64.wrap (a.getD i 0 / 2 ^ s + a.getD (i + 1) 0 * 2 ^ (64 - s) % 18446744073709551616) = r / 18446744073709551616 ^ i % 18446744073709551616:=by
   have hY0 : 0 ≤ r * 2 ^ s / 18446744073709551616 ^ i:=Int.ediv_nonneg (Int.mul_nonneg hr (by omega)) (Int.le_of_lt hp)
   have d0:=ha i (by omega)
   have d1:=ha (i + 1) (by omega)
   have e3 : r * 2 ^ s / 18446744073709551616 ^ (i + 1) = r * 2 ^ s / 18446744073709551616 ^ i / 18446744073709551616:=by
    rw [Int.ediv_ediv_of_nonneg (Int.le_of_lt hp), ← Int.pow_succ]
   have e4 : r / 18446744073709551616 ^ i = r * 2 ^ s / 18446744073709551616 ^ i / 2 ^ s:=by
    rw [Int.ediv_ediv_of_nonneg (Int.le_of_lt hp),Int.mul_comm (18446744073709551616 ^ i),Int.mul_comm r,Int.mul_ediv_mul_of_pos _ _ q1]
   rw [e3] at d1
   rw [e4,d0,d1]
   generalize r * 2 ^ s / 18446744073709551616 ^ i = Y at *
   have f1:=Int.emod_add_mul_ediv Y 18446744073709551616
   have f2:=Int.emod_add_mul_ediv (Y / 18446744073709551616) 18446744073709551616
   have y0:=Int.emod_nonneg Y (show (18446744073709551616 : Int) ≠ 0 by decide)
   have y1:=Int.emod_lt_of_pos Y (show (0 : Int) < 18446744073709551616 by decide)
   generalize Y / 18446744073709551616 / 18446744073709551616 = Z at *
   generalize Y / 18446744073709551616 % 18446744073709551616 = D at *
   generalize Y / 18446744073709551616 = Q at *
   generalize Y % 18446744073709551616 = E at *
   have ep:=p64 (s:=s) (by omega)
   have eY : Y = E + 2 ^ s * (2 ^ (64 - s) * (D + 18446744073709551616 * Z)):=by
    rw [← Int.mul_assoc, ← ep];omega
   rw [eY,Int.add_mul_ediv_left _ _ (Int.ne_of_gt q1),a25]
   have e5 : 2 ^ (64 - s) * (D + 18446744073709551616 * Z) = D * 2 ^ (64 - s) + 18446744073709551616 * (2 ^ (64 - s) * Z):=by grind
   rw [e5]
   generalize D * 2 ^ (64 - s) = T
   generalize 2 ^ (64 - s) * Z = V
   generalize E / 2 ^ s = F
   omega
  rw [key]
  have k : i < (f0k a s i).length:=by omega
  refine ⟨by simp [e1],fun t ht => ?_⟩
  rw [a0j k]
  by_cases h : i = t
  ·subst h
   rw [if_pos rfl,if_pos (by omega)]
  ·rw [if_neg h,e2 t ht]
   by_cases h2 : t < i
   ·rw [if_pos h2,if_pos (by omega)]
   ·rw [if_neg h2,if_neg (by omega)]
end Go.Wn
namespace Go.Wn
open Go.Ev
theorem d5u (l : List Int) : val l = sg (fun t=>l.getD t 0) 4:=by
 simp only [val,sg,Int.pow_zero,Int.reducePow]
 omega
theorem d5v {f : Nat → Int} {n : Nat} (h : ∀ t,n ≤ t → t < 4 → f t = 0) (hn : n ≤ 4) : sg f 4 = sg f n:=by
 have : ∀ k,n ≤ k → k ≤ 4 → sg f k = sg f n:=by
  intro k
  induction k with
  | zero => intro h1 _; have : n = 0 := by omega
            subst this;rfl
  | succ k ih =>
   intro h1 h2
   rcases Nat.lt_or_ge n (k + 1) with h3 | h3
   ·rw [sg,h k (by omega) (by omega),Int.zero_mul,Int.add_zero]
    exact ih (by omega) (by omega)
   ·have : n = k + 1:=by omega
    subst this;rfl
 exact this 4 hn (Nat.le_refl _)
theorem c2k (f : Nat → Int) {n : Nat} (hn : 1 ≤ n) : sg f n = sg f (n - 1) + f (n - 1) * 18446744073709551616 ^ (n - 1):=by
 obtain ⟨k,rfl⟩ : ∃ k,n = k + 1:=⟨n - 1,by omega⟩
 rfl
theorem c2l (r : Int) {t : Nat} (ht : t < 4) : (limbs r).getD t 0 = r / 18446744073709551616 ^ t % 18446744073709551616:=by
 have : t = 0 ∨ t = 1 ∨ t = 2 ∨ t = 3:=by omega
 rcases this with rfl | rfl | rfl | rfl <;> simp [limbs]
theorem b1f {s : Nat} (hs : s ≤ 63) : ∀ k,d7x (dSN (s : Int) k)
 | 0=>d7x.nil
 | k + 1=>by
  have h1 : (!decide ((s : Int) < 0)) = true:=by rw [decide_eq_false (by omega)];rfl
  have h2 : (!decide (IntKind.i64.wrap (64 - (s : Int)) < 0)) = true:=by rw [wrap64 (by omega),decide_eq_false (by omega)];rfl
  exact a00 h1 (a00 h2 (b1f hs k))
end Go.Wn
namespace Go.Proofs.YthelmpjkkkhopaaGreatDoor
open Go.Ev Go.Wn
set_option maxRecDepth 100000
theorem a6p {n : Nat} {u m : List Int} (hn : 1 ≤ n ∧ n ≤ 4) (hu : ∀ t,W (u.getD t 0)) (hm : ∀ t,W (m.getD t 0)) (hp : 0 < m.getD (n - 1) 0) (hz : ∀ t,n ≤ t → t < 4 → m.getD t 0 = 0) :
  d7x (dSN (e89 m n) (n + 9) ++ (o6 n (9 - n) (shN m (e89 m n) 5 n) (shN u (e89 m n) 10 9) ++ dSN (e89 m n) n)) ∧ f6l u m (e89 m n) n = limbs (sg (fun t=>u.getD t 0) 9 % val m):=by
 obtain ⟨k,ek,h1,h2⟩:=a62 hp
 have hk : k ≤ 63:=by
  have:=b1y (hm (n - 1)) hp
  omega
 have es : e89 m n = ((63 - k : Nat) : Int):=by unfold e89;rw [ek];omega
 rw [es]
 have hs : 63 - k ≤ 63:=by omega
 generalize hsN : 63 - k = s at *
 have q1:=a4x s
 have g1 : 9223372036854775808 ≤ m.getD (n - 1) 0 * 2 ^ s:=by
  have e : (9223372036854775808 : Int) = 2 ^ k * 2 ^ s:=by rw [← Int.pow_add,show k + s = 63 by omega];rfl
  rw [e]
  exact Int.mul_le_mul_of_nonneg_right h1 (by omega)
 have g2 : (m.getD (n - 1) 0 + 1) * 2 ^ s ≤ 18446744073709551616:=by
  have e : (18446744073709551616 : Int) = 2 ^ (k + 1) * 2 ^ s:=by rw [← Int.pow_add,show k + 1 + s = 64 by omega];rfl
  rw [e]
  exact Int.mul_le_mul_of_nonneg_right (by omega) (by omega)
 have hX:=b1e (len:=5) hs hm n (by omega)
 have hA9:=b1e (len:=10) hs hu 9 (by omega)
 have b2:=hX.2.1;have b5:=hX.2.2.2.2
 have a1:=hA9.1;have a2:=hA9.2.1;have a5:=hA9.2.2.2.2
 clear hX hA9
 have hpn:=bp (n - 1)
 have epn : (18446744073709551616 : Int) ^ n = 18446744073709551616 ^ (n - 1) * 18446744073709551616:=by
  rw [← Int.pow_succ,show (n - 1).succ = n by omega]
 have em:=c2k (fun t=>m.getD t 0) hn.1
 have rm:=a1e hm (n - 1)
 unfold f6l
 generalize shN m s 5 n = X at *
 generalize shN u s 10 9 = A at *
 have rX:=a1e b2 n
 have hXn:=(b2 n).1
 have hMlt : sg (fun t=>m.getD t 0) n * 2 ^ s < 18446744073709551616 ^ n:=by
  have c1 : sg (fun t=>m.getD t 0) n < (m.getD (n - 1) 0 + 1) * 18446744073709551616 ^ (n - 1):=by rw [em,Int.add_mul,Int.one_mul];omega
  have c2:=Int.mul_lt_mul_of_pos_right c1 q1
  have c3 : (m.getD (n - 1) 0 + 1) * 18446744073709551616 ^ (n - 1) * 2 ^ s = (m.getD (n - 1) 0 + 1) * 2 ^ s * 18446744073709551616 ^ (n - 1):=by
   rw [Int.mul_assoc,Int.mul_comm (18446744073709551616 ^ (n - 1)), ← Int.mul_assoc]
  have c4:=Int.mul_le_mul_of_nonneg_right g2 (Int.le_of_lt hpn)
  rw [epn,Int.mul_comm (18446744073709551616 ^ (n - 1))]
  omega
 have hB : sg (fun t=>X.getD t 0) n = 2 ^ s * sg (fun t=>m.getD t 0) n:=by
  rw [sg] at b5
  have hzero : X.getD n 0 = 0:=by
   rcases Int.lt_or_eq_of_le hXn with h | h
   ·have : 1 * 18446744073709551616 ^ n ≤ X.getD n 0 * 18446744073709551616 ^ n:=Int.mul_le_mul_of_nonneg_right (by omega) (Int.le_of_lt (bp n))
    rw [Int.mul_comm (2 ^ s)] at b5
    omega
   ·exact h.symm
  rw [hzero,Int.zero_mul,Int.add_zero] at b5
  exact b5
 have hBge : m.getD (n - 1) 0 * 2 ^ s * 18446744073709551616 ^ (n - 1) ≤ sg (fun t=>X.getD t 0) n:=by
  rw [hB,em,Int.mul_add]
  have : 0 ≤ 2 ^ s * sg (fun t=>m.getD t 0) (n - 1):=Int.mul_nonneg (by omega) rm.1
  have e : 2 ^ s * (m.getD (n - 1) 0 * 18446744073709551616 ^ (n - 1)) = m.getD (n - 1) 0 * 2 ^ s * 18446744073709551616 ^ (n - 1):=by
   rw [← Int.mul_assoc,Int.mul_comm (2 ^ s)]
  omega
 have hM0 : 0 < sg (fun t=>m.getD t 0) n:=by
  have:=Int.mul_pos hp hpn
  rw [em];omega
 have hBpos : 0 < sg (fun t=>X.getD t 0) n:=by rw [hB];exact Int.mul_pos q1 hM0
 have hval : val m = sg (fun t=>m.getD t 0) n:=by rw [d5u];exact d5v hz hn.2
 have hy : 9223372036854775808 ≤ X.getD (n - 1) 0:=by
  have eX:=c2k (fun t=>X.getD t 0) hn.1
  have rX1:=a1e b2 (n - 1)
  have c1 : 9223372036854775808 * 18446744073709551616 ^ (n - 1) < (X.getD (n - 1) 0 + 1) * 18446744073709551616 ^ (n - 1):=by
   have:=Int.mul_le_mul_of_nonneg_right g1 (Int.le_of_lt hpn)
   rw [Int.add_mul,Int.one_mul]
   omega
  have:=Int.lt_of_mul_lt_mul_right c1 (Int.le_of_lt hpn)
  omega
 have rU:=a1e hu 9
 have hA : sg (fun t=>A.getD t 0) 10 = 2 ^ s * sg (fun t=>u.getD t 0) 9:=a5
 have hstart : sg (fun t=>A.getD t 0) 10 / 18446744073709551616 ^ (10 - n) < sg (fun t=>X.getD t 0) n:=by
  apply Int.ediv_lt_of_lt_mul (bp (10 - n))
  rw [hA]
  have c1:=Int.mul_lt_mul_of_pos_left rU.2 q1
  have e9 : (18446744073709551616 : Int) ^ 9 = 18446744073709551616 ^ (n - 1) * 18446744073709551616 ^ (10 - n):=by rw [← Int.pow_add,show n - 1 + (10 - n) = 9 by omega]
  have c2 : 2 ^ s * 18446744073709551616 ^ (n - 1) ≤ sg (fun t=>X.getD t 0) n:=by
   have c3 : 1 * 2 ^ s ≤ m.getD (n - 1) 0 * 2 ^ s:=Int.mul_le_mul_of_nonneg_right (by omega) (by omega)
   rw [Int.one_mul] at c3
   have:=Int.mul_le_mul_of_nonneg_right c3 (Int.le_of_lt hpn)
   omega
  have c4:=Int.mul_le_mul_of_nonneg_right c2 (Int.le_of_lt (bp (10 - n)))
  rw [Int.mul_assoc, ← e9] at c4
  omega
 refine ⟨a01.2 ⟨b1f hs _,a01.2 ⟨?_,b1f hs _⟩⟩, ?_⟩
 ·unfold o6
  exact a00 (decide_eq_true hn) (a00 (decide_eq_true (by omega)) (a00 (decide_eq_true a1) (a00 (b05 a2) (a00 (b05 b2) (a00 (decide_eq_true hy) (a00 (decide_eq_true hstart) d7x.nil))))))
 ·have hD : ∀ t,t < 10 → (d9u A (d9a X n) 0).getD t 0 = (sg (fun t=>u.getD t 0) 9 % val m) * 2 ^ s / 18446744073709551616 ^ t % 18446744073709551616:=fun t ht=>by
   rw [a3z ht,if_neg (by omega),Int.pow_zero,Int.ediv_one,Nat.sub_zero,hA]
   have e : 2 ^ s * sg (fun t=>u.getD t 0) 9 % d9a X n = (sg (fun t=>u.getD t 0) 9 % val m) * 2 ^ s:=by
    unfold d9a
    rw [hB,Int.mul_emod_mul_of_pos _ _ q1,hval,Int.mul_comm]
   rw [e]
  have hr0 : 0 ≤ sg (fun t=>u.getD t 0) 9 % val m:=Int.emod_nonneg _ (by omega)
  have hv1 : sg (fun t=>u.getD t 0) 9 % val m < val m:=Int.emod_lt_of_pos _ (by omega)
  have hO:=b3u hs hr0 hD n hn.2
  have hMn : val m < 18446744073709551616 ^ n:=by rw [hval];exact (a1e hm n).2
  generalize sg (fun t=>u.getD t 0) 9 % val m = r at *
  apply a2j (by rw [hO.1];rfl)
  intro t ht
  rw [hO.1] at ht
  rw [hO.2 t ht,c2l r ht]
  by_cases h : t < n
  ·rw [if_pos h]
  ·rw [if_neg h,a70 hr0 (n:=n) (by omega) (by omega)]
theorem a3i {m : List Int} (hm : ∀ t,W (m.getD t 0)) {t : Nat} (h : ¬ m.getD t 0 = 0) : 0 < m.getD t 0:=by
 have:=(hm t).1
 omega
def f6m : List V → E (AV × Mem)
 | [.pl (.ints .u64 9 u), .pl (.ints .u64 4 m)]=>some ([decide (0 < val m)],(.ints .u64 4 (limbs (sg (fun t=>u.getD t 0) 9 % val m)),[]))
 | _=>none
theorem c59 : LOk Tryz.prog (d80 Tryz.prog 65) remΛ2:=by
 refine ⟨fun {id c st st' o} hc hl ho => ?_⟩
 have hid : id = 6:=by
  unfold remΛ2 at hl
  split at hl
  ·rfl
  ·cases hl
 subst hid
 exact c9i hc hl ho
theorem c8g {ρ : Nat → d8c} {N : Nat → Prop} {n : Nat} {l : List Int} {v : Value} (h : Rep ρ N (.ints .u64 n l) v) (t : Nat) : W (l.getD t 0):=by
 cases h with
 | ints _ _ _ hn hl =>
  by_cases ht : t < l.length
  ·rw [List.getD,List.getElem?_eq_getElem ht]
   exact a1d (hl _ (List.getElem_mem ht))
  ·rw [List.getD,List.getElem?_eq_none (by omega)]
   exact ⟨by decide,by decide⟩
theorem d5w {xs : List V} {o : List Bool} {v : AV} {bs : Mem} (h : f6m xs = some (o,(v,bs))) (ho : d7x o) : d7y Tryz.prog 65 xs v bs:=by
 unfold f6m at h
 split at h
 ·rename_i u m
  cases h
  have h1:=ho _ (f9b ..)
  rw [decide_eq_true_eq] at h1
  intro ρ vs w ha hi
  have hb:=ha
  cases hb with
  | cons _ _ _ _ r0 hb=>cases hb with
   | cons _ _ _ _ r1 hb =>
    have hu:=c8g r0
    have hm:=c8g r1
    have hΛ : ∀ fn c,Tryz.prog.funcs[65]? = some fn → fn.body = some c → LOk Tryz.prog c remΛ2:=fun fn c hf hb=>by rw [a0r hf hb];exact c59
    have nz : ∀ t, ¬ m.getD t 0 = 0 → (!(m.getD t 0 == 0)) = true:=fun t ht=>by simpa using ht
    have ze : ∀ t,m.getD t 0 = 0 → (m.getD t 0 == 0) = true:=fun t ht=>by simpa using ht
    by_cases z3 : m.getD 3 0 = 0
    ·by_cases z2 : m.getD 2 0 = 0
     ·by_cases z1 : m.getD 1 0 = 0
      ·have z0 : ¬ m.getD 0 0 = 0:=fun z0=>by
        have : val m = 0:=by simp only [val,z0,z1,z2,z3];rfl
        omega
       have hz1 : ∀ t,1 ≤ t → t < 4 → m.getD t 0 = 0:=fun t h1 h2=>by
        have h3 : t = 1 ∨ t = 2 ∨ t = 3:=by omega
        rcases h3 with h | h | h <;> rw [h] <;> assumption
       obtain ⟨t1,t2⟩:=a6p (n:=1) ⟨by decide,by decide⟩ hu hm (a3i hm z0) hz1
       exact a1u mixed d7w a9g hΛ (f1m 1) (RG_1 u m) (a01.2 ⟨a00 (ze 3 z3) (a00 (ze 2 z2) (a00 (ze 1 z1) (a00 (nz 0 z0) d7x.nil))),a00 (decide_eq_true (a3i hm z0)) t1⟩) (by rw [t2]) (by kernel_rfl) ha hi
      ·have hz2 : ∀ t,2 ≤ t → t < 4 → m.getD t 0 = 0:=fun t h1 h2=>by
        have h3 : t = 2 ∨ t = 3:=by omega
        rcases h3 with h | h <;> rw [h] <;> assumption
       obtain ⟨t1,t2⟩:=a6p (n:=2) ⟨by decide,by decide⟩ hu hm (a3i hm z1) hz2
       exact a1u mixed d7w a9g hΛ (f1m 2) (RG_2 u m) (a01.2 ⟨a00 (ze 3 z3) (a00 (ze 2 z2) (a00 (nz 1 z1) d7x.nil)),a00 (decide_eq_true (a3i hm z1)) t1⟩) (by rw [t2]) (by kernel_rfl) ha hi
     ·have hz3 : ∀ t,3 ≤ t → t < 4 → m.getD t 0 = 0:=fun t h1 h2=>by
       have h3 : t = 3:=by omega
       rw [h3];assumption
      obtain ⟨t1,t2⟩:=a6p (n:=3) ⟨by decide,by decide⟩ hu hm (a3i hm z2) hz3
      exact a1u mixed d7w a9g hΛ (f1m 3) (RG_3 u m) (a01.2 ⟨a00 (ze 3 z3) (a00 (nz 2 z2) d7x.nil),a00 (decide_eq_true (a3i hm z2)) t1⟩) (by rw [t2]) (by kernel_rfl) ha hi
    ·obtain ⟨t1,t2⟩:=a6p (n:=4) ⟨by decide,by decide⟩ hu hm (a3i hm z3) (fun t a b=>by omega)
     exact a1u mixed d7w a9g hΛ (f1m 4) (RG_4 u m) (a01.2 ⟨a00 (nz 3 z3) d7x.nil,a00 (decide_eq_true (a3i hm z3)) t1⟩) (by rw [t2]) (by kernel_rfl) ha hi
 ·cases h
end Go.Proofs.YthelmpjkkkhopaaGreatDoor
namespace Go.Wn
open Go.Ev
theorem sm_r (x y M : Int) : (x - y % M) % M = (x - y) % M:=by rw [Int.sub_emod,Int.emod_emod_of_dvd _ (Int.dvd_refl _), ← Int.sub_emod]
theorem sg9 (a b c d e f g h i : Int) : sg (fun t=>[a,b,c,d,e,f,g,h,i].getD t 0) 9 = val [a,b,c,d] + W4 * (e + 18446744073709551616 * f + 340282366920938463463374607431768211456 * g + 6277101735386680763835789423207666416102355444464034512896 * h + W4 * i):=by
 simp only [sg,val,W4,Int.pow_zero,Int.reducePow,List.getD_cons_zero,List.getD_cons_succ]
 omega
def rH (a b c d : Int) : Int:=IntKind.u64.wrap (IntKind.u64.wrap (a * b / 18446744073709551616 + (a * b % 18446744073709551616 + c + 0) / 18446744073709551616) + ((a * b % 18446744073709551616 + c + 0) % 18446744073709551616 + d + 0) / 18446744073709551616)
def rL (a b c d : Int) : Int:=((a * b % 18446744073709551616 + c + 0) % 18446744073709551616 + d + 0) % 18446744073709551616
theorem f2o {a b c d : Int} (ha : W a) (hb : W b) (hc : W c) (hd : W d) : rH a b c d = pH a b c d ∧ rL a b c d = pL a b c d:=by
 obtain ⟨_,h1,h2⟩:=b69 ha hb hc hd
 exact ⟨h1,h2⟩
def f2p (w b0 b1 b2 b3 t0 t1 t2 t3 : Int) : List Int:=
 [rL w b0 t0 0,rL w b1 t1 (rH w b0 t0 0),rL w b2 t2 (rH w b1 t1 (rH w b0 t0 0)),rL w b3 t3 (rH w b2 t2 (rH w b1 t1 (rH w b0 t0 0))),rH w b3 t3 (rH w b2 t2 (rH w b1 t1 (rH w b0 t0 0)))]
theorem a6q {w b0 b1 b2 b3 t0 t1 t2 t3 : Int} (hw : W w) (h0 : W b0) (h1 : W b1) (h2 : W b2) (h3 : W b3) (k0 : W t0) (k1 : W t1) (k2 : W t2) (k3 : W t3) :
  ∃ r0 r1 r2 r3 r4,f2p w b0 b1 b2 b3 t0 t1 t2 t3 = [r0,r1,r2,r3,r4] ∧ W r0 ∧ W r1 ∧ W r2 ∧ W r3 ∧ W r4 ∧ w * val [b0,b1,b2,b3] + val [t0,t1,t2,t3] = r0 + 18446744073709551616 * val [r1,r2,r3,r4]:=by
 have z : W 0:=⟨by decide,by decide⟩
 obtain ⟨c0,c1,c2,c3,r0,r1,r2,r3,rfl,rfl,rfl,rfl,rfl,rfl,rfl,rfl,w0,w1,w2,w3,x0,x1,x2,x3,hrow⟩:=b1d hw h0 h1 h2 h3 k0 k1 k2 k3
 obtain ⟨a0,l0⟩:=f2o hw h0 k0 z
 obtain ⟨a1,l1⟩:=f2o hw h1 k1 w0
 obtain ⟨a2,l2⟩:=f2o hw h2 k2 w1
 obtain ⟨a3,l3⟩:=f2o hw h3 k3 w2
 refine ⟨_,_,_,_,_,by unfold f2p;rw [a0,l0,a1,l1,a2,l2,a3,l3],x0,x1,x2,x3,w3, ?_⟩
 rw [hrow]
 simp only [val,List.getD_cons_zero,List.getD_cons_succ]
 omega
def mulX (a0 b0 b1 b2 b3 : Int) : List Int:=f2p a0 b0 b1 b2 b3 0 0 0 0
def f2q (x : List Int) (a b0 b1 b2 b3 : Int) : List Int:=f2p a b0 b1 b2 b3 (x.getD 1 0) (x.getD 2 0) (x.getD 3 0) (x.getD 4 0)
def mulL (a0 a1 a2 a3 b0 b1 b2 b3 : Int) : List Int:=
 let x:=mulX a0 b0 b1 b2 b3;let y:=f2q x a1 b0 b1 b2 b3;let z:=f2q y a2 b0 b1 b2 b3;let w:=f2q z a3 b0 b1 b2 b3
 [x.getD 0 0,y.getD 0 0,z.getD 0 0,w.getD 0 0,w.getD 1 0,w.getD 2 0,w.getD 3 0,w.getD 4 0,0]
theorem c2m {a0 a1 a2 a3 b0 b1 b2 b3 : Int} (k0 : W a0) (k1 : W a1) (k2 : W a2) (k3 : W a3) (h0 : W b0) (h1 : W b1) (h2 : W b2) (h3 : W b3) : sg (fun t=>(mulL a0 a1 a2 a3 b0 b1 b2 b3).getD t 0) 9 = val [a0,a1,a2,a3] * val [b0,b1,b2,b3]:=by
 have z : W 0:=⟨by decide,by decide⟩
 obtain ⟨x0,x1,x2,x3,x4,ex,wx0,wx1,wx2,wx3,wx4,e1⟩:=a6q k0 h0 h1 h2 h3 z z z z
 obtain ⟨y0,y1,y2,y3,y4,ey,wy0,wy1,wy2,wy3,wy4,e2⟩:=a6q k1 h0 h1 h2 h3 wx1 wx2 wx3 wx4
 obtain ⟨z0,z1,z2,z3,z4,ez,wz0,wz1,wz2,wz3,wz4,e3⟩:=a6q k2 h0 h1 h2 h3 wy1 wy2 wy3 wy4
 obtain ⟨w0,w1,w2,w3,w4,ew,ww0,ww1,ww2,ww3,ww4,e4⟩:=a6q k3 h0 h1 h2 h3 wz1 wz2 wz3 wz4
 have hl : mulL a0 a1 a2 a3 b0 b1 b2 b3 = [x0,y0,z0,w0,w1,w2,w3,w4,0]:=by
  unfold mulL mulX f2q
  simp only [ex,ey,ez,ew,List.getD_cons_zero,List.getD_cons_succ]
 rw [hl,sg9]
 have eA : val [a0,a1,a2,a3] * val [b0,b1,b2,b3] = a0 * val [b0,b1,b2,b3] + 18446744073709551616 * (a1 * val [b0,b1,b2,b3]) + 340282366920938463463374607431768211456 * (a2 * val [b0,b1,b2,b3]) + 6277101735386680763835789423207666416102355444464034512896 * (a3 * val [b0,b1,b2,b3]):=by
  generalize val [b0,b1,b2,b3] = B
  simp [val,Int.add_mul,Int.mul_assoc]
 rw [eA]
 generalize val [b0,b1,b2,b3] = B at *
 generalize a0 * B = q0 at *
 generalize a1 * B = q1 at *
 generalize a2 * B = q2 at *
 generalize a3 * B = q3 at *
 simp only [val,W4,List.getD_cons_zero,List.getD_cons_succ] at *
 omega
end Go.Wn
namespace Go.Proofs.YthelmpjkkkhopaaGreatDoor
open Go.Ev Go.Wn
set_option maxRecDepth 100000
def hf1 : d82:=d84 65 f6m f2r
theorem b3v : HOk Tryz.prog hf1:=b6a.d84 fun _ _ _ _ h ho=>d5w h ho
def f6n : List AV → E AV
 | [.ints .u64 4 a, .ints .u64 4 m]=>some ([decide (0 < val m)], .ints .u64 4 (limbs (val a % val m)))
 | _=>none
theorem c5a (a0 a1 a2 a3 : Int) (m : List Int) : res (d81 Tryz.prog d93 hf1 100 75 [.ints .u64 4 [a0,a1,a2,a3], .ints .u64 4 m] []) =
  some ([decide (0 < val m)], .ints .u64 4 (limbs (sg (fun t=>[a0,a1,a2,a3,0,0,0,0,0].getD t 0) 9 % val m))):=by kernel_rfl
theorem d5x {args : List AV} {o : List Bool} {v : AV} (h : f6n args = some (o,v)) (ho : d7x o) : d86 Tryz.prog 75 args v:=by
 unfold f6n at h
 split at h
 ·rename_i a m
  cases h
  intro ρ N vs ha
  have hb:=ha
  cases hb with
  | cons _ _ _ _ r1 hb =>
   obtain ⟨a0,a1,a2,a3,rfl,_⟩:=a0g r1
   have e : sg (fun t=>[a0,a1,a2,a3,0,0,0,0,0].getD t 0) 9 = val [a0,a1,a2,a3]:=by rw [sg9];omega
   exact a0b mixed d7w b3v (by kernel_rfl) (c5a a0 a1 a2 a3 m) ho (by rw [e]) (by kernel_rfl) ha
 ·cases h
def f6o : List AV → E AV
 | [.ints .u64 4 a, .ints .u64 4 b, .ints .u64 4 m]=>some ([decide (0 < val m)], .ints .u64 4 (limbs ((val a + val b) % val m)))
 | _=>none
def e9p (a0 a1 a2 a3 b0 b1 b2 b3 : Int) : List Int:=[sm a0 b0 0,sm a1 b1 (cy a0 b0 0),sm a2 b2 (cy a1 b1 (cy a0 b0 0)),sm a3 b3 (cy a2 b2 (cy a1 b1 (cy a0 b0 0))),cy a3 b3 (cy a2 b2 (cy a1 b1 (cy a0 b0 0))),0,0,0,0]
theorem c5b (a0 a1 a2 a3 b0 b1 b2 b3 : Int) (m : List Int) : res (d81 Tryz.prog d93 hf1 100 28 [.ints .u64 4 [a0,a1,a2,a3], .ints .u64 4 [b0,b1,b2,b3], .ints .u64 4 m] []) =
  some ([decide ((0 : Int) ≤ 1),decide (cy a0 b0 0 ≤ 1),decide (cy a1 b1 (cy a0 b0 0) ≤ 1),decide (cy a2 b2 (cy a1 b1 (cy a0 b0 0)) ≤ 1),decide (0 < val m)], .ints .u64 4 (limbs (sg (fun t=>(e9p a0 a1 a2 a3 b0 b1 b2 b3).getD t 0) 9 % val m))):=by kernel_rfl
theorem d5y {args : List AV} {o : List Bool} {v : AV} (h : f6o args = some (o,v)) (ho : d7x o) : d86 Tryz.prog 28 args v:=by
 unfold f6o at h
 split at h
 ·rename_i a b m
  cases h
  intro ρ N vs ha
  have hb:=ha
  cases hb with
  | cons _ _ _ _ r1 hb=>cases hb with
   | cons _ _ _ _ r2 hb =>
    obtain ⟨a0,a1,a2,a3,rfl,wa0,wa1,wa2,wa3⟩:=a0g r1
    obtain ⟨b0,b1,b2,b3,rfl,wb0,wb1,wb2,wb3⟩:=a0g r2
    obtain ⟨k1,k2,k3,k4,k5⟩:=a6y wa0 wa1 wa2 wa3 wb0 wb1 wb2 wb3
    have e : sg (fun t=>(e9p a0 a1 a2 a3 b0 b1 b2 b3).getD t 0) 9 = val [a0,a1,a2,a3] + val [b0,b1,b2,b3]:=by
     unfold e9p
     rw [sg9,k1,k2,a1f]
     unfold W4
     omega
    exact a0b mixed d7w b3v (by kernel_rfl) (c5b a0 a1 a2 a3 b0 b1 b2 b3 m) (a00 (by kernel_rfl) (a00 (decide_eq_true k3) (a00 (decide_eq_true k4) (a00 (decide_eq_true k5) ho)))) (by rw [e]) (by kernel_rfl) ha
 ·cases h
def f6p : List AV → E AV
 | [.ints .u64 4 a, .ints .u64 4 b, .ints .u64 4 m]=>some ([decide (0 < val m)], .ints .u64 4 (limbs (val a * val b % val m)))
 | _=>none
theorem c5c (a0 a1 a2 a3 b0 b1 b2 b3 : Int) (m : List Int) : res (d81 Tryz.prog d93 hf1 100 29 [.ints .u64 4 [a0,a1,a2,a3], .ints .u64 4 [b0,b1,b2,b3], .ints .u64 4 m] []) =
  some (rep 32 true [decide (0 < val m)], .ints .u64 4 (limbs (sg (fun t=>(mulL a0 a1 a2 a3 b0 b1 b2 b3).getD t 0) 9 % val m))):=by kernel_rfl
theorem d5z {args : List AV} {o : List Bool} {v : AV} (h : f6p args = some (o,v)) (ho : d7x o) : d86 Tryz.prog 29 args v:=by
 unfold f6p at h
 split at h
 ·rename_i a b m
  cases h
  intro ρ N vs ha
  have hb:=ha
  cases hb with
  | cons _ _ _ _ r1 hb=>cases hb with
   | cons _ _ _ _ r2 hb =>
    obtain ⟨a0,a1,a2,a3,rfl,wa0,wa1,wa2,wa3⟩:=a0g r1
    obtain ⟨b0,b1,b2,b3,rfl,wb0,wb1,wb2,wb3⟩:=a0g r2
    exact a0b mixed d7w b3v (by kernel_rfl) (c5c a0 a1 a2 a3 b0 b1 b2 b3 m) (a7q rfl ho _) (by rw [c2m wa0 wa1 wa2 wa3 wb0 wb1 wb2 wb3]) (by kernel_rfl) ha
 ·cases h
def f6q : List AV → E AV
 | [.ints .u64 4 a, .ints .u64 4 b]=>some ([], .ints .u64 4 (limbs (val a - val b)))
 | _=>none
theorem c5d (a0 a1 a2 a3 b0 b1 b2 b3 : Int) : res (d81 Tryz.prog d93 hf1 100 76 [.ints .u64 4 [a0,a1,a2,a3], .ints .u64 4 [b0,b1,b2,b3]] []) =
  some ([decide ((0 : Int) ≤ 1),decide (bw a0 b0 0 ≤ 1),decide (bw a1 b1 (bw a0 b0 0) ≤ 1),decide (bw a2 b2 (bw a1 b1 (bw a0 b0 0)) ≤ 1)], .ints .u64 4 [df a0 b0 0,df a1 b1 (bw a0 b0 0),df a2 b2 (bw a1 b1 (bw a0 b0 0)),df a3 b3 (bw a2 b2 (bw a1 b1 (bw a0 b0 0)))]):=by kernel_rfl
theorem d60 {args : List AV} {o : List Bool} {v : AV} (h : f6q args = some (o,v)) : d86 Tryz.prog 76 args v:=by
 unfold f6q at h
 split at h
 ·rename_i a b
  cases h
  intro ρ N vs ha
  have hb:=ha
  cases hb with
  | cons _ _ _ _ r1 hb=>cases hb with
   | cons _ _ _ _ r2 hb =>
    obtain ⟨a0,a1,a2,a3,rfl,wa0,wa1,wa2,wa3⟩:=a0g r1
    obtain ⟨b0,b1,b2,b3,rfl,wb0,wb1,wb2,wb3⟩:=a0g r2
    obtain ⟨k1,k2,k3,k4,k5⟩:=a94 wa0 wa1 wa2 wa3 wb0 wb1 wb2 wb3
    exact a0b mixed d7w b3v (by kernel_rfl) (c5d a0 a1 a2 a3 b0 b1 b2 b3) (a00 (by kernel_rfl) (a00 (decide_eq_true k3) (a00 (decide_eq_true k4) (a00 (decide_eq_true k5) d7x.nil)))) (by rw [k1]) (by kernel_rfl) ha
 ·cases h
def hf2 : d82:=d8g 76 f6q (d8g 29 f6p (d8g 28 f6o (d8g 75 f6n hf1)))
theorem c8h : HOk Tryz.prog hf2:=(((b3v.d8g fun _ _ _ h ho=>d5x h ho).d8g fun _ _ _ h ho=>d5y h ho).d8g fun _ _ _ h ho=>d5z h ho).d8g fun _ _ _ h _=>d60 h
def f6r : List AV → E AV
 | [.ints .u64 4 a, .ints .u64 4 m]=>some ([decide (0 < val m ∧ val m < W4)], .ints .u64 4 (limbs ((0 - val a) % val m)))
 | _=>none
def negV (a m : List Int) : List Int:=match decide (limbs (val a % val m) = [0,0,0,0]) with | true=>limbs (val a % val m) | false=>limbs (val m - val (limbs (val a % val m)))
theorem c5e (a m : List Int) : (d81 Tryz.prog d93 hf2 100 40 [.ints .u64 4 a, .ints .u64 4 m] []).mix = some ([decide (0 < val m)], .ints .u64 4 (negV a m)):=by kernel_rfl
theorem d61 {args : List AV} {o : List Bool} {v : AV} (h : f6r args = some (o,v)) (ho : d7x o) : d86 Tryz.prog 40 args v:=by
 unfold f6r at h
 split at h
 ·rename_i a m
  cases h
  have hM:=ho _ (f9b ..)
  rw [decide_eq_true_eq] at hM
  intro ρ N vs ha
  refine a41 mixed d7w c8h (by kernel_rfl) (c5e a m) (a00 (decide_eq_true hM.1) d7x.nil) ?_ ha
  congr 1
  unfold negV
  have h0:=Int.emod_nonneg (val a) (show val m ≠ 0 by omega)
  have h1:=Int.emod_lt_of_pos (val a) hM.1
  have hv:=lv (x:=val a) hM
  have e : (0 - val a) % val m = (0 - val a % val m) % val m:=by rw [sm_r]
  rw [e]
  cases hd : decide (limbs (val a % val m) = [0,0,0,0]) with
  | true =>
   rw [decide_eq_true_eq] at hd
   rw [hd] at hv
   have hz : val a % val m = 0:=by rw [← hv];rfl
   simp only
   rw [hz]
   rfl
  | false =>
   rw [decide_eq_false_iff_not] at hd
   have hz : ¬ val a % val m = 0:=fun hz=>hd (by rw [hz];rfl)
   simp only
   rw [hv]
   congr 1
   have e5 : (val m - val a % val m) % val m = val m - val a % val m:=Int.emod_eq_of_lt (by omega) (by omega)
   rw [show 0 - val a % val m = (val m - val a % val m) - val m by omega,Int.sub_emod_right,e5]
 ·cases h
def hf3 : d82:=d8g 40 f6r hf2
theorem c2n : HOk Tryz.prog hf3:=c8h.d8g fun _ _ _ h ho=>d61 h ho
end Go.Proofs.YthelmpjkkkhopaaGreatDoor
namespace Go.Mo
open Go.Ev Go.Wn
def cbL (k : List Int) : List Int:=(k.set 0 (IntKind.u8.wrap (IntKind.u8.wrap ((k.getD 0 0).tdiv 8) * 8))).set 31 (IntKind.u8.wrap (((k.set 0 (IntKind.u8.wrap (IntKind.u8.wrap ((k.getD 0 0).tdiv 8) * 8))).getD 31 0).tmod 64 + 64))
end Go.Mo
namespace Go.Proofs.YthelmpjkkkhopaaGreatDoor
open Go.Ev Go.Wn Go.Mo
set_option maxRecDepth 100000
def tuS : List V → E (AV × Mem)
 | [.buf false .u8 32 l]=>some ([],(.slice false 0 0 32 none 1,[some ⟨true, .ints .u8 (some 32) l.reverse⟩]))
 | _=>none
theorem d1x (b0 b1 b2 b3 b4 b5 b6 b7 b8 b9 b10 b11 b12 b13 b14 b15 b16 b17 b18 b19 b20 b21 b22 b23 b24 b25 b26 b27 b28 b29 b30 b31 : Int) : d92 64 ((d8a Tryz.prog qn (fun _ _ _=>none) (fun _ _=>none) 200 31 (d7z 0 [.buf false .u8 32 [b0,b1,b2,b3,b4,b5,b6,b7,b8,b9,b10,b11,b12,b13,b14,b15,b16,b17,b18,b19,b20,b21,b22,b23,b24,b25,b26,b27,b28,b29,b30,b31]]) (d87 [.buf false .u8 32 [b0,b1,b2,b3,b4,b5,b6,b7,b8,b9,b10,b11,b12,b13,b14,b15,b16,b17,b18,b19,b20,b21,b22,b23,b24,b25,b26,b27,b28,b29,b30,b31]])).go []) = some ([], .slice false 64 0 32 none 1,some (some ⟨true, .ints .u8 (some 32) [b31,b30,b29,b28,b27,b26,b25,b24,b23,b22,b21,b20,b19,b18,b17,b16,b15,b14,b13,b12,b11,b10,b9,b8,b7,b6,b5,b4,b3,b2,b1,b0]⟩)):=by kernel_rfl
theorem f6s {xs : List V} {o : List Bool} {v : AV} {bs : Mem} (h : tuS xs = some (o,(v,bs))) : d7y Tryz.prog 31 xs v bs:=by
 unfold tuS at h
 split at h
 ·rename_i l
  cases h
  intro ρ vs w ha hi
  obtain ⟨hl,_⟩:=a0l hi 0 rfl
  obtain ⟨b0,b1,b2,b3,b4,b5,b6,b7,b8,b9,b10,b11,b12,b13,b14,b15,b16,b17,b18,b19,b20,b21,b22,b23,b24,b25,b26,b27,b28,b29,b30,b31,rfl⟩:=thirty hl
  exact a12 mixed d7w HOk.none (lo1 _) [] 64 (d1x b0 b1 b2 b3 b4 b5 b6 b7 b8 b9 b10 b11 b12 b13 b14 b15 b16 b17 b18 b19 b20 b21 b22 b23 b24 b25 b26 b27 b28 b29 b30 b31) d7x.nil (by show 1 ≤ 64;decide) rfl rfl ha hi
 ·cases h
def rcS : List V → E (AV × Mem)
 | [.buf false .u8 32 k]=>some ([],(.slice false 0 0 32 none 1,[some ⟨true, .ints .u8 (some 32) (cbL k)⟩]))
 | _=>none
theorem d1y (k : List Int) : d92 1 ((d8a Tryz.prog qn (fun _ _ _=>none) (fun _ _=>none) 200 24 (d7z 0 [.buf false .u8 32 k]) (d87 [.buf false .u8 32 k])).go []) = some ([], .slice false 1 0 32 none 1,some (some ⟨true, .ints .u8 (some 32) (cbL k)⟩)):=by kernel_rfl
theorem f6t {xs : List V} {o : List Bool} {v : AV} {bs : Mem} (h : rcS xs = some (o,(v,bs))) : d7y Tryz.prog 24 xs v bs:=by
 unfold rcS at h
 split at h
 ·rename_i k
  cases h
  intro ρ vs w ha hi
  exact a12 mixed d7w HOk.none (lo1 _) [] 1 (d1y k) d7x.nil (by show 1 ≤ 1;decide) rfl rfl ha hi
 ·cases h
def hr9 : d82:=d84 24 rcS (d84 31 tuS (d84 60 e8c hf3))
theorem d62 : HOk Tryz.prog hr9:=((c2n.d84 fun _ _ _ _ h _=>d2m h).d84 fun _ _ _ _ h _=>f6s h).d84 fun _ _ _ _ h _=>f6t h
end Go.Proofs.YthelmpjkkkhopaaGreatDoor
namespace Go.Proofs.YthelmpjkkkhopaaGreatDoor
open Go.Ev Go.Wn Go.Mo
set_option maxRecDepth 100000
theorem d1z (a0 a1 a2 a3 b0 b1 b2 b3 : Int) : res (d81 Tryz.prog d93 h0 100 111 [.ints .u64 4 [a0,a1,a2,a3], .ints .u64 4 [b0,b1,b2,b3]] []) =
  some ([decide ((0 : Int) ≤ 1),decide (cy a0 b0 0 ≤ 1),decide (cy a1 b1 (cy a0 b0 0) ≤ 1),decide (cy a2 b2 (cy a1 b1 (cy a0 b0 0)) ≤ 1)],
   .tuple [.ints .u64 4 [sm a0 b0 0,sm a1 b1 (cy a0 b0 0),sm a2 b2 (cy a1 b1 (cy a0 b0 0)),sm a3 b3 (cy a2 b2 (cy a1 b1 (cy a0 b0 0)))], .int true .u64 (cy a3 b3 (cy a2 b2 (cy a1 b1 (cy a0 b0 0))))]):=by kernel_rfl
theorem f6u {args : List AV} {o : List Bool} {v : AV} (h : f0m args = some (o,v)) : d86 Tryz.prog 111 args v:=by
 unfold f0m at h
 split at h
 ·rename_i a b
  cases h
  intro ρ N vs ha
  have hb:=ha
  cases hb with
  | cons _ _ _ _ r1 hb=>cases hb with
   | cons _ _ _ _ r2 hb =>
    obtain ⟨a0,a1,a2,a3,rfl,wa0,wa1,wa2,wa3⟩:=a0g r1
    obtain ⟨b0,b1,b2,b3,rfl,wb0,wb1,wb2,wb3⟩:=a0g r2
    obtain ⟨k1,k2,k3,k4,k5⟩:=a6y wa0 wa1 wa2 wa3 wb0 wb1 wb2 wb3
    exact a0b mixed d7w a36 (by kernel_rfl) (d1z a0 a1 a2 a3 b0 b1 b2 b3)
     (a00 (by kernel_rfl) (a00 (decide_eq_true k3) (a00 (decide_eq_true k4) (a00 (decide_eq_true k5) d7x.nil)))) (by rw [k1,k2]) (by kernel_rfl) ha
 ·cases h
theorem d20 (a0 a1 a2 a3 b0 b1 b2 b3 : Int) : res (d81 Tryz.prog d93 h0 100 107 [.ints .u64 4 [a0,a1,a2,a3], .ints .u64 4 [b0,b1,b2,b3]] []) =
  some ([decide ((0 : Int) ≤ 1),decide (bw a0 b0 0 ≤ 1),decide (bw a1 b1 (bw a0 b0 0) ≤ 1),decide (bw a2 b2 (bw a1 b1 (bw a0 b0 0)) ≤ 1)],
   .tuple [.ints .u64 4 [df a0 b0 0,df a1 b1 (bw a0 b0 0),df a2 b2 (bw a1 b1 (bw a0 b0 0)),df a3 b3 (bw a2 b2 (bw a1 b1 (bw a0 b0 0)))], .int true .u64 (bw a3 b3 (bw a2 b2 (bw a1 b1 (bw a0 b0 0))))]):=by kernel_rfl
theorem f6v {args : List AV} {o : List Bool} {v : AV} (h : f0n args = some (o,v)) : d86 Tryz.prog 107 args v:=by
 unfold f0n at h
 split at h
 ·rename_i a b
  cases h
  intro ρ N vs ha
  have hb:=ha
  cases hb with
  | cons _ _ _ _ r1 hb=>cases hb with
   | cons _ _ _ _ r2 hb =>
    obtain ⟨a0,a1,a2,a3,rfl,wa0,wa1,wa2,wa3⟩:=a0g r1
    obtain ⟨b0,b1,b2,b3,rfl,wb0,wb1,wb2,wb3⟩:=a0g r2
    obtain ⟨k1,k2,k3,k4,k5⟩:=a94 wa0 wa1 wa2 wa3 wb0 wb1 wb2 wb3
    exact a0b mixed d7w a36 (by kernel_rfl) (d20 a0 a1 a2 a3 b0 b1 b2 b3)
     (a00 (by kernel_rfl) (a00 (decide_eq_true k3) (a00 (decide_eq_true k4) (a00 (decide_eq_true k5) d7x.nil)))) (by rw [k1,k2]) (by kernel_rfl) ha
 ·cases h
def hr0 : d82:=d8g 107 f0n (d8g 111 f0m hr9)
theorem b7z : HOk Tryz.prog hr0:=(d62.d8g fun _ _ _ h _=>f6u h).d8g fun _ _ _ h _=>f6v h
end Go.Proofs.YthelmpjkkkhopaaGreatDoor
