/- Numbers digit by digit of 16 bits: plain arithmetic. Own work. -/
import Derived.Test.YthelmpjkkkhopaaGreatDoorZWordsN
import Derived.Test.YthelmpjkkkhopaaGreatDoorZEv
set_option linter.unusedSimpArgs false
set_option linter.unusedVariables false
set_option linter.unusedSectionVars false
namespace Go.Wn
open Go.Ev
def e0e : List Int → List Int
 | []=>[]
 | x :: r=>x % 65536 :: x / 65536 % 65536 :: x / 4294967296 % 65536 :: x / 281474976710656 % 65536 :: e0e r
def D (x : Int) : Prop:=0 ≤ x ∧ x < 65536
def f1i (l : List Int) : Bool:=l.all fun x=>decide (0 ≤ x) && decide (x < 65536)
theorem b7y {l : List Int} : f1i l = true ↔ ∀ x ∈ l,D x:=by simp [f1i,D]
def f1j : List Int → List Int
 | a :: b :: c :: d :: r=>(a + 65536 * b + 4294967296 * c + 281474976710656 * d) :: f1j r
 | _=>[]
theorem sixteen {l : List Int} (h : l.length = 16) : ∃ x0 x1 x2 x3 x4 x5 x6 x7 x8 x9 xa xb xc xd xe xf,l = [x0,x1,x2,x3,x4,x5,x6,x7,x8,x9,xa,xb,xc,xd,xe,xf]:=by
 match l,h with
 | [x0,x1,x2,x3,x4,x5,x6,x7,x8,x9,xa,xb,xc,xd,xe,xf],_=>exact ⟨x0,x1,x2,x3,x4,x5,x6,x7,x8,x9,xa,xb,xc,xd,xe,xf,rfl⟩
def w64 (x : Int) : Int:=IntKind.i64.wrap x
theorem a28 {x : Int} (h : -9223372036854775808 ≤ x ∧ x < 9223372036854775808) : w64 x = x:=by
 unfold w64 IntKind.wrap
 simp [IntKind.bits,IntKind.signed]
 split <;> omega
def sb (x y c : Int) : Int:=w64 (w64 (w64 (65536 + x) - y) - c)
def e9o (a3 b3 a2 b2 a1 b1 a0 b0 : Int) : Bool:=
 match a3 != b3 with
 | true=>decide (a3 < b3)
 | false=>match a2 != b2 with
  | true=>decide (a2 < b2)
  | false=>match a1 != b1 with
   | true=>decide (a1 < b1)
   | false=>match a0 != b0 with
    | true=>decide (a0 < b0)
    | false=>false
theorem b9n {a0 a1 a2 a3 b0 b1 b2 b3 : Int} (ha0 : W a0) (ha1 : W a1) (ha2 : W a2) (_ : W a3) (hb0 : W b0) (hb1 : W b1) (hb2 : W b2) (_ : W b3) :
  e9o a3 b3 a2 b2 a1 b1 a0 b0 = decide (val [a0,a1,a2,a3] < val [b0,b1,b2,b3]):=by
 unfold W at *
 have key : ∀ {p : Prop} [Decidable p] {x : Bool},(x = true ↔ p) → x = decide p:=by
  intro p _ x h
  cases x <;> simp_all
 refine key ?_
 simp only [val,List.getD_cons_zero,List.getD_cons_succ]
 unfold e9o
 by_cases h3 : a3 = b3
 ·rw [show (a3 != b3) = false by simp [h3]]
  by_cases h2 : a2 = b2
  ·rw [show (a2 != b2) = false by simp [h2]]
   by_cases h1 : a1 = b1
   ·rw [show (a1 != b1) = false by simp [h1]]
    by_cases h0 : a0 = b0
    ·rw [show (a0 != b0) = false by simp [h0]];simp only [Bool.false_eq_true,false_iff];omega
    ·rw [show (a0 != b0) = true by simp [h0]];simp only [decide_eq_true_eq];omega
   ·rw [show (a1 != b1) = true by simp [h1]];simp only [decide_eq_true_eq];omega
  ·rw [show (a2 != b2) = true by simp [h2]];simp only [decide_eq_true_eq];omega
 ·rw [show (a3 != b3) = true by simp [h3]];simp only [decide_eq_true_eq];omega
def dg (x k : Int) : Int:=w64 ((d88 .u64 x k).tmod 65536)
theorem b0x {x : Int} (h : W x) : dg x 0 = x % 65536 ∧ dg x 16 = x / 65536 % 65536 ∧ dg x 32 = x / 4294967296 % 65536 ∧ dg x 48 = x / 281474976710656 % 65536:=by
 unfold W at h
 have key : ∀ (k : Int) (p : Int),0 < p → d88 .u64 x k = x / p → dg x k = x / p % 65536:=by
  intro k p hp hk
  have h1 : 0 ≤ x / p:=Int.ediv_nonneg h.1 (by omega)
  unfold dg
  rw [hk,Int.tmod_eq_emod_of_nonneg h1]
  exact a28 (by omega)
 have s : ∀ (k : Nat) (p : Int),k ≤ 64 → (2 : Int) ^ k = p → 0 < p → d88 .u64 x (k : Int) = x / p:=by
  intro k p hk hp hpp
  unfold d88
  rw [show min ((k : Int).toNat) IntKind.u64.bits = k by simp [IntKind.bits];omega,hp]
  exact Int.fdiv_eq_ediv_of_nonneg _ (by omega)
 refine ⟨?_,key 16 65536 (by omega) (s 16 _ (by omega) (by rfl) (by omega)),key 32 4294967296 (by omega) (s 32 _ (by omega) (by rfl) (by omega)),key 48 281474976710656 (by omega) (s 48 _ (by omega) (by rfl) (by omega))⟩
 have:=key 0 1 (by omega) (s 0 _ (by omega) (by rfl) (by omega))
 simpa using this
def pl (x k : Int) : Int:=d9l .u64 (IntKind.u64.wrap x) k
def f1k (x : Int) : Int:=IntKind.u64.wrap x
theorem b0y {x : Int} (h : D x) : pl x 0 = x ∧ pl x 16 = 65536 * x ∧ pl x 32 = 4294967296 * x ∧ pl x 48 = 281474976710656 * x:=by
 unfold D at h
 have uw : ∀ {y : Int},0 ≤ y ∧ y < 18446744073709551616 → IntKind.u64.wrap y = y:=by
  intro y hy;unfold IntKind.wrap;simp [IntKind.bits,IntKind.signed];omega
 have s : ∀ (k : Nat) (p : Int),k ≤ 48 → (2 : Int) ^ k = p → 0 < p → p ≤ 281474976710656 → pl x (k : Int) = x * p:=by
  intro k p hk hp hpp hpl
  unfold pl d9l
  rw [uw (y:=x) (by omega),show min ((k : Int).toNat) IntKind.u64.bits = k by simp [IntKind.bits];omega,hp]
  refine uw ⟨Int.mul_nonneg h.1 (by omega), ?_⟩
  have : x * p ≤ 65535 * p:=Int.mul_le_mul_of_nonneg_right (by omega) (by omega)
  omega
 refine ⟨?_, ?_, ?_, ?_⟩
 ·have:=s 0 1 (by omega) (by rfl) (by omega) (by omega);simpa using this
 ·have:=s 16 65536 (by omega) (by rfl) (by omega) (by omega);rw [Int.mul_comm] at this;exact this
 ·have:=s 32 4294967296 (by omega) (by rfl) (by omega) (by omega);rw [Int.mul_comm] at this;exact this
 ·have:=s 48 281474976710656 (by omega) (by rfl) (by omega) (by omega);rw [Int.mul_comm] at this;exact this
def w4 (a b c d : Int) : Int:=f1k (f1k (f1k (f1k (0 + pl a 0) + pl b 16) + pl c 32) + pl d 48)
theorem b0z {a b c d : Int} (ha : D a) (hb : D b) (hc : D c) (hd : D d) : w4 a b c d = a + 65536 * b + 4294967296 * c + 281474976710656 * d:=by
 unfold w4 f1k
 have uw : ∀ {y : Int},0 ≤ y ∧ y < 18446744073709551616 → IntKind.u64.wrap y = y:=by
  intro y hy;unfold IntKind.wrap;simp [IntKind.bits,IntKind.signed];omega
 rw [(b0y ha).1,(b0y hb).2.1,(b0y hc).2.2.1,(b0y hd).2.2.2]
 unfold D at *
 rw [uw (y:=0 + a) (by omega),uw (y:=0 + a + 65536 * b) (by omega),uw (y:=0 + a + 65536 * b + 4294967296 * c) (by omega),uw (by omega)]
 omega
end Go.Wn
namespace Go.Wn
open Go.Ev
theorem e2n {y : Int} (h : 0 ≤ y ∧ y < 18446744073709551616) : IntKind.u64.wrap y = y:=by
 unfold IntKind.wrap;simp [IntKind.bits,IntKind.signed];omega
def bv (x : Int) : BitVec 64:=BitVec.ofInt 64 x
theorem e7o {x : Int} (h : W x) : ((bv x).toNat : Int) = x:=by
 unfold bv W at *
 rw [BitVec.toNat_ofInt]
 have : ((2 ^ 64 : Nat) : Int) = 18446744073709551616:=by rfl
 rw [this]
 omega
theorem c2j (b : BitVec 64) : bv (b.toNat : Int) = b:=by
 unfold bv
 rw [BitVec.ofInt_natCast,BitVec.ofNat_toNat,BitVec.setWidth_eq]
theorem b1a (b : BitVec 64) : W (b.toNat : Int):=by
 have:=b.isLt
 unfold W
 omega
theorem b1b (x y : Int) : d98 .u64 x y = ((bv x &&& bv y).toNat : Int):=by
 have h:=b1a (bv x &&& bv y)
 unfold W at h
 exact e2n h
theorem b1c (x y : Int) : e0b .u64 x y = ((bv x ^^^ bv y).toNat : Int):=by
 have h:=b1a (bv x ^^^ bv y)
 unfold W at h
 exact e2n h
theorem a7r {x : Int} (h : W x) : d98 .u64 x 1 = x % 2:=by
 rw [b1b,BitVec.toNat_and]
 have h1 : (bv 1).toNat = 1:=by decide
 rw [h1,Nat.and_one_is_mod]
 have:=e7o h
 omega
def mask (x : Int) : Int:=IntKind.u64.wrap (0 - d98 .u64 x 1)
def e5y (x a b : Int) : Int:=e0b .u64 b (d98 .u64 (mask x) (e0b .u64 a b))
theorem a58 {x a b : Int} (hx : W x) (ha : W a) (hb : W b) : e5y x a b = if x % 2 = 1 then a else b:=by
 unfold e5y mask
 rw [a7r hx]
 rcases Int.emod_two_eq x with h | h
 ·rw [if_neg (by omega),h,show IntKind.u64.wrap (0 - 0) = 0 by rfl,b1b,show bv 0 = 0#64 by rfl,BitVec.zero_and,b1c]
  show ((bv b ^^^ bv 0).toNat : Int) = b
  rw [show bv 0 = 0#64 by rfl,BitVec.xor_zero]
  exact e7o hb
 ·rw [if_pos h,h,show IntKind.u64.wrap (0 - 1) = 18446744073709551615 by rfl,b1b,show bv 18446744073709551615 = BitVec.allOnes 64 by decide,BitVec.allOnes_and,b1c,c2j,b1c,c2j]
  rw [BitVec.xor_comm (bv a) (bv b), ← BitVec.xor_assoc,BitVec.xor_self,BitVec.zero_xor]
  exact e7o ha
theorem a2c {k : IntKind} {x : Int} {r : Nat} (hr : r ≤ k.bits) : d88 k x (r : Int) = x / 2 ^ r:=by
 unfold d88
 rw [Int.toNat_natCast,show min r k.bits = r by omega]
 exact Int.fdiv_eq_ediv_of_nonneg _ (Int.le_of_lt (Int.pow_pos (by omega)))
theorem c57 {x : Int} (h : W x) {r : Nat} (hr : r < 64) : d98 .u64 (d88 .u64 x (r : Int)) 1 = x / 2 ^ r % 2:=by
 rw [a2c (by simp [IntKind.bits];omega)]
 refine a7r ?_
 unfold W at *
 have hp : (0 : Int) < 2 ^ r:=Int.pow_pos (by omega)
 have:=Int.ediv_nonneg h.1 (Int.le_of_lt hp)
 have:=Int.ediv_le_self (2 ^ r) h.1
 omega
def f1l (l : List Int) (i : Int) : Int:=d98 .u64 (d88 .u64 (l.getD (0 + (w64 (i.tdiv 64)).toNat * 1) 0) (i.tmod 64)) 1
end Go.Wn
namespace Go.Wn
open Go.Ev
theorem d1u {a b : Int} (ha : W a) (hb : W b) : 0 ≤ a * b ∧ a * b ≤ 340282366920938463426481119284349108225:=by
 unfold W at *
 refine ⟨Int.mul_nonneg ha.1 hb.1, ?_⟩
 have h1 : a * b ≤ 18446744073709551615 * b:=Int.mul_le_mul_of_nonneg_right (by omega) hb.1
 omega
def pH (a b c d : Int) : Int:=(a * b + c + d) / 18446744073709551616
def pL (a b c d : Int) : Int:=(a * b + c + d) % 18446744073709551616
theorem b3t {a b c d : Int} (ha : W a) (hb : W b) (hc : W c) (hd : W d) : W (pH a b c d) ∧ W (pL a b c d) ∧ a * b + c + d = 18446744073709551616 * pH a b c d + pL a b c d:=by
 have h:=d1u ha hb
 unfold W pH pL at *
 generalize a * b = P at *
 omega
theorem b1d {w b0 b1 b2 b3 t0 t1 t2 t3 : Int} (hw : W w) (h0 : W b0) (h1 : W b1) (h2 : W b2) (h3 : W b3) (k0 : W t0) (k1 : W t1) (k2 : W t2) (k3 : W t3) :
  ∃ c0 c1 c2 c3 r0 r1 r2 r3,c0 = pH w b0 t0 0 ∧ r0 = pL w b0 t0 0 ∧ c1 = pH w b1 t1 c0 ∧ r1 = pL w b1 t1 c0 ∧ c2 = pH w b2 t2 c1 ∧ r2 = pL w b2 t2 c1 ∧ c3 = pH w b3 t3 c2 ∧ r3 = pL w b3 t3 c2 ∧
   W c0 ∧ W c1 ∧ W c2 ∧ W c3 ∧ W r0 ∧ W r1 ∧ W r2 ∧ W r3 ∧
   w * val [b0,b1,b2,b3] + val [t0,t1,t2,t3] = val [r0,r1,r2,r3] + 115792089237316195423570985008687907853269984665640564039457584007913129639936 * c3:=by
 have z : W 0:=by unfold W;omega
 obtain ⟨a1,a2,a3⟩:=b3t hw h0 k0 z
 obtain ⟨a4,a5,a6⟩:=b3t hw h1 k1 a1
 obtain ⟨a7,a8,a9⟩:=b3t hw h2 k2 a4
 obtain ⟨b4,b5,b6⟩:=b3t hw h3 k3 a7
 refine ⟨_,_,_,_,_,_,_,_,rfl,rfl,rfl,rfl,rfl,rfl,rfl,rfl,a1,a4,a7,b4,a2,a5,a8,b5, ?_⟩
 generalize pH w b3 t3 (pH w b2 t2 (pH w b1 t1 (pH w b0 t0 0))) = c3 at *
 generalize pL w b3 t3 (pH w b2 t2 (pH w b1 t1 (pH w b0 t0 0))) = r3 at *
 generalize pH w b2 t2 (pH w b1 t1 (pH w b0 t0 0)) = c2 at *
 generalize pL w b2 t2 (pH w b1 t1 (pH w b0 t0 0)) = r2 at *
 generalize pH w b1 t1 (pH w b0 t0 0) = c1 at *
 generalize pL w b1 t1 (pH w b0 t0 0) = r1 at *
 generalize pH w b0 t0 0 = c0 at *
 generalize pL w b0 t0 0 = r0 at *
 have e : w * val [b0,b1,b2,b3] = w * b0 + 18446744073709551616 * (w * b1) + 340282366920938463463374607431768211456 * (w * b2) + 6277101735386680763835789423207666416102355444464034512896 * (w * b3):=by
  simp [val,Int.mul_add,Int.mul_left_comm]
 rw [e]
 simp only [val,List.getD_cons_zero,List.getD_cons_succ]
 generalize w * b0 = P0 at *
 generalize w * b1 = P1 at *
 generalize w * b2 = P2 at *
 generalize w * b3 = P3 at *
 omega
def mst (m b : List Int) (ni w : Int) : List Int → List Int
 | [t0,t1,t2,t3,top] =>
  let b0:=b.getD 0 0;let b1:=b.getD 1 0;let b2:=b.getD 2 0;let b3:=b.getD 3 0
  let m0:=m.getD 0 0;let m1:=m.getD 1 0;let m2:=m.getD 2 0;let m3:=m.getD 3 0
  let c0:=pH w b0 t0 0;let r0:=pL w b0 t0 0
  let c1:=pH w b1 t1 c0;let r1:=pL w b1 t1 c0
  let c2:=pH w b2 t2 c1;let r2:=pL w b2 t2 c1
  let c3:=pH w b3 t3 c2;let r3:=pL w b3 t3 c2
  let tp:=(top + c3 + 0) % 18446744073709551616
  let by':=(top + c3 + 0) / 18446744073709551616
  let q:=IntKind.u64.wrap (r0 * ni)
  let d0:=pH q m0 r0 0
  let d1:=pH q m1 r1 d0;let s0:=pL q m1 r1 d0
  let d2:=pH q m2 r2 d1;let s1:=pL q m2 r2 d1
  let d3:=pH q m3 r3 d2;let s2:=pL q m3 r3 d2
  [s0,s1,s2,(tp + d3 + 0) % 18446744073709551616,IntKind.u64.wrap (by' + (tp + d3 + 0) / 18446744073709551616)]
 | l=>l
def v5 (l : List Int) : Int:=val l + 115792089237316195423570985008687907853269984665640564039457584007913129639936 * l.getD 4 0
def W5 (l : List Int) : Prop := ∃ t0 t1 t2 t3 top,l = [t0,t1,t2,t3,top] ∧ W t0 ∧ W t1 ∧ W t2 ∧ W t3 ∧ W top
theorem c8d (x : Int) : W (IntKind.u64.wrap x):=by
 unfold IntKind.wrap W;simp [IntKind.bits,IntKind.signed];omega
theorem a25 (x : Int) : IntKind.u64.wrap x = x % 18446744073709551616:=by
 unfold IntKind.wrap;simp [IntKind.bits,IntKind.signed]
theorem c58 {r0 ni m0 : Int} (h : (m0 * ni + 1) % 18446744073709551616 = 0) : (IntKind.u64.wrap (r0 * ni) * m0 + r0) % 18446744073709551616 = 0:=by
 rw [a25,Int.add_emod,Int.mul_emod,Int.emod_emod_of_dvd _ (Int.dvd_refl _), ← Int.mul_emod, ← Int.add_emod]
 have e : r0 * ni * m0 + r0 = r0 * (m0 * ni + 1):=by rw [Int.mul_add,Int.mul_one,Int.mul_assoc,Int.mul_comm ni m0]
 rw [e,Int.mul_emod,h,Int.mul_zero]
 rfl
theorem a7s {m0 m1 m2 m3 b0 b1 b2 b3 ni w : Int} {l : List Int} (hm0 : W m0) (hm1 : W m1) (hm2 : W m2) (hm3 : W m3) (h0 : W b0) (h1 : W b1) (h2 : W b2) (h3 : W b3) (hw : W w) (hl : W5 l)
  (hni : (m0 * ni + 1) % 18446744073709551616 = 0) (hlt : v5 l < val [b0,b1,b2,b3] + val [m0,m1,m2,m3]) (hbm : val [b0,b1,b2,b3] < val [m0,m1,m2,m3]) :
  W5 (mst [m0,m1,m2,m3] [b0,b1,b2,b3] ni w l) ∧ v5 (mst [m0,m1,m2,m3] [b0,b1,b2,b3] ni w l) < val [b0,b1,b2,b3] + val [m0,m1,m2,m3] ∧
   ∃ q,18446744073709551616 * v5 (mst [m0,m1,m2,m3] [b0,b1,b2,b3] ni w l) = v5 l + w * val [b0,b1,b2,b3] + q * val [m0,m1,m2,m3]:=by
 obtain ⟨t0,t1,t2,t3,top,rfl,k0,k1,k2,k3,k4⟩:=hl
 obtain ⟨c0,c1,c2,c3,r0,r1,r2,r3,rfl,rfl,rfl,rfl,rfl,rfl,e1,e2,w0,w1,w2,w3,x0,x1,x2,x3,hrow⟩:=b1d hw h0 h1 h2 h3 k0 k1 k2 k3
 simp only [mst,List.getD_cons_zero,List.getD_cons_succ]
 rw [← e1, ← e2]
 generalize pL w b0 t0 0 = r0 at *
 generalize pL w b1 t1 (pH w b0 t0 0) = r1 at *
 generalize pL w b2 t2 (pH w b1 t1 (pH w b0 t0 0)) = r2 at *
 have hq : W (IntKind.u64.wrap (r0 * ni)):=c8d _
 have hz:=c58 (r0:=r0) hni
 generalize IntKind.u64.wrap (r0 * ni) = q at *
 obtain ⟨d0,d1,d2,d3,s,s0,s1,s2,g0,g1,g2,g3,g4,g5,g6,g7,y0,y1,y2,y3,z0,z1,z2,z3,hrow2⟩:=b1d hq hm0 hm1 hm2 hm3 x0 x1 x2 x3
 have hs : s = 0:=by rw [g1];unfold pL;rw [Int.add_zero];exact hz
 rw [← g0, ← g2, ← g3, ← g4, ← g5, ← g6, ← g7]
 have hB:=a08 h0 h1 h2 h3
 have hM:=a08 hm0 hm1 hm2 hm3
 have hwB : w * val [b0,b1,b2,b3] ≤ 18446744073709551615 * val [b0,b1,b2,b3]:=Int.mul_le_mul_of_nonneg_right (by unfold W at hw;omega) hB.1
 have hqM : q * val [m0,m1,m2,m3] ≤ 18446744073709551615 * val [m0,m1,m2,m3]:=Int.mul_le_mul_of_nonneg_right (by unfold W at hq;omega) hM.1
 rw [a25]
 generalize val [b0,b1,b2,b3] = B at *
 generalize val [m0,m1,m2,m3] = M at *
 generalize w * B = P at *
 have hv5 : v5 [t0,t1,t2,t3,top] = val [t0,t1,t2,t3] + 115792089237316195423570985008687907853269984665640564039457584007913129639936 * top:=rfl
 rw [hv5] at hlt ⊢
 have key : ∃ Q,Q = q * M:=⟨_,rfl⟩
 obtain ⟨Q,hQ⟩:=key
 rw [← hQ] at hrow2 hqM
 unfold W at *
 simp only [v5,val,List.getD_cons_zero,List.getD_cons_succ] at *
 subst hs
 have ht : 0 ≤ top ∧ top ≤ 1:=by omega
 have main : 18446744073709551616 * (s0 + 18446744073709551616 * s1 + 340282366920938463463374607431768211456 * s2 + 6277101735386680763835789423207666416102355444464034512896 * (((top + c3 + 0) % 18446744073709551616 + d3 + 0) % 18446744073709551616) +
   115792089237316195423570985008687907853269984665640564039457584007913129639936 * ((top + c3 + 0) / 18446744073709551616 + ((top + c3 + 0) % 18446744073709551616 + d3 + 0) / 18446744073709551616)) =
   t0 + 18446744073709551616 * t1 + 340282366920938463463374607431768211456 * t2 + 6277101735386680763835789423207666416102355444464034512896 * t3 + 115792089237316195423570985008687907853269984665640564039457584007913129639936 * top + P + Q:=by omega
 have small : (top + c3 + 0) / 18446744073709551616 + ((top + c3 + 0) % 18446744073709551616 + d3 + 0) / 18446744073709551616 ≤ 2 ∧ 0 ≤ (top + c3 + 0) / 18446744073709551616 + ((top + c3 + 0) % 18446744073709551616 + d3 + 0) / 18446744073709551616:=by omega
 have hid : ((top + c3 + 0) / 18446744073709551616 + ((top + c3 + 0) % 18446744073709551616 + d3 + 0) / 18446744073709551616) % 18446744073709551616 = (top + c3 + 0) / 18446744073709551616 + ((top + c3 + 0) % 18446744073709551616 + d3 + 0) / 18446744073709551616:=by omega
 rw [hid]
 refine ⟨⟨s0,s1,s2,_,_,rfl,z1,z2,z3,by unfold W;omega,by unfold W;omega⟩,by omega,q,by rw [← hQ];exact main⟩
def half (M : Int) : Int:=(M + 1) / 2
theorem one_pow (M : Int) : ∀ n : Nat,(M + 1) ^ n % M = 1 % M
 | 0=>by simp
 | n + 1=>by rw [Int.pow_succ,Int.mul_emod,one_pow M n, ← Int.mul_emod,Int.one_mul];simp
theorem a90 {M : Int} (h : M % 2 = 1) (n : Nat) : (2 ^ n * half M ^ n) % M = 1 % M:=by
 rw [← Int.mul_pow,show 2 * half M = M + 1 by unfold half;omega]
 exact one_pow M n
def mont (a b M : Int) : Int:=(a * b * half M ^ 256) % M
theorem d1v {a b M T : Int} (hM : M % 2 = 1) (h : (2 ^ 256 * T) % M = (a * b) % M) : T % M = mont a b M:=by
 unfold mont
 rw [Int.mul_emod, ← h, ← Int.mul_emod]
 have e : 2 ^ 256 * T * half M ^ 256 = T * (2 ^ 256 * half M ^ 256):=by rw [Int.mul_comm (2 ^ 256) T,Int.mul_assoc]
 rw [e,Int.mul_emod,a90 hM, ← Int.mul_emod,Int.mul_one]
theorem b67 {a b M : Int} (hM : M % 2 = 1) (hb : b % M = (2 ^ 256 * 2 ^ 256) % M) : mont a b M = (a * 2 ^ 256) % M:=by
 unfold mont
 rw [show a * b * half M ^ 256 = b * (a * half M ^ 256) by rw [Int.mul_comm a b,Int.mul_assoc],Int.mul_emod,hb, ← Int.mul_emod]
 rw [show (2 : Int) ^ 256 * 2 ^ 256 * (a * half M ^ 256) = (a * 2 ^ 256) * (2 ^ 256 * half M ^ 256) by
  generalize (2 : Int) ^ 256 = R
  generalize half M ^ 256 = h
  rw [Int.mul_assoc,Int.mul_comm R (a * h),Int.mul_assoc,Int.mul_comm h R,Int.mul_comm a R,Int.mul_assoc R a, ← Int.mul_assoc a,Int.mul_comm a R,Int.mul_assoc R a]]
 rw [Int.mul_emod,a90 hM, ← Int.mul_emod,Int.mul_one]
theorem a1c (a X M : Int) : (a * (X % M)) % M = (a * X) % M:=by
 rw [Int.mul_emod,Int.emod_emod_of_dvd _ (Int.dvd_refl _), ← Int.mul_emod]
theorem a3t {a b M : Int} (hM : M % 2 = 1) : mont a ((b * 2 ^ 256) % M) M = (a * b) % M:=by
 unfold mont
 rw [show a * ((b * 2 ^ 256) % M) * half M ^ 256 = (a * half M ^ 256) * ((b * 2 ^ 256) % M) by rw [Int.mul_assoc,Int.mul_comm ((b * 2 ^ 256) % M), ← Int.mul_assoc],a1c]
 rw [show (a * half M ^ 256) * (b * 2 ^ 256) = (a * b) * (2 ^ 256 * half M ^ 256) by
  generalize (2 : Int) ^ 256 = R
  generalize half M ^ 256 = h
  rw [Int.mul_assoc,Int.mul_assoc,Int.mul_comm h (b * R),Int.mul_assoc]]
 rw [Int.mul_emod,a90 hM, ← Int.mul_emod,Int.mul_one]
def turns (m b : List Int) (ni a0 a1 a2 a3 : Int) : List Int:=mst m b ni a3 (mst m b ni a2 (mst m b ni a1 (mst m b ni a0 [0,0,0,0,0])))
theorem b9o {m0 m1 m2 m3 b0 b1 b2 b3 a0 a1 a2 a3 ni : Int} (hm0 : W m0) (hm1 : W m1) (hm2 : W m2) (hm3 : W m3) (h0 : W b0) (h1 : W b1) (h2 : W b2) (h3 : W b3) (k0 : W a0) (k1 : W a1) (k2 : W a2) (k3 : W a3)
  (hni : (m0 * ni + 1) % 18446744073709551616 = 0) (hbm : val [b0,b1,b2,b3] < val [m0,m1,m2,m3]) :
  W5 (turns [m0,m1,m2,m3] [b0,b1,b2,b3] ni a0 a1 a2 a3) ∧ v5 (turns [m0,m1,m2,m3] [b0,b1,b2,b3] ni a0 a1 a2 a3) < val [b0,b1,b2,b3] + val [m0,m1,m2,m3] ∧
   (2 ^ 256 * v5 (turns [m0,m1,m2,m3] [b0,b1,b2,b3] ni a0 a1 a2 a3)) % val [m0,m1,m2,m3] = (val [a0,a1,a2,a3] * val [b0,b1,b2,b3]) % val [m0,m1,m2,m3]:=by
 have z : W 0:=by unfold W;omega
 have hB:=a08 h0 h1 h2 h3
 have hM:=a08 hm0 hm1 hm2 hm3
 have s0 : W5 [0,0,0,0,0]:=⟨0,0,0,0,0,rfl,z,z,z,z,z⟩
 have v0 : v5 [0,0,0,0,0] = 0:=rfl
 obtain ⟨s1,l1,q1,e1⟩:=a7s (ni:=ni) hm0 hm1 hm2 hm3 h0 h1 h2 h3 k0 s0 hni (by rw [v0];omega) hbm
 obtain ⟨s2,l2,q2,e2⟩:=a7s (ni:=ni) hm0 hm1 hm2 hm3 h0 h1 h2 h3 k1 s1 hni l1 hbm
 obtain ⟨s3,l3,q3,e3⟩:=a7s (ni:=ni) hm0 hm1 hm2 hm3 h0 h1 h2 h3 k2 s2 hni l2 hbm
 obtain ⟨s4,l4,q4,e4⟩:=a7s (ni:=ni) hm0 hm1 hm2 hm3 h0 h1 h2 h3 k3 s3 hni l3 hbm
 refine ⟨s4,l4, ?_⟩
 unfold turns
 generalize v5 (mst [m0,m1,m2,m3] [b0,b1,b2,b3] ni a3 (mst [m0,m1,m2,m3] [b0,b1,b2,b3] ni a2 (mst [m0,m1,m2,m3] [b0,b1,b2,b3] ni a1 (mst [m0,m1,m2,m3] [b0,b1,b2,b3] ni a0 [0,0,0,0,0])))) = T at *
 generalize v5 (mst [m0,m1,m2,m3] [b0,b1,b2,b3] ni a2 (mst [m0,m1,m2,m3] [b0,b1,b2,b3] ni a1 (mst [m0,m1,m2,m3] [b0,b1,b2,b3] ni a0 [0,0,0,0,0]))) = T3 at *
 generalize v5 (mst [m0,m1,m2,m3] [b0,b1,b2,b3] ni a1 (mst [m0,m1,m2,m3] [b0,b1,b2,b3] ni a0 [0,0,0,0,0])) = T2 at *
 generalize v5 (mst [m0,m1,m2,m3] [b0,b1,b2,b3] ni a0 [0,0,0,0,0]) = T1 at *
 rw [v0] at e1
 have eA : val [a0,a1,a2,a3] * val [b0,b1,b2,b3] = a0 * val [b0,b1,b2,b3] + 18446744073709551616 * (a1 * val [b0,b1,b2,b3]) + 340282366920938463463374607431768211456 * (a2 * val [b0,b1,b2,b3]) + 6277101735386680763835789423207666416102355444464034512896 * (a3 * val [b0,b1,b2,b3]):=by
  generalize val [b0,b1,b2,b3] = B
  simp [val,Int.add_mul,Int.mul_assoc]
 rw [eA]
 generalize val [b0,b1,b2,b3] = B at *
 generalize val [m0,m1,m2,m3] = M at *
 have e : 2 ^ 256 * T = a0 * B + 18446744073709551616 * (a1 * B) + 340282366920938463463374607431768211456 * (a2 * B) + 6277101735386680763835789423207666416102355444464034512896 * (a3 * B) +
   (q1 + 18446744073709551616 * q2 + 340282366920938463463374607431768211456 * q3 + 6277101735386680763835789423207666416102355444464034512896 * q4) * M:=by
  rw [show (2 : Int) ^ 256 = 115792089237316195423570985008687907853269984665640564039457584007913129639936 by rfl]
  simp only [Int.add_mul,Int.mul_assoc]
  generalize a0 * B = x0 at *
  generalize a1 * B = x1 at *
  generalize a2 * B = x2 at *
  generalize a3 * B = x3 at *
  generalize q1 * M = y0 at *
  generalize q2 * M = y1 at *
  generalize q3 * M = y2 at *
  generalize q4 * M = y3 at *
  omega
 rw [e,Int.add_mul_emod_self_right]
end Go.Wn
