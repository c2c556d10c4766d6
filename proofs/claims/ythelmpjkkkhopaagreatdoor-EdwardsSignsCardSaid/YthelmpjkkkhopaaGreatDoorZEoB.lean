/- Layer 10: numbers modulo 2^255 - 19 as the program's Mod reckons them. Own work. -/
import Derived.Test.YthelmpjkkkhopaaGreatDoorZMyPr
set_option linter.unusedSimpArgs false
set_option linter.unusedVariables false
set_option linter.unusedSectionVars false
namespace Go.Mo
open Go.Ev Go.Wn
def PL : List Int:=[18446744073709551597,18446744073709551615,18446744073709551615,9223372036854775807,9708812670373448219,1444,0,0,0]
def vl (x : Int) : Int:=val (limbs x)
def aI (x y : Int) : Int:=(vl x + vl y) % val PL
def sI (x y : Int) : Int:=(vl x - vl y) % val PL
def mI (x y : Int) : Int:=(vl x * vl y) % val PL
def pI (z : Int) : Int:=(vl z ^ (val PL - 2).toNat) % val PL
def pE : Nat:=57896044618658097711785492504343953926634992332820282019728792003956564819947
def pF (z : Int) : Int:=((pw 57896044618658097711785492504343953926634992332820282019728792003956564819949 256 (vl z).toNat pE 1 : Nat) : Int)
theorem vPL : val PL = 57896044618658097711785492504343953926634992332820282019728792003956564819949:=by decide +kernel
theorem e8o (x : Int) : 0 ≤ vl x ∧ vl x < 115792089237316195423570985008687907853269984665640564039457584007913129639936:=by
 unfold vl
 rw [a1f]
 omega
theorem c0p (n : Nat) {e : Nat} (he : e < 2 ^ 256) : (n : Int) ^ e % 57896044618658097711785492504343953926634992332820282019728792003956564819949 = ((pw 57896044618658097711785492504343953926634992332820282019728792003956564819949 256 n e 1 : Nat) : Int):=by
 rw [c38 he,Nat.one_mul,Int.natCast_emod,Int.natCast_pow]
 rfl
theorem d3k (z : Int) : pI z = pF z:=by
 have he : pE < 2 ^ 256:=by decide +kernel
 have he2 : (val PL - 2).toNat = pE:=by decide +kernel
 unfold pI pF
 rw [he2]
 generalize pE = e at *
 rw [vPL]
 have h:=e8o z
 generalize vl z = y at *
 obtain ⟨n,rfl⟩:=Int.eq_ofNat_of_zero_le h.1
 rw [c0p n he,Int.toNat_natCast]
end Go.Mo
namespace Go.Ed
structure K (n : Nat) [NeZero n] where
 inv : Fin n → Fin n
 hinv : ∀ a,a ≠ 0 → a * inv a = 1
 i : Fin n
 hi : i * i = -1
 two : (2 : Fin n) ≠ 0
structure C (n : Nat) [NeZero n] extends K n where
 D : Fin n
 nsq : ∀ z,z * z ≠ D
 D1 : 1 + D ≠ 0
section
variable {n : Nat} [NeZero n]
theorem K.a1m (k : K n) {a b : Fin n} (ha : a ≠ 0) (hb : b ≠ 0) : a * b ≠ 0:=fun h=>by
 have:=k.hinv a ha
 have : b = 0:=by grind
 exact hb this
theorem K.c9j (k : K n) {a b : Fin n} (h : a * b = 0) : a = 0 ∨ b = 0:=by
 by_cases ha : a = 0
 ·exact .inl ha
 ·by_cases hb : b = 0
  ·exact .inr hb
  ·exact absurd h (k.a1m ha hb)
theorem K.cancel (k : K n) {a b c : Fin n} (hc : c ≠ 0) (h : a * c = b * c) : a = b:=by
 have:=k.hinv c hc
 grind
structure Pt (n : Nat) where
 x : Fin n
 y : Fin n
theorem Pt.ext' {P Q : Pt n} (hx : P.x = Q.x) (hy : P.y = Q.y) : P = Q:=by cases P;cases Q;simp_all
def C.on (c : C n) (P : Pt n) : Prop:=P.y * P.y = P.x * P.x + 1 + c.D * P.x * P.x * P.y * P.y
def C.add (c : C n) (P Q : Pt n) : Pt n:=⟨(P.x * Q.y + P.y * Q.x) * c.inv (1 + c.D * P.x * Q.x * P.y * Q.y),(P.y * Q.y + P.x * Q.x) * c.inv (1 - c.D * P.x * Q.x * P.y * Q.y)⟩
def C.neg (_ : C n) (P : Pt n) : Pt n:=⟨-P.x,P.y⟩
def C.O (_ : C n) : Pt n:=⟨0,1⟩
theorem C.ne1 (c : C n) {P Q : Pt n} (hP : c.on P) (hQ : c.on Q) (e : Fin n) (he : e * e = 1) : c.D * P.x * Q.x * P.y * Q.y ≠ e:=fun h=>by
 obtain ⟨x1,y1⟩:=P
 obtain ⟨x2,y2⟩:=Q
 unfold C.on at hP hQ
 simp only at hP hQ h
 have hi:=c.hi
 have two:=c.two
 have k1 : (c.i * x1 + e * y1) * (c.i * x1 + e * y1) = c.D * (x1 * y1 * (c.i * x2 + y2)) * (x1 * y1 * (c.i * x2 + y2)):=by grind
 have k2 : (c.i * x1 - e * y1) * (c.i * x1 - e * y1) = c.D * (x1 * y1 * (c.i * x2 - y2)) * (x1 * y1 * (c.i * x2 - y2)):=by grind
 have sq : ∀ A B : Fin n,A * A = c.D * B * B → B = 0:=fun A B hAB=>by
  by_cases hB : B = 0
  ·exact hB
  ·have:=c.hinv B hB
   exact absurd (show (A * c.inv B) * (A * c.inv B) = c.D by grind) (c.nsq _)
 have z1:=sq _ _ k1
 have z2:=sq _ _ k2
 have z3 : (2 * c.i) * (x1 * y1 * x2) = 0:=by grind
 have z4 : 2 * (x1 * y1 * y2) = 0:=by grind
 have z5 : x1 * y1 * y2 = 0:=(c.c9j z4).resolve_left two
 have : e = 0:=by grind
 have : (1 : Fin n) = 0:=by grind
 grind
end
theorem c9k {n : Nat} [NeZero n] (x1 y1 x2 y2 x3 y3 D : Fin n) (e1 : y1*y1 = x1*x1 + 1 + D*x1*x1*y1*y1) (e2 : y2*y2 = x2*x2 + 1 + D*x2*x2*y2*y2) (e3 : y3*y3 = x3*x3 + 1 + D*x3*x3*y3*y3) : ((1 - (D*x2*x3*y2*y3)*(D*x2*x3*y2*y3)) + D*(x2*y3+y2*x3)*(y2*y3+x2*x3)*x1*y1) * ((x1*y2+y1*x2)*(1-D*x1*x2*y1*y2)*y3+(y1*y2+x1*x2)*(1+D*x1*x2*y1*y2)*x3) = ((1 - (D*x1*x2*y1*y2)*(D*x1*x2*y1*y2)) + D*(x1*y2+y1*x2)*(y1*y2+x1*x2)*x3*y3) * (x1*(y2*y3+x2*x3)*(1+D*x2*x3*y2*y3)+y1*(x2*y3+y2*x3)*(1-D*x2*x3*y2*y3)):=by grind
theorem c9l {n : Nat} [NeZero n] (x1 y1 x2 y2 x3 y3 D : Fin n) (e1 : y1*y1 = x1*x1 + 1 + D*x1*x1*y1*y1) (e2 : y2*y2 = x2*x2 + 1 + D*x2*x2*y2*y2) (e3 : y3*y3 = x3*x3 + 1 + D*x3*x3*y3*y3) : ((1 - (D*x2*x3*y2*y3)*(D*x2*x3*y2*y3)) - D*(x2*y3+y2*x3)*(y2*y3+x2*x3)*x1*y1) * ((y1*y2+x1*x2)*(1+D*x1*x2*y1*y2)*y3+(x1*y2+y1*x2)*(1-D*x1*x2*y1*y2)*x3) = ((1 - (D*x1*x2*y1*y2)*(D*x1*x2*y1*y2)) - D*(x1*y2+y1*x2)*(y1*y2+x1*x2)*x3*y3) * (y1*(y2*y3+x2*x3)*(1+D*x2*x3*y2*y3)+x1*(x2*y3+y2*x3)*(1-D*x2*x3*y2*y3)):=by grind
section
variable {n : Nat} [NeZero n]
theorem C.d1 (c : C n) {P Q : Pt n} (hP : c.on P) (hQ : c.on Q) : 1 + c.D * P.x * Q.x * P.y * Q.y ≠ 0:=fun h=>c.ne1 hP hQ (-1) (by grind) (by grind)
theorem C.d2 (c : C n) {P Q : Pt n} (hP : c.on P) (hQ : c.on Q) : 1 - c.D * P.x * Q.x * P.y * Q.y ≠ 0:=fun h=>c.ne1 hP hQ 1 (by grind) (by grind)
theorem C.sx (c : C n) {P Q : Pt n} (hP : c.on P) (hQ : c.on Q) : (c.add P Q).x * (1 + c.D * P.x * Q.x * P.y * Q.y) = P.x * Q.y + P.y * Q.x:=by
 have:=c.hinv _ (c.d1 hP hQ)
 show (P.x * Q.y + P.y * Q.x) * c.inv (1 + c.D * P.x * Q.x * P.y * Q.y) * (1 + c.D * P.x * Q.x * P.y * Q.y) = _
 grind
theorem C.sy (c : C n) {P Q : Pt n} (hP : c.on P) (hQ : c.on Q) : (c.add P Q).y * (1 - c.D * P.x * Q.x * P.y * Q.y) = P.y * Q.y + P.x * Q.x:=by
 have:=c.hinv _ (c.d2 hP hQ)
 show (P.y * Q.y + P.x * Q.x) * c.inv (1 - c.D * P.x * Q.x * P.y * Q.y) * (1 - c.D * P.x * Q.x * P.y * Q.y) = _
 grind
theorem C.a9i (c : C n) {P Q : Pt n} (hP : c.on P) (hQ : c.on Q) : c.on (c.add P Q):=by
 have a1:=c.sx hP hQ;have a2:=c.sy hP hQ
 have h1:=c.d1 hP hQ;have h2:=c.d2 hP hQ
 unfold C.on at hP hQ ⊢
 generalize (c.add P Q).x = X at *
 generalize (c.add P Q).y = Y at *
 obtain ⟨x1,y1⟩:=P
 obtain ⟨x2,y2⟩:=Q
 simp only at *
 generalize hq : c.D * x1 * x2 * y1 * y2 = q at *
 have h3 : ((1 + q) * (1 + q)) * ((1 - q) * (1 - q)) ≠ 0:=c.a1m (c.a1m h1 h1) (c.a1m h2 h2)
 refine c.cancel h3 ?_
 have e1 : Y * Y * (((1 + q) * (1 + q)) * ((1 - q) * (1 - q))) = (y1 * y2 + x1 * x2) * (y1 * y2 + x1 * x2) * ((1 + q) * (1 + q)):=by rw [← a2];grind
 have e2 : (X * X + 1 + c.D * X * X * Y * Y) * (((1 + q) * (1 + q)) * ((1 - q) * (1 - q))) = (x1 * y2 + y1 * x2) * (x1 * y2 + y1 * x2) * ((1 - q) * (1 - q)) + ((1 + q) * (1 + q)) * ((1 - q) * (1 - q)) + c.D * ((x1 * y2 + y1 * x2) * (x1 * y2 + y1 * x2)) * ((y1 * y2 + x1 * x2) * (y1 * y2 + x1 * x2)):=by rw [← a1, ← a2];grind
 rw [e1,e2, ← hq]
 clear a1 a2 e1 e2 h3 h1 h2 hq
 grind
theorem C.comm (c : C n) (P Q : Pt n) : c.add P Q = c.add Q P:=by
 unfold C.add
 have e1 : P.x * Q.y + P.y * Q.x = Q.x * P.y + Q.y * P.x:=by grind
 have e2 : P.y * Q.y + P.x * Q.x = Q.y * P.y + Q.x * P.x:=by grind
 have e3 : c.D * P.x * Q.x * P.y * Q.y = c.D * Q.x * P.x * Q.y * P.y:=by grind
 rw [e1,e2,e3]
theorem c9m (k : K n) : k.inv 1 = 1:=by
 have h : (1 : Fin n) ≠ 0:=fun h=>k.two (by grind)
 have:=k.hinv 1 h
 grind
theorem C.on_O (c : C n) : c.on c.O:=by unfold C.on C.O;grind
theorem C.b95 (c : C n) (P : Pt n) : c.add c.O P = P:=by
 unfold C.add C.O
 have e1 : (1 : Fin n) + c.D * 0 * P.x * 1 * P.y = 1:=by grind
 have e2 : (1 : Fin n) - c.D * 0 * P.x * 1 * P.y = 1:=by grind
 simp only [e1,e2]
 rw [c9m]
 refine Pt.ext' ?_ ?_ <;> simp only <;> grind
theorem C.a3m (c : C n) {P : Pt n} (hP : c.on P) : c.on (c.neg P):=by
 unfold C.on C.neg at *;simp only;grind
theorem C.b06 (c : C n) {P : Pt n} (hP : c.on P) : c.add (c.neg P) P = c.O:=by
 have hN:=c.a3m hP
 have a1:=c.sx hN hP;have a2:=c.sy hN hP
 have h1:=c.d1 hN hP;have h2:=c.d2 hN hP
 refine Pt.ext' (c.cancel h1 (a1.trans ?_)) (c.cancel h2 (a2.trans ?_))
 ·clear a1 a2 h1 h2 hN hP
  unfold C.neg C.O;simp only
  grind
 ·clear a1 a2 h1 h2 hN
  unfold C.on at hP
  unfold C.neg C.O;simp only
  obtain ⟨x,y⟩:=P
  simp only at *
  generalize c.D = D at *
  grind
theorem C.fin (c : C n) {X Y a b A B : Fin n} (h1 : X * a = A) (h2 : Y * b = B) (h : b * A = a * B) (ha : a ≠ 0) (hb : b ≠ 0) : X = Y:=c.cancel (c.a1m ha hb) (by subst h1 h2;grind)
theorem f3m (X q u v x y D : Fin n) (h : X * (1 + D * u * x * v * y) = u * y + v * x) : X * ((1 - q * q) + D * (u * (1 + q)) * (v * (1 - q)) * x * y) = u * (1 + q) * (1 - q) * y + v * (1 - q) * (1 + q) * x:=by grind
theorem f3n (X q u v x y D : Fin n) (h : X * (1 + D * x * u * y * v) = x * v + y * u) : X * ((1 - q * q) + D * (u * (1 + q)) * (v * (1 - q)) * x * y) = x * (v * (1 - q)) * (1 + q) + y * (u * (1 + q)) * (1 - q):=by grind
theorem f3o (X q u v x y D : Fin n) (h : X * (1 - D * u * x * v * y) = v * y + u * x) : X * ((1 - q * q) - D * (u * (1 + q)) * (v * (1 - q)) * x * y) = v * (1 - q) * (1 + q) * y + u * (1 + q) * (1 - q) * x:=by grind
theorem f3p (X q u v x y D : Fin n) (h : X * (1 - D * x * u * y * v) = y * v + x * u) : X * ((1 - q * q) - D * (u * (1 + q)) * (v * (1 - q)) * x * y) = y * (v * (1 - q)) * (1 + q) + x * (u * (1 + q)) * (1 - q):=by grind
theorem f3q (q u v x y D : Fin n) : ((1 - q * q) + D * (u * (1 + q)) * (v * (1 - q)) * x * y) = ((1 + q) * (1 - q)) * (1 + D * u * x * v * y):=by grind
theorem f3r (q u v x y D : Fin n) : ((1 - q * q) + D * (u * (1 + q)) * (v * (1 - q)) * x * y) = ((1 + q) * (1 - q)) * (1 + D * x * u * y * v):=by grind
theorem f3s (q u v x y D : Fin n) : ((1 - q * q) - D * (u * (1 + q)) * (v * (1 - q)) * x * y) = ((1 + q) * (1 - q)) * (1 - D * u * x * v * y):=by grind
theorem f3t (q u v x y D : Fin n) : ((1 - q * q) - D * (u * (1 + q)) * (v * (1 - q)) * x * y) = ((1 + q) * (1 - q)) * (1 - D * x * u * y * v):=by grind
theorem C.assoc (c : C n) {P Q R : Pt n} (hP : c.on P) (hQ : c.on Q) (hR : c.on R) : c.add (c.add P Q) R = c.add P (c.add Q R):=by
 have a1:=c.sx hP hQ;have a2:=c.sy hP hQ
 have b1:=c.sx hQ hR;have b2:=c.sy hQ hR
 have hA:=c.a9i hP hQ;have hB:=c.a9i hQ hR
 have c1:=c.sx hA hR;have c2:=c.sy hA hR
 have d1:=c.sx hP hB;have d2:=c.sy hP hB
 have p1:=c.d1 hP hQ;have p2:=c.d2 hP hQ
 have q1:=c.d1 hQ hR;have q2:=c.d2 hQ hR
 have r1:=c.d1 hA hR;have r2:=c.d2 hA hR
 have s1:=c.d1 hP hB;have s2:=c.d2 hP hB
 refine Pt.ext' ?_ ?_
 ·generalize (c.add (c.add P Q) R).x = XL at *
  generalize (c.add P (c.add Q R)).x = XR at *
  clear c2 d2 r2 s2
  generalize (c.add P Q).x = u at *
  generalize (c.add P Q).y = v at *
  generalize (c.add Q R).x = u' at *
  generalize (c.add Q R).y = v' at *
  unfold C.on at hP hQ hR
  obtain ⟨x1,y1⟩:=P
  obtain ⟨x2,y2⟩:=Q
  obtain ⟨x3,y3⟩:=R
  simp only at *
  clear hA hB
  have l1 : XL * ((1 - (c.D*x1*x2*y1*y2)*(c.D*x1*x2*y1*y2)) + c.D*(x1*y2+y1*x2)*(y1*y2+x1*x2)*x3*y3) = (x1*y2+y1*x2)*(1-c.D*x1*x2*y1*y2)*y3+(y1*y2+x1*x2)*(1+c.D*x1*x2*y1*y2)*x3:=by
   rw [← a1, ← a2]
   exact f3m _ _ _ _ _ _ _ c1
  have l2 : XR * ((1 - (c.D*x2*x3*y2*y3)*(c.D*x2*x3*y2*y3)) + c.D*(x2*y3+y2*x3)*(y2*y3+x2*x3)*x1*y1) = x1*(y2*y3+x2*x3)*(1+c.D*x2*x3*y2*y3)+y1*(x2*y3+y2*x3)*(1-c.D*x2*x3*y2*y3):=by
   rw [← b1, ← b2]
   exact f3n _ _ _ _ _ _ _ d1
  have n1 : ((1 - (c.D*x1*x2*y1*y2)*(c.D*x1*x2*y1*y2)) + c.D*(x1*y2+y1*x2)*(y1*y2+x1*x2)*x3*y3) ≠ 0:=by
   have : ((1 - (c.D*x1*x2*y1*y2)*(c.D*x1*x2*y1*y2)) + c.D*(x1*y2+y1*x2)*(y1*y2+x1*x2)*x3*y3) = ((1 + c.D*x1*x2*y1*y2) * (1 - c.D*x1*x2*y1*y2)) * (1 + c.D * u * x3 * v * y3):=by rw [← a1, ← a2];exact f3q _ _ _ _ _ _
   rw [this]
   exact c.a1m (c.a1m p1 p2) r1
  have n2 : ((1 - (c.D*x2*x3*y2*y3)*(c.D*x2*x3*y2*y3)) + c.D*(x2*y3+y2*x3)*(y2*y3+x2*x3)*x1*y1) ≠ 0:=by
   have : ((1 - (c.D*x2*x3*y2*y3)*(c.D*x2*x3*y2*y3)) + c.D*(x2*y3+y2*x3)*(y2*y3+x2*x3)*x1*y1) = ((1 + c.D*x2*x3*y2*y3) * (1 - c.D*x2*x3*y2*y3)) * (1 + c.D * x1 * u' * y1 * v'):=by rw [← b1, ← b2];exact f3r _ _ _ _ _ _
   rw [this]
   exact c.a1m (c.a1m q1 q2) s1
  have key:=c9k x1 y1 x2 y2 x3 y3 c.D hP hQ hR
  exact c.fin l1 l2 key n1 n2
 ·generalize (c.add (c.add P Q) R).y = XL at *
  generalize (c.add P (c.add Q R)).y = XR at *
  clear c1 d1 r1 s1
  generalize (c.add P Q).x = u at *
  generalize (c.add P Q).y = v at *
  generalize (c.add Q R).x = u' at *
  generalize (c.add Q R).y = v' at *
  unfold C.on at hP hQ hR
  obtain ⟨x1,y1⟩:=P
  obtain ⟨x2,y2⟩:=Q
  obtain ⟨x3,y3⟩:=R
  simp only at *
  clear hA hB
  have l1 : XL * ((1 - (c.D*x1*x2*y1*y2)*(c.D*x1*x2*y1*y2)) - c.D*(x1*y2+y1*x2)*(y1*y2+x1*x2)*x3*y3) = (y1*y2+x1*x2)*(1+c.D*x1*x2*y1*y2)*y3+(x1*y2+y1*x2)*(1-c.D*x1*x2*y1*y2)*x3:=by
   rw [← a1, ← a2]
   exact f3o _ _ _ _ _ _ _ c2
  have l2 : XR * ((1 - (c.D*x2*x3*y2*y3)*(c.D*x2*x3*y2*y3)) - c.D*(x2*y3+y2*x3)*(y2*y3+x2*x3)*x1*y1) = y1*(y2*y3+x2*x3)*(1+c.D*x2*x3*y2*y3)+x1*(x2*y3+y2*x3)*(1-c.D*x2*x3*y2*y3):=by
   rw [← b1, ← b2]
   exact f3p _ _ _ _ _ _ _ d2
  have n1 : ((1 - (c.D*x1*x2*y1*y2)*(c.D*x1*x2*y1*y2)) - c.D*(x1*y2+y1*x2)*(y1*y2+x1*x2)*x3*y3) ≠ 0:=by
   have : ((1 - (c.D*x1*x2*y1*y2)*(c.D*x1*x2*y1*y2)) - c.D*(x1*y2+y1*x2)*(y1*y2+x1*x2)*x3*y3) = ((1 + c.D*x1*x2*y1*y2) * (1 - c.D*x1*x2*y1*y2)) * (1 - c.D * u * x3 * v * y3):=by rw [← a1, ← a2];exact f3s _ _ _ _ _ _
   rw [this]
   exact c.a1m (c.a1m p1 p2) r2
  have n2 : ((1 - (c.D*x2*x3*y2*y3)*(c.D*x2*x3*y2*y3)) - c.D*(x2*y3+y2*x3)*(y2*y3+x2*x3)*x1*y1) ≠ 0:=by
   have : ((1 - (c.D*x2*x3*y2*y3)*(c.D*x2*x3*y2*y3)) - c.D*(x2*y3+y2*x3)*(y2*y3+x2*x3)*x1*y1) = ((1 + c.D*x2*x3*y2*y3) * (1 - c.D*x2*x3*y2*y3)) * (1 - c.D * x1 * u' * y1 * v'):=by rw [← b1, ← b2];exact f3t _ _ _ _ _ _
   rw [this]
   exact c.a1m (c.a1m q1 q2) s2
  have key:=c9l x1 y1 x2 y2 x3 y3 c.D hP hQ hR
  exact c.fin l1 l2 key n1 n2
end
section
variable {n : Nat} [NeZero n]
def C.mul (c : C n) : Nat → Pt n → Pt n
 | 0,_=>c.O
 | k + 1,P=>c.add (c.mul k P) P
theorem C.a21 (c : C n) {P : Pt n} (hP : c.on P) : ∀ k,c.on (c.mul k P)
 | 0=>c.on_O
 | k + 1=>c.a9i (c.a21 hP k) hP
theorem C.c9n (c : C n) (P : Pt n) : c.add P c.O = P:=by rw [c.comm];exact c.b95 P
theorem C.mul_one (c : C n) (P : Pt n) : c.mul 1 P = P:=c.b95 P
theorem C.add_mul (c : C n) {P : Pt n} (hP : c.on P) (a : Nat) : ∀ b,c.mul (a + b) P = c.add (c.mul a P) (c.mul b P)
 | 0=>(c.c9n _).symm
 | b + 1=>by
  show c.add (c.mul (a + b) P) P = _
  rw [c.add_mul hP a b,c.assoc (c.a21 hP a) (c.a21 hP b) hP]
  rfl
theorem C.d3l (c : C n) : ∀ k,c.mul k c.O = c.O
 | 0=>rfl
 | k + 1=>by show c.add (c.mul k c.O) c.O = _;rw [c.d3l k];exact c.b95 _
theorem C.b4s (c : C n) {P : Pt n} (hP : c.on P) (b : Nat) : ∀ a,c.mul a (c.mul b P) = c.mul (a * b) P
 | 0=>by rw [Nat.zero_mul];rfl
 | a + 1=>by
  show c.add (c.mul a (c.mul b P)) (c.mul b P) = _
  rw [c.b4s hP b a,Nat.succ_mul,c.add_mul hP]
theorem C.back (c : C n) {P Q : Pt n} (hP : c.on P) (hQ : c.on Q) : c.add (c.add P Q) (c.neg P) = Q:=by
 rw [c.comm P Q,c.assoc hQ hP (c.a3m hP),c.comm P,c.b06 hP,c.c9n]
end
end Go.Ed
namespace Go.Mo
open Go.Ev Go.Wn Go.Ed
def P25 : Nat:=57896044618658097711785492504343953926634992332820282019728792003956564819949
instance nz25 : NeZero P25:=⟨by decide +kernel⟩
theorem b4t : 0 < P25:=by decide +kernel
def fp (w : Fin P25) (e : Nat) : Fin P25:=⟨w.val ^ e % P25,Nat.mod_lt _ b4t⟩
theorem c0q (w : Fin P25) (a b : Nat) : fp w (a + b) = fp w a * fp w b:=by
 apply Fin.ext
 show w.val ^ (a + b) % P25 = (w.val ^ a % P25) * (w.val ^ b % P25) % P25
 rw [Nat.pow_add,Nat.mul_mod]
theorem d3m (v w : Fin P25) (a : Nat) : fp (v * w) a = fp v a * fp w a:=by
 apply Fin.ext
 show (v.val * w.val % P25) ^ a % P25 = (v.val ^ a % P25) * (w.val ^ a % P25) % P25
 rw [← Nat.pow_mod,Nat.mul_pow,Nat.mul_mod]
theorem c78 (w : Fin P25) : fp w 1 = w:=by
 apply Fin.ext
 show w.val ^ 1 % P25 = w.val
 rw [Nat.pow_one,Nat.mod_eq_of_lt w.isLt]
def pM : Nat:=57896044618658097711785492504343953926634992332820282019728792003956564819948
def pH : Nat:=28948022309329048855892746252171976963317496166410141009864396001978282409974
def p8 : Nat:=7237005577332262213973186563042994240829374041602535252466099000494570602494
theorem f3u : pM = P25 - 1:=by decide +kernel
theorem f3v : pM = pH + pH:=by decide +kernel
theorem f3w : pM = pE + 1:=by decide +kernel
theorem f0u : Go.Wn.Good P25:=f1r
theorem e5j {w : Fin P25} (h : w ≠ 0) : fp w pM = 1:=by
 apply Fin.ext
 have h0 : w.val % P25 ≠ 0:=by
  rw [Nat.mod_eq_of_lt w.isLt]
  intro e
  exact h (Fin.ext e)
 have:=f0u.2 w.val h0
 show w.val ^ pM % P25 = 1 % P25
 rw [f3u]
 exact this
theorem d3n (d e r : Nat) (hd : d < P25) (hr : r < P25) (he : e < 2 ^ 256) (h : pw P25 256 d e 1 = r) : fp ⟨d,hd⟩ e = ⟨r,hr⟩:=by
 apply Fin.ext
 show d ^ e % P25 = r
 rw [← h,c38 he,Nat.one_mul]
def i25 : Fin P25:=⟨19681161376707505956807079304988542015446066515923890162744021073123829784752,by decide +kernel⟩
theorem d3o : i25 * i25 = -1:=by decide +kernel
theorem f3x : (2 : Fin P25) ≠ 0:=by decide +kernel
def k25 : K P25 where
 inv w:=fp w pE
 hinv w h:=by
  have:=e5j h
  rw [f3w,c0q,c78] at this
  rw [Fin.mul_comm]
  exact this
 i:=i25
 hi:=d3o
 two:=f3x
theorem d3p {d : Nat} (hd : d < P25) (h : pw P25 256 d pH 1 = P25 - 1) (z : Fin P25) : z * z ≠ ⟨d,hd⟩:=fun e=>by
 have e1:=d3n d pH (P25 - 1) hd (by decide +kernel) (by decide +kernel) h
 rw [← e,d3m, ← c0q, ← f3v] at e1
 by_cases hz : z = 0
 ·subst hz
  have e2 : d = 0:=by
   have:=congrArg Fin.val e
   have e3 : ((0 : Fin P25) * 0).val = 0:=by decide +kernel
   rw [e3] at this
   exact this.symm
  subst e2
  revert h
  decide +kernel
 ·rw [e5j hz] at e1
  revert e1
  decide +kernel
def dA : Fin P25:=⟨37095705934669439343138083508754565189542113879843219016388785533085940283555,by decide +kernel⟩
def cA : Ed.C P25 := { k25 with D:=dA,nsq:=d3p _ (by decide +kernel),D1:=by decide +kernel }
end Go.Mo
namespace Go.Mo
open Go.Ev Go.Wn Go.Ed
def ok (x : Int) : Prop:=0 ≤ x ∧ x < 115792089237316195423570985008687907853269984665640564039457584007913129639936
def ph (x : Int) : Fin P25:=⟨(x % (P25 : Int)).toNat,by
 have h1 : (0 : Int) < (P25 : Int):=by have:=b4t;omega
 have h2:=Int.emod_nonneg x (by omega : (P25 : Int) ≠ 0)
 have h3:=Int.emod_lt_of_pos x h1
 omega⟩
theorem a2m {x : Int} (h : ok x) : vl x = x:=by
 unfold vl ok at *
 rw [a1f]
 exact Int.emod_eq_of_lt h.1 h.2
theorem b4u : val PL = (P25 : Int):=vPL
theorem b96 : (0 : Int) < (P25 : Int):=by have:=b4t;omega
theorem b77 (x : Int) : ok (x % val PL):=by
 have h2:=Int.emod_nonneg x (by rw [vPL];decide : val PL ≠ 0)
 have h3:=Int.emod_lt_of_pos x (by rw [vPL];decide : 0 < val PL)
 have h4 : val PL < 115792089237316195423570985008687907853269984665640564039457584007913129639936:=by rw [vPL];decide
 exact ⟨h2,by omega⟩
theorem a63 (x : Int) : ((ph x).val : Int) = x % (P25 : Int):=by
 have h2:=Int.emod_nonneg x (by have:=b96;omega : (P25 : Int) ≠ 0)
 show (((x % (P25 : Int)).toNat : Nat) : Int) = _
 omega
theorem d3q {x y : Int} (h : x % (P25 : Int) = y % (P25 : Int)) : ph x = ph y:=by
 apply Fin.ext
 have:=a63 x;have:=a63 y
 omega
theorem b78 (x : Int) : ph (x % (P25 : Int)) = ph x:=d3q (Int.emod_emod_of_dvd _ (Int.dvd_refl _))
theorem c79 (x y : Int) : ph (x + y) = ph x + ph y:=by
 apply Fin.ext
 have h1 : ((ph x + ph y).val : Int) = ((ph x).val + (ph y).val : Int) % (P25 : Int):=by rw [Fin.val_add];simp
 have h2:=a63 (x + y)
 rw [a63,a63, ← Int.add_emod, ← h2] at h1
 exact_mod_cast h1.symm
theorem c7a (x y : Int) : ph (x * y) = ph x * ph y:=by
 apply Fin.ext
 have h1 : ((ph x * ph y).val : Int) = ((ph x).val * (ph y).val : Int) % (P25 : Int):=by rw [Fin.val_mul];simp
 have h2:=a63 (x * y)
 rw [a63,a63, ← Int.mul_emod, ← h2] at h1
 exact_mod_cast h1.symm
theorem d3r (x y : Int) : ph (x - y) = ph x - ph y:=by
 have h : ph (x - y) + ph y = ph x:=by rw [← c79,Int.sub_add_cancel]
 rw [← h]
 grind
theorem a95 (x y : Int) : ok (aI x y):=b77 _
theorem a64 (x y : Int) : ok (sI x y):=b77 _
theorem a20 (x y : Int) : ok (mI x y):=b77 _
theorem e7j {x y : Int} (hx : ok x) (hy : ok y) : ph (aI x y) = ph x + ph y:=by unfold aI;rw [b4u,b78,a2m hx,a2m hy,c79]
theorem e6o {x y : Int} (hx : ok x) (hy : ok y) : ph (sI x y) = ph x - ph y:=by unfold sI;rw [b4u,b78,a2m hx,a2m hy,d3r]
theorem e0l {x y : Int} (hx : ok x) (hy : ok y) : ph (mI x y) = ph x * ph y:=by unfold mI;rw [b4u,b78,a2m hx,a2m hy,c7a]
theorem e4p : ok 1:=⟨by decide,by decide⟩
theorem e7k : ok 0:=⟨by decide,by decide⟩
theorem c7b (x : Int) : ∀ e : Nat,ph (x ^ e) = fp (ph x) e
 | 0=>by rw [Int.pow_zero];apply Fin.ext;show ((1 : Int) % (P25 : Int)).toNat = (ph x).val ^ 0 % P25;rw [Nat.pow_zero];decide +kernel
 | e + 1=>by rw [Int.pow_succ,c7a,c7b x e,c0q,c78]
theorem f3y {z : Int} (hz : ok z) : ph (pI z) = fp (ph z) pE:=by
 unfold pI
 rw [b4u,b78,a2m hz,c7b,show ((P25 : Int) - 2).toNat = pE by decide +kernel]
def L25 : Nat:=7237005577332262213973186563042994240857116359379907606001950938285454250989
end Go.Mo
namespace Go.Ed
section
variable {n : Nat} [NeZero n]
theorem C.f3z (c : C n) : c.neg c.O = c.O:=by
 refine Pt.ext' ?_ rfl
 show -(0 : Fin n) = 0
 grind
theorem C.d3s (c : C n) {P Q : Pt n} (hP : c.on P) (hQ : c.on Q) (h : c.add P Q = c.O) : Q = c.neg P:=by
 have h1:=c.back hP hQ
 rw [h,c.b95] at h1
 exact h1.symm
theorem C.c9o (c : C n) {P Q : Pt n} (hP : c.on P) (hQ : c.on Q) : c.neg (c.add P Q) = c.add (c.neg P) (c.neg Q):=by
 refine (c.d3s (c.a9i hP hQ) (c.a9i (c.a3m hP) (c.a3m hQ)) ?_).symm
 rw [c.comm P Q,c.assoc hQ hP (c.a9i (c.a3m hP) (c.a3m hQ)), ← c.assoc hP (c.a3m hP) (c.a3m hQ),c.comm P (c.neg P),c.b06 hP,c.b95,c.comm,c.b06 hQ]
theorem C.c0r (c : C n) {P : Pt n} (hP : c.on P) : ∀ k,c.mul k (c.neg P) = c.neg (c.mul k P)
 | 0=>c.f3z.symm
 | k + 1=>by
  show c.add (c.mul k (c.neg P)) (c.neg P) = c.neg (c.add (c.mul k P) P)
  rw [c.c0r hP k,c.c9o (c.a21 hP k) hP]
theorem C.mul_mod (c : C n) {P : Pt n} (hP : c.on P) {L : Nat} (hL : c.mul L P = c.O) (k : Nat) : c.mul (k % L) P = c.mul k P:=by
 have h:=c.add_mul hP (L * (k / L)) (k % L)
 rw [Nat.div_add_mod,Nat.mul_comm L, ← c.b4s hP,hL,c.d3l,c.b95] at h
 exact h.symm
theorem C.signed (c : C n) {B : Pt n} (hB : c.on B) {L : Nat} (hL : c.mul L B = c.O) (r k s : Nat) : c.add (c.mul ((r + k * s) % L) B) (c.mul k (c.neg (c.mul s B))) = c.mul r B:=by
 rw [c.mul_mod hB hL,c.c0r (c.a21 hB s),c.b4s hB,c.add_mul hB,c.assoc (c.a21 hB r) (c.a21 hB _) (c.a3m (c.a21 hB _)),c.comm (c.mul (k * s) B),c.b06 (c.a21 hB _),c.c9n]
theorem C.dy (c : C n) {y : Fin n} : 1 + c.D * y * y ≠ 0:=fun h=>by
 have hi:=c.hi
 by_cases hy : y = 0
 ·subst hy
  have two:=c.two
  exact two (by grind)
 ·have h1:=c.hinv y hy
  exact c.nsq (c.i * c.inv y) (by
   generalize c.inv y = v at *
   generalize c.D = D at *
   have : D * (y * v) * (y * v) = -(v * v):=by grind
   rw [h1] at this
   grind)
end
end Go.Ed
namespace Go.Mo
open Go.Ev Go.Wn Go.Ed
set_option maxRecDepth 100000
def ptB : Pt P25:=⟨⟨15112221349535400772501151409588531511454012693041857206046113283949847762202,by decide +kernel⟩,⟨46316835694926478169428394003475163141307993866256225615783033603165251855960,by decide +kernel⟩⟩
theorem a9j : cA.on ptB:=by unfold C.on;decide +kernel
end Go.Mo
