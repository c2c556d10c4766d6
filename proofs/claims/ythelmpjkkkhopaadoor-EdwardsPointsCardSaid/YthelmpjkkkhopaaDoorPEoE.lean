/- Layer 10: numbers modulo 2^255 - 19 as the program's Mod reckons them. Own work. -/
import Derived.Test.YthelmpjkkkhopaaDoorPMyPr
set_option linter.unusedSimpArgs false
set_option linter.unusedVariables false
set_option linter.unusedSectionVars false
namespace Go.Mo
open Go.Ev Go.Wn
/-- The program's Mod: 2^255 - 19. -/
def PL : List Int := [18446744073709551597, 18446744073709551615, 18446744073709551615, 9223372036854775807, 9708812670373448219, 1444, 0, 0, 0]
def vl (x : Int) : Int := val (limbs x)
def aI (x y : Int) : Int := (vl x + vl y) % val PL
def sI (x y : Int) : Int := (vl x - vl y) % val PL
def mI (x y : Int) : Int := (vl x * vl y) % val PL
def pI (z : Int) : Int := (vl z ^ (val PL - 2).toNat) % val PL
def pE : Nat := 57896044618658097711785492504343953926634992332820282019728792003956564819947
def pF (z : Int) : Int := ((pw 57896044618658097711785492504343953926634992332820282019728792003956564819949 256 (vl z).toNat pE 1 : Nat) : Int)
theorem vPL : val PL = 57896044618658097711785492504343953926634992332820282019728792003956564819949 := by decide +kernel
theorem vl_b (x : Int) : 0 ≤ vl x ∧ vl x < 115792089237316195423570985008687907853269984665640564039457584007913129639936 := by
  unfold vl
  rw [val_limbs]
  omega
theorem pw_int (n : Nat) {e : Nat} (he : e < 2 ^ 256) : (n : Int) ^ e % 57896044618658097711785492504343953926634992332820282019728792003956564819949 = ((pw 57896044618658097711785492504343953926634992332820282019728792003956564819949 256 n e 1 : Nat) : Int) := by
  rw [pw_eq he, Nat.one_mul, Int.natCast_emod, Int.natCast_pow]
  rfl
theorem pI_eq (z : Int) : pI z = pF z := by
  have he : pE < 2 ^ 256 := by decide +kernel
  have he2 : (val PL - 2).toNat = pE := by decide +kernel
  unfold pI pF
  rw [he2]
  generalize pE = e at *
  rw [vPL]
  have h := vl_b z
  generalize vl z = y at *
  obtain ⟨n, rfl⟩ := Int.eq_ofNat_of_zero_le h.1
  rw [pw_int n he, Int.toNat_natCast]
end Go.Mo
namespace Go.Ed
/-- What is used of the numbers modulo a prime: inverses, a root of -1, 2 is not nothing. -/
structure K (n : Nat) [NeZero n] where
  inv : Fin n → Fin n
  hinv : ∀ a, a ≠ 0 → a * inv a = 1
  i : Fin n
  hi : i * i = -1
  two : (2 : Fin n) ≠ 0
structure C (n : Nat) [NeZero n] extends K n where
  D : Fin n
  nsq : ∀ z, z * z ≠ D
  D1 : 1 + D ≠ 0
set_option linter.unusedSectionVars false
section
variable {n : Nat} [NeZero n]
theorem K.mul_ne (k : K n) {a b : Fin n} (ha : a ≠ 0) (hb : b ≠ 0) : a * b ≠ 0 := fun h => by
  have := k.hinv a ha
  have : b = 0 := by grind
  exact hb this
theorem K.zero_of (k : K n) {a b : Fin n} (h : a * b = 0) : a = 0 ∨ b = 0 := by
  by_cases ha : a = 0
  · exact .inl ha
  · by_cases hb : b = 0
    · exact .inr hb
    · exact absurd h (k.mul_ne ha hb)
theorem K.cancel (k : K n) {a b c : Fin n} (hc : c ≠ 0) (h : a * c = b * c) : a = b := by
  have := k.hinv c hc
  grind
structure Pt (n : Nat) where
  x : Fin n
  y : Fin n
theorem Pt.ext' {P Q : Pt n} (hx : P.x = Q.x) (hy : P.y = Q.y) : P = Q := by cases P; cases Q; simp_all
def C.on (c : C n) (P : Pt n) : Prop := P.y * P.y = P.x * P.x + 1 + c.D * P.x * P.x * P.y * P.y
def C.add (c : C n) (P Q : Pt n) : Pt n := ⟨(P.x * Q.y + P.y * Q.x) * c.inv (1 + c.D * P.x * Q.x * P.y * Q.y), (P.y * Q.y + P.x * Q.x) * c.inv (1 - c.D * P.x * Q.x * P.y * Q.y)⟩
def C.neg (_ : C n) (P : Pt n) : Pt n := ⟨-P.x, P.y⟩
def C.O (_ : C n) : Pt n := ⟨0, 1⟩
/-- No denominator is nothing. -/
theorem C.ne1 (c : C n) {P Q : Pt n} (hP : c.on P) (hQ : c.on Q) (e : Fin n) (he : e * e = 1) : c.D * P.x * Q.x * P.y * Q.y ≠ e := fun h => by
  obtain ⟨x1, y1⟩ := P
  obtain ⟨x2, y2⟩ := Q
  unfold C.on at hP hQ
  simp only at hP hQ h
  have hi := c.hi
  have two := c.two
  -- (i x1 + s y1)^2 = D (i-part)^2
  have k1 : (c.i * x1 + e * y1) * (c.i * x1 + e * y1) = c.D * (x1 * y1 * (c.i * x2 + y2)) * (x1 * y1 * (c.i * x2 + y2)) := by grind
  have k2 : (c.i * x1 - e * y1) * (c.i * x1 - e * y1) = c.D * (x1 * y1 * (c.i * x2 - y2)) * (x1 * y1 * (c.i * x2 - y2)) := by grind
  have sq : ∀ A B : Fin n, A * A = c.D * B * B → B = 0 := fun A B hAB => by
    by_cases hB : B = 0
    · exact hB
    · have := c.hinv B hB
      exact absurd (show (A * c.inv B) * (A * c.inv B) = c.D by grind) (c.nsq _)
  have z1 := sq _ _ k1
  have z2 := sq _ _ k2
  have z3 : (2 * c.i) * (x1 * y1 * x2) = 0 := by grind
  have z4 : 2 * (x1 * y1 * y2) = 0 := by grind
  have z5 : x1 * y1 * y2 = 0 := (c.zero_of z4).resolve_left two
  have : e = 0 := by grind
  have : (1 : Fin n) = 0 := by grind
  grind
end
theorem assoc_x {n : Nat} [NeZero n] (x1 y1 x2 y2 x3 y3 D : Fin n) (e1 : y1*y1 = x1*x1 + 1 + D*x1*x1*y1*y1) (e2 : y2*y2 = x2*x2 + 1 + D*x2*x2*y2*y2) (e3 : y3*y3 = x3*x3 + 1 + D*x3*x3*y3*y3) : ((1 - (D*x2*x3*y2*y3)*(D*x2*x3*y2*y3)) + D*(x2*y3+y2*x3)*(y2*y3+x2*x3)*x1*y1) * ((x1*y2+y1*x2)*(1-D*x1*x2*y1*y2)*y3+(y1*y2+x1*x2)*(1+D*x1*x2*y1*y2)*x3) = ((1 - (D*x1*x2*y1*y2)*(D*x1*x2*y1*y2)) + D*(x1*y2+y1*x2)*(y1*y2+x1*x2)*x3*y3) * (x1*(y2*y3+x2*x3)*(1+D*x2*x3*y2*y3)+y1*(x2*y3+y2*x3)*(1-D*x2*x3*y2*y3)) := by grind
theorem assoc_y {n : Nat} [NeZero n] (x1 y1 x2 y2 x3 y3 D : Fin n) (e1 : y1*y1 = x1*x1 + 1 + D*x1*x1*y1*y1) (e2 : y2*y2 = x2*x2 + 1 + D*x2*x2*y2*y2) (e3 : y3*y3 = x3*x3 + 1 + D*x3*x3*y3*y3) : ((1 - (D*x2*x3*y2*y3)*(D*x2*x3*y2*y3)) - D*(x2*y3+y2*x3)*(y2*y3+x2*x3)*x1*y1) * ((y1*y2+x1*x2)*(1+D*x1*x2*y1*y2)*y3+(x1*y2+y1*x2)*(1-D*x1*x2*y1*y2)*x3) = ((1 - (D*x1*x2*y1*y2)*(D*x1*x2*y1*y2)) - D*(x1*y2+y1*x2)*(y1*y2+x1*x2)*x3*y3) * (y1*(y2*y3+x2*x3)*(1+D*x2*x3*y2*y3)+x1*(x2*y3+y2*x3)*(1-D*x2*x3*y2*y3)) := by grind
section
variable {n : Nat} [NeZero n]
theorem C.d1 (c : C n) {P Q : Pt n} (hP : c.on P) (hQ : c.on Q) : 1 + c.D * P.x * Q.x * P.y * Q.y ≠ 0 := fun h => c.ne1 hP hQ (-1) (by grind) (by grind)
theorem C.d2 (c : C n) {P Q : Pt n} (hP : c.on P) (hQ : c.on Q) : 1 - c.D * P.x * Q.x * P.y * Q.y ≠ 0 := fun h => c.ne1 hP hQ 1 (by grind) (by grind)
/-- What a sum's coordinates are, without division. -/
theorem C.sx (c : C n) {P Q : Pt n} (hP : c.on P) (hQ : c.on Q) : (c.add P Q).x * (1 + c.D * P.x * Q.x * P.y * Q.y) = P.x * Q.y + P.y * Q.x := by
  have := c.hinv _ (c.d1 hP hQ)
  show (P.x * Q.y + P.y * Q.x) * c.inv (1 + c.D * P.x * Q.x * P.y * Q.y) * (1 + c.D * P.x * Q.x * P.y * Q.y) = _
  grind
theorem C.sy (c : C n) {P Q : Pt n} (hP : c.on P) (hQ : c.on Q) : (c.add P Q).y * (1 - c.D * P.x * Q.x * P.y * Q.y) = P.y * Q.y + P.x * Q.x := by
  have := c.hinv _ (c.d2 hP hQ)
  show (P.y * Q.y + P.x * Q.x) * c.inv (1 - c.D * P.x * Q.x * P.y * Q.y) * (1 - c.D * P.x * Q.x * P.y * Q.y) = _
  grind
theorem C.on_add (c : C n) {P Q : Pt n} (hP : c.on P) (hQ : c.on Q) : c.on (c.add P Q) := by
  have a1 := c.sx hP hQ; have a2 := c.sy hP hQ
  have h1 := c.d1 hP hQ; have h2 := c.d2 hP hQ
  unfold C.on at hP hQ ⊢
  generalize (c.add P Q).x = X at *
  generalize (c.add P Q).y = Y at *
  obtain ⟨x1, y1⟩ := P
  obtain ⟨x2, y2⟩ := Q
  simp only at *
  generalize hq : c.D * x1 * x2 * y1 * y2 = q at *
  have h3 : ((1 + q) * (1 + q)) * ((1 - q) * (1 - q)) ≠ 0 := c.mul_ne (c.mul_ne h1 h1) (c.mul_ne h2 h2)
  refine c.cancel h3 ?_
  have e1 : Y * Y * (((1 + q) * (1 + q)) * ((1 - q) * (1 - q))) = (y1 * y2 + x1 * x2) * (y1 * y2 + x1 * x2) * ((1 + q) * (1 + q)) := by rw [← a2]; grind
  have e2 : (X * X + 1 + c.D * X * X * Y * Y) * (((1 + q) * (1 + q)) * ((1 - q) * (1 - q))) = (x1 * y2 + y1 * x2) * (x1 * y2 + y1 * x2) * ((1 - q) * (1 - q)) + ((1 + q) * (1 + q)) * ((1 - q) * (1 - q)) + c.D * ((x1 * y2 + y1 * x2) * (x1 * y2 + y1 * x2)) * ((y1 * y2 + x1 * x2) * (y1 * y2 + x1 * x2)) := by rw [← a1, ← a2]; grind
  rw [e1, e2, ← hq]
  clear a1 a2 e1 e2 h3 h1 h2 hq
  grind
theorem C.comm (c : C n) (P Q : Pt n) : c.add P Q = c.add Q P := by
  unfold C.add
  have e1 : P.x * Q.y + P.y * Q.x = Q.x * P.y + Q.y * P.x := by grind
  have e2 : P.y * Q.y + P.x * Q.x = Q.y * P.y + Q.x * P.x := by grind
  have e3 : c.D * P.x * Q.x * P.y * Q.y = c.D * Q.x * P.x * Q.y * P.y := by grind
  rw [e1, e2, e3]
theorem inv_one (k : K n) : k.inv 1 = 1 := by
  have h : (1 : Fin n) ≠ 0 := fun h => k.two (by grind)
  have := k.hinv 1 h
  grind
theorem C.on_O (c : C n) : c.on c.O := by unfold C.on C.O; grind
theorem C.O_add (c : C n) (P : Pt n) : c.add c.O P = P := by
  unfold C.add C.O
  have e1 : (1 : Fin n) + c.D * 0 * P.x * 1 * P.y = 1 := by grind
  have e2 : (1 : Fin n) - c.D * 0 * P.x * 1 * P.y = 1 := by grind
  simp only [e1, e2]
  rw [inv_one]
  refine Pt.ext' ?_ ?_ <;> simp only <;> grind
theorem C.on_neg (c : C n) {P : Pt n} (hP : c.on P) : c.on (c.neg P) := by
  unfold C.on C.neg at *; simp only; grind
theorem C.neg_add (c : C n) {P : Pt n} (hP : c.on P) : c.add (c.neg P) P = c.O := by
  have hN := c.on_neg hP
  have a1 := c.sx hN hP; have a2 := c.sy hN hP
  have h1 := c.d1 hN hP; have h2 := c.d2 hN hP
  refine Pt.ext' (c.cancel h1 (a1.trans ?_)) (c.cancel h2 (a2.trans ?_))
  · clear a1 a2 h1 h2 hN hP
    unfold C.neg C.O; simp only
    grind
  · clear a1 a2 h1 h2 hN
    unfold C.on at hP
    unfold C.neg C.O; simp only
    obtain ⟨x, y⟩ := P
    simp only at *
    generalize c.D = D at *
    grind
theorem C.fin (c : C n) {X Y a b A B : Fin n} (h1 : X * a = A) (h2 : Y * b = B) (h : b * A = a * B) (ha : a ≠ 0) (hb : b ≠ 0) : X = Y := c.cancel (c.mul_ne ha hb) (by subst h1 h2; grind)
theorem glue1 (X q u v x y D : Fin n) (h : X * (1 + D * u * x * v * y) = u * y + v * x) : X * ((1 - q * q) + D * (u * (1 + q)) * (v * (1 - q)) * x * y) = u * (1 + q) * (1 - q) * y + v * (1 - q) * (1 + q) * x := by grind
theorem glue2 (X q u v x y D : Fin n) (h : X * (1 + D * x * u * y * v) = x * v + y * u) : X * ((1 - q * q) + D * (u * (1 + q)) * (v * (1 - q)) * x * y) = x * (v * (1 - q)) * (1 + q) + y * (u * (1 + q)) * (1 - q) := by grind
theorem glue3 (X q u v x y D : Fin n) (h : X * (1 - D * u * x * v * y) = v * y + u * x) : X * ((1 - q * q) - D * (u * (1 + q)) * (v * (1 - q)) * x * y) = v * (1 - q) * (1 + q) * y + u * (1 + q) * (1 - q) * x := by grind
theorem glue4 (X q u v x y D : Fin n) (h : X * (1 - D * x * u * y * v) = y * v + x * u) : X * ((1 - q * q) - D * (u * (1 + q)) * (v * (1 - q)) * x * y) = y * (v * (1 - q)) * (1 + q) + x * (u * (1 + q)) * (1 - q) := by grind
theorem glue5 (q u v x y D : Fin n) : ((1 - q * q) + D * (u * (1 + q)) * (v * (1 - q)) * x * y) = ((1 + q) * (1 - q)) * (1 + D * u * x * v * y) := by grind
theorem glue6 (q u v x y D : Fin n) : ((1 - q * q) + D * (u * (1 + q)) * (v * (1 - q)) * x * y) = ((1 + q) * (1 - q)) * (1 + D * x * u * y * v) := by grind
theorem glue7 (q u v x y D : Fin n) : ((1 - q * q) - D * (u * (1 + q)) * (v * (1 - q)) * x * y) = ((1 + q) * (1 - q)) * (1 - D * u * x * v * y) := by grind
theorem glue8 (q u v x y D : Fin n) : ((1 - q * q) - D * (u * (1 + q)) * (v * (1 - q)) * x * y) = ((1 + q) * (1 - q)) * (1 - D * x * u * y * v) := by grind
/-- The sum hangs on no order. -/
theorem C.assoc (c : C n) {P Q R : Pt n} (hP : c.on P) (hQ : c.on Q) (hR : c.on R) : c.add (c.add P Q) R = c.add P (c.add Q R) := by
  have a1 := c.sx hP hQ; have a2 := c.sy hP hQ
  have b1 := c.sx hQ hR; have b2 := c.sy hQ hR
  have hA := c.on_add hP hQ; have hB := c.on_add hQ hR
  have c1 := c.sx hA hR; have c2 := c.sy hA hR
  have d1 := c.sx hP hB; have d2 := c.sy hP hB
  have p1 := c.d1 hP hQ; have p2 := c.d2 hP hQ
  have q1 := c.d1 hQ hR; have q2 := c.d2 hQ hR
  have r1 := c.d1 hA hR; have r2 := c.d2 hA hR
  have s1 := c.d1 hP hB; have s2 := c.d2 hP hB
  refine Pt.ext' ?_ ?_
  · generalize (c.add (c.add P Q) R).x = XL at *
    generalize (c.add P (c.add Q R)).x = XR at *
    clear c2 d2 r2 s2
    generalize (c.add P Q).x = u at *
    generalize (c.add P Q).y = v at *
    generalize (c.add Q R).x = u' at *
    generalize (c.add Q R).y = v' at *
    unfold C.on at hP hQ hR
    obtain ⟨x1, y1⟩ := P
    obtain ⟨x2, y2⟩ := Q
    obtain ⟨x3, y3⟩ := R
    simp only at *
    clear hA hB
    have l1 : XL * ((1 - (c.D*x1*x2*y1*y2)*(c.D*x1*x2*y1*y2)) + c.D*(x1*y2+y1*x2)*(y1*y2+x1*x2)*x3*y3) = (x1*y2+y1*x2)*(1-c.D*x1*x2*y1*y2)*y3+(y1*y2+x1*x2)*(1+c.D*x1*x2*y1*y2)*x3 := by
      rw [← a1, ← a2]
      exact glue1 _ _ _ _ _ _ _ c1
    have l2 : XR * ((1 - (c.D*x2*x3*y2*y3)*(c.D*x2*x3*y2*y3)) + c.D*(x2*y3+y2*x3)*(y2*y3+x2*x3)*x1*y1) = x1*(y2*y3+x2*x3)*(1+c.D*x2*x3*y2*y3)+y1*(x2*y3+y2*x3)*(1-c.D*x2*x3*y2*y3) := by
      rw [← b1, ← b2]
      exact glue2 _ _ _ _ _ _ _ d1
    have n1 : ((1 - (c.D*x1*x2*y1*y2)*(c.D*x1*x2*y1*y2)) + c.D*(x1*y2+y1*x2)*(y1*y2+x1*x2)*x3*y3) ≠ 0 := by
      have : ((1 - (c.D*x1*x2*y1*y2)*(c.D*x1*x2*y1*y2)) + c.D*(x1*y2+y1*x2)*(y1*y2+x1*x2)*x3*y3) = ((1 + c.D*x1*x2*y1*y2) * (1 - c.D*x1*x2*y1*y2)) * (1 + c.D * u * x3 * v * y3) := by rw [← a1, ← a2]; exact glue5 _ _ _ _ _ _
      rw [this]
      exact c.mul_ne (c.mul_ne p1 p2) r1
    have n2 : ((1 - (c.D*x2*x3*y2*y3)*(c.D*x2*x3*y2*y3)) + c.D*(x2*y3+y2*x3)*(y2*y3+x2*x3)*x1*y1) ≠ 0 := by
      have : ((1 - (c.D*x2*x3*y2*y3)*(c.D*x2*x3*y2*y3)) + c.D*(x2*y3+y2*x3)*(y2*y3+x2*x3)*x1*y1) = ((1 + c.D*x2*x3*y2*y3) * (1 - c.D*x2*x3*y2*y3)) * (1 + c.D * x1 * u' * y1 * v') := by rw [← b1, ← b2]; exact glue6 _ _ _ _ _ _
      rw [this]
      exact c.mul_ne (c.mul_ne q1 q2) s1
    have key := assoc_x x1 y1 x2 y2 x3 y3 c.D hP hQ hR
    exact c.fin l1 l2 key n1 n2
  · generalize (c.add (c.add P Q) R).y = XL at *
    generalize (c.add P (c.add Q R)).y = XR at *
    clear c1 d1 r1 s1
    generalize (c.add P Q).x = u at *
    generalize (c.add P Q).y = v at *
    generalize (c.add Q R).x = u' at *
    generalize (c.add Q R).y = v' at *
    unfold C.on at hP hQ hR
    obtain ⟨x1, y1⟩ := P
    obtain ⟨x2, y2⟩ := Q
    obtain ⟨x3, y3⟩ := R
    simp only at *
    clear hA hB
    have l1 : XL * ((1 - (c.D*x1*x2*y1*y2)*(c.D*x1*x2*y1*y2)) - c.D*(x1*y2+y1*x2)*(y1*y2+x1*x2)*x3*y3) = (y1*y2+x1*x2)*(1+c.D*x1*x2*y1*y2)*y3+(x1*y2+y1*x2)*(1-c.D*x1*x2*y1*y2)*x3 := by
      rw [← a1, ← a2]
      exact glue3 _ _ _ _ _ _ _ c2
    have l2 : XR * ((1 - (c.D*x2*x3*y2*y3)*(c.D*x2*x3*y2*y3)) - c.D*(x2*y3+y2*x3)*(y2*y3+x2*x3)*x1*y1) = y1*(y2*y3+x2*x3)*(1+c.D*x2*x3*y2*y3)+x1*(x2*y3+y2*x3)*(1-c.D*x2*x3*y2*y3) := by
      rw [← b1, ← b2]
      exact glue4 _ _ _ _ _ _ _ d2
    have n1 : ((1 - (c.D*x1*x2*y1*y2)*(c.D*x1*x2*y1*y2)) - c.D*(x1*y2+y1*x2)*(y1*y2+x1*x2)*x3*y3) ≠ 0 := by
      have : ((1 - (c.D*x1*x2*y1*y2)*(c.D*x1*x2*y1*y2)) - c.D*(x1*y2+y1*x2)*(y1*y2+x1*x2)*x3*y3) = ((1 + c.D*x1*x2*y1*y2) * (1 - c.D*x1*x2*y1*y2)) * (1 - c.D * u * x3 * v * y3) := by rw [← a1, ← a2]; exact glue7 _ _ _ _ _ _
      rw [this]
      exact c.mul_ne (c.mul_ne p1 p2) r2
    have n2 : ((1 - (c.D*x2*x3*y2*y3)*(c.D*x2*x3*y2*y3)) - c.D*(x2*y3+y2*x3)*(y2*y3+x2*x3)*x1*y1) ≠ 0 := by
      have : ((1 - (c.D*x2*x3*y2*y3)*(c.D*x2*x3*y2*y3)) - c.D*(x2*y3+y2*x3)*(y2*y3+x2*x3)*x1*y1) = ((1 + c.D*x2*x3*y2*y3) * (1 - c.D*x2*x3*y2*y3)) * (1 - c.D * x1 * u' * y1 * v') := by rw [← b1, ← b2]; exact glue8 _ _ _ _ _ _
      rw [this]
      exact c.mul_ne (c.mul_ne q1 q2) s2
    have key := assoc_y x1 y1 x2 y2 x3 y3 c.D hP hQ hR
    exact c.fin l1 l2 key n1 n2
end
section
variable {n : Nat} [NeZero n]
/-- So many times a point. -/
def C.mul (c : C n) : Nat → Pt n → Pt n
  | 0, _ => c.O
  | k + 1, P => c.add (c.mul k P) P
theorem C.on_mul (c : C n) {P : Pt n} (hP : c.on P) : ∀ k, c.on (c.mul k P)
  | 0 => c.on_O
  | k + 1 => c.on_add (c.on_mul hP k) hP
theorem C.add_O (c : C n) (P : Pt n) : c.add P c.O = P := by rw [c.comm]; exact c.O_add P
theorem C.mul_one (c : C n) (P : Pt n) : c.mul 1 P = P := c.O_add P
theorem C.add_mul (c : C n) {P : Pt n} (hP : c.on P) (a : Nat) : ∀ b, c.mul (a + b) P = c.add (c.mul a P) (c.mul b P)
  | 0 => (c.add_O _).symm
  | b + 1 => by
    show c.add (c.mul (a + b) P) P = _
    rw [c.add_mul hP a b, c.assoc (c.on_mul hP a) (c.on_mul hP b) hP]
    rfl
theorem C.mul_O (c : C n) : ∀ k, c.mul k c.O = c.O
  | 0 => rfl
  | k + 1 => by show c.add (c.mul k c.O) c.O = _; rw [c.mul_O k]; exact c.O_add _
theorem C.mul_mul (c : C n) {P : Pt n} (hP : c.on P) (b : Nat) : ∀ a, c.mul a (c.mul b P) = c.mul (a * b) P
  | 0 => by rw [Nat.zero_mul]; rfl
  | a + 1 => by
    show c.add (c.mul a (c.mul b P)) (c.mul b P) = _
    rw [c.mul_mul hP b a, Nat.succ_mul, c.add_mul hP]
/-- What is added is taken away again. -/
theorem C.back (c : C n) {P Q : Pt n} (hP : c.on P) (hQ : c.on Q) : c.add (c.add P Q) (c.neg P) = Q := by
  rw [c.comm P Q, c.assoc hQ hP (c.on_neg hP), c.comm P, c.neg_add hP, c.add_O]
end
end Go.Ed
