/- The curve -x^2 + y^2 = 1 + D x^2 y^2 over the numbers modulo a prime, D not a square: its sums are a group; twice a point and a sum of two by their u alone. Own work. -/

set_option linter.unusedSimpArgs false
set_option linter.unusedVariables false
set_option linter.unusedSectionVars false
namespace Go.Ed
/-- What is used of the numbers modulo a prime: inverses, a root of -1, 2 is not nothing. -/
structure K (n : Nat) [NeZero n] where
  inv : Fin n → Fin n
  hinv : ∀ a, a ≠ 0 → a * inv a = 1
  i : Fin n
  hi : i * i = -1
  two : (2 : Fin n) ≠ 0
structure C (n : Nat) [NeZero n] extends K n where
  D : Fin n
  nsq : ∀ z, z * z ≠ D
  D1 : 1 + D ≠ 0
set_option linter.unusedSectionVars false
section
variable {n : Nat} [NeZero n]
theorem K.mul_ne (k : K n) {a b : Fin n} (ha : a ≠ 0) (hb : b ≠ 0) : a * b ≠ 0 := fun h => by
  have := k.hinv a ha
  have : b = 0 := by grind
  exact hb this
theorem K.zero_of (k : K n) {a b : Fin n} (h : a * b = 0) : a = 0 ∨ b = 0 := by
  by_cases ha : a = 0
  · exact .inl ha
  · by_cases hb : b = 0
    · exact .inr hb
    · exact absurd h (k.mul_ne ha hb)
theorem K.cancel (k : K n) {a b c : Fin n} (hc : c ≠ 0) (h : a * c = b * c) : a = b := by
  have := k.hinv c hc
  grind
structure Pt (n : Nat) where
  x : Fin n
  y : Fin n
theorem Pt.ext' {P Q : Pt n} (hx : P.x = Q.x) (hy : P.y = Q.y) : P = Q := by cases P; cases Q; simp_all
def C.on (c : C n) (P : Pt n) : Prop := P.y * P.y = P.x * P.x + 1 + c.D * P.x * P.x * P.y * P.y
def C.add (c : C n) (P Q : Pt n) : Pt n := ⟨(P.x * Q.y + P.y * Q.x) * c.inv (1 + c.D * P.x * Q.x * P.y * Q.y), (P.y * Q.y + P.x * Q.x) * c.inv (1 - c.D * P.x * Q.x * P.y * Q.y)⟩
def C.neg (_ : C n) (P : Pt n) : Pt n := ⟨-P.x, P.y⟩
def C.O (_ : C n) : Pt n := ⟨0, 1⟩
/-- No denominator is nothing. -/
theorem C.ne1 (c : C n) {P Q : Pt n} (hP : c.on P) (hQ : c.on Q) (e : Fin n) (he : e * e = 1) : c.D * P.x * Q.x * P.y * Q.y ≠ e := fun h => by
  obtain ⟨x1, y1⟩ := P
  obtain ⟨x2, y2⟩ := Q
  unfold C.on at hP hQ
  simp only at hP hQ h
  have hi := c.hi
  have two := c.two
  -- (i x1 + s y1)^2 = D (i-part)^2
  have k1 : (c.i * x1 + e * y1) * (c.i * x1 + e * y1) = c.D * (x1 * y1 * (c.i * x2 + y2)) * (x1 * y1 * (c.i * x2 + y2)) := by grind
  have k2 : (c.i * x1 - e * y1) * (c.i * x1 - e * y1) = c.D * (x1 * y1 * (c.i * x2 - y2)) * (x1 * y1 * (c.i * x2 - y2)) := by grind
  have sq : ∀ A B : Fin n, A * A = c.D * B * B → B = 0 := fun A B hAB => by
    by_cases hB : B = 0
    · exact hB
    · have := c.hinv B hB
      exact absurd (show (A * c.inv B) * (A * c.inv B) = c.D by grind) (c.nsq _)
  have z1 := sq _ _ k1
  have z2 := sq _ _ k2
  have z3 : (2 * c.i) * (x1 * y1 * x2) = 0 := by grind
  have z4 : 2 * (x1 * y1 * y2) = 0 := by grind
  have z5 : x1 * y1 * y2 = 0 := (c.zero_of z4).resolve_left two
  have : e = 0 := by grind
  have : (1 : Fin n) = 0 := by grind
  grind
end
theorem assoc_x {n : Nat} [NeZero n] (x1 y1 x2 y2 x3 y3 D : Fin n) (e1 : y1*y1 = x1*x1 + 1 + D*x1*x1*y1*y1) (e2 : y2*y2 = x2*x2 + 1 + D*x2*x2*y2*y2) (e3 : y3*y3 = x3*x3 + 1 + D*x3*x3*y3*y3) : ((1 - (D*x2*x3*y2*y3)*(D*x2*x3*y2*y3)) + D*(x2*y3+y2*x3)*(y2*y3+x2*x3)*x1*y1) * ((x1*y2+y1*x2)*(1-D*x1*x2*y1*y2)*y3+(y1*y2+x1*x2)*(1+D*x1*x2*y1*y2)*x3) = ((1 - (D*x1*x2*y1*y2)*(D*x1*x2*y1*y2)) + D*(x1*y2+y1*x2)*(y1*y2+x1*x2)*x3*y3) * (x1*(y2*y3+x2*x3)*(1+D*x2*x3*y2*y3)+y1*(x2*y3+y2*x3)*(1-D*x2*x3*y2*y3)) := by grind
theorem assoc_y {n : Nat} [NeZero n] (x1 y1 x2 y2 x3 y3 D : Fin n) (e1 : y1*y1 = x1*x1 + 1 + D*x1*x1*y1*y1) (e2 : y2*y2 = x2*x2 + 1 + D*x2*x2*y2*y2) (e3 : y3*y3 = x3*x3 + 1 + D*x3*x3*y3*y3) : ((1 - (D*x2*x3*y2*y3)*(D*x2*x3*y2*y3)) - D*(x2*y3+y2*x3)*(y2*y3+x2*x3)*x1*y1) * ((y1*y2+x1*x2)*(1+D*x1*x2*y1*y2)*y3+(x1*y2+y1*x2)*(1-D*x1*x2*y1*y2)*x3) = ((1 - (D*x1*x2*y1*y2)*(D*x1*x2*y1*y2)) - D*(x1*y2+y1*x2)*(y1*y2+x1*x2)*x3*y3) * (y1*(y2*y3+x2*x3)*(1+D*x2*x3*y2*y3)+x1*(x2*y3+y2*x3)*(1-D*x2*x3*y2*y3)) := by grind
section
variable {n : Nat} [NeZero n]
theorem C.d1 (c : C n) {P Q : Pt n} (hP : c.on P) (hQ : c.on Q) : 1 + c.D * P.x * Q.x * P.y * Q.y ≠ 0 := fun h => c.ne1 hP hQ (-1) (by grind) (by grind)
theorem C.d2 (c : C n) {P Q : Pt n} (hP : c.on P) (hQ : c.on Q) : 1 - c.D * P.x * Q.x * P.y * Q.y ≠ 0 := fun h => c.ne1 hP hQ 1 (by grind) (by grind)
/-- What a sum's coordinates are, without division. -/
theorem C.sx (c : C n) {P Q : Pt n} (hP : c.on P) (hQ : c.on Q) : (c.add P Q).x * (1 + c.D * P.x * Q.x * P.y * Q.y) = P.x * Q.y + P.y * Q.x := by
  have := c.hinv _ (c.d1 hP hQ)
  show (P.x * Q.y + P.y * Q.x) * c.inv (1 + c.D * P.x * Q.x * P.y * Q.y) * (1 + c.D * P.x * Q.x * P.y * Q.y) = _
  grind
theorem C.sy (c : C n) {P Q : Pt n} (hP : c.on P) (hQ : c.on Q) : (c.add P Q).y * (1 - c.D * P.x * Q.x * P.y * Q.y) = P.y * Q.y + P.x * Q.x := by
  have := c.hinv _ (c.d2 hP hQ)
  show (P.y * Q.y + P.x * Q.x) * c.inv (1 - c.D * P.x * Q.x * P.y * Q.y) * (1 - c.D * P.x * Q.x * P.y * Q.y) = _
  grind
theorem C.on_add (c : C n) {P Q : Pt n} (hP : c.on P) (hQ : c.on Q) : c.on (c.add P Q) := by
  have a1 := c.sx hP hQ; have a2 := c.sy hP hQ
  have h1 := c.d1 hP hQ; have h2 := c.d2 hP hQ
  unfold C.on at hP hQ ⊢
  generalize (c.add P Q).x = X at *
  generalize (c.add P Q).y = Y at *
  obtain ⟨x1, y1⟩ := P
  obtain ⟨x2, y2⟩ := Q
  simp only at *
  generalize hq : c.D * x1 * x2 * y1 * y2 = q at *
  have h3 : ((1 + q) * (1 + q)) * ((1 - q) * (1 - q)) ≠ 0 := c.mul_ne (c.mul_ne h1 h1) (c.mul_ne h2 h2)
  refine c.cancel h3 ?_
  have e1 : Y * Y * (((1 + q) * (1 + q)) * ((1 - q) * (1 - q))) = (y1 * y2 + x1 * x2) * (y1 * y2 + x1 * x2) * ((1 + q) * (1 + q)) := by rw [← a2]; grind
  have e2 : (X * X + 1 + c.D * X * X * Y * Y) * (((1 + q) * (1 + q)) * ((1 - q) * (1 - q))) = (x1 * y2 + y1 * x2) * (x1 * y2 + y1 * x2) * ((1 - q) * (1 - q)) + ((1 + q) * (1 + q)) * ((1 - q) * (1 - q)) + c.D * ((x1 * y2 + y1 * x2) * (x1 * y2 + y1 * x2)) * ((y1 * y2 + x1 * x2) * (y1 * y2 + x1 * x2)) := by rw [← a1, ← a2]; grind
  rw [e1, e2, ← hq]
  clear a1 a2 e1 e2 h3 h1 h2 hq
  grind
theorem C.comm (c : C n) (P Q : Pt n) : c.add P Q = c.add Q P := by
  unfold C.add
  have e1 : P.x * Q.y + P.y * Q.x = Q.x * P.y + Q.y * P.x := by grind
  have e2 : P.y * Q.y + P.x * Q.x = Q.y * P.y + Q.x * P.x := by grind
  have e3 : c.D * P.x * Q.x * P.y * Q.y = c.D * Q.x * P.x * Q.y * P.y := by grind
  rw [e1, e2, e3]
theorem inv_one (k : K n) : k.inv 1 = 1 := by
  have h : (1 : Fin n) ≠ 0 := fun h => k.two (by grind)
  have := k.hinv 1 h
  grind
theorem C.on_O (c : C n) : c.on c.O := by unfold C.on C.O; grind
theorem C.O_add (c : C n) (P : Pt n) : c.add c.O P = P := by
  unfold C.add C.O
  have e1 : (1 : Fin n) + c.D * 0 * P.x * 1 * P.y = 1 := by grind
  have e2 : (1 : Fin n) - c.D * 0 * P.x * 1 * P.y = 1 := by grind
  simp only [e1, e2]
  rw [inv_one]
  refine Pt.ext' ?_ ?_ <;> simp only <;> grind
theorem C.on_neg (c : C n) {P : Pt n} (hP : c.on P) : c.on (c.neg P) := by
  unfold C.on C.neg at *; simp only; grind
theorem C.neg_add (c : C n) {P : Pt n} (hP : c.on P) : c.add (c.neg P) P = c.O := by
  have hN := c.on_neg hP
  have a1 := c.sx hN hP; have a2 := c.sy hN hP
  have h1 := c.d1 hN hP; have h2 := c.d2 hN hP
  refine Pt.ext' (c.cancel h1 (a1.trans ?_)) (c.cancel h2 (a2.trans ?_))
  · clear a1 a2 h1 h2 hN hP
    unfold C.neg C.O; simp only
    grind
  · clear a1 a2 h1 h2 hN
    unfold C.on at hP
    unfold C.neg C.O; simp only
    obtain ⟨x, y⟩ := P
    simp only at *
    generalize c.D = D at *
    grind
theorem C.fin (c : C n) {X Y a b A B : Fin n} (h1 : X * a = A) (h2 : Y * b = B) (h : b * A = a * B) (ha : a ≠ 0) (hb : b ≠ 0) : X = Y := c.cancel (c.mul_ne ha hb) (by subst h1 h2; grind)
theorem glue1 (X q u v x y D : Fin n) (h : X * (1 + D * u * x * v * y) = u * y + v * x) : X * ((1 - q * q) + D * (u * (1 + q)) * (v * (1 - q)) * x * y) = u * (1 + q) * (1 - q) * y + v * (1 - q) * (1 + q) * x := by grind
theorem glue2 (X q u v x y D : Fin n) (h : X * (1 + D * x * u * y * v) = x * v + y * u) : X * ((1 - q * q) + D * (u * (1 + q)) * (v * (1 - q)) * x * y) = x * (v * (1 - q)) * (1 + q) + y * (u * (1 + q)) * (1 - q) := by grind
theorem glue3 (X q u v x y D : Fin n) (h : X * (1 - D * u * x * v * y) = v * y + u * x) : X * ((1 - q * q) - D * (u * (1 + q)) * (v * (1 - q)) * x * y) = v * (1 - q) * (1 + q) * y + u * (1 + q) * (1 - q) * x := by grind
theorem glue4 (X q u v x y D : Fin n) (h : X * (1 - D * x * u * y * v) = y * v + x * u) : X * ((1 - q * q) - D * (u * (1 + q)) * (v * (1 - q)) * x * y) = y * (v * (1 - q)) * (1 + q) + x * (u * (1 + q)) * (1 - q) := by grind
theorem glue5 (q u v x y D : Fin n) : ((1 - q * q) + D * (u * (1 + q)) * (v * (1 - q)) * x * y) = ((1 + q) * (1 - q)) * (1 + D * u * x * v * y) := by grind
theorem glue6 (q u v x y D : Fin n) : ((1 - q * q) + D * (u * (1 + q)) * (v * (1 - q)) * x * y) = ((1 + q) * (1 - q)) * (1 + D * x * u * y * v) := by grind
theorem glue7 (q u v x y D : Fin n) : ((1 - q * q) - D * (u * (1 + q)) * (v * (1 - q)) * x * y) = ((1 + q) * (1 - q)) * (1 - D * u * x * v * y) := by grind
theorem glue8 (q u v x y D : Fin n) : ((1 - q * q) - D * (u * (1 + q)) * (v * (1 - q)) * x * y) = ((1 + q) * (1 - q)) * (1 - D * x * u * y * v) := by grind
/-- The sum hangs on no order. -/
theorem C.assoc (c : C n) {P Q R : Pt n} (hP : c.on P) (hQ : c.on Q) (hR : c.on R) : c.add (c.add P Q) R = c.add P (c.add Q R) := by
  have a1 := c.sx hP hQ; have a2 := c.sy hP hQ
  have b1 := c.sx hQ hR; have b2 := c.sy hQ hR
  have hA := c.on_add hP hQ; have hB := c.on_add hQ hR
  have c1 := c.sx hA hR; have c2 := c.sy hA hR
  have d1 := c.sx hP hB; have d2 := c.sy hP hB
  have p1 := c.d1 hP hQ; have p2 := c.d2 hP hQ
  have q1 := c.d1 hQ hR; have q2 := c.d2 hQ hR
  have r1 := c.d1 hA hR; have r2 := c.d2 hA hR
  have s1 := c.d1 hP hB; have s2 := c.d2 hP hB
  refine Pt.ext' ?_ ?_
  · generalize (c.add (c.add P Q) R).x = XL at *
    generalize (c.add P (c.add Q R)).x = XR at *
    clear c2 d2 r2 s2
    generalize (c.add P Q).x = u at *
    generalize (c.add P Q).y = v at *
    generalize (c.add Q R).x = u' at *
    generalize (c.add Q R).y = v' at *
    unfold C.on at hP hQ hR
    obtain ⟨x1, y1⟩ := P
    obtain ⟨x2, y2⟩ := Q
    obtain ⟨x3, y3⟩ := R
    simp only at *
    clear hA hB
    have l1 : XL * ((1 - (c.D*x1*x2*y1*y2)*(c.D*x1*x2*y1*y2)) + c.D*(x1*y2+y1*x2)*(y1*y2+x1*x2)*x3*y3) = (x1*y2+y1*x2)*(1-c.D*x1*x2*y1*y2)*y3+(y1*y2+x1*x2)*(1+c.D*x1*x2*y1*y2)*x3 := by
      rw [← a1, ← a2]
      exact glue1 _ _ _ _ _ _ _ c1
    have l2 : XR * ((1 - (c.D*x2*x3*y2*y3)*(c.D*x2*x3*y2*y3)) + c.D*(x2*y3+y2*x3)*(y2*y3+x2*x3)*x1*y1) = x1*(y2*y3+x2*x3)*(1+c.D*x2*x3*y2*y3)+y1*(x2*y3+y2*x3)*(1-c.D*x2*x3*y2*y3) := by
      rw [← b1, ← b2]
      exact glue2 _ _ _ _ _ _ _ d1
    have n1 : ((1 - (c.D*x1*x2*y1*y2)*(c.D*x1*x2*y1*y2)) + c.D*(x1*y2+y1*x2)*(y1*y2+x1*x2)*x3*y3) ≠ 0 := by
      have : ((1 - (c.D*x1*x2*y1*y2)*(c.D*x1*x2*y1*y2)) + c.D*(x1*y2+y1*x2)*(y1*y2+x1*x2)*x3*y3) = ((1 + c.D*x1*x2*y1*y2) * (1 - c.D*x1*x2*y1*y2)) * (1 + c.D * u * x3 * v * y3) := by rw [← a1, ← a2]; exact glue5 _ _ _ _ _ _
      rw [this]
      exact c.mul_ne (c.mul_ne p1 p2) r1
    have n2 : ((1 - (c.D*x2*x3*y2*y3)*(c.D*x2*x3*y2*y3)) + c.D*(x2*y3+y2*x3)*(y2*y3+x2*x3)*x1*y1) ≠ 0 := by
      have : ((1 - (c.D*x2*x3*y2*y3)*(c.D*x2*x3*y2*y3)) + c.D*(x2*y3+y2*x3)*(y2*y3+x2*x3)*x1*y1) = ((1 + c.D*x2*x3*y2*y3) * (1 - c.D*x2*x3*y2*y3)) * (1 + c.D * x1 * u' * y1 * v') := by rw [← b1, ← b2]; exact glue6 _ _ _ _ _ _
      rw [this]
      exact c.mul_ne (c.mul_ne q1 q2) s1
    have key := assoc_x x1 y1 x2 y2 x3 y3 c.D hP hQ hR
    exact c.fin l1 l2 key n1 n2
  · generalize (c.add (c.add P Q) R).y = XL at *
    generalize (c.add P (c.add Q R)).y = XR at *
    clear c1 d1 r1 s1
    generalize (c.add P Q).x = u at *
    generalize (c.add P Q).y = v at *
    generalize (c.add Q R).x = u' at *
    generalize (c.add Q R).y = v' at *
    unfold C.on at hP hQ hR
    obtain ⟨x1, y1⟩ := P
    obtain ⟨x2, y2⟩ := Q
    obtain ⟨x3, y3⟩ := R
    simp only at *
    clear hA hB
    have l1 : XL * ((1 - (c.D*x1*x2*y1*y2)*(c.D*x1*x2*y1*y2)) - c.D*(x1*y2+y1*x2)*(y1*y2+x1*x2)*x3*y3) = (y1*y2+x1*x2)*(1+c.D*x1*x2*y1*y2)*y3+(x1*y2+y1*x2)*(1-c.D*x1*x2*y1*y2)*x3 := by
      rw [← a1, ← a2]
      exact glue3 _ _ _ _ _ _ _ c2
    have l2 : XR * ((1 - (c.D*x2*x3*y2*y3)*(c.D*x2*x3*y2*y3)) - c.D*(x2*y3+y2*x3)*(y2*y3+x2*x3)*x1*y1) = y1*(y2*y3+x2*x3)*(1+c.D*x2*x3*y2*y3)+x1*(x2*y3+y2*x3)*(1-c.D*x2*x3*y2*y3) := by
      rw [← b1, ← b2]
      exact glue4 _ _ _ _ _ _ _ d2
    have n1 : ((1 - (c.D*x1*x2*y1*y2)*(c.D*x1*x2*y1*y2)) - c.D*(x1*y2+y1*x2)*(y1*y2+x1*x2)*x3*y3) ≠ 0 := by
      have : ((1 - (c.D*x1*x2*y1*y2)*(c.D*x1*x2*y1*y2)) - c.D*(x1*y2+y1*x2)*(y1*y2+x1*x2)*x3*y3) = ((1 + c.D*x1*x2*y1*y2) * (1 - c.D*x1*x2*y1*y2)) * (1 - c.D * u * x3 * v * y3) := by rw [← a1, ← a2]; exact glue7 _ _ _ _ _ _
      rw [this]
      exact c.mul_ne (c.mul_ne p1 p2) r2
    have n2 : ((1 - (c.D*x2*x3*y2*y3)*(c.D*x2*x3*y2*y3)) - c.D*(x2*y3+y2*x3)*(y2*y3+x2*x3)*x1*y1) ≠ 0 := by
      have : ((1 - (c.D*x2*x3*y2*y3)*(c.D*x2*x3*y2*y3)) - c.D*(x2*y3+y2*x3)*(y2*y3+x2*x3)*x1*y1) = ((1 + c.D*x2*x3*y2*y3) * (1 - c.D*x2*x3*y2*y3)) * (1 - c.D * x1 * u' * y1 * v') := by rw [← b1, ← b2]; exact glue8 _ _ _ _ _ _
      rw [this]
      exact c.mul_ne (c.mul_ne q1 q2) s2
    have key := assoc_y x1 y1 x2 y2 x3 y3 c.D hP hQ hR
    exact c.fin l1 l2 key n1 n2
end
theorem dif_key {n : Nat} [NeZero n] (x1 y1 x2 y2 D : Fin n) (e1 : y1*y1 = x1*x1 + 1 + D*x1*x1*y1*y1) (e2 : y2*y2 = x2*x2 + 1 + D*x2*x2*y2*y2) : ((1 - D*x1*x2*y1*y2) + (y1*y2+x1*x2)) * ((1 + D*x1*x2*y1*y2) + (y1*y2-x1*x2)) * ((y1-y2)*(y1-y2)) = ((1 - D*x1*x2*y1*y2) - (y1*y2+x1*x2)) * ((1 + D*x1*x2*y1*y2) - (y1*y2-x1*x2)) * ((y1+y2)*(y1+y2)) := by grind
section
variable {n : Nat} [NeZero n]
theorem nid1 (a D x1 x2 y1 y2 : Fin n) : a * (1 + D * x1 * x2 * y1 * y2) = a * (1 - D * x2 * -x1 * y2 * y1) := by grind
theorem nid2 (x1 x2 y1 y2 : Fin n) : y2 * y1 + x2 * -x1 = y1 * y2 - x1 * x2 := by grind
theorem nid3 (D x1 x2 y1 y2 : Fin n) : 1 + D * x1 * x2 * y1 * y2 = 1 - D * x2 * -x1 * y2 * y1 := by grind
theorem eXl (l1 l2 y1 y2 e : Fin n) (he : e * e = 1) : (l1 * (1 + y1) * (l2 * (1 + y2)) - l1 * (e * (1 - y1)) * (l2 * (e * (1 - y2)))) * (l1 * (1 + y1) * (l2 * (1 + y2)) - l1 * (e * (1 - y1)) * (l2 * (e * (1 - y2)))) = (l1 * l2 * (l1 * l2) * 4) * ((y1 + y2) * (y1 + y2)) := by
  have : l1 * (1 + y1) * (l2 * (1 + y2)) - l1 * (e * (1 - y1)) * (l2 * (e * (1 - y2))) = 2 * (l1 * l2) * (y1 + y2) := by grind
  rw [this]
  grind
theorem eZl (l1 l2 y1 y2 e u : Fin n) (he : e * e = 1) : u * ((l1 * (1 + y1) * (l2 * (e * (1 - y2))) - l1 * (e * (1 - y1)) * (l2 * (1 + y2))) * (l1 * (1 + y1) * (l2 * (e * (1 - y2))) - l1 * (e * (1 - y1)) * (l2 * (1 + y2)))) = (l1 * l2 * (l1 * l2) * 4) * (u * ((y1 - y2) * (y1 - y2))) := by
  have : l1 * (1 + y1) * (l2 * (e * (1 - y2))) - l1 * (e * (1 - y1)) * (l2 * (1 + y2)) = 2 * (l1 * l2) * e * (y1 - y2) := by grind
  rw [this]
  grind
theorem k3l (y0 y1 y2 y3 e : Fin n) : (y1 + y2) * (y1 + y2) * (e * (1 - y3)) * (1 - y0) = e * ((1 - y3) * (1 - y0) * ((y1 + y2) * (y1 + y2))) := by grind
theorem k4l (y0 y1 y2 y3 e u : Fin n) (he : e * e = 1) : u * ((y1 - y2) * (y1 - y2)) * (1 + y3) * (1 - y0) = e * (u * (e * (1 - y0))) * (1 + y3) * ((y1 - y2) * (y1 - y2)) := by grind
theorem k5l (y0 y1 y2 y3 e : Fin n) : e * ((1 + y3) * (1 + y0) * ((y1 - y2) * (y1 - y2))) = e * (1 + y0) * (1 + y3) * ((y1 - y2) * (y1 - y2)) := by grind
/-- So many times a point. -/
def C.mul (c : C n) : Nat → Pt n → Pt n
  | 0, _ => c.O
  | k + 1, P => c.add (c.mul k P) P
theorem C.on_mul (c : C n) {P : Pt n} (hP : c.on P) : ∀ k, c.on (c.mul k P)
  | 0 => c.on_O
  | k + 1 => c.on_add (c.on_mul hP k) hP
theorem C.add_O (c : C n) (P : Pt n) : c.add P c.O = P := by rw [c.comm]; exact c.O_add P
theorem C.mul_one (c : C n) (P : Pt n) : c.mul 1 P = P := c.O_add P
theorem C.add_mul (c : C n) {P : Pt n} (hP : c.on P) (a : Nat) : ∀ b, c.mul (a + b) P = c.add (c.mul a P) (c.mul b P)
  | 0 => (c.add_O _).symm
  | b + 1 => by
    show c.add (c.mul (a + b) P) P = _
    rw [c.add_mul hP a b, c.assoc (c.on_mul hP a) (c.on_mul hP b) hP]
    rfl
theorem C.mul_O (c : C n) : ∀ k, c.mul k c.O = c.O
  | 0 => rfl
  | k + 1 => by show c.add (c.mul k c.O) c.O = _; rw [c.mul_O k]; exact c.O_add _
theorem C.mul_mul (c : C n) {P : Pt n} (hP : c.on P) (b : Nat) : ∀ a, c.mul a (c.mul b P) = c.mul (a * b) P
  | 0 => by rw [Nat.zero_mul]; rfl
  | a + 1 => by
    show c.add (c.mul a (c.mul b P)) (c.mul b P) = _
    rw [c.mul_mul hP b a, Nat.succ_mul, c.add_mul hP]
/-- What is added is taken away again. -/
theorem C.back (c : C n) {P Q : Pt n} (hP : c.on P) (hQ : c.on Q) : c.add (c.add P Q) (c.neg P) = Q := by
  rw [c.comm P Q, c.assoc hQ hP (c.on_neg hP), c.comm P, c.neg_add hP, c.add_O]
/-- A curve, its Montgomery form: u = e (1 + y) / (1 - y). -/
structure M (n : Nat) [NeZero n] extends C n where
  e : Fin n
  he : e * e = 1
  A : Fin n
  hA : A * (1 + D) = 2 * e * (1 - D)
/-- X / Z is the point's u. -/
def M.R (m : M n) (X Z : Fin n) (P : Pt n) : Prop := ∃ l, l ≠ 0 ∧ X = l * (1 + P.y) ∧ Z = l * (m.e * (1 - P.y))
theorem M.e_ne (m : M n) : m.e ≠ 0 := fun h => by
  have h1 := m.he
  rw [h] at h1
  have two := m.two
  grind
theorem M.R_of (m : M n) {X Z : Fin n} {P : Pt n} (h : X * (m.e * (1 - P.y)) = Z * (1 + P.y)) (hne : X ≠ 0 ∨ Z ≠ 0) : m.R X Z P := by
  have he := m.he
  have h2 := m.hinv 2 m.two
  refine ⟨m.inv 2 * (X + m.e * Z), fun h0 => ?_, ?_, ?_⟩
  · have h3 : X + m.e * Z = 0 := by
      have : 2 * (m.inv 2 * (X + m.e * Z)) = 0 := by rw [h0]; grind
      grind
    have h4 : 2 * Z = 0 := by grind
    have h5 : Z = 0 := (m.zero_of h4).resolve_left m.two
    have h6 : X = 0 := by rw [h5] at h3; grind
    rcases hne with h | h
    · exact h h6
    · exact h h5
  · generalize m.e = e at *
    generalize m.inv 2 = t at *
    generalize P.y = y at *
    have e1 : 2 * X = (X + e * Z) * (1 + y) := by grind
    grind
  · generalize m.e = e at *
    generalize m.inv 2 = t at *
    generalize P.y = y at *
    have e1 : 2 * Z = (X + e * Z) * (e * (1 - y)) := by grind
    grind
theorem M.R_scale (m : M n) {X Z : Fin n} {P : Pt n} {s : Fin n} (hs : s ≠ 0) (h : m.R X Z P) : m.R (s * X) (s * Z) P := by
  obtain ⟨l, hl, rfl, rfl⟩ := h
  exact ⟨s * l, m.mul_ne hs hl, by grind, by grind⟩
/-- Twice a point. -/
theorem M.dbl (m : M n) {X Z : Fin n} {P : Pt n} (hP : m.on P) (h : m.R X Z P) : m.R ((X * X - Z * Z) * (X * X - Z * Z)) (4 * (X * Z) * (X * X + Z * Z + m.A * (X * Z))) (m.add P P) := by
  obtain ⟨l, hl, rfl, rfl⟩ := h
  have a2 := m.sy hP hP
  have h2 := m.d2 hP hP
  have he := m.he
  have hA := m.hA
  have hD1 := m.D1
  have htwo := m.two
  unfold C.on at hP
  generalize m.add P P = S at *
  obtain ⟨sx, Y⟩ := S
  obtain ⟨x, y⟩ := P
  simp only at *
  have hk : (1 - m.D * x * x) * (1 + m.D * y * y) = 1 + m.D := by
    generalize m.D = D at *
    clear a2 h2 hA
    grind
  have hq : 1 + m.D * y * y ≠ 0 := fun h0 => hD1 (by rw [← hk, h0]; grind)
  have two4 : (4 : Fin n) ≠ 0 := by
    have := m.mul_ne htwo htwo
    intro h4
    exact this (by grind)
  have ll : l * l * (l * l) ≠ 0 := m.mul_ne (m.mul_ne hl hl) (m.mul_ne hl hl)
  have eX : (l * (1 + y) * (l * (1 + y)) - l * (m.e * (1 - y)) * (l * (m.e * (1 - y)))) * (l * (1 + y) * (l * (1 + y)) - l * (m.e * (1 - y)) * (l * (m.e * (1 - y)))) = l * l * (l * l) * 4 * (4 * y * y) := by
    have : l * (1 + y) * (l * (1 + y)) - l * (m.e * (1 - y)) * (l * (m.e * (1 - y))) = 4 * y * (l * l) := by grind
    rw [this]
    grind
  have eZ : (4 * (l * (1 + y) * (l * (m.e * (1 - y)))) * (l * (1 + y) * (l * (1 + y)) + l * (m.e * (1 - y)) * (l * (m.e * (1 - y))) + m.A * (l * (1 + y) * (l * (m.e * (1 - y)))))) = l * l * (l * l) * 4 * (m.e * (1 - y * y) * (2 + 2 * y * y + m.A * m.e * (1 - y * y))) := by grind
  have eW : (1 + m.D) * (2 + 2 * y * y + m.A * m.e * (1 - y * y)) = 4 * (1 + m.D * y * y) := by
    have : (1 + m.D) * (2 + 2 * y * y + m.A * m.e * (1 - y * y)) = (1 + m.D) * (2 + 2 * y * y) + (m.A * (1 + m.D)) * m.e * (1 - y * y) := by grind
    rw [this, hA]
    grind
  rw [eX, eZ]
  refine m.R_scale (m.mul_ne ll two4) (m.R_of ?_ ?_)
  · have e1 : (1 + Y) * (1 - m.D * x * x * y * y) = 2 * y * y * (1 - m.D * x * x) := by
      have : (1 + Y) * (1 - m.D * x * x * y * y) = (1 - m.D * x * x * y * y) + Y * (1 - m.D * x * x * y * y) := by grind
      rw [this, a2]
      generalize m.D = D at *
      clear a2 h2 hA eX eZ eW hk hq
      grind
    have e2 : (1 - Y) * (1 - m.D * x * x * y * y) = 2 * (1 - y * y) := by
      have : (1 - Y) * (1 - m.D * x * x * y * y) = (1 - m.D * x * x * y * y) - Y * (1 - m.D * x * x * y * y) := by grind
      rw [this, a2]
      generalize m.D = D at *
      clear a2 h2 hA eX eZ eW hk hq
      grind
    refine m.cancel (m.mul_ne h2 hD1) ?_
    show 4 * y * y * (m.e * (1 - Y)) * ((1 - m.D * x * x * y * y) * (1 + m.D)) = m.e * (1 - y * y) * (2 + 2 * y * y + m.A * m.e * (1 - y * y)) * (1 + Y) * ((1 - m.D * x * x * y * y) * (1 + m.D))
    have l1 : 4 * y * y * (m.e * (1 - Y)) * ((1 - m.D * x * x * y * y) * (1 + m.D)) = 4 * y * y * m.e * ((1 - Y) * (1 - m.D * x * x * y * y)) * (1 + m.D) := by grind
    have l2 : m.e * (1 - y * y) * (2 + 2 * y * y + m.A * m.e * (1 - y * y)) * (1 + Y) * ((1 - m.D * x * x * y * y) * (1 + m.D)) = m.e * (1 - y * y) * ((1 + m.D) * (2 + 2 * y * y + m.A * m.e * (1 - y * y))) * ((1 + Y) * (1 - m.D * x * x * y * y)) := by grind
    rw [l1, l2, e1, e2, eW, ← hk]
    grind
  · by_cases hy : y = 0
    · right
      subst hy
      have : (1 + m.D) * (2 + 2 * 0 * 0 + m.A * m.e * (1 - 0 * 0)) ≠ 0 := by rw [eW]; grind
      have h3 : (2 + 2 * 0 * 0 + m.A * m.e * (1 - 0 * 0)) ≠ 0 := fun h0 => this (by rw [h0]; grind)
      have h4 : m.e * (1 - 0 * 0) ≠ 0 := by
        have := m.e_ne
        intro h0
        exact this (by grind)
      exact m.mul_ne h4 h3
    · left
      exact m.mul_ne (m.mul_ne two4 hy) hy
/-- A sum of two whose difference is known. -/
theorem M.dadd (m : M n) {X1 Z1 X2 Z2 u : Fin n} {P Q P0 : Pt n} (hP : m.on P) (h0 : m.on P0) (hQ : Q = m.add P P0) (hu : u ≠ 0) (hu0 : u * (m.e * (1 - P0.y)) = 1 + P0.y) (h1 : m.R X1 Z1 P) (h2 : m.R X2 Z2 Q) :
    m.R ((X1 * X2 - Z1 * Z2) * (X1 * X2 - Z1 * Z2)) (u * ((X1 * Z2 - Z1 * X2) * (X1 * Z2 - Z1 * X2))) (m.add P Q) := by
  have hQon : m.on Q := by rw [hQ]; exact m.on_add hP h0
  have hd : P0 = m.add Q (m.neg P) := by rw [hQ]; exact (m.back hP h0).symm
  have hN := m.on_neg hP
  have b2 := m.sy hQon hN
  have a2 := m.sy hP hQon
  have g2 := m.d2 hP hQon
  have g3 := m.d2 hQon hN
  rw [← hd] at b2
  obtain ⟨l1, hl1, rfl, rfl⟩ := h1
  obtain ⟨l2, hl2, rfl, rfl⟩ := h2
  have he := m.he
  have htwo := m.two
  have hne0 : 1 - P0.y ≠ 0 := fun h => by
    have : (1 : Fin n) + P0.y = 0 := by rw [← hu0, h]; grind
    exact htwo (by grind)
  have hne1 : 1 + P0.y ≠ 0 := fun h => by
    rw [h] at hu0
    exact m.mul_ne hu (m.mul_ne m.e_ne hne0) hu0
  clear hd h0 hQ
  unfold C.neg at b2 g3
  unfold C.on at hP hQon
  generalize m.add P Q = S at *
  obtain ⟨sx, y3⟩ := S
  generalize P0.y = y0 at *
  obtain ⟨x1, y1⟩ := P
  obtain ⟨x2, y2⟩ := Q
  simp only at *
  -- b2 : y0 (1 + q) = y1 y2 - x1 x2 ; a2 : y3 (1 - q) = y1 y2 + x1 x2
  have b3 : y0 * (1 + m.D * x1 * x2 * y1 * y2) = y1 * y2 - x1 * x2 := by
    rw [nid1, b2]
    exact nid2 _ _ _ _
  have g4 : 1 + m.D * x1 * x2 * y1 * y2 ≠ 0 := fun h => g3 (by rw [← h]; exact (nid3 _ _ _ _ _).symm)
  have four : (4 : Fin n) ≠ 0 := fun h => m.mul_ne htwo htwo (by grind)
  have key : (1 + y3) * (1 + y0) * ((y1 - y2) * (y1 - y2)) = (1 - y3) * (1 - y0) * ((y1 + y2) * (y1 + y2)) := by
    refine m.cancel (m.mul_ne g2 g4) ?_
    have k1 : (1 + y3) * (1 + y0) * ((y1 - y2) * (y1 - y2)) * ((1 - m.D * x1 * x2 * y1 * y2) * (1 + m.D * x1 * x2 * y1 * y2)) = ((1 - m.D * x1 * x2 * y1 * y2) + y3 * (1 - m.D * x1 * x2 * y1 * y2)) * ((1 + m.D * x1 * x2 * y1 * y2) + y0 * (1 + m.D * x1 * x2 * y1 * y2)) * ((y1 - y2) * (y1 - y2)) := by grind
    have k2 : (1 - y3) * (1 - y0) * ((y1 + y2) * (y1 + y2)) * ((1 - m.D * x1 * x2 * y1 * y2) * (1 + m.D * x1 * x2 * y1 * y2)) = ((1 - m.D * x1 * x2 * y1 * y2) - y3 * (1 - m.D * x1 * x2 * y1 * y2)) * ((1 + m.D * x1 * x2 * y1 * y2) - y0 * (1 + m.D * x1 * x2 * y1 * y2)) * ((y1 + y2) * (y1 + y2)) := by grind
    rw [k1, k2, a2, b3]
    exact dif_key x1 y1 x2 y2 m.D hP hQon
  rw [eXl l1 l2 y1 y2 m.e he, eZl l1 l2 y1 y2 m.e u he]
  refine m.R_scale (m.mul_ne (m.mul_ne (m.mul_ne hl1 hl2) (m.mul_ne hl1 hl2)) four) (m.R_of ?_ ?_)
  · refine m.cancel hne0 ?_
    rw [k3l, k4l _ _ _ _ _ _ he, hu0, ← key]
    exact k5l _ _ _ _ _
  · by_cases h5 : y1 + y2 = 0
    · right
      refine m.mul_ne hu ?_
      have h6 : y1 - y2 ≠ 0 := fun h7 => by
        have h8 : 2 * y1 = 0 := by grind
        have hy1 : y1 = 0 := (m.zero_of h8).resolve_left htwo
        have hy2 : y2 = 0 := by rw [hy1] at h5; grind
        subst hy1 hy2
        have p1 : x1 * x1 = -1 := by grind
        have p2 : x2 * x2 = -1 := by grind
        have p3 : y0 = -(x1 * x2) := by grind
        have p4 : (1 + y0) * (1 - y0) = 0 := by rw [p3]; grind
        rcases m.zero_of p4 with h | h
        · exact hne1 h
        · exact hne0 h
      exact m.mul_ne h6 h6
    · left
      exact m.mul_ne h5 h5
end
end Go.Ed
namespace Go.Ed
section
variable {n : Nat} [NeZero n]
theorem dblp (X Z A c : Fin n) (hc : 4 * c = A + 2) : ((X + Z) * (X + Z)) * ((X - Z) * (X - Z)) = (X * X - Z * Z) * (X * X - Z * Z) ∧
    ((X + Z) * (X + Z) - (X - Z) * (X - Z)) * ((X - Z) * (X - Z) + c * ((X + Z) * (X + Z) - (X - Z) * (X - Z))) = 4 * (X * Z) * (X * X + Z * Z + A * (X * Z)) := by
  have e : (X + Z) * (X + Z) - (X - Z) * (X - Z) = 4 * (X * Z) := by grind
  refine ⟨by grind, ?_⟩
  rw [e]
  have : (X - Z) * (X - Z) + c * (4 * (X * Z)) = X * X + Z * Z + A * (X * Z) := by grind
  rw [this]
theorem sump (a b x y u : Fin n) : ((a - b) * (x + y) + (a + b) * (x - y)) * ((a - b) * (x + y) + (a + b) * (x - y)) = 4 * ((a * x - b * y) * (a * x - b * y)) ∧
    u * (((a - b) * (x + y) - (a + b) * (x - y)) * ((a - b) * (x + y) - (a + b) * (x - y))) = 4 * (u * ((a * y - b * x) * (a * y - b * x))) := by
  constructor <;> grind
theorem sumq (a b x y u : Fin n) : ((x - y) * (a + b) + (x + y) * (a - b)) * ((x - y) * (a + b) + (x + y) * (a - b)) = 4 * ((a * x - b * y) * (a * x - b * y)) ∧
    u * (((x - y) * (a + b) - (x + y) * (a - b)) * ((x - y) * (a + b) - (x + y) * (a - b))) = 4 * (u * ((a * y - b * x) * (a * y - b * x))) := by
  constructor <;> grind
theorem K.four (k : K n) : (4 : Fin n) ≠ 0 := fun h => k.mul_ne k.two k.two (by grind)
/-- The u of a point; of nothing, 0. -/
def M.uc (m : M n) (P : Pt n) : Fin n := if m.e * (1 - P.y) = 0 then 0 else (1 + P.y) * m.inv (m.e * (1 - P.y))
theorem M.uc_R (m : M n) {X Z : Fin n} {P : Pt n} (h : m.R X Z P) : (Z = 0 → m.uc P = 0) ∧ (Z ≠ 0 → X * m.inv Z = m.uc P) := by
  obtain ⟨l, hl, rfl, rfl⟩ := h
  unfold M.uc
  refine ⟨fun h => ?_, fun h => ?_⟩
  · rw [if_pos ((m.zero_of h).resolve_left hl)]
  · have h2 : m.e * (1 - P.y) ≠ 0 := fun h0 => h (by rw [h0]; grind)
    rw [if_neg h2]
    refine m.cancel h ?_
    have i1 := m.hinv _ h
    have i2 := m.hinv _ h2
    generalize m.e * (1 - P.y) = t at *
    generalize m.inv (l * t) = v at *
    generalize m.inv t = w at *
    grind
/-- What has no u, or u 0, is nothing when taken twice. -/
theorem M.uc_zero (m : M n) {P : Pt n} (hP : m.on P) (h : m.uc P = 0) : m.add P P = m.O := by
  have hy : P.y * P.y = 1 := by
    unfold M.uc at h
    split at h
    · rename_i h0
      have h1 := (m.zero_of h0).resolve_left m.e_ne
      grind
    · rename_i h0
      rcases m.zero_of h with h1 | h1
      · grind
      · have := m.hinv _ h0
        rw [h1] at this
        have two := m.two
        exact absurd (show (2 : Fin n) = 0 by grind) two
  have hx : P.x = 0 := by
    unfold C.on at hP
    have h1 : P.x * P.x * (1 + m.D) = 0 := by grind
    have h2 := (m.zero_of h1).resolve_right m.D1
    rcases m.zero_of h2 with h | h <;> exact h
  have s1 := m.sx hP hP
  have s2 := m.sy hP hP
  refine Pt.ext' ?_ ?_
  · rw [hx] at s1
    show (m.add P P).x = 0
    grind
  · rw [hx] at s2
    show (m.add P P).y = 1
    grind
/-- A point of a given u. -/
theorem C.point (c : C n) {u s A : Fin n} (hA : A * (1 + c.D) = 2 * (1 - c.D)) (hu : u ≠ 0) (hs : s * s * (1 + c.D) = -(u * (u * u + A * u + 1))) : ∃ P, c.on P ∧ u * (1 - P.y) = 1 + P.y := by
  have hi := c.hi
  have two := c.two
  have g0 : (1 + c.D) * (u * u + A * u + 1) = (u + 1) * (u + 1) + c.D * (u - 1) * (u - 1) := by
    have : (1 + c.D) * (u * u + A * u + 1) = (1 + c.D) * (u * u + 1) + (A * (1 + c.D)) * u := by grind
    rw [this, hA]
    grind
  have gne : u * u + A * u + 1 ≠ 0 := fun h => by
    rw [h] at g0
    by_cases h1 : u - 1 = 0
    · have : (u + 1) * (u + 1) = 0 := by rw [h1] at g0; grind
      have h2 : u + 1 = 0 := by rcases c.zero_of this with h | h <;> exact h
      exact two (by grind)
    · have h2 := c.hinv _ h1
      exact c.nsq (c.i * (u + 1) * c.inv (u - 1)) (by grind)
  have hne : u + 1 ≠ 0 := fun h => by
    have e1 : u = -1 := by grind
    subst e1
    have e2 : s * s * (1 + c.D) * (1 + c.D) = 4 * c.D := by
      rw [hs]
      grind
    have t := c.hinv 2 two
    exact c.nsq (s * (1 + c.D) * c.inv 2) (by grind)
  have h1 := c.hinv _ hne
  have h2 := c.hinv _ gne
  refine ⟨⟨2 * s * c.inv (u * u + A * u + 1), (u - 1) * c.inv (u + 1)⟩, ?_, ?_⟩
  · unfold C.on
    simp only
    generalize hg : u * u + A * u + 1 = g at *
    generalize c.inv (u + 1) = v at *
    generalize c.inv g = w at *
    generalize c.D = D at *
    have k1 : (4 * (s * s) * (w * w)) * (1 + D * ((u - 1) * v) * ((u - 1) * v)) = (u - 1) * v * ((u - 1) * v) - 1 := by
      have p1 : (1 + D * ((u - 1) * v) * ((u - 1) * v)) = (1 + D) * g * (v * v) := by grind
      have p2 : 4 * (s * s) * (w * w) * ((1 + D) * g * (v * v)) = 4 * (s * s * (1 + D)) * (w * w) * g * (v * v) := by grind
      rw [p1, p2, hs]
      have p3 : 4 * -(u * g) * (w * w) * g * (v * v) = -(4 * u * (v * v)) * ((g * w) * (g * w)) := by grind
      rw [p3, h2]
      have p4 : (u - 1) * v * ((u - 1) * v) - 1 = (u - 1) * v * ((u - 1) * v) - (u + 1) * v * ((u + 1) * v) := by rw [h1]; grind
      rw [p4]
      grind
    have k2 : (4 * (s * s) * (w * w)) = 2 * s * w * (2 * s * w) := by grind
    rw [k2] at k1
    clear k2 hs g0 gne hne h1 h2 hg hA
    generalize 2 * s * w = x at *
    generalize (u - 1) * v = y at *
    grind
  · simp only
    generalize c.inv (u + 1) = v at *
    grind
end
end Go.Ed
