/- Curves y^2 = x^3 + a x + b over the numbers modulo a prime: sums by chords and tangents are a group. Own work. -/

set_option linter.unusedSimpArgs false
set_option linter.unusedVariables false
set_option linter.unusedSectionVars false
namespace Go.We
structure K (n : Nat) [NeZero n] where
  inv : Fin n → Fin n
  hinv : ∀ a, a ≠ 0 → a * inv a = 1
  two : (2 : Fin n) ≠ 0
structure C (n : Nat) [NeZero n] extends K n where
  a : Fin n
  b : Fin n
  ns : ∀ x : Fin n, x * x * x + a * x + b = 0 → 3 * x * x + a ≠ 0
set_option linter.unusedSectionVars false
section
variable {n : Nat} [NeZero n]
theorem K.mul_ne (k : K n) {a b : Fin n} (ha : a ≠ 0) (hb : b ≠ 0) : a * b ≠ 0 := fun h => by
  have := k.hinv a ha
  have : b = 0 := by grind
  exact hb this
theorem K.zero_of (k : K n) {a b : Fin n} (h : a * b = 0) : a = 0 ∨ b = 0 := by
  by_cases ha : a = 0
  · exact .inl ha
  · by_cases hb : b = 0
    · exact .inr hb
    · exact absurd h (k.mul_ne ha hb)
theorem K.cancel (k : K n) {a b c : Fin n} (hc : c ≠ 0) (h : a * c = b * c) : a = b := by
  have := k.hinv c hc
  grind
inductive Q (n : Nat) where
  | o : Q n
  | p (x y : Fin n) : Q n
  deriving DecidableEq
def C.on (c : C n) : Q n → Prop
  | .o => True
  | .p x y => y * y = x * x * x + c.a * x + c.b
def C.neg (_ : C n) : Q n → Q n
  | .o => .o
  | .p x y => .p x (-y)
/-- The sum by a line of slope l. -/
def C.by_ (_ : C n) (l x y u : Fin n) : Q n := .p (l * l - x - u) (l * (x - (l * l - x - u)) - y)
def C.add (c : C n) : Q n → Q n → Q n
  | .o, Q => Q
  | P, .o => P
  | .p x y, .p u v => if x = u then if y + v = 0 then .o else c.by_ ((3 * x * x + c.a) * c.inv (2 * y)) x y u else c.by_ ((v - y) * c.inv (u - x)) x y u
/-- Three points on a line, as often as they lie on it: their sum is nothing. -/
def C.L (c : C n) (x y u v s t : Fin n) : Prop := ∃ l : Fin n, v = y + l * (u - x) ∧ t = y + l * (s - x) ∧ x + u + s = l * l ∧ x * u + x * s + u * s = c.a - 2 * l * (y - l * x)
theorem C.L.swap {c : C n} {x y u v s t : Fin n} (h : c.L x y u v s t) : c.L u v x y s t := by
  obtain ⟨l, h1, h2, h3, h4⟩ := h
  exact ⟨l, by clear h2 h3 h4; grind, by clear h3 h4; grind, by clear h1 h2 h4; grind, by clear h2 h3; grind⟩
theorem C.L.rot {c : C n} {x y u v s t : Fin n} (h : c.L x y u v s t) : c.L x y s t u v := by
  obtain ⟨l, h1, h2, h3, h4⟩ := h
  exact ⟨l, h2, h1, by clear h1 h2 h4; grind, by clear h1 h2 h3; grind⟩
theorem C.L.neg {c : C n} {x y u v s t : Fin n} (h : c.L x y u v s t) : c.L x (-y) u (-v) s (-t) := by
  obtain ⟨l, h1, h2, h3, h4⟩ := h
  exact ⟨-l, by clear h2 h3 h4; grind, by clear h1 h3 h4; grind, by clear h1 h2 h4; grind, by clear h1 h2 h3; grind⟩
/-- On a line that is not upright no point is the other's mirror. -/
theorem C.L.ne {c : C n} {x y u v s t : Fin n} (hP : c.on (.p x y)) (h : c.L x y u v s t) : ¬ (x = u ∧ y + v = 0) := fun ⟨hx, hy⟩ => by
  obtain ⟨l, h1, h2, h3, h4⟩ := h
  subst hx
  have hv : v = y := by grind
  subst hv
  have h2y : 2 * v = 0 := by grind
  have hy0 : v = 0 := (c.zero_of h2y).resolve_left c.two
  subst hy0
  refine c.ns x (by unfold C.on at hP; grind) ?_
  grind
theorem C.L.third {c : C n} {x y u v s t : Fin n} (hP : c.on (.p x y)) (h : c.L x y u v s t) : c.on (.p s t) := by
  obtain ⟨l, h1, h2, h3, h4⟩ := h
  unfold C.on at *
  grind
/-- The sum is the mirror of the line's third point. -/
theorem C.L.add {c : C n} {x y u v s t : Fin n} (hP : c.on (.p x y)) (hQ : c.on (.p u v)) (h : c.L x y u v s t) : c.add (.p x y) (.p u v) = .p s (-t) := by
  have hn := h.ne hP
  obtain ⟨l, h1, h2, h3, h4⟩ := h
  show (if x = u then if y + v = 0 then Q.o else c.by_ ((3 * x * x + c.a) * c.inv (2 * y)) x y u else c.by_ ((v - y) * c.inv (u - x)) x y u) = _
  by_cases hx : x = u
  · rw [if_pos hx, if_neg fun hy => hn ⟨hx, hy⟩]
    subst hx
    have hv : v = y := by grind
    subst hv
    have hy2 : 2 * v ≠ 0 := fun h0 => hn ⟨rfl, by grind⟩
    have hi := c.hinv _ hy2
    have hl : (3 * x * x + c.a) * c.inv (2 * v) = l := by
      refine c.cancel hy2 ?_
      grind
    have e1 : l * l - x - x = s := by clear h1 h2 h4 hl hi; grind
    have e2 : l * (x - s) - v = -t := by clear h1 h3 h4 hl hi; grind
    rw [hl]
    show Q.p (l * l - x - x) (l * (x - (l * l - x - x)) - v) = _
    rw [e1, e2]
  · rw [if_neg hx]
    have hd : u - x ≠ 0 := fun h0 => hx (by grind)
    have hi := c.hinv _ hd
    have hl : (v - y) * c.inv (u - x) = l := by
      refine c.cancel hd ?_
      grind
    have e1 : l * l - x - u = s := by clear h1 h2 h4 hl hi; grind
    have e2 : l * (x - s) - y = -t := by clear h1 h3 h4 hl hi; grind
    rw [hl]
    show Q.p (l * l - x - u) (l * (x - (l * l - x - u)) - y) = _
    rw [e1, e2]
/-- Two points that are not mirrors lie on a line. -/
theorem C.L_of {c : C n} {x y u v : Fin n} (hP : c.on (.p x y)) (hQ : c.on (.p u v)) (hn : ¬ (x = u ∧ y + v = 0)) : ∃ s t, c.L x y u v s t := by
  unfold C.on at hP hQ
  by_cases hx : x = u
  · subst hx
    have hyv : (y - v) * (y + v) = 0 := by grind
    have hv : v = y := by
      rcases c.zero_of hyv with h | h
      · grind
      · exact absurd ⟨rfl, h⟩ hn
    subst hv
    have hy2 : 2 * v ≠ 0 := fun h0 => hn ⟨rfl, by grind⟩
    have hi := c.hinv _ hy2
    let l := (3 * x * x + c.a) * c.inv (2 * v)
    have hl : l * (2 * v) = 3 * x * x + c.a := by show (3 * x * x + c.a) * c.inv (2 * v) * (2 * v) = _; grind
    exact ⟨l * l - x - x, v + l * (l * l - x - x - x), l, by grind, by grind, by grind, by grind⟩
  · have hd : u - x ≠ 0 := fun h0 => hx (by grind)
    have hi := c.hinv _ hd
    let l := (v - y) * c.inv (u - x)
    have hl : l * (u - x) = v - y := by show (v - y) * c.inv (u - x) * (u - x) = _; grind
    refine ⟨l * l - x - u, y + l * (l * l - x - u - x), l, by grind, by grind, by grind, ?_⟩
    refine c.cancel hd ?_
    grind
theorem C.add_o (c : C n) (P : Q n) : c.add P .o = P := by cases P <;> rfl
theorem C.o_add (c : C n) (P : Q n) : c.add .o P = P := by cases P <;> rfl
theorem C.neg_neg (c : C n) (P : Q n) : c.neg (c.neg P) = P := by
  cases P with
  | o => rfl
  | p x y => show Q.p x (- -y) = _; rw [show - -y = y by grind]
theorem C.on_neg (c : C n) {P : Q n} (h : c.on P) : c.on (c.neg P) := by
  cases P with
  | o => trivial
  | p x y => unfold C.on C.neg at *; simp only at *; grind
theorem C.add_neg (c : C n) (P : Q n) : c.add P (c.neg P) = .o := by
  cases P with
  | o => rfl
  | p x y => show (if x = x then if y + -y = 0 then Q.o else _ else _) = _; rw [if_pos rfl, if_pos (by grind)]
/-- A sum: nothing, or a line's. -/
theorem C.sum (c : C n) {x y u v : Fin n} (hP : c.on (.p x y)) (hQ : c.on (.p u v)) : (Q.p u v = c.neg (.p x y) ∧ c.add (.p x y) (.p u v) = .o) ∨ ∃ s t, c.L x y u v s t ∧ c.on (.p s t) ∧ c.add (.p x y) (.p u v) = .p s (-t) := by
  by_cases hn : x = u ∧ y + v = 0
  · obtain ⟨hx, hy⟩ := hn
    subst hx
    have hv : v = -y := by grind
    subst hv
    exact .inl ⟨rfl, c.add_neg (.p x y)⟩
  · obtain ⟨s, t, h⟩ := C.L_of hP hQ hn
    exact .inr ⟨s, t, h, h.third hP, h.add hP hQ⟩
theorem C.on_add (c : C n) {P R : Q n} (hP : c.on P) (hR : c.on R) : c.on (c.add P R) := by
  cases P with
  | o => rw [c.o_add]; exact hR
  | p x y =>
    cases R with
    | o => exact hP
    | p u v =>
      rcases c.sum hP hR with ⟨_, h⟩ | ⟨s, t, _, ho, h⟩
      · rw [h]; trivial
      · rw [h]; exact c.on_neg ho
theorem C.comm (c : C n) {P R : Q n} (hP : c.on P) (hR : c.on R) : c.add P R = c.add R P := by
  cases P with
  | o => rw [c.o_add, c.add_o]
  | p x y =>
    cases R with
    | o => rfl
    | p u v =>
      rcases c.sum hP hR with ⟨h, h'⟩ | ⟨s, t, hl, _, h⟩
      · rw [h', h]
        have := c.add_neg (c.neg (.p x y))
        rw [c.neg_neg] at this
        exact this.symm
      · rw [h, hl.swap.add hR hP]
/-- Lines through four points: what makes sums associate (the second point lies at x = 0). -/
theorem C.core (c : C n) {a b e x1 x3 x4 x5 x6 l m s v : Fin n} (h14 : x1 + x4 = l * l - a) (p14 : x1 * x4 = b - 2 * l * e) (h35 : x3 + x5 = m * m - a) (p35 : x3 * x5 = b - 2 * m * e) (e4 : (l + s) * x4 + e + v = 0) (e3 : (m - s) * x3 + e - v = 0) (hs : x3 + x4 + x6 = s * s - a) (ht : x3 * x4 + x3 * x6 + x4 * x6 = b - 2 * s * v) (ns : e = 0 → b ≠ 0) : x5 = x4 + (l - m) * (s - m) := by
  have e2 : 2 * e = (s - m) * x3 - (l + s) * x4 := by clear h14 p14 h35 p35 hs ht; grind
  have r1 : x1 = x5 + l * l - m * m + x3 - x4 := by clear p14 p35 e4 e3 hs ht e2; grind
  have r2 : (2 * e) * (l - m) = x3 * x5 - x1 * x4 := by clear h14 h35 e4 e3 hs ht e2 r1; grind
  by_cases h34 : x3 = x4
  · subst h34
    by_cases h0 : x3 = 0
    · subst h0
      have h2e : 2 * e = 0 := by rw [e2]; clear r1 r2 e2 h14 p14 h35 p35 hs ht e3 e4; grind
      have he : e = 0 := (c.zero_of h2e).resolve_left c.two
      subst he
      refine absurd ?_ (ns rfl)
      clear r1 r2 e2 h14 p14 h35 hs ht e3 e4; grind
    · have q1 : 3 * x3 * x3 + 2 * a * x3 + b = 2 * s * (s * x3 + v) := by
        have : x6 = s * s - a - x3 - x3 := by clear h14 p14 h35 p35 e3 e4 ht e2 r1 r2; grind
        subst this
        clear h14 p14 h35 p35 e3 e4 hs e2 r1 r2; grind
      have q2 : s * x3 + v = m * x3 + e := by clear h14 p14 h35 p35 e4 ht hs q1 e2 r1 r2; grind
      have q3 : 2 * (m * x3 + e) = (m - l) * x3 := by clear h14 p14 h35 p35 e4 e3 ht hs q1 q2 r1 r2; grind
      have q4 : b = x3 * x5 + 2 * e * m := by clear h14 p14 h35 e4 e3 ht hs q1 q2 q3 r1 r2 e2; grind
      have q5 : a = m * m - x3 - x5 := by clear h14 p14 p35 e4 e3 ht hs q1 q2 q3 q4 r1 r2 e2; grind
      rw [q2, q4, q5, e2] at q1
      refine c.cancel h0 ?_
      clear h14 p14 h35 p35 e4 e3 ht hs r1 r2 q2 q4 q5
      grind
  · have hd : x3 - x4 ≠ 0 := fun h => h34 (by clear h14 p14 h35 p35 e4 e3 ht hs r1 r2 e2; grind)
    refine c.cancel hd ?_
    rw [e2, r1] at r2
    clear h14 p14 h35 p35 e4 e3 ht hs r1 e2
    grind
/-- The fourth line: numbers. -/
theorem four {n : Nat} [NeZero n] {a b e x1 x3 x4 x5 x6 l m s v : Fin n} (h14 : x1 + x4 = l * l - a) (h35 : x3 + x5 = m * m - a) (p35 : x3 * x5 = b - 2 * m * e) (e4 : (l + s) * x4 + e + v = 0) (e3 : (m - s) * x3 + e - v = 0) (hs : x3 + x4 + x6 = s * s - a) (h5 : x5 = x4 + (l - m) * (s - m)) :
    -(m * x5 + e) = l * x1 + e + (l + s - m) * (x5 - x1) ∧ s * x6 + v = l * x1 + e + (l + s - m) * (x6 - x1) ∧ x1 + x5 + x6 = (l + s - m) * (l + s - m) - a ∧ x1 * x5 + x1 * x6 + x5 * x6 = b - 2 * (l + s - m) * (l * x1 + e - (l + s - m) * x1) := by
  have e2 : 2 * e = (s - m) * x3 - (l + s) * x4 := by clear h14 h35 p35 hs h5; grind
  have ev : v = e - (s - m) * x3 := by clear h14 h35 p35 hs h5 e2 e4; grind
  have r1 : x1 = x3 + (l - m) * (s + l) := by clear p35 e4 e3 hs e2 ev; grind
  have r6 : x6 = (s - m) * (s + l) := by clear h14 p35 e4 e3 e2 ev r1; grind
  have ea : a = m * m - x3 - x5 := by clear h14 p35 e4 e3 hs e2 ev r1 r6 h5; grind
  have eb : b = x3 * x5 + 2 * e * m := by clear h14 h35 e4 e3 hs e2 ev r1 r6 h5 ea; grind
  rw [e2] at eb
  have e2' : e + e = (s - m) * x3 - (l + s) * x4 := by rw [← e2]; clear h14 h35 p35 e4 e3 hs e2 ev r1 r6 h5 ea eb; grind
  clear h14 h35 p35 e4 e3 hs e2
  subst ev r1 r6 h5 ea eb
  have e3 : e = (s - m) * x3 - (l + s) * x4 - e := by grind
  refine ⟨?_, ?_, ?_, ?_⟩
  · grind
  · grind
  · clear e2' e3; grind
  · grind
theorem C.L.assoc {c : C n} {x1 y1 x2 y2 x3 y3 x4 y4 x5 y5 x6 y6 : Fin n} (hB : c.on (.p x2 y2)) (h1 : c.L x1 y1 x2 y2 x4 y4) (h2 : c.L x2 y2 x3 y3 x5 y5) (h3 : c.L x4 (-y4) x3 y3 x6 y6) : c.L x1 y1 x5 (-y5) x6 y6 := by
  obtain ⟨l, a1, a2, a3, a4⟩ := h1
  obtain ⟨m, b1, b2, b3, b4⟩ := h2
  obtain ⟨s, d1, d2, d3, d4⟩ := h3
  have ey1 : y1 = l * (x1 - x2) + y2 := by clear a2 a3 a4 b1 b2 b3 b4 d1 d2 d3 d4; grind
  have ey4 : y4 = l * (x4 - x2) + y2 := by rw [a2, ey1]; clear a1 a2 a3 a4 b1 b2 b3 b4 d1 d2 d3 d4 ey1; grind
  have ey5 : y5 = m * (x5 - x2) + y2 := by rw [b2]; clear a1 a2 a3 a4 b1 b2 b3 b4 d1 d2 d3 d4 ey1 ey4; grind
  have ey6 : y6 = s * (x6 - x2) + (-y4 - s * (x4 - x2)) := by rw [d2]; clear a1 a2 a3 a4 b1 b2 b3 b4 d1 d2 d3 d4 ey1 ey4 ey5; grind
  have h14 : (x1 - x2) + (x4 - x2) = l * l - 3 * x2 := by rw [← a3]; clear a1 a2 a3 a4 b1 b2 b3 b4 d1 d2 d3 d4 ey1 ey4 ey5 ey6; grind
  have h35 : (x3 - x2) + (x5 - x2) = m * m - 3 * x2 := by rw [← b3]; clear a1 a2 a3 a4 b1 b2 b3 b4 d1 d2 d3 d4 ey1 ey4 ey5 ey6 h14; grind
  have p14 : (x1 - x2) * (x4 - x2) = (3 * x2 * x2 + c.a) - 2 * l * y2 := by
    rw [ey1] at a4
    have : x1 = l * l - x4 - x2 := by clear a1 a2 a4 b1 b2 b3 b4 d1 d2 d3 d4 ey1 ey4 ey5 ey6 h14 h35; grind
    clear a1 a2 a3 b1 b2 b3 b4 d1 d2 d3 d4 ey1 ey4 ey5 ey6 h14 h35
    subst this
    grind
  have p35 : (x3 - x2) * (x5 - x2) = (3 * x2 * x2 + c.a) - 2 * m * y2 := by
    have : x3 = m * m - x5 - x2 := by clear a1 a2 a3 a4 b1 b2 b4 d1 d2 d3 d4 ey1 ey4 ey5 ey6 h14 h35 p14; grind
    clear a1 a2 a3 a4 b1 b2 b3 d1 d2 d3 d4 ey1 ey4 ey5 ey6 h14 h35 p14
    subst this
    grind
  have e4 : (l + s) * (x4 - x2) + y2 + (-y4 - s * (x4 - x2)) = 0 := by rw [ey4]; clear a1 a2 a3 a4 b1 b2 b3 b4 d1 d2 d3 d4 ey1 ey4 ey5 ey6 h14 h35 p14 p35; grind
  have e3 : (m - s) * (x3 - x2) + y2 - (-y4 - s * (x4 - x2)) = 0 := by
    have : y3 = m * (x3 - x2) + y2 := by rw [b1]; clear a1 a2 a3 a4 b1 b2 b3 b4 d1 d2 d3 d4 ey1 ey4 ey5 ey6 h14 h35 p14 p35 e4; grind
    rw [this] at d1
    clear a1 a2 a3 a4 b1 b2 b3 b4 d2 d3 d4 ey1 ey4 ey5 ey6 h14 h35 p14 p35 e4 this; grind
  have hs : (x3 - x2) + (x4 - x2) + (x6 - x2) = s * s - 3 * x2 := by rw [← d3]; clear a1 a2 a3 a4 b1 b2 b3 b4 d1 d2 d3 d4 ey1 ey4 ey5 ey6 h14 h35 p14 p35 e4 e3; grind
  have ht : (x3 - x2) * (x4 - x2) + (x3 - x2) * (x6 - x2) + (x4 - x2) * (x6 - x2) = (3 * x2 * x2 + c.a) - 2 * s * (-y4 - s * (x4 - x2)) := by
    have : x3 = s * s - x4 - x6 := by clear a1 a2 a3 a4 b1 b2 b3 b4 d1 d2 d4 ey1 ey4 ey5 ey6 h14 h35 p14 p35 e4 e3 hs; grind
    clear a1 a2 a3 a4 b1 b2 b3 b4 d1 d2 d3 ey1 ey4 ey5 ey6 h14 h35 p14 p35 e4 e3 hs
    subst this
    grind
  have ns : y2 = 0 → (3 * x2 * x2 + c.a) ≠ 0 := fun h => c.ns x2 (by unfold C.on at hB; subst h; rw [← hB]; clear a1 a2 a3 a4 b1 b2 b3 b4 d1 d2 d3 d4 ey1 ey4 ey5 ey6 h14 h35 p14 p35 e4 e3 hs ht hB; grind)
  have k := c.core h14 p14 h35 p35 e4 e3 hs ht ns
  obtain ⟨k1, k2, k3, k4⟩ := four h14 h35 p35 e4 e3 hs k
  clear a1 a2 a3 a4 b1 b2 b3 b4 d1 d2 d3 d4 h14 h35 p14 p35 e4 e3 hs ht ns k
  rw [← ey1] at k1 k2 k4
  rw [← ey5] at k1
  rw [← ey6] at k2
  clear ey4 ey5 ey6
  refine ⟨l + s - m, ?_, ?_, ?_, ?_⟩
  · rw [k1]; clear k1 k2 k3 k4 ey1; grind
  · rw [k2]; clear k1 k2 k3 k4 ey1; grind
  · clear k1 k2 k4 ey1; grind
  · have : x6 = (l + s - m) * (l + s - m) - x1 - x5 := by clear k1 k2 k4 ey1; grind
    clear k1 k2 k3
    subst this
    grind
theorem C.p_on (c : C n) {x y : Fin n} (h : c.on (.p x y)) : c.on (.p x (-y)) := c.on_neg h
theorem C.back (c : C n) {P R : Q n} (hP : c.on P) (hR : c.on R) : c.add P (c.add (c.neg P) R) = R := by
  cases P with
  | o => rfl
  | p x y =>
    cases R with
    | o => show c.add (.p x y) (.p x (-y)) = _; exact c.add_neg (.p x y)
    | p u v =>
      show c.add (.p x y) (c.add (.p x (-y)) (.p u v)) = _
      rcases c.sum (c.p_on hP) hR with ⟨h, h'⟩ | ⟨s, t, hl, ho, h⟩
      · rw [h', c.add_o, h]; exact (c.neg_neg (.p x y)).symm
      · rw [h]
        have hl' := hl.neg.rot
        rw [show - -y = y by grind] at hl'
        rw [hl'.add hP (c.p_on ho), show - -v = v by grind]
theorem C.assoc (c : C n) {P R S : Q n} (hP : c.on P) (hR : c.on R) (hS : c.on S) : c.add (c.add P R) S = c.add P (c.add R S) := by
  cases P with
  | o => rw [c.o_add, c.o_add]
  | p x1 y1 =>
  cases R with
  | o => rw [c.add_o, c.o_add]
  | p x2 y2 =>
  cases S with
  | o => rw [c.add_o, c.add_o]
  | p x3 y3 =>
  rcases c.sum hP hR with ⟨e, h⟩ | ⟨x4, y4, l1, o4, h⟩
  · rw [h, c.o_add, e]; exact (c.back hP hS).symm
  · rcases c.sum hR hS with ⟨e', h'⟩ | ⟨x5, y5, l2, o5, h'⟩
    · rw [h', e', c.add_o]
      have k := c.back (c.on_neg hR) hP
      rw [c.neg_neg] at k
      rw [c.comm (c.on_add hP hR) (c.on_neg hR), c.comm hP hR]
      exact k
    · rw [h, h']
      rcases c.sum (c.p_on o4) hS with ⟨e3, h3⟩ | ⟨x6, y6, l3, o6, h3⟩
      · rw [h3]
        have e4 : Q.p x3 y3 = .p x4 y4 := by rw [e3]; exact c.neg_neg (.p x4 y4)
        injection e4 with ex ey
        subst ex ey
        have k := (l1.swap.rot).add hR hS
        rw [h'] at k
        rw [k]
        exact (c.add_neg (.p x1 y1)).symm
      · rw [h3]
        exact ((l1.assoc hR l2 l3).add hP (c.p_on o5)).symm
/-- As often by itself. -/
def C.mul (c : C n) : Nat → Q n → Q n
  | 0, _ => .o
  | k + 1, P => c.add P (c.mul k P)
theorem C.on_mul (c : C n) (k : Nat) {P : Q n} (h : c.on P) : c.on (c.mul k P) := by
  induction k with
  | zero => trivial
  | succ k ih => exact c.on_add h ih
theorem C.mul_add (c : C n) (j k : Nat) {P : Q n} (h : c.on P) : c.mul (j + k) P = c.add (c.mul j P) (c.mul k P) := by
  induction j with
  | zero => rw [Nat.zero_add]; exact (c.o_add _).symm
  | succ j ih =>
    rw [Nat.succ_add]
    show c.add P (c.mul (j + k) P) = c.add (c.add P (c.mul j P)) _
    rw [ih, c.assoc h (c.on_mul j h) (c.on_mul k h)]
theorem C.mul_o (c : C n) (k : Nat) : c.mul k .o = .o := by
  induction k with
  | zero => rfl
  | succ k ih => show c.add .o (c.mul k .o) = _; rw [ih]; rfl
theorem C.mul_mul (c : C n) (j k : Nat) {P : Q n} (h : c.on P) : c.mul j (c.mul k P) = c.mul (j * k) P := by
  induction j with
  | zero => rw [Nat.zero_mul]; rfl
  | succ j ih =>
    rw [Nat.succ_mul, Nat.add_comm (j * k), c.mul_add _ _ h, ← ih]
    rfl
theorem C.mul_one (c : C n) (P : Q n) : c.mul 1 P = P := c.add_o P
theorem C.mul_mod (c : C n) {N : Nat} {P : Q n} (h : c.on P) (hN : c.mul N P = .o) (k : Nat) : c.mul (k % N) P = c.mul k P := by
  have e : k = N * (k / N) + k % N := (Nat.div_add_mod k N).symm
  calc c.mul (k % N) P = c.add (c.mul (N * (k / N)) P) (c.mul (k % N) P) := by
        rw [Nat.mul_comm, ← c.mul_mul _ _ h, hN, c.mul_o]; rfl
    _ = c.mul (N * (k / N) + k % N) P := (c.mul_add _ _ h).symm
    _ = c.mul k P := by rw [← e]
end
end Go.We
