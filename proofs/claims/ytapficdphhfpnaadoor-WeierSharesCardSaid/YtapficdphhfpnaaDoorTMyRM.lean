/- The complete sum on a curve y^2 = x^3 + a x + b without points of order two (Renes, Costello, Batina): no cases. Own work. -/
import Derived.Test.YtapficdphhfpnaaDoorTWe0
import Derived.Test.YtapficdphhfpnaaDoorTMyMC
set_option linter.unusedSimpArgs false
set_option linter.unusedVariables false
set_option linter.unusedSectionVars false
namespace Go.We
section
variable {n : Nat} [NeZero n]
/-- X : Y : Z is a point's; 0 : Y : 0 the one at infinity's. -/
def PC (X Y Z : Fin n) : Q n → Prop
  | .o => Z = 0 ∧ X = 0 ∧ Y ≠ 0
  | .p x y => Z ≠ 0 ∧ X = x * Z ∧ Y = y * Z
def C.X3 (c : C n) (X Y Z U V W : Fin n) : Fin n := (X * V + U * Y) * (Y * V - c.a * (X * W + U * Z) - 3 * c.b * (Z * W)) - (Y * W + V * Z) * (c.a * (X * U) + 3 * c.b * (X * W + U * Z) - c.a * c.a * (Z * W))
def C.Y3 (c : C n) (X Y Z U V W : Fin n) : Fin n := (Y * V + c.a * (X * W + U * Z) + 3 * c.b * (Z * W)) * (Y * V - c.a * (X * W + U * Z) - 3 * c.b * (Z * W)) + (c.a * (X * U) + 3 * c.b * (X * W + U * Z) - c.a * c.a * (Z * W)) * (3 * (X * U) + c.a * (Z * W))
def C.Z3 (c : C n) (X Y Z U V W : Fin n) : Fin n := (Y * W + V * Z) * (Y * V + c.a * (X * W + U * Z) + 3 * c.b * (Z * W)) + (X * V + U * Y) * (3 * (X * U) + c.a * (Z * W))
/-- By the line's slope l and its value m at 0. -/
theorem rcb_line {a b x u l m s : Fin n} (hs : s = l * l - x - u) (ha : a = 2 * l * m + x * u + (x + u) * s) (hb : b = m * m - x * u * s) :
    ((x * (l * u + m) + u * (l * x + m)) * ((l * x + m) * (l * u + m) - a * (x + u) - 3 * b) - ((l * x + m) + (l * u + m)) * (a * (x * u) + 3 * b * (x + u) - a * a) = s * (((l * x + m) + (l * u + m)) * ((l * x + m) * (l * u + m) + a * (x + u) + 3 * b) + (x * (l * u + m) + u * (l * x + m)) * (3 * (x * u) + a))) ∧
    (((l * x + m) * (l * u + m) + a * (x + u) + 3 * b) * ((l * x + m) * (l * u + m) - a * (x + u) - 3 * b) + (a * (x * u) + 3 * b * (x + u) - a * a) * (3 * (x * u) + a) = -(l * s + m) * (((l * x + m) + (l * u + m)) * ((l * x + m) * (l * u + m) + a * (x + u) + 3 * b) + (x * (l * u + m) + u * (l * x + m)) * (3 * (x * u) + a))) := by
  subst hs ha hb
  constructor <;> grind
theorem C.L.chord' {c : C n} {x y u v s t : Fin n} (h : c.L x y u v s t) : ∃ l : Fin n, v - y = l * (u - x) ∧ s = l * l - x - u ∧ t = y + l * (s - x) := by
  obtain ⟨l, h1, h2, h3, h4⟩ := h
  exact ⟨l, by clear h2 h3 h4; grind, by clear h1 h2 h4; grind, h2⟩
def xA (a b x y u v : Fin n) : Fin n := (x * v + u * y) * (y * v - a * (x + u) - 3 * b) - (y + v) * (a * (x * u) + 3 * b * (x + u) - a * a)
def yA (a b x y u v : Fin n) : Fin n := (y * v + a * (x + u) + 3 * b) * (y * v - a * (x + u) - 3 * b) + (a * (x * u) + 3 * b * (x + u) - a * a) * (3 * (x * u) + a)
def zA (a b x y u v : Fin n) : Fin n := (y + v) * (y * v + a * (x + u) + 3 * b) + (x * v + u * y) * (3 * (x * u) + a)
theorem C.hom (c : C n) {x y u v Z W : Fin n} : c.X3 (x * Z) (y * Z) Z (u * W) (v * W) W = Z * Z * W * W * xA c.a c.b x y u v ∧ c.Y3 (x * Z) (y * Z) Z (u * W) (v * W) W = Z * Z * W * W * yA c.a c.b x y u v ∧ c.Z3 (x * Z) (y * Z) Z (u * W) (v * W) W = Z * Z * W * W * zA c.a c.b x y u v := by
  unfold C.X3 C.Y3 C.Z3 xA yA zA
  generalize c.a = a
  generalize c.b = b
  refine ⟨?_, ?_, ?_⟩ <;> grind
theorem rcb_z {a b x u l m s : Fin n} (hs : s = l * l - x - u) (ha : a = 2 * l * m + x * u + (x + u) * s) (hb : b = m * m - x * u * s) : zA a b x (l * x + m) u (l * u + m) = ((l * u + m) + (l * x + m)) * (((l * u + m) + (l * x + m)) * ((l * u + m) + (l * x + m)) - (2 * x + u) * ((u - x) * (u - x))) - (l * x + m) * ((u - x) * (u - x) * (u - x)) := by
  subst hs ha hb
  unfold zA
  grind
theorem rcb_y {a b x l m s : Fin n} (hs : s = l * l - x - x) (ha : a = 2 * l * m + x * x + (x + x) * s) (hb : b = m * m - x * x * s) : yA a b x (l * x + m) x (-(l * x + m)) = -(8 * (l * s + m) * ((l * x + m) * (l * x + m) * (l * x + m))) := by
  subst hs ha hb
  unfold yA
  grind
/-- A line's equations, by slope and value at 0. -/
theorem C.L.eqs {c : C n} {x y u v s t : Fin n} (hP : c.on (.p x y)) (h : c.L x y u v s t) : ∃ l m : Fin n, y = l * x + m ∧ v = l * u + m ∧ t = l * s + m ∧ s = l * l - x - u ∧ c.a = 2 * l * m + x * u + (x + u) * s ∧ c.b = m * m - x * u * s := by
  obtain ⟨l, h1, h2, h3, h4⟩ := h
  have hs : s = l * l - x - u := by clear h1 h2 h4; grind
  have ha : c.a = 2 * l * (y - l * x) + x * u + (x + u) * s := by clear h1 h2 h3 hs; grind
  refine ⟨l, y - l * x, by clear h1 h2 h3 h4 hs ha; grind, by rw [h1]; clear h1 h2 h3 h4 hs ha; grind, by rw [h2]; clear h1 h2 h3 h4 hs ha; grind, hs, ha, ?_⟩
  have hp : y * y = x * x * x + c.a * x + c.b := hP
  have hb : c.b = y * y - x * x * x - c.a * x := by clear h1 h2 h3 h4 hs ha; grind
  rw [hb, ha]
  clear h1 h2 h3 h4 ha hb hp
  subst hs
  grind
theorem C.eight (c : C n) : (8 : Fin n) ≠ 0 := by
  rw [show (8 : Fin n) = 2 * 2 * 2 by grind]
  exact c.mul_ne (c.mul_ne c.two c.two) c.two
/-- The complete sum: no cases. -/
theorem C.rcb (c : C n) (no2 : ∀ s t : Fin n, c.on (.p s t) → t ≠ 0) {X Y Z U V W : Fin n} {P R : Q n} (hP : c.on P) (hR : c.on R) (h : PC X Y Z P) (h' : PC U V W R) : PC (c.X3 X Y Z U V W) (c.Y3 X Y Z U V W) (c.Z3 X Y Z U V W) (c.add P R) := by
  cases P with
  | o =>
    obtain ⟨rfl, rfl, hY⟩ := h
    have e1 : c.X3 0 Y 0 U V W = U * Y * (Y * V) := by unfold C.X3; grind
    have e2 : c.Y3 0 Y 0 U V W = (Y * V) * (Y * V) := by unfold C.Y3; grind
    have e3 : c.Z3 0 Y 0 U V W = Y * W * (Y * V) := by unfold C.Z3; grind
    rw [e1, e2, e3, c.o_add]
    cases R with
    | o =>
      obtain ⟨rfl, rfl, hV⟩ := h'
      exact ⟨by clear hP hR e1 e2 e3; grind, by clear hP hR e1 e2 e3; grind, c.mul_ne (c.mul_ne hY hV) (c.mul_ne hY hV)⟩
    | p u v =>
      obtain ⟨hW, rfl, rfl⟩ := h'
      have hv := no2 u v hR
      exact ⟨c.mul_ne (c.mul_ne hY hW) (c.mul_ne hY (c.mul_ne hv hW)), by clear hP hR e1 e2 e3 hW hv hY; grind, by clear hP hR e1 e2 e3 hW hv hY; grind⟩
  | p x y =>
    obtain ⟨hZ, rfl, rfl⟩ := h
    cases R with
    | o =>
      obtain ⟨rfl, rfl, hV⟩ := h'
      have hy := no2 x y hP
      have e1 : c.X3 (x * Z) (y * Z) Z 0 V 0 = x * Z * V * (y * Z * V) := by unfold C.X3; clear hP hR hy hZ hV; grind
      have e2 : c.Y3 (x * Z) (y * Z) Z 0 V 0 = (y * Z * V) * (y * Z * V) := by unfold C.Y3; clear hP hR hy hZ hV e1; grind
      have e3 : c.Z3 (x * Z) (y * Z) Z 0 V 0 = Z * V * (y * Z * V) := by unfold C.Z3; clear hP hR hy hZ hV e1 e2; grind
      rw [e1, e2, e3, c.add_o]
      exact ⟨c.mul_ne (c.mul_ne hZ hV) (c.mul_ne (c.mul_ne hy hZ) hV), by clear hP hR e1 e2 e3 hZ hV hy; grind, by clear hP hR e1 e2 e3 hZ hV hy; grind⟩
    | p u v =>
      obtain ⟨hW, rfl, rfl⟩ := h'
      obtain ⟨e1, e2, e3⟩ := c.hom (x := x) (y := y) (u := u) (v := v) (Z := Z) (W := W)
      rw [e1, e2, e3]
      have hk : Z * Z * W * W ≠ 0 := c.mul_ne (c.mul_ne (c.mul_ne hZ hZ) hW) hW
      clear e1 e2 e3
      generalize Z * Z * W * W = k at hk
      have hy := no2 x y hP
      have hyy : y + y ≠ 0 := by
        have := c.mul_ne c.two hy
        intro e
        exact this (by clear hP hR hk; grind)
      rcases c.sum hP hR with ⟨e, h0⟩ | ⟨s, t, hl, ho, h0⟩
      · rw [h0]
        injection e with ex ey
        subst ex ey
        refine ⟨?_, ?_, ?_⟩
        · unfold zA; clear hP hR h0 hy hyy hk; grind
        · unfold xA; clear hP hR h0 hy hyy hk; grind
        · obtain ⟨s, t, hl⟩ := C.L_of hP hP (fun e => hyy e.2)
          have ht := no2 s t (hl.third hP)
          obtain ⟨l, m, k1, k2, k3, k4, k5, k6⟩ := hl.eqs hP
          have := rcb_y k4 k5 k6
          rw [← k1, ← k3] at this
          rw [this]
          refine c.mul_ne hk fun e => ?_
          have h8 := c.mul_ne (c.mul_ne c.eight ht) (c.mul_ne (c.mul_ne hy hy) hy)
          exact h8 (by clear hP hR h0 hy hyy hk hl k1 k2 k3 k4 k5 k6 this h8; grind)
      · rw [h0]
        have hne := hl.ne hP
        obtain ⟨l, m, k1, k2, k3, k4, k5, k6⟩ := hl.eqs hP
        obtain ⟨q1, q2⟩ := rcb_line k4 k5 k6
        have q3 := rcb_z k4 k5 k6
        rw [← k1, ← k2] at q1 q2 q3
        have q1' : xA c.a c.b x y u v = s * zA c.a c.b x y u v := q1
        have q2' : yA c.a c.b x y u v = -t * zA c.a c.b x y u v := by rw [k3]; exact q2
        rw [q1', q2']
        refine ⟨c.mul_ne hk ?_, by clear q1 q2 q3 q1' q2' hP hR k1 k2 k3 k4 k5 k6 hl h0 hne hyy; grind, by clear q1 q2 q3 q1' q2' hP hR k1 k2 k3 k4 k5 k6 hl h0 hne hyy; grind⟩
        rw [q3]
        by_cases hx : x = u
        · subst hx
          have hv : v = y := by rw [k1, k2]
          have h3 := c.mul_ne (c.mul_ne hyy hyy) hyy
          intro e
          refine h3 ?_
          rw [hv] at e
          clear q1 q2 q3 q1' q2' hP hR k1 k2 k3 k4 k5 k6 hl h0 hne hyy h3 hk hv
          grind
        · obtain ⟨s', t', hl'⟩ := C.L_of hP (c.p_on hR) (fun e => hx e.1)
          have ht := no2 s' t' (hl'.third hP)
          obtain ⟨l', w1, w2, w3⟩ := hl'.chord'
          have hd : u - x ≠ 0 := fun e => hx (by clear q1 q2 q3 q1' q2' hP hR k1 k2 k3 k4 k5 k6 hl h0 hne hyy hl'; grind)
          have h3 := c.mul_ne ht (c.mul_ne (c.mul_ne hd hd) hd)
          intro e
          refine h3 ?_
          have e0 : l' * (u - x) = -(v + y) := by rw [← w1]; clear q1 q2 q3 q1' q2' hP hR k1 k2 k3 k4 k5 k6 hl h0 hne hyy hl' h3 hd ht w2 w3 e; grind
          rw [w3, w2]
          have e4 : (y + l' * (l' * l' - x - u - x)) * ((u - x) * (u - x) * (u - x)) = y * ((u - x) * (u - x) * (u - x)) + l' * (u - x) * (l' * (u - x) * (l' * (u - x)) - (2 * x + u) * ((u - x) * (u - x))) := by
            clear q1 q2 q3 q1' q2' hP hR k1 k2 k3 k4 k5 k6 hl h0 hne hyy hl' h3 hd ht w1 w2 w3 e e0; grind
          rw [e4, e0]
          clear q1 q2 q3 q1' q2' hP hR k1 k2 k3 k4 k5 k6 hl h0 hne hyy hl' h3 hd ht w1 w2 w3 e4 e0
          grind
end
end Go.We
namespace Go.Wn
open Go.Ev
/- multiply and subtract -/
/- add back -/
end Go.Wn
