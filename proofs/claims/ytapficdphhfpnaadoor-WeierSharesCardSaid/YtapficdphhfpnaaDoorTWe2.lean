/- The numbers modulo P-256's prime, its curve, its base and the base's order. Own work. -/
import Derived.Test.YtapficdphhfpnaaDoorTWe0
import Derived.Test.YtapficdphhfpnaaDoorTMyPr
set_option linter.unusedSimpArgs false
set_option linter.unusedVariables false
set_option linter.unusedSectionVars false
namespace Go.We
open Go.Wn
set_option maxRecDepth 100000
def P6 : Nat := 115792089210356248762697446949407573530086143415290314195533631308867097853951
def N6 : Nat := 115792089210356248762697446949407573529996955224135760342422259061068512044369
instance nz6 : NeZero P6 := ⟨by decide +kernel⟩
theorem p6_pos : 0 < P6 := by decide +kernel
def cn (k : Nat) : Fin P6 := ⟨k % P6, Nat.mod_lt _ p6_pos⟩
theorem cn_add (a b : Nat) : cn (a + b) = cn a + cn b := Fin.ext (by show (a + b) % P6 = (a % P6 + b % P6) % P6; rw [← Nat.add_mod])
theorem cn_mul (a b : Nat) : cn (a * b) = cn a * cn b := Fin.ext (by show (a * b) % P6 = (a % P6 * (b % P6)) % P6; rw [← Nat.mul_mod])
theorem cn_of (x : Fin P6) : cn x.val = x := Fin.ext (Nat.mod_eq_of_lt x.isLt)
theorem cn_p : cn P6 = 0 := by decide +kernel
theorem cn_mod (k : Nat) : cn (k % P6) = cn k := Fin.ext (Nat.mod_mod _ _)
theorem cn_neg (x : Fin P6) : cn (P6 - x.val) = -x := by
  have h : cn (P6 - x.val) + x = 0 := by
    have := cn_add (P6 - x.val) x.val
    rw [Nat.sub_add_cancel (Nat.le_of_lt x.isLt), cn_p, cn_of] at this
    exact this.symm
  grind
def fp (w : Fin P6) (e : Nat) : Fin P6 := ⟨w.val ^ e % P6, Nat.mod_lt _ p6_pos⟩
theorem fp_add (w : Fin P6) (a b : Nat) : fp w (a + b) = fp w a * fp w b := by
  apply Fin.ext
  show w.val ^ (a + b) % P6 = (w.val ^ a % P6) * (w.val ^ b % P6) % P6
  rw [Nat.pow_add, Nat.mul_mod]
theorem fp_one (w : Fin P6) : fp w 1 = w := by
  apply Fin.ext
  show w.val ^ 1 % P6 = w.val
  rw [Nat.pow_one, Nat.mod_eq_of_lt w.isLt]
def pM : Nat := 115792089210356248762697446949407573530086143415290314195533631308867097853950
def pE : Nat := 115792089210356248762697446949407573530086143415290314195533631308867097853949
theorem pM_eq : pM = P6 - 1 := by decide +kernel
theorem pE_eq : pM = pE + 1 := by decide +kernel
theorem pE_lt : pE < 2 ^ 256 := by decide +kernel
theorem good6 : Go.Wn.Good P6 := prime2
theorem fermat6 {w : Fin P6} (h : w ≠ 0) : fp w pM = 1 := by
  apply Fin.ext
  have h0 : w.val % P6 ≠ 0 := by
    rw [Nat.mod_eq_of_lt w.isLt]
    intro e
    exact h (Fin.ext e)
  have := good6.2 w.val h0
  show w.val ^ pM % P6 = 1 % P6
  rw [pM_eq]
  exact this
def k6 : K P6 where
  inv w := fp w pE
  hinv w h := by
    have := fermat6 h
    rw [pE_eq, fp_add, fp_one] at this
    rw [Fin.mul_comm]
    exact this
  two := by decide +kernel
def b6 : Fin P6 := ⟨41058363725152142129326129780047268409114441015993725554835256314039467401291, by decide +kernel⟩
theorem three6 : (3 : Fin P6) ≠ 0 := by decide +kernel
theorem b6_sq : b6 * b6 - 4 ≠ 0 := by decide +kernel
def c6 : C P6 where
  toK := k6
  a := -3
  b := b6
  ns x h h' := by
    have e1 : (3 : Fin P6) * (x * x - 1) = 0 := by grind
    have e2 := (k6.zero_of e1).resolve_left three6
    have e3 : b6 = 2 * x := by
      have : x * x = 1 := by grind
      have : x * x * x = x := by rw [this]; grind
      grind
    refine b6_sq ?_
    rw [e3]
    grind
def gx : Fin P6 := ⟨48439561293906451759052585252797914202762949526041747995844080717082404635286, by decide +kernel⟩
def gy : Fin P6 := ⟨36134250956749795798585127919587881956611106672985015071877198253568414405109, by decide +kernel⟩
/-- The base. -/
def g6 : Q P6 := .p gx gy
theorem g6_on : c6.on g6 := by
  show gy * gy = gx * gx * gx + -3 * gx + b6
  decide +kernel
/- Points by plain numbers, for the kernel. -/
inductive N3 where
  | o : N3
  | p (x y : Nat) : N3
def N3.R : N3 → Q P6 → Prop
  | .o, .o => True
  | .p x y, .p X Y => x = X.val ∧ y = Y.val
  | _, _ => False
def byN (l x y u : Nat) : N3 := .p ((l * l + (P6 - x) + (P6 - u)) % P6) ((l * (x + (P6 - (l * l + (P6 - x) + (P6 - u)) % P6)) + (P6 - y)) % P6)
def addN : N3 → N3 → N3
  | .o, B => B
  | .p x y, .o => .p x y
  | .p x y, .p u v => match Nat.beq x u with
    | true => match Nat.beq ((y + v) % P6) 0 with
      | true => .o
      | false => byN ((3 * x * x + (P6 - 3)) * pw P6 256 (2 * y) pE 1 % P6) x y u
    | false => byN ((v + (P6 - y)) * pw P6 256 (u + (P6 - x)) pE 1 % P6) x y u
def mulN : Nat → Nat → N3 → N3 → N3
  | 0, _, _, A => A
  | f + 1, k, P, A => mulN f (k / 2) (addN P P) (match Nat.beq (k % 2) 1 with | true => addN A P | false => A)
theorem byN_R (l : Nat) (x y u : Fin P6) : (byN l x.val y.val u.val).R (c6.by_ (cn l) x y u) := by
  have e1 : cn (l * l + (P6 - x.val) + (P6 - u.val)) = cn l * cn l - x - u := by
    rw [cn_add, cn_add, cn_mul, cn_neg, cn_neg]; grind
  have e1' : (l * l + (P6 - x.val) + (P6 - u.val)) % P6 = (cn l * cn l - x - u).val := by rw [← e1]; rfl
  refine ⟨e1', ?_⟩
  rw [e1']
  generalize cn l * cn l - x - u = s
  have e2 : cn (l * (x.val + (P6 - s.val)) + (P6 - y.val)) = cn l * (x - s) - y := by
    rw [cn_add, cn_mul, cn_add, cn_neg, cn_neg, cn_of]; grind
  rw [← e2]
  rfl
theorem inv_cn (k : Nat) : cn (pw P6 256 k pE 1) = c6.inv (cn k) := by
  rw [pw_eq pE_lt, Nat.one_mul]
  apply Fin.ext
  show k ^ pE % P6 % P6 = (k % P6) ^ pE % P6
  rw [Nat.mod_mod, ← Nat.pow_mod]
theorem beq_cases (a b : Nat) : (Nat.beq a b = true ∧ a = b) ∨ (Nat.beq a b = false ∧ a ≠ b) := by
  cases h : Nat.beq a b with
  | true => exact .inl ⟨rfl, Nat.eq_of_beq_eq_true h⟩
  | false => exact .inr ⟨rfl, Nat.ne_of_beq_eq_false h⟩
theorem addN_R {A B : N3} {P R : Q P6} (hA : A.R P) (hB : B.R R) : (addN A B).R (c6.add P R) := by
  cases P with
  | o => cases A with
    | o => rw [c6.o_add]; exact hB
    | p x y => exact hA.elim
  | p X Y => cases A with
    | o => exact hA.elim
    | p x y =>
      cases R with
      | o => cases B with
        | o => exact hA
        | p u v => exact hB.elim
      | p U V => cases B with
        | o => exact hB.elim
        | p u v =>
          obtain ⟨rfl, rfl⟩ := hA
          obtain ⟨rfl, rfl⟩ := hB
          show N3.R (match Nat.beq X.val U.val with
            | true => match Nat.beq ((Y.val + V.val) % P6) 0 with
              | true => .o
              | false => byN ((3 * X.val * X.val + (P6 - 3)) * pw P6 256 (2 * Y.val) pE 1 % P6) X.val Y.val U.val
            | false => byN ((V.val + (P6 - Y.val)) * pw P6 256 (U.val + (P6 - X.val)) pE 1 % P6) X.val Y.val U.val)
            (if X = U then if Y + V = 0 then .o else c6.by_ ((3 * X * X + c6.a) * c6.inv (2 * Y)) X Y U else c6.by_ ((V - Y) * c6.inv (U - X)) X Y U)
          rcases beq_cases X.val U.val with ⟨h1, e1⟩ | ⟨h1, e1⟩
          · rw [h1, if_pos (Fin.ext e1)]
            rcases beq_cases ((Y.val + V.val) % P6) 0 with ⟨h2, e2⟩ | ⟨h2, e2⟩
            · rw [h2, if_pos (show Y + V = 0 from Fin.ext e2)]
              trivial
            · rw [h2, if_neg (fun h => e2 (congrArg Fin.val h))]
              have e : cn ((3 * X.val * X.val + (P6 - 3)) * pw P6 256 (2 * Y.val) pE 1 % P6) = (3 * X * X + c6.a) * c6.inv (2 * Y) := by
                rw [cn_mod, cn_mul, cn_add, cn_mul, cn_mul, inv_cn, cn_mul, cn_of, cn_of]
                rw [show cn 3 = 3 by decide +kernel, show cn (P6 - 3) = c6.a by decide +kernel, show cn 2 = 2 by decide +kernel]
              rw [← e]
              exact byN_R _ X Y U
          · rw [h1, if_neg (fun h => e1 (congrArg Fin.val h))]
            have e : cn ((V.val + (P6 - Y.val)) * pw P6 256 (U.val + (P6 - X.val)) pE 1 % P6) = (V - Y) * c6.inv (U - X) := by
              rw [cn_mod, cn_mul, inv_cn, cn_add, cn_add, cn_neg, cn_neg, cn_of, cn_of]
              rw [show V + -Y = V - Y by grind, show U + -X = U - X by grind]
            rw [← e]
            exact byN_R _ X Y U
theorem mulN_R : ∀ {f k : Nat} {A B : N3} {P R : Q P6}, c6.on P → c6.on R → A.R P → B.R R → k < 2 ^ f → (mulN f k B A).R (c6.add P (c6.mul k R))
  | 0, k, A, B, P, R, _, _, hA, _, hk => by
    have : k = 0 := by simpa using hk
    subst this
    show A.R (c6.add P .o)
    rw [c6.add_o]; exact hA
  | f + 1, k, A, B, P, R, hP, hR, hA, hB, hk => by
    have hk2 : k / 2 < 2 ^ f := by rw [Nat.pow_succ] at hk; omega
    have e2 : c6.mul (k / 2) (c6.add R R) = c6.mul (k / 2 * 2) R := by
      rw [← c6.mul_mul _ _ hR]
      show _ = c6.mul (k / 2) (c6.add R (c6.add R .o))
      rw [c6.add_o]
    show (mulN f (k / 2) (addN B B) (match Nat.beq (k % 2) 1 with | true => addN A B | false => A)).R _
    rcases beq_cases (k % 2) 1 with ⟨h1, e1⟩ | ⟨h1, e1⟩
    · rw [h1]
      have := mulN_R (c6.on_add hP hR) (c6.on_add hR hR) (addN_R hA hB) (addN_R hB hB) hk2
      rw [e2, c6.assoc hP hR (c6.on_mul _ hR)] at this
      rw [show c6.mul k R = c6.mul (k / 2 * 2 + 1) R from congrArg (fun i => c6.mul i R) (by omega)]
      exact this
    · rw [h1]
      have := mulN_R hP (c6.on_add hR hR) hA (addN_R hB hB) hk2
      rw [e2] at this
      rw [show c6.mul k R = c6.mul (k / 2 * 2) R from congrArg (fun i => c6.mul i R) (by omega)]

      exact this
def N3.isO : N3 → Bool
  | .o => true
  | _ => false
theorem N3.R.o_of {A : N3} {P : Q P6} (h : A.R P) (ho : A.isO = true) : P = .o := by
  cases A with
  | o => cases P with
    | o => rfl
    | p x y => exact h.elim
  | p x y => cases ho
def g3 : N3 := .p 48439561293906451759052585252797914202762949526041747995844080717082404635286 36134250956749795798585127919587881956611106672985015071877198253568414405109
theorem gx_val : 48439561293906451759052585252797914202762949526041747995844080717082404635286 = gx.val := by decide +kernel
theorem gy_val : 36134250956749795798585127919587881956611106672985015071877198253568414405109 = gy.val := by decide +kernel
theorem g3_R : g3.R g6 := by
  unfold g3 g6
  exact ⟨gx_val, gy_val⟩
theorem N6_lt : N6 < 2 ^ 256 := by decide +kernel
theorem ord_check : (mulN 256 N6 g3 .o).isO = true := by decide +kernel
theorem mulN_o {f k : Nat} {B : N3} {R : Q P6} (hR : c6.on R) (hB : B.R R) (hk : k < 2 ^ f) (ho : (mulN f k B .o).isO = true) : c6.mul k R = .o := by
  have h := mulN_R (A := .o) (P := .o) trivial hR trivial hB hk
  rw [c6.o_add] at h
  exact h.o_of ho
/-- The base's order. -/
theorem g6_ord : c6.mul N6 g6 = .o := mulN_o g6_on g3_R N6_lt ord_check
end Go.We
namespace Go.We
open Go.Wn
set_option maxRecDepth 100000
/-- a + b r + c r^2, r a root. -/
structure T3 where
  a : Nat
  b : Nat
  c : Nat
def ev (r : Fin P6) (t : T3) : Fin P6 := cn t.a + cn t.b * r + cn t.c * (r * r)
def nb : Nat := 115792089210356248762697446949407573530086143415290314195533631308867097853951 - 41058363725152142129326129780047268409114441015993725554835256314039467401291
/-- The product, r^3 being 3 r - b. -/
def t3 (s t : T3) : T3 :=
  let d := s.b * t.c + s.c * t.b
  let e := s.c * t.c
  ⟨(s.a * t.a + d * nb) % P6, (s.a * t.b + s.b * t.a + 3 * d + e * nb) % P6, (s.a * t.c + s.b * t.b + s.c * t.a + 3 * e) % P6⟩
theorem nb_cn : cn nb = -b6 := by decide +kernel
theorem three_cn : cn 3 = 3 := by decide +kernel
theorem t3_ev {r : Fin P6} (h : r * r * r = 3 * r - b6) (s t : T3) : ev r (t3 s t) = ev r s * ev r t := by
  obtain ⟨a, b, c⟩ := s
  obtain ⟨d, e, f⟩ := t
  unfold ev t3
  simp only [cn_mod, cn_add, cn_mul, nb_cn, three_cn]
  generalize cn a = a
  generalize cn b = b
  generalize cn c = c
  generalize cn d = d
  generalize cn e = e
  generalize cn f = f
  generalize b6 = q at *
  have h4 : r * r * (r * r) = 3 * (r * r) - q * r := by
    have : r * r * (r * r) = (r * r * r) * r := by clear h; grind
    rw [this, h]
    clear h this; grind
  have e1 : (a + b * r + c * (r * r)) * (d + e * r + f * (r * r)) = a * d + (a * e + b * d) * r + (a * f + b * e + c * d) * (r * r) + (b * f + c * e) * (r * r * r) + c * f * (r * r * (r * r)) := by clear h h4; grind
  rw [e1, h, h4]
  clear h h4 e1
  grind
/-- Powers by squaring. -/
def t3pw : Nat → T3 → Nat → T3 → T3
  | 0, _, _, r => r
  | f + 1, g, e, r => t3pw f (t3 g g) (e / 2) (match Nat.beq (e % 2) 1 with | true => t3 r g | false => r)
def fpow (w : Fin P6) : Nat → Fin P6
  | 0 => 1
  | k + 1 => w * fpow w k
theorem fpow_add (w : Fin P6) (j k : Nat) : fpow w (j + k) = fpow w j * fpow w k := by
  induction j with
  | zero => rw [Nat.zero_add]; show _ = 1 * _; grind
  | succ j ih => rw [Nat.succ_add]; show w * fpow w (j + k) = w * fpow w j * _; rw [ih]; grind
theorem fpow_two (w : Fin P6) (k : Nat) : fpow (w * w) k = fpow w (k * 2) := by
  induction k with
  | zero => rfl
  | succ k ih =>
    rw [Nat.succ_mul]
    show w * w * fpow (w * w) k = w * (w * fpow w (k * 2))
    rw [ih]; grind
theorem fp_fpow (w : Fin P6) (k : Nat) : fp w k = fpow w k := by
  induction k with
  | zero => exact Fin.ext (show w.val ^ 0 % P6 = (1 : Fin P6).val by rw [Nat.pow_zero]; rfl)
  | succ k ih => rw [Nat.add_comm, fp_add, fp_one, ih, Nat.add_comm]; rfl
theorem t3pw_ev {r : Fin P6} (h : r * r * r = 3 * r - b6) : ∀ {f e : Nat} {g q : T3}, e < 2 ^ f → ev r (t3pw f g e q) = ev r q * fpow (ev r g) e
  | 0, e, g, q, he => by
    have : e = 0 := by simpa using he
    subst this
    show ev r q = ev r q * 1
    grind
  | f + 1, e, g, q, he => by
    have he2 : e / 2 < 2 ^ f := by rw [Nat.pow_succ] at he; omega
    show ev r (t3pw f (t3 g g) (e / 2) (match Nat.beq (e % 2) 1 with | true => t3 q g | false => q)) = _
    rcases beq_cases (e % 2) 1 with ⟨h1, e1⟩ | ⟨h1, e1⟩
    · rw [h1, t3pw_ev h he2, t3_ev h, t3_ev h, fpow_two]
      rw [show fpow (ev r g) e = fpow (ev r g) (e / 2 * 2 + 1) from congrArg (fun i => fpow (ev r g) i) (by omega), fpow_add]
      show _ = ev r q * (_ * (ev r g * 1))
      grind
    · rw [h1, t3pw_ev h he2, t3_ev h, fpow_two]
      rw [show fpow (ev r g) e = fpow (ev r g) (e / 2 * 2) from congrArg (fun i => fpow (ev r g) i) (by omega)]
/-- r^(p-1), r a root. -/
def tM : T3 := t3pw 256 ⟨0, 1, 0⟩ pM ⟨1, 0, 0⟩
def tV : T3 := ⟨1329494200272334088025261234260733300661356747904386259122323602872221344162, 65139219496015041975106858210491610778084263434064570567129025914677618398151, 74462945259064871768191128030512052509059297803194871526163573358218695456204⟩
def less1 (t : T3) : T3 := ⟨t.a + (P6 - 1), t.b, t.c⟩
theorem cn_1 : cn 1 = 1 := by decide +kernel
theorem cn_0 : cn 0 = 0 := by decide +kernel
def isOne (t : T3) : Bool := Nat.beq t.a 1 && Nat.beq t.b 0 && Nat.beq t.c 0
theorem tV_ok : isOne (t3 tV (less1 tM)) = true := by decide +kernel
theorem lin1 (r : Fin P6) : 1 + 0 * r + 0 * (r * r) = 1 := by rw [Fin.zero_mul, Fin.zero_mul, Fin.add_zero, Fin.add_zero]
theorem isOne_ev {t : T3} (h : isOne t = true) (r : Fin P6) : ev r t = 1 := by
  obtain ⟨a, b, c⟩ := t
  unfold isOne at h
  simp only [Bool.and_eq_true] at h
  obtain ⟨⟨h1, h2⟩, h3⟩ := h
  have e1 := Nat.eq_of_beq_eq_true h1
  have e2 := Nat.eq_of_beq_eq_true h2
  have e3 := Nat.eq_of_beq_eq_true h3
  show cn a + cn b * r + cn c * (r * r) = 1
  rw [e1, e2, e3, cn_1, cn_0]
  exact lin1 r
theorem less1_ev (t : T3) (r : Fin P6) : ev r (less1 t) = ev r t - 1 := by
  obtain ⟨a, b, c⟩ := t
  show cn (a + (P6 - 1)) + cn b * r + cn c * (r * r) = cn a + cn b * r + cn c * (r * r) - 1
  rw [cn_add, show cn (P6 - 1) = -1 by decide +kernel]
  grind
theorem mul_11 (z : Fin P6) : z * (1 - 1) = 0 := by
  rw [show (1 : Fin P6) - 1 = 0 by decide +kernel]
  exact Fin.mul_zero z
theorem one_ne : (1 : Fin P6) ≠ 0 := by decide +kernel
theorem pM_lt : pM < 2 ^ 256 := by decide +kernel
theorem b6_ne : b6 ≠ 0 := by decide +kernel
theorem tM_ev {r : Fin P6} (h : r * r * r = 3 * r - b6) : ev r tM = fpow r pM := by
  have e := t3pw_ev h (g := ⟨0, 1, 0⟩) (q := ⟨1, 0, 0⟩) pM_lt
  have e1 : ev r ⟨1, 0, 0⟩ = 1 := isOne_ev rfl r
  have e2 : ev r ⟨0, 1, 0⟩ = r := by
    show cn 0 + cn 1 * r + cn 0 * (r * r) = r
    rw [cn_1, cn_0]
    grind
  rw [e1, e2] at e
  have e3 : (1 : Fin P6) * fpow r pM = fpow r pM := by grind
  exact e.trans e3
/-- No root. -/
theorem no_root (r : Fin P6) : r * r * r + -3 * r + b6 ≠ 0 := fun h0 => by
  have h : r * r * r = 3 * r - b6 := by grind
  have hr : r ≠ 0 := fun e => b6_ne (by subst e; clear h; grind)
  have h1 := tM_ev h
  rw [← fp_fpow, fermat6 hr] at h1
  have h2 := t3_ev h tV (less1 tM)
  rw [isOne_ev tV_ok, less1_ev, h1, mul_11] at h2
  exact one_ne h2
/-- No point's y is 0. -/
theorem no2 (s t : Fin P6) (h : c6.on (.p s t)) : t ≠ 0 := fun e => by
  subst e
  have h : (0 : Fin P6) * 0 = s * s * s + -3 * s + b6 := h
  exact no_root s (by rw [← h]; grind)
end Go.We
namespace Go.We
section
variable {n : Nat} [NeZero n]
/-- X/Z, Y/Z are a point's; Z 0: the one at infinity's. -/
def PT (X Y Z : Fin n) : Q n → Prop
  | .o => Z = 0
  | .p x y => Z ≠ 0 ∧ X = x * Z ∧ Y = y * Z
theorem PT.z0 {X Y Z : Fin n} {P : Q n} (h : PT X Y Z P) (hz : Z = 0) : P = .o := by
  cases P with
  | o => rfl
  | p x y => exact absurd hz h.1
theorem PT.z1 {X Y Z : Fin n} {P : Q n} (h : PT X Y Z P) (hz : Z ≠ 0) : ∃ x y, P = .p x y ∧ X = x * Z ∧ Y = y * Z := by
  cases P with
  | o => exact absurd h hz
  | p x y => exact ⟨x, y, rfl, h.2⟩
theorem PT.none {X Y : Fin n} : PT X Y 0 .o := rfl
/-- A tangent's slope. -/
theorem C.L.tan {c : C n} {x y s t : Fin n} (h : c.L x y x y s t) : ∃ l : Fin n, l * (2 * y) = 3 * x * x + c.a ∧ s = l * l - x - x ∧ t = y + l * (s - x) := by
  obtain ⟨l, h1, h2, h3, h4⟩ := h
  have hs : s = l * l - x - x := by clear h1 h2 h4; grind
  refine ⟨l, ?_, hs, h2⟩
  clear h1 h2 h3
  subst hs
  grind
/-- A chord's slope. -/
theorem C.L.chord {c : C n} {x y u v s t : Fin n} (h : c.L x y u v s t) : ∃ l : Fin n, v - y = l * (u - x) ∧ s = l * l - x - u ∧ t = y + l * (s - x) := by
  obtain ⟨l, h1, h2, h3, h4⟩ := h
  exact ⟨l, by clear h2 h3 h4; grind, by clear h1 h2 h4; grind, h2⟩
/-- Twice a point whose y isn't 0. -/
theorem C.twice_PT (c : C n) (ha : c.a = -3) {X Y Z T u v w uy : Fin n} {P : Q n} (hP : c.on P) (h : PT X Y Z P) (hz : Z ≠ 0) (hy : Y ≠ 0) (eT : T = 3 * (X * X - Z * Z)) (eu : u = Y * Z) (ev : v = u * (X * Y)) (ew : w = T * T - 8 * v) (euy : uy = u * Y) :
    PT (2 * (u * w)) (T * (4 * v - w) - 8 * (uy * uy)) (8 * (u * (u * u))) (c.add P P) := by
  obtain ⟨x, y, rfl, hx, hY⟩ := h.z1 hz
  have hy0 : y ≠ 0 := fun e => hy (by rw [hY, e]; clear hY hx eT eu ev ew euy hP h; grind)
  have h2y : 2 * y ≠ 0 := c.mul_ne c.two hy0
  obtain ⟨s, t, hl⟩ := C.L_of hP hP (fun ⟨_, e⟩ => h2y (by clear hY hx eT eu ev ew euy hP h hy0 h2y; grind))
  rw [hl.add hP hP]
  obtain ⟨l, e1, e2, e3⟩ := hl.tan
  rw [ha] at e1
  have eT' : T = Z * Z * (l * (2 * y)) := by rw [e1, eT, hx]; clear hY hx eT eu ev ew euy hP h hy0 h2y e1 e2 e3 hl; grind
  have ew' : w = 4 * y * y * (Z * Z * Z * Z) * s := by rw [ew, ev, eu, eT', hx, hY, e2]; clear hY hx eT eu ev ew euy hP h hy0 h2y e1 e2 e3 hl eT'; grind
  refine ⟨?_, ?_, ?_⟩
  · rw [show (8 : Fin n) = 2 * 2 * 2 by grind, eu]
    have h22 := c.mul_ne (c.mul_ne c.two c.two) c.two
    have hu := c.mul_ne hy hz
    exact c.mul_ne h22 (c.mul_ne hu (c.mul_ne hu hu))
  · rw [ew', eu, hY]; clear hY hx eT eu ev ew euy hP h hy0 h2y e1 e2 e3 hl eT' ew'; grind
  · rw [ew', euy, ev, eu, hY, eT', e3, hx]; clear hY hx eT eu ev ew euy hP h hy0 h2y e1 e3 hl eT' ew'; grind
/-- A point whose y is 0 is its own mirror. -/
theorem C.twice_0 (c : C n) {X Y Z : Fin n} {P : Q n} (h : PT X Y Z P) (h0 : Z = 0 ∨ Y = 0) : c.add P P = .o := by
  by_cases hz : Z = 0
  · rw [h.z0 hz]; rfl
  · obtain ⟨x, y, rfl, hx, hY⟩ := h.z1 hz
    have hy := h0.resolve_left hz
    rw [hy] at hY
    have : y = 0 := (c.zero_of hY.symm).resolve_right hz
    subst this
    have := c.add_neg (.p x (0 : Fin n))
    rw [show c.neg (.p x (0 : Fin n)) = .p x 0 by show Q.p x (-0) = _; rw [show (-0 : Fin n) = 0 by grind]] at this
    exact this
/-- A sum by the chord. -/
theorem C.plus_PT (c : C n) {X Y Z X' Y' Z' x y u v w vv vvv r k : Fin n} {P R : Q n} (hP : c.on P) (hR : c.on R) (h : PT X Y Z P) (h' : PT X' Y' Z' R) (hz : Z ≠ 0) (hz' : Z' ≠ 0) (ex : x = X * Z') (ey : y = Y * Z') (eu : u = Y' * Z - y) (ev : v = X' * Z - x) (hv : v ≠ 0) (ew : w = Z * Z') (evv : vv = v * v) (evvv : vvv = v * vv) (er : r = vv * x) (ek : k = u * u * w - vvv - (r + r)) :
    PT (v * k) (u * (r - k) - vvv * y) (vvv * w) (c.add P R) := by
  obtain ⟨x1, y1, rfl, hx, hy⟩ := h.z1 hz
  obtain ⟨x2, y2, rfl, hx', hy'⟩ := h'.z1 hz'
  have hw : w ≠ 0 := by rw [ew]; exact c.mul_ne hz hz'
  have ev' : v = (x2 - x1) * w := by rw [ev, ex, hx, hx', ew]; clear ek er evvv evv ew hv ev eu ey ex hx hy hx' hy' hP hR h h'; grind
  have eu' : u = (y2 - y1) * w := by rw [eu, ey, hy, hy', ew]; clear ek er evvv evv ew hv ev eu ey ex hx hy hx' hy' hP hR h h' ev'; grind
  have ex' : x = x1 * w := by rw [ex, hx, ew]; clear ek er evvv evv ew hv ev eu ey ex hx hy hx' hy' hP hR h h' ev' eu'; grind
  have ey' : y = y1 * w := by rw [ey, hy, ew]; clear ek er evvv evv ew hv ev eu ey ex hx hy hx' hy' hP hR h h' ev' eu' ex'; grind
  have hne : x1 ≠ x2 := fun e => hv (by rw [ev', e]; clear ek er evvv evv ew hv ev eu ey ex hx hy hx' hy' hP hR h h' ev' eu' ex' ey'; grind)
  obtain ⟨s, t, hl⟩ := C.L_of hP hR (fun e => hne e.1)
  rw [hl.add hP hR]
  obtain ⟨l, e1, e2, e3⟩ := hl.chord
  have eul : u = l * v := by rw [eu', e1, ev']; clear ek er evvv evv ew hv ev eu ey ex hx hy hx' hy' hP hR h h' ev' eu' ex' ey' hne hl e1 e2 e3; grind
  have ek' : k = v * v * w * s := by
    have hvx : v + x1 * w = x2 * w := by rw [ev']; clear ek er evvv evv ew hv ev eu ey ex hx hy hx' hy' hP hR h h' ev' eu' ex' ey' hne hl e1 e2 e3 eul; grind
    rw [ek, er, evvv, evv, eul, ex', e2]
    clear ek er evvv evv ew hv ev eu ey ex hx hy hx' hy' hP hR h h' ev' eu' ex' ey' hne hl e1 e2 e3 eul
    grind
  refine ⟨?_, ?_, ?_⟩
  · rw [evvv, evv]; exact c.mul_ne (c.mul_ne hv (c.mul_ne hv hv)) hw
  · rw [ek', evvv, evv]; clear ek er evvv evv ew hv ev eu ey ex hx hy hx' hy' hP hR h h' ev' eu' ex' ey' hne hl e1 e2 e3 eul ek'; grind
  · rw [ek', er, evvv, evv, eul, ex', ey', e3]; clear ek er evvv evv ew hv ev eu ey ex hx hy hx' hy' hP hR h h' ev' eu' ex' ey' hne hl e1 e2 e3 eul ek'; grind
/-- The same x: the same point, or its mirror. -/
theorem C.plus_v0 (c : C n) {X Y Z X' Y' Z' x y u v : Fin n} {P R : Q n} (hP : c.on P) (hR : c.on R) (h : PT X Y Z P) (h' : PT X' Y' Z' R) (hz : Z ≠ 0) (hz' : Z' ≠ 0) (ex : x = X * Z') (ey : y = Y * Z') (eu : u = Y' * Z - y) (ev : v = X' * Z - x) (hv : v = 0) : (u = 0 → R = P) ∧ (u ≠ 0 → c.add P R = .o) := by
  obtain ⟨x1, y1, rfl, hx, hy⟩ := h.z1 hz
  obtain ⟨x2, y2, rfl, hx', hy'⟩ := h'.z1 hz'
  have hw : Z * Z' ≠ 0 := c.mul_ne hz hz'
  have e1 : (x2 - x1) * (Z * Z') = 0 := by rw [← hv, ev, ex, hx, hx']; clear hv ev eu ey ex hx hy hx' hy' hP hR h h' hw; grind
  have e2 : (y2 - y1) * (Z * Z') = u := by rw [eu, ey, hy, hy']; clear hv ev eu ey ex hx hy hx' hy' hP hR h h' hw e1; grind
  have e3 := (c.zero_of e1).resolve_right hw
  have e4 : x2 = x1 := by clear hv ev eu ey ex hx hy hx' hy' hP hR h h' hw e1 e2; grind
  subst e4
  refine ⟨fun hu => ?_, fun hu => ?_⟩
  · rw [hu] at e2
    have e5 := (c.zero_of e2).resolve_right hw
    have e6 : y2 = y1 := by clear hv ev eu ey ex hx hy hx' hy' hP hR h h' hw e1 e2 e3 hu; grind
    rw [e6]
  · rcases c.sum hP hR with ⟨_, h0⟩ | ⟨s, t, hl, _, _⟩
    · exact h0
    · obtain ⟨l, k1, _, _, _⟩ := hl
      refine absurd ?_ hu
      rw [← e2, k1]
      clear hv ev eu ey ex hx hy hx' hy' hP hR h h' hw e1 e2 e3 hu k1
      grind
end
end Go.We
