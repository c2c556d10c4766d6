/- The numbers modulo 2^255 - 19; the two curves of a u; the ladder reckons multiples. Own work. -/
import Derived.Test.YthelmpjkkkhopaaDoorSEoE
set_option linter.unusedSimpArgs false
set_option linter.unusedVariables false
set_option linter.unusedSectionVars false
namespace Go.Mo
open Go.Ev Go.Wn Go.Ed
def P25 : Nat := 57896044618658097711785492504343953926634992332820282019728792003956564819949
instance nz25 : NeZero P25 := ⟨by decide +kernel⟩
theorem p25_pos : 0 < P25 := by decide +kernel
def fp (w : Fin P25) (e : Nat) : Fin P25 := ⟨w.val ^ e % P25, Nat.mod_lt _ p25_pos⟩
theorem fp_add (w : Fin P25) (a b : Nat) : fp w (a + b) = fp w a * fp w b := by
  apply Fin.ext
  show w.val ^ (a + b) % P25 = (w.val ^ a % P25) * (w.val ^ b % P25) % P25
  rw [Nat.pow_add, Nat.mul_mod]
theorem fp_mul (v w : Fin P25) (a : Nat) : fp (v * w) a = fp v a * fp w a := by
  apply Fin.ext
  show (v.val * w.val % P25) ^ a % P25 = (v.val ^ a % P25) * (w.val ^ a % P25) % P25
  rw [← Nat.pow_mod, Nat.mul_pow, Nat.mul_mod]
theorem fp_one (w : Fin P25) : fp w 1 = w := by
  apply Fin.ext
  show w.val ^ 1 % P25 = w.val
  rw [Nat.pow_one, Nat.mod_eq_of_lt w.isLt]
def pM : Nat := 57896044618658097711785492504343953926634992332820282019728792003956564819948
def pH : Nat := 28948022309329048855892746252171976963317496166410141009864396001978282409974
def pQ : Nat := 14474011154664524427946373126085988481658748083205070504932198000989141204987
def p8 : Nat := 7237005577332262213973186563042994240829374041602535252466099000494570602494
theorem pM_eq : pM = P25 - 1 := by decide +kernel
theorem pH_eq : pM = pH + pH := by decide +kernel
theorem pQ_eq : pH = pQ + pQ := by decide +kernel
theorem p8_eq : p8 + p8 = pQ + 1 := by decide +kernel
theorem pE_eq : pM = pE + 1 := by decide +kernel
theorem good25 : Go.Wn.Good P25 := prime0
theorem fermat25 {w : Fin P25} (h : w ≠ 0) : fp w pM = 1 := by
  apply Fin.ext
  have h0 : w.val % P25 ≠ 0 := by
    rw [Nat.mod_eq_of_lt w.isLt]
    intro e
    exact h (Fin.ext e)
  have := good25.2 w.val h0
  show w.val ^ pM % P25 = 1 % P25
  rw [pM_eq]
  exact this
theorem fp_lit (d e r : Nat) (hd : d < P25) (hr : r < P25) (he : e < 2 ^ 256) (h : pw P25 256 d e 1 = r) : fp ⟨d, hd⟩ e = ⟨r, hr⟩ := by
  apply Fin.ext
  show d ^ e % P25 = r
  rw [← h, pw_eq he, Nat.one_mul]
def i25 : Fin P25 := ⟨19681161376707505956807079304988542015446066515923890162744021073123829784752, by decide +kernel⟩
theorem i25_sq : i25 * i25 = -1 := by decide +kernel
theorem two25 : (2 : Fin P25) ≠ 0 := by decide +kernel
def k25 : K P25 where
  inv w := fp w pE
  hinv w h := by
    have := fermat25 h
    rw [pE_eq, fp_add, fp_one] at this
    rw [Fin.mul_comm]
    exact this
  i := i25
  hi := i25_sq
  two := two25
theorem nsq_of {d : Nat} (hd : d < P25) (h : pw P25 256 d pH 1 = P25 - 1) (z : Fin P25) : z * z ≠ ⟨d, hd⟩ := fun e => by
  have e1 := fp_lit d pH (P25 - 1) hd (by decide +kernel) (by decide +kernel) h
  rw [← e, fp_mul, ← fp_add, ← pH_eq] at e1
  by_cases hz : z = 0
  · subst hz
    have e2 : d = 0 := by
      have := congrArg Fin.val e
      have e3 : ((0 : Fin P25) * 0).val = 0 := by decide +kernel
      rw [e3] at this
      exact this.symm
    subst e2
    revert h
    decide +kernel
  · rw [fermat25 hz] at e1
    revert e1
    decide +kernel
def dA : Fin P25 := ⟨37095705934669439343138083508754565189542113879843219016388785533085940283555, by decide +kernel⟩
def cA : Ed.C P25 := { k25 with D := dA, nsq := nsq_of _ (by decide +kernel), D1 := by decide +kernel }
end Go.Mo
namespace Go.Mo
open Go.Ev Go.Wn Go.Ed
def ok (x : Int) : Prop := 0 ≤ x ∧ x < 115792089237316195423570985008687907853269984665640564039457584007913129639936
def ph (x : Int) : Fin P25 := ⟨(x % (P25 : Int)).toNat, by
  have h1 : (0 : Int) < (P25 : Int) := by have := p25_pos; omega
  have h2 := Int.emod_nonneg x (by omega : (P25 : Int) ≠ 0)
  have h3 := Int.emod_lt_of_pos x h1
  omega⟩
theorem vl_ok {x : Int} (h : ok x) : vl x = x := by
  unfold vl ok at *
  rw [val_limbs]
  exact Int.emod_eq_of_lt h.1 h.2
theorem pl_eq : val PL = (P25 : Int) := vPL
theorem p_pos : (0 : Int) < (P25 : Int) := by have := p25_pos; omega
theorem ok_mod (x : Int) : ok (x % val PL) := by
  have h2 := Int.emod_nonneg x (by rw [vPL]; decide : val PL ≠ 0)
  have h3 := Int.emod_lt_of_pos x (by rw [vPL]; decide : 0 < val PL)
  have h4 : val PL < 115792089237316195423570985008687907853269984665640564039457584007913129639936 := by rw [vPL]; decide
  exact ⟨h2, by omega⟩
theorem ph_val (x : Int) : ((ph x).val : Int) = x % (P25 : Int) := by
  have h2 := Int.emod_nonneg x (by have := p_pos; omega : (P25 : Int) ≠ 0)
  show (((x % (P25 : Int)).toNat : Nat) : Int) = _
  omega
theorem ph_ext {x y : Int} (h : x % (P25 : Int) = y % (P25 : Int)) : ph x = ph y := by
  apply Fin.ext
  have := ph_val x; have := ph_val y
  omega
theorem ph_mod (x : Int) : ph (x % (P25 : Int)) = ph x := ph_ext (Int.emod_emod_of_dvd _ (Int.dvd_refl _))
theorem ph_add (x y : Int) : ph (x + y) = ph x + ph y := by
  apply Fin.ext
  have h1 : ((ph x + ph y).val : Int) = ((ph x).val + (ph y).val : Int) % (P25 : Int) := by rw [Fin.val_add]; simp
  have h2 := ph_val (x + y)
  rw [ph_val, ph_val, ← Int.add_emod, ← h2] at h1
  exact_mod_cast h1.symm
theorem ph_mul (x y : Int) : ph (x * y) = ph x * ph y := by
  apply Fin.ext
  have h1 : ((ph x * ph y).val : Int) = ((ph x).val * (ph y).val : Int) % (P25 : Int) := by rw [Fin.val_mul]; simp
  have h2 := ph_val (x * y)
  rw [ph_val, ph_val, ← Int.mul_emod, ← h2] at h1
  exact_mod_cast h1.symm
theorem ph_sub (x y : Int) : ph (x - y) = ph x - ph y := by
  have h : ph (x - y) + ph y = ph x := by rw [← ph_add, Int.sub_add_cancel]
  rw [← h]
  grind
theorem aI_ok (x y : Int) : ok (aI x y) := ok_mod _
theorem sI_ok (x y : Int) : ok (sI x y) := ok_mod _
theorem mI_ok (x y : Int) : ok (mI x y) := ok_mod _
theorem ph_a {x y : Int} (hx : ok x) (hy : ok y) : ph (aI x y) = ph x + ph y := by unfold aI; rw [pl_eq, ph_mod, vl_ok hx, vl_ok hy, ph_add]
theorem ph_s {x y : Int} (hx : ok x) (hy : ok y) : ph (sI x y) = ph x - ph y := by unfold sI; rw [pl_eq, ph_mod, vl_ok hx, vl_ok hy, ph_sub]
theorem ph_m {x y : Int} (hx : ok x) (hy : ok y) : ph (mI x y) = ph x * ph y := by unfold mI; rw [pl_eq, ph_mod, vl_ok hx, vl_ok hy, ph_mul]
theorem ok_1 : ok 1 := ⟨by decide, by decide⟩
theorem ok_0 : ok 0 := ⟨by decide, by decide⟩
theorem ph_pow (x : Int) : ∀ e : Nat, ph (x ^ e) = fp (ph x) e
  | 0 => by rw [Int.pow_zero]; apply Fin.ext; show ((1 : Int) % (P25 : Int)).toNat = (ph x).val ^ 0 % P25; rw [Nat.pow_zero]; decide +kernel
  | e + 1 => by rw [Int.pow_succ, ph_mul, ph_pow x e, fp_add, fp_one]
theorem ph_p {z : Int} (hz : ok z) : ph (pI z) = fp (ph z) pE := by
  unfold pI
  rw [pl_eq, ph_mod, vl_ok hz, ph_pow, show ((P25 : Int) - 2).toNat = pE by decide +kernel]
theorem fp_zero' {e : Nat} (he : 0 < e) : fp 0 e = 0 := by
  apply Fin.ext
  show (0 : Fin P25).val ^ e % P25 = 0
  rw [show (0 : Fin P25).val = 0 by decide +kernel, Nat.zero_pow he, Nat.zero_mod]
def L25 : Nat := 7237005577332262213973186563042994240857116359379907606001950938285454250989
end Go.Mo
namespace Go.Ed
section
variable {n : Nat} [NeZero n]
theorem C.neg_O (c : C n) : c.neg c.O = c.O := by
  refine Pt.ext' ?_ rfl
  show -(0 : Fin n) = 0
  grind
/-- What makes nothing with a point is its mirror. -/
theorem C.neg_of (c : C n) {P Q : Pt n} (hP : c.on P) (hQ : c.on Q) (h : c.add P Q = c.O) : Q = c.neg P := by
  have h1 := c.back hP hQ
  rw [h, c.O_add] at h1
  exact h1.symm
theorem C.neg_sum (c : C n) {P Q : Pt n} (hP : c.on P) (hQ : c.on Q) : c.neg (c.add P Q) = c.add (c.neg P) (c.neg Q) := by
  refine (c.neg_of (c.on_add hP hQ) (c.on_add (c.on_neg hP) (c.on_neg hQ)) ?_).symm
  rw [c.comm P Q, c.assoc hQ hP (c.on_add (c.on_neg hP) (c.on_neg hQ)), ← c.assoc hP (c.on_neg hP) (c.on_neg hQ), c.comm P (c.neg P), c.neg_add hP, c.O_add, c.comm, c.neg_add hQ]
theorem C.mul_neg (c : C n) {P : Pt n} (hP : c.on P) : ∀ k, c.mul k (c.neg P) = c.neg (c.mul k P)
  | 0 => c.neg_O.symm
  | k + 1 => by
    show c.add (c.mul k (c.neg P)) (c.neg P) = c.neg (c.add (c.mul k P) P)
    rw [c.mul_neg hP k, c.neg_sum (c.on_mul hP k) hP]
/-- Modulo an order. -/
theorem C.mul_mod (c : C n) {P : Pt n} (hP : c.on P) {L : Nat} (hL : c.mul L P = c.O) (k : Nat) : c.mul (k % L) P = c.mul k P := by
  have h := c.add_mul hP (L * (k / L)) (k % L)
  rw [Nat.div_add_mod, Nat.mul_comm L, ← c.mul_mul hP, hL, c.mul_O, c.O_add] at h
  exact h.symm
/-- What a signature's number makes, less the key's, is the first part. -/
theorem C.signed (c : C n) {B : Pt n} (hB : c.on B) {L : Nat} (hL : c.mul L B = c.O) (r k s : Nat) : c.add (c.mul ((r + k * s) % L) B) (c.mul k (c.neg (c.mul s B))) = c.mul r B := by
  rw [c.mul_mod hB hL, c.mul_neg (c.on_mul hB s), c.mul_mul hB, c.add_mul hB, c.assoc (c.on_mul hB r) (c.on_mul hB _) (c.on_neg (c.on_mul hB _)), c.comm (c.mul (k * s) B), c.neg_add (c.on_mul hB _), c.add_O]
theorem C.dy (c : C n) {y : Fin n} : 1 + c.D * y * y ≠ 0 := fun h => by
  have hi := c.hi
  by_cases hy : y = 0
  · subst hy
    have two := c.two
    exact two (by grind)
  · have h1 := c.hinv y hy
    exact c.nsq (c.i * c.inv y) (by
      generalize c.inv y = v at *
      generalize c.D = D at *
      have : D * (y * v) * (y * v) = -(v * v) := by grind
      rw [h1] at this
      grind)
end
end Go.Ed
namespace Go.Mo
open Go.Ev Go.Wn Go.Ed
set_option maxRecDepth 100000
/-- The root that the powers make: a square's, up to i. -/
theorem root_ok {w : Fin P25} (h : w ≠ 0) : (∃ s, s * s = w) ↔ (fp w p8 * fp w p8 = w ∨ (fp w p8 * i25) * (fp w p8 * i25) = w) := by
  constructor
  · intro ⟨s, hs⟩
    have hs0 : s ≠ 0 := fun e => h (by rw [← hs, e]; grind)
    have h4 : fp w pH = 1 := by rw [← hs, fp_mul, ← fp_add, ← pH_eq, fermat25 hs0]
    rw [pQ_eq, fp_add] at h4
    have h5 := fp_add w p8 p8
    rw [p8_eq, fp_add, fp_one] at h5
    have h6 : (fp w pQ - 1) * (fp w pQ + 1) = 0 := by grind
    have hk := i25_sq
    rcases k25.zero_of h6 with h7 | h7
    · left; grind
    · right; grind
  · rintro (h1 | h1)
    · exact ⟨_, h1⟩
    · exact ⟨_, h1⟩
/-- The base: y = 4/5, x even. -/
def ptB : Pt P25 := ⟨⟨15112221349535400772501151409588531511454012693041857206046113283949847762202, by decide +kernel⟩, ⟨46316835694926478169428394003475163141307993866256225615783033603165251855960, by decide +kernel⟩⟩
theorem ptB_on : cA.on ptB := by unfold C.on; decide +kernel
end Go.Mo
namespace Go.Ed
section
variable {n : Nat} [NeZero n]
theorem ex_k (x1 y1 z1 x2 y2 z2 : Fin n) : (y1 * z1 + x1 * z1) * (y2 * z2 + x2 * z2) - (y1 * z1 - x1 * z1) * (y2 * z2 - x2 * z2) = (z1 + z1) * z2 * (x1 * y2 + y1 * x2) := by grind
theorem ey_k (x1 y1 z1 x2 y2 z2 : Fin n) : (y1 * z1 + x1 * z1) * (y2 * z2 + x2 * z2) + (y1 * z1 - x1 * z1) * (y2 * z2 - x2 * z2) = (z1 + z1) * z2 * (y1 * y2 + x1 * x2) := by grind
theorem eu_k (x1 y1 z1 x2 y2 z2 d : Fin n) : (z1 + z1) * z2 + (d + d) * (x1 * y1 * z1) * (x2 * y2 * z2) = (z1 + z1) * z2 * (1 + d * x1 * x2 * y1 * y2) := by grind
theorem ev_k (x1 y1 z1 x2 y2 z2 d : Fin n) : (z1 + z1) * z2 - (d + d) * (x1 * y1 * z1) * (x2 * y2 * z2) = (z1 + z1) * z2 * (1 - d * x1 * x2 * y1 * y2) := by grind
theorem ex_x (k a b s t : Fin n) : (k * (s * a)) * (k * b) = s * ((k * a) * (k * b)) := by grind
theorem ex_y (k a b t : Fin n) : (k * (t * b)) * (k * a) = t * ((k * a) * (k * b)) := by grind
theorem ex_t (k a b s t : Fin n) : (k * (s * a)) * (k * (t * b)) = s * t * ((k * a) * (k * b)) := by grind
/-- X/Z, Y/Z is the point, T/Z the product of both. -/
def C.PT (_ : C n) (X Y Z T : Fin n) (P : Pt n) : Prop := Z ≠ 0 ∧ X = P.x * Z ∧ Y = P.y * Z ∧ T = P.x * P.y * Z
theorem C.sum_T (c : C n) {X1 Y1 Z1 T1 X2 Y2 Z2 T2 : Fin n} {P Q : Pt n} (hP : c.on P) (hQ : c.on Q) (h1 : c.PT X1 Y1 Z1 T1 P) (h2 : c.PT X2 Y2 Z2 T2 Q) :
    c.PT (((Y1 + X1) * (Y2 + X2) - (Y1 - X1) * (Y2 - X2)) * ((Z1 + Z1) * Z2 - (c.D + c.D) * T1 * T2)) (((Y1 + X1) * (Y2 + X2) + (Y1 - X1) * (Y2 - X2)) * ((Z1 + Z1) * Z2 + (c.D + c.D) * T1 * T2))
      (((Z1 + Z1) * Z2 + (c.D + c.D) * T1 * T2) * ((Z1 + Z1) * Z2 - (c.D + c.D) * T1 * T2)) (((Y1 + X1) * (Y2 + X2) - (Y1 - X1) * (Y2 - X2)) * ((Y1 + X1) * (Y2 + X2) + (Y1 - X1) * (Y2 - X2))) (c.add P Q) := by
  obtain ⟨k1, rfl, rfl, rfl⟩ := h1
  obtain ⟨k2, rfl, rfl, rfl⟩ := h2
  have sx := c.sx hP hQ; have sy := c.sy hP hQ
  have d1 := c.d1 hP hQ; have d2 := c.d2 hP hQ
  rw [ex_k, ey_k, eu_k, ev_k, ← sx, ← sy]
  have hk : (Z1 + Z1) * Z2 ≠ 0 := c.mul_ne (fun h => c.mul_ne c.two k1 (by grind)) k2
  generalize (Z1 + Z1) * Z2 = k at *
  generalize 1 + c.D * P.x * Q.x * P.y * Q.y = a at *
  generalize 1 - c.D * P.x * Q.x * P.y * Q.y = b at *
  exact ⟨c.mul_ne (c.mul_ne hk d1) (c.mul_ne hk d2), ex_x _ _ _ _ 0, ex_y _ _ _ _, ex_t _ _ _ _ _⟩
theorem C.PT_xy (c : C n) {X Y Z T : Fin n} {P : Pt n} (h : c.PT X Y Z T P) : X * c.inv Z = P.x ∧ Y * c.inv Z = P.y := by
  obtain ⟨hz, rfl, rfl, _⟩ := h
  have := c.hinv Z hz
  exact ⟨by rw [Fin.mul_assoc, this, Fin.mul_one], by rw [Fin.mul_assoc, this, Fin.mul_one]⟩
theorem C.PT_neg (c : C n) {X Y Z T : Fin n} {P : Pt n} (h : c.PT X Y Z T P) : c.PT (0 - X) Y Z (0 - T) (c.neg P) := by
  obtain ⟨hz, rfl, rfl, rfl⟩ := h
  refine ⟨hz, ?_, rfl, ?_⟩
  · show 0 - P.x * Z = -P.x * Z
    grind
  · show 0 - P.x * P.y * Z = -P.x * P.y * Z
    grind
theorem C.PT_O (c : C n) (h1 : (1 : Fin n) ≠ 0) : c.PT 0 1 1 0 c.O := ⟨h1, by show (0 : Fin n) = 0 * 1; grind, by show (1 : Fin n) = 1 * 1; grind, by show (0 : Fin n) = 0 * 1 * 1; grind⟩
/-- A point off its four numbers. -/
theorem C.PT_of (c : C n) (h1 : (1 : Fin n) ≠ 0) (P : Pt n) : c.PT P.x P.y 1 (P.x * P.y) P := ⟨h1, (Fin.mul_one _).symm, (Fin.mul_one _).symm, (Fin.mul_one _).symm⟩
end
end Go.Ed
namespace Go.Mo
open Go.Ev Go.Wn Go.Ed
set_option maxRecDepth 100000
structure E4 where
  x : Int
  y : Int
  z : Int
  t : Int
def dI2 : Int := 16295367250680780974490674513165176452449235426866156013048779062215315747161
def eMi (p q : E4) : Int := mI (sI p.y p.x) (sI q.y q.x)
def ePl (p q : E4) : Int := mI (aI p.y p.x) (aI q.y q.x)
def eOn (p q : E4) : Int := mI (aI p.z p.z) q.z
def eMo (p q : E4) : Int := mI (mI dI2 p.t) q.t
def eX (p q : E4) : Int := sI (ePl p q) (eMi p q)
def eY (p q : E4) : Int := aI (ePl p q) (eMi p q)
def eU (p q : E4) : Int := aI (eOn p q) (eMo p q)
def eV (p q : E4) : Int := sI (eOn p q) (eMo p q)
/-- A sum, as the program reckons it. -/
def eSum (p q : E4) : E4 := ⟨mI (eX p q) (eV p q), mI (eY p q) (eU p q), mI (eU p q) (eV p q), mI (eX p q) (eY p q)⟩
def E4.ok (p : E4) : Prop := Go.Mo.ok p.x ∧ Go.Mo.ok p.y ∧ Go.Mo.ok p.z ∧ Go.Mo.ok p.t
def E4.R (p : E4) (P : Pt P25) : Prop := p.ok ∧ cA.PT (ph p.x) (ph p.y) (ph p.z) (ph p.t) P
theorem dI2_ok : ok dI2 := ⟨by decide, by decide⟩
theorem ph_d2 : ph dI2 = dA + dA := by decide +kernel
theorem eSum_ok (p q : E4) : (eSum p q).ok := ⟨mI_ok _ _, mI_ok _ _, mI_ok _ _, mI_ok _ _⟩
theorem ph_eMi {p q : E4} (hp : p.ok) (hq : q.ok) : ph (eMi p q) = (ph p.y - ph p.x) * (ph q.y - ph q.x) := by
  unfold eMi; rw [ph_m (sI_ok _ _) (sI_ok _ _), ph_s hp.2.1 hp.1, ph_s hq.2.1 hq.1]
theorem ph_ePl {p q : E4} (hp : p.ok) (hq : q.ok) : ph (ePl p q) = (ph p.y + ph p.x) * (ph q.y + ph q.x) := by
  unfold ePl; rw [ph_m (aI_ok _ _) (aI_ok _ _), ph_a hp.2.1 hp.1, ph_a hq.2.1 hq.1]
theorem ph_eOn {p q : E4} (hp : p.ok) (hq : q.ok) : ph (eOn p q) = (ph p.z + ph p.z) * ph q.z := by
  unfold eOn; rw [ph_m (aI_ok _ _) hq.2.2.1, ph_a hp.2.2.1 hp.2.2.1]
theorem ph_eMo {p q : E4} (hp : p.ok) (hq : q.ok) : ph (eMo p q) = (dA + dA) * ph p.t * ph q.t := by
  unfold eMo; rw [ph_m (mI_ok _ _) hq.2.2.2, ph_m dI2_ok hp.2.2.2, ph_d2]
theorem eSum_R {p q : E4} {P Q : Pt P25} (hP : cA.on P) (hQ : cA.on Q) (hp : p.R P) (hq : q.R Q) : (eSum p q).R (cA.add P Q) := by
  refine ⟨eSum_ok p q, ?_⟩
  have h := cA.sum_T hP hQ hp.2 hq.2
  have e1 : ph (eX p q) = (ph p.y + ph p.x) * (ph q.y + ph q.x) - (ph p.y - ph p.x) * (ph q.y - ph q.x) := by
    unfold eX; rw [ph_s (show ok (ePl p q) from mI_ok _ _) (show ok (eMi p q) from mI_ok _ _), ph_ePl hp.1 hq.1, ph_eMi hp.1 hq.1]
  have e2 : ph (eY p q) = (ph p.y + ph p.x) * (ph q.y + ph q.x) + (ph p.y - ph p.x) * (ph q.y - ph q.x) := by
    unfold eY; rw [ph_a (show ok (ePl p q) from mI_ok _ _) (show ok (eMi p q) from mI_ok _ _), ph_ePl hp.1 hq.1, ph_eMi hp.1 hq.1]
  have e3 : ph (eU p q) = (ph p.z + ph p.z) * ph q.z + (cA.D + cA.D) * ph p.t * ph q.t := by
    unfold eU; rw [ph_a (show ok (eOn p q) from mI_ok _ _) (show ok (eMo p q) from mI_ok _ _), ph_eOn hp.1 hq.1, ph_eMo hp.1 hq.1]; rfl
  have e4 : ph (eV p q) = (ph p.z + ph p.z) * ph q.z - (cA.D + cA.D) * ph p.t * ph q.t := by
    unfold eV; rw [ph_s (show ok (eOn p q) from mI_ok _ _) (show ok (eMo p q) from mI_ok _ _), ph_eOn hp.1 hq.1, ph_eMo hp.1 hq.1]; rfl
  rw [← e1, ← e2, ← e3, ← e4] at h
  have oX : ok (eX p q) := sI_ok _ _
  have oY : ok (eY p q) := aI_ok _ _
  have oU : ok (eU p q) := aI_ok _ _
  have oV : ok (eV p q) := sI_ok _ _
  show cA.PT (ph (mI (eX p q) (eV p q))) (ph (mI (eY p q) (eU p q))) (ph (mI (eU p q) (eV p q))) (ph (mI (eX p q) (eY p q))) (cA.add P Q)
  rw [ph_m oX oV, ph_m oY oU, ph_m oU oV, ph_m oX oY]
  exact h
/-- Nothing. -/
def eO : E4 := ⟨0, 1, 1, 0⟩
theorem ph_0 : ph 0 = 0 := by decide +kernel
theorem ph_1 : ph 1 = 1 := by decide +kernel
theorem one25 : (1 : Fin P25) ≠ 0 := by decide +kernel
theorem eO_R : eO.R cA.O := ⟨⟨ok_0, ok_1, ok_1, ok_0⟩, by
  show cA.PT (ph 0) (ph 1) (ph 1) (ph 0) cA.O
  rw [ph_0, ph_1]
  exact cA.PT_O one25⟩
/-- After j steps, from bit 254 down. -/
def ePr (N : Int) (p : E4) : Nat → E4
  | 0 => eO
  | j + 1 => if N / 2 ^ (254 - j) % 2 = 1 then eSum (eSum (ePr N p j) (ePr N p j)) p else eSum (ePr N p j) (ePr N p j)
theorem ePr_R {p : E4} {P : Pt P25} (hP : cA.on P) (hp : p.R P) {N : Nat} (hN : N < 2 ^ 255) : ∀ j, j ≤ 255 → (ePr (N : Int) p j).R (cA.mul (N / 2 ^ (255 - j)) P)
  | 0, _ => by rw [Nat.sub_zero, Nat.div_eq_of_lt hN]; exact eO_R
  | j + 1, hj => by
    have ih := ePr_R hP hp hN j (by omega)
    have e : 255 - j = (254 - j) + 1 := by omega
    rw [e, Nat.pow_succ, ← Nat.div_div_eq_div_mul] at ih
    have e2 : 255 - (j + 1) = 254 - j := by omega
    rw [e2]
    have eb : ((N : Int) / 2 ^ (254 - j) % 2) = ((N / 2 ^ (254 - j) % 2 : Nat) : Int) := by
      rw [Int.natCast_emod, Int.natCast_ediv, Int.natCast_pow]; rfl
    have hd : (eSum (ePr (N : Int) p j) (ePr (N : Int) p j)).R (cA.mul (N / 2 ^ (254 - j) / 2 + N / 2 ^ (254 - j) / 2) P) := by
      rw [cA.add_mul hP]
      exact eSum_R (cA.on_mul hP _) (cA.on_mul hP _) ih ih
    show (if (N : Int) / 2 ^ (254 - j) % 2 = 1 then eSum (eSum (ePr N p j) (ePr N p j)) p else eSum (ePr N p j) (ePr N p j)).R _
    rw [eb]
    generalize N / 2 ^ (254 - j) = M at *
    by_cases h : M % 2 = 1
    · rw [if_pos (by omega)]
      have h2 : M = (M / 2 + M / 2) + 1 := by omega
      rw [h2]
      exact eSum_R (cA.on_mul hP _) hP hd hp
    · rw [if_neg (by omega)]
      have h2 : M = M / 2 + M / 2 := by omega
      rw [h2]
      exact hd
/-- So many times a point. -/
def eMul (N : Int) (p : E4) : E4 := ePr N p 255
theorem eMul_R {p : E4} {P : Pt P25} (hP : cA.on P) (hp : p.R P) {N : Nat} (hN : N < 2 ^ 255) : (eMul (N : Int) p).R (cA.mul N P) := by
  have := ePr_R hP hp hN 255 (by omega)
  rwa [Nat.sub_self, Nat.pow_zero, Nat.div_one] at this
/-- The number of a point's bytes. -/
def ptI (P : Pt P25) : Int := (P.y.val : Int) + 57896044618658097711785492504343953926634992332820282019728792003956564819968 * ((P.x.val : Int) % 2)
def eWx (p : E4) : Int := mI p.x (pI p.z)
def eWy (p : E4) : Int := mI p.y (pI p.z)
theorem mI_range (x y : Int) : 0 ≤ mI x y ∧ mI x y < (P25 : Int) := by
  unfold mI
  rw [pl_eq]
  exact ⟨Int.emod_nonneg _ (by have := p_pos; omega), Int.emod_lt_of_pos _ p_pos⟩
theorem ph_lt {x : Int} (h : 0 ≤ x ∧ x < (P25 : Int)) : ((ph x).val : Int) = x := by rw [ph_val, Int.emod_eq_of_lt h.1 h.2]
theorem inv_A (z : Fin P25) : cA.inv z = fp z pE := rfl
theorem pI_ok (z : Int) : ok (pI z) := ok_mod _
theorem eW_xy {p : E4} {P : Pt P25} (hp : p.R P) : eWx p = (P.x.val : Int) ∧ eWy p = (P.y.val : Int) := by
  obtain ⟨⟨o1, o2, o3, _⟩, h⟩ := hp
  obtain ⟨h1, h2⟩ := cA.PT_xy h
  rw [inv_A, ← ph_p o3] at h1 h2
  constructor
  · rw [← h1, ← ph_m o1 (pI_ok _)]; exact (ph_lt (mI_range _ _)).symm
  · rw [← h2, ← ph_m o2 (pI_ok _)]; exact (ph_lt (mI_range _ _)).symm
/-- The base. -/
def eB : E4 := ⟨15112221349535400772501151409588531511454012693041857206046113283949847762202, 46316835694926478169428394003475163141307993866256225615783033603165251855960, 1, 46827403850823179245072216630277197565144205554125654976674165829533817101731⟩
theorem eB_R : eB.R ptB := ⟨⟨⟨by decide, by decide⟩, ⟨by decide, by decide⟩, ok_1, ⟨by decide, by decide⟩⟩, by
  refine ⟨by decide +kernel, by decide +kernel, by decide +kernel, by decide +kernel⟩⟩
end Go.Mo
