/- The numbers modulo 2^255 - 19; the two curves of a u; the ladder reckons multiples. Own work. -/
import Derived.Test.YthelmpjkkkhopaaDoorPEoE
import Derived.Test.YthelmpjkkkhopaaDoorPMyW
set_option linter.unusedSimpArgs false
set_option linter.unusedVariables false
set_option linter.unusedSectionVars false
namespace Go.Mo
open Go.Ev Go.Wn Go.Ed
def P25 : Nat := 57896044618658097711785492504343953926634992332820282019728792003956564819949
instance nz25 : NeZero P25 := ⟨by decide +kernel⟩
theorem p25_pos : 0 < P25 := by decide +kernel
def fp (w : Fin P25) (e : Nat) : Fin P25 := ⟨w.val ^ e % P25, Nat.mod_lt _ p25_pos⟩
theorem fp_add (w : Fin P25) (a b : Nat) : fp w (a + b) = fp w a * fp w b := by
  apply Fin.ext
  show w.val ^ (a + b) % P25 = (w.val ^ a % P25) * (w.val ^ b % P25) % P25
  rw [Nat.pow_add, Nat.mul_mod]
theorem fp_mul (v w : Fin P25) (a : Nat) : fp (v * w) a = fp v a * fp w a := by
  apply Fin.ext
  show (v.val * w.val % P25) ^ a % P25 = (v.val ^ a % P25) * (w.val ^ a % P25) % P25
  rw [← Nat.pow_mod, Nat.mul_pow, Nat.mul_mod]
theorem fp_one (w : Fin P25) : fp w 1 = w := by
  apply Fin.ext
  show w.val ^ 1 % P25 = w.val
  rw [Nat.pow_one, Nat.mod_eq_of_lt w.isLt]
def pM : Nat := 57896044618658097711785492504343953926634992332820282019728792003956564819948
def pH : Nat := 28948022309329048855892746252171976963317496166410141009864396001978282409974
def p8 : Nat := 7237005577332262213973186563042994240829374041602535252466099000494570602494
theorem pM_eq : pM = P25 - 1 := by decide +kernel
theorem pH_eq : pM = pH + pH := by decide +kernel
theorem pE_eq : pM = pE + 1 := by decide +kernel
theorem good25 : Go.Wn.Good P25 := prime0
theorem fermat25 {w : Fin P25} (h : w ≠ 0) : fp w pM = 1 := by
  apply Fin.ext
  have h0 : w.val % P25 ≠ 0 := by
    rw [Nat.mod_eq_of_lt w.isLt]
    intro e
    exact h (Fin.ext e)
  have := good25.2 w.val h0
  show w.val ^ pM % P25 = 1 % P25
  rw [pM_eq]
  exact this
theorem fp_lit (d e r : Nat) (hd : d < P25) (hr : r < P25) (he : e < 2 ^ 256) (h : pw P25 256 d e 1 = r) : fp ⟨d, hd⟩ e = ⟨r, hr⟩ := by
  apply Fin.ext
  show d ^ e % P25 = r
  rw [← h, pw_eq he, Nat.one_mul]
def i25 : Fin P25 := ⟨19681161376707505956807079304988542015446066515923890162744021073123829784752, by decide +kernel⟩
theorem i25_sq : i25 * i25 = -1 := by decide +kernel
theorem two25 : (2 : Fin P25) ≠ 0 := by decide +kernel
def k25 : K P25 where
  inv w := fp w pE
  hinv w h := by
    have := fermat25 h
    rw [pE_eq, fp_add, fp_one] at this
    rw [Fin.mul_comm]
    exact this
  i := i25
  hi := i25_sq
  two := two25
theorem nsq_of {d : Nat} (hd : d < P25) (h : pw P25 256 d pH 1 = P25 - 1) (z : Fin P25) : z * z ≠ ⟨d, hd⟩ := fun e => by
  have e1 := fp_lit d pH (P25 - 1) hd (by decide +kernel) (by decide +kernel) h
  rw [← e, fp_mul, ← fp_add, ← pH_eq] at e1
  by_cases hz : z = 0
  · subst hz
    have e2 : d = 0 := by
      have := congrArg Fin.val e
      have e3 : ((0 : Fin P25) * 0).val = 0 := by decide +kernel
      rw [e3] at this
      exact this.symm
    subst e2
    revert h
    decide +kernel
  · rw [fermat25 hz] at e1
    revert e1
    decide +kernel
def dA : Fin P25 := ⟨37095705934669439343138083508754565189542113879843219016388785533085940283555, by decide +kernel⟩
def cA : Ed.C P25 := { k25 with D := dA, nsq := nsq_of _ (by decide +kernel), D1 := by decide +kernel }
end Go.Mo
namespace Go.Mo
open Go.Ev Go.Wn Go.Ed
def ok (x : Int) : Prop := 0 ≤ x ∧ x < 115792089237316195423570985008687907853269984665640564039457584007913129639936
def ph (x : Int) : Fin P25 := ⟨(x % (P25 : Int)).toNat, by
  have h1 : (0 : Int) < (P25 : Int) := by have := p25_pos; omega
  have h2 := Int.emod_nonneg x (by omega : (P25 : Int) ≠ 0)
  have h3 := Int.emod_lt_of_pos x h1
  omega⟩
theorem vl_ok {x : Int} (h : ok x) : vl x = x := by
  unfold vl ok at *
  rw [val_limbs]
  exact Int.emod_eq_of_lt h.1 h.2
theorem pl_eq : val PL = (P25 : Int) := vPL
theorem p_pos : (0 : Int) < (P25 : Int) := by have := p25_pos; omega
theorem ok_mod (x : Int) : ok (x % val PL) := by
  have h2 := Int.emod_nonneg x (by rw [vPL]; decide : val PL ≠ 0)
  have h3 := Int.emod_lt_of_pos x (by rw [vPL]; decide : 0 < val PL)
  have h4 : val PL < 115792089237316195423570985008687907853269984665640564039457584007913129639936 := by rw [vPL]; decide
  exact ⟨h2, by omega⟩
theorem sI_ok (x y : Int) : ok (sI x y) := ok_mod _
theorem mI_ok (x y : Int) : ok (mI x y) := ok_mod _
theorem ok_1 : ok 1 := ⟨by decide, by decide⟩
theorem ok_0 : ok 0 := ⟨by decide, by decide⟩
def L25 : Nat := 7237005577332262213973186563042994240857116359379907606001950938285454250989
end Go.Mo
namespace Go.Ed
section
variable {n : Nat} [NeZero n]
theorem C.neg_O (c : C n) : c.neg c.O = c.O := by
  refine Pt.ext' ?_ rfl
  show -(0 : Fin n) = 0
  grind
/-- What makes nothing with a point is its mirror. -/
theorem C.neg_of (c : C n) {P Q : Pt n} (hP : c.on P) (hQ : c.on Q) (h : c.add P Q = c.O) : Q = c.neg P := by
  have h1 := c.back hP hQ
  rw [h, c.O_add] at h1
  exact h1.symm
theorem C.neg_sum (c : C n) {P Q : Pt n} (hP : c.on P) (hQ : c.on Q) : c.neg (c.add P Q) = c.add (c.neg P) (c.neg Q) := by
  refine (c.neg_of (c.on_add hP hQ) (c.on_add (c.on_neg hP) (c.on_neg hQ)) ?_).symm
  rw [c.comm P Q, c.assoc hQ hP (c.on_add (c.on_neg hP) (c.on_neg hQ)), ← c.assoc hP (c.on_neg hP) (c.on_neg hQ), c.comm P (c.neg P), c.neg_add hP, c.O_add, c.comm, c.neg_add hQ]
theorem C.mul_neg (c : C n) {P : Pt n} (hP : c.on P) : ∀ k, c.mul k (c.neg P) = c.neg (c.mul k P)
  | 0 => c.neg_O.symm
  | k + 1 => by
    show c.add (c.mul k (c.neg P)) (c.neg P) = c.neg (c.add (c.mul k P) P)
    rw [c.mul_neg hP k, c.neg_sum (c.on_mul hP k) hP]
/-- Modulo an order. -/
theorem C.mul_mod (c : C n) {P : Pt n} (hP : c.on P) {L : Nat} (hL : c.mul L P = c.O) (k : Nat) : c.mul (k % L) P = c.mul k P := by
  have h := c.add_mul hP (L * (k / L)) (k % L)
  rw [Nat.div_add_mod, Nat.mul_comm L, ← c.mul_mul hP, hL, c.mul_O, c.O_add] at h
  exact h.symm
/-- What a signature's number makes, less the key's, is the first part. -/
theorem C.signed (c : C n) {B : Pt n} (hB : c.on B) {L : Nat} (hL : c.mul L B = c.O) (r k s : Nat) : c.add (c.mul ((r + k * s) % L) B) (c.mul k (c.neg (c.mul s B))) = c.mul r B := by
  rw [c.mul_mod hB hL, c.mul_neg (c.on_mul hB s), c.mul_mul hB, c.add_mul hB, c.assoc (c.on_mul hB r) (c.on_mul hB _) (c.on_neg (c.on_mul hB _)), c.comm (c.mul (k * s) B), c.neg_add (c.on_mul hB _), c.add_O]
end
end Go.Ed
namespace Go.Mo
open Go.Ev Go.Wn Go.Ed
set_option maxRecDepth 100000
/-- The base: y = 4/5, x even. -/
def ptB : Pt P25 := ⟨⟨15112221349535400772501151409588531511454012693041857206046113283949847762202, by decide +kernel⟩, ⟨46316835694926478169428394003475163141307993866256225615783033603165251855960, by decide +kernel⟩⟩
end Go.Mo
namespace Go.Ed
section
variable {n : Nat} [NeZero n]
/-- X/Z, Y/Z is the point, T/Z the product of both. -/
def C.PT (_ : C n) (X Y Z T : Fin n) (P : Pt n) : Prop := Z ≠ 0 ∧ X = P.x * Z ∧ Y = P.y * Z ∧ T = P.x * P.y * Z
end
end Go.Ed
namespace Go.Mo
open Go.Ev Go.Wn Go.Ed
set_option maxRecDepth 100000
structure E4 where
  x : Int
  y : Int
  z : Int
  t : Int
def dI2 : Int := 16295367250680780974490674513165176452449235426866156013048779062215315747161
def eMi (p q : E4) : Int := mI (sI p.y p.x) (sI q.y q.x)
def ePl (p q : E4) : Int := mI (aI p.y p.x) (aI q.y q.x)
def eOn (p q : E4) : Int := mI (aI p.z p.z) q.z
def eMo (p q : E4) : Int := mI (mI dI2 p.t) q.t
def eX (p q : E4) : Int := sI (ePl p q) (eMi p q)
def eY (p q : E4) : Int := aI (ePl p q) (eMi p q)
def eU (p q : E4) : Int := aI (eOn p q) (eMo p q)
def eV (p q : E4) : Int := sI (eOn p q) (eMo p q)
/-- A sum, as the program reckons it. -/
def eSum (p q : E4) : E4 := ⟨mI (eX p q) (eV p q), mI (eY p q) (eU p q), mI (eU p q) (eV p q), mI (eX p q) (eY p q)⟩
def E4.ok (p : E4) : Prop := Go.Mo.ok p.x ∧ Go.Mo.ok p.y ∧ Go.Mo.ok p.z ∧ Go.Mo.ok p.t
def E4.R (p : E4) (P : Pt P25) : Prop := p.ok ∧ cA.PT (ph p.x) (ph p.y) (ph p.z) (ph p.t) P
theorem eSum_ok (p q : E4) : (eSum p q).ok := ⟨mI_ok _ _, mI_ok _ _, mI_ok _ _, mI_ok _ _⟩
/-- Nothing. -/
def eO : E4 := ⟨0, 1, 1, 0⟩
/-- After j steps, from bit 254 down. -/
def ePr (N : Int) (p : E4) : Nat → E4
  | 0 => eO
  | j + 1 => if N / 2 ^ (254 - j) % 2 = 1 then eSum (eSum (ePr N p j) (ePr N p j)) p else eSum (ePr N p j) (ePr N p j)
/-- So many times a point. -/
def eMul (N : Int) (p : E4) : E4 := ePr N p 255
def eWx (p : E4) : Int := mI p.x (pI p.z)
def eWy (p : E4) : Int := mI p.y (pI p.z)
theorem mI_range (x y : Int) : 0 ≤ mI x y ∧ mI x y < (P25 : Int) := by
  unfold mI
  rw [pl_eq]
  exact ⟨Int.emod_nonneg _ (by have := p_pos; omega), Int.emod_lt_of_pos _ p_pos⟩
/-- The base. -/
def eB : E4 := ⟨15112221349535400772501151409588531511454012693041857206046113283949847762202, 46316835694926478169428394003475163141307993866256225615783033603165251855960, 1, 46827403850823179245072216630277197565144205554125654976674165829533817101731⟩
theorem eB_R : eB.R ptB := ⟨⟨⟨by decide, by decide⟩, ⟨by decide, by decide⟩, ok_1, ⟨by decide, by decide⟩⟩, by
  refine ⟨by decide +kernel, by decide +kernel, by decide +kernel, by decide +kernel⟩⟩
end Go.Mo
namespace Go.Mo
open Go.Ev Go.Wn Go.Ed
set_option maxRecDepth 100000
def T255 : Int := 57896044618658097711785492504343953926634992332820282019728792003956564819968
def dI : Int := 37095705934669439343138083508754565189542113879843219016388785533085940283555
def iI : Int := 19681161376707505956807079304988542015446066515923890162744021073123829784752
/-- x^2 of a y. -/
def fXX (y : Int) : Int := mI (sI (mI y y) 1) (pI (aI 1 (mI dI (mI y y))))
/-- A number to the power (p + 3)/8. -/
def fR (w : Int) : Int := (vl w ^ p8) % val PL
def fX0 (y : Int) : Int := fR (fXX y)
def fX (y : Int) : Int := if mI (fX0 y) (fX0 y) = fXX y then fX0 y else mI (fX0 y) iI
def fOk (y : Int) : Bool := decide (mI (fX y) (fX y) = fXX y)
/-- Are these a point's y, and bit of x? -/
def ryB (y o : Int) : Bool := decide (y < (P25 : Int)) && (fOk y && !(decide (fX y = 0) && decide (o = 1)))
def ryX (y o : Int) : Int := if (o + fX y) % 2 = 1 then sI 0 (fX y) else fX y
def ryP (y o : Int) : E4 := ⟨ryX y o, y, 1, mI (ryX y o) y⟩
def inP (x : Int) : Prop := 0 ≤ x ∧ x < (P25 : Int)
theorem inP_ok {x : Int} (h : inP x) : ok x := by
  have h2 := h.2
  have h3 : (P25 : Int) < 115792089237316195423570985008687907853269984665640564039457584007913129639936 := by decide
  exact ⟨h.1, by omega⟩
theorem mI_inP (x y : Int) : inP (mI x y) := mI_range x y
theorem mod_inP (x : Int) : inP (x % val PL) := by rw [pl_eq]; exact ⟨Int.emod_nonneg _ (by have := p_pos; omega), Int.emod_lt_of_pos _ p_pos⟩
theorem fX_inP (y : Int) : inP (fX y) := by
  unfold fX
  split
  · exact mod_inP _
  · exact mI_inP _ _
theorem fXX_inP (y : Int) : inP (fXX y) := mI_inP _ _
theorem rdX_inP (y o : Int) : inP (ryX y o) := by
  unfold ryX
  split
  · exact mod_inP _
  · exact fX_inP y
end Go.Mo
namespace Go.Mo
open Go.Ev Go.Wn
theorem iandn_eq (x y : Int) : iandn .u64 x y = ((bv x &&& ~~~ bv y).toNat : Int) := by
  have h := bv_range (bv x &&& ~~~ bv y)
  unfold W at h
  exact uw64 h
theorem iandn_seven {x : Int} (h : W x) : iandn .u64 x 7 = x - x % 8 := by
  rw [iandn_eq]
  have hb := bv_W h
  have e : (bv x &&& ~~~ bv 7) + (bv x &&& bv 7) = bv x := by
    rw [BitVec.add_eq_or_of_and_eq_zero]
    · ext i hi; simp; cases (bv x)[i] <;> simp
    · ext i hi; simp only [BitVec.getElem_and, BitVec.getElem_not, BitVec.getElem_zero]; cases (bv x)[i] <;> cases (bv 7)[i] <;> rfl
  have e2 : (bv x &&& bv 7).toNat = (bv x).toNat % 8 := by
    rw [BitVec.toNat_and, show (bv 7).toNat = 2 ^ 3 - 1 by decide, Nat.and_two_pow_sub_one_eq_mod]
  have e3 : (bv x &&& ~~~ bv 7).toNat ≤ (bv x).toNat := by rw [BitVec.toNat_and]; exact Nat.and_le_left
  have e4 := congrArg BitVec.toNat e
  rw [BitVec.toNat_add, e2] at e4
  have := (bv x).isLt
  unfold W at h
  omega
theorem iandn_top {x : Int} (h : W x) : iandn .u64 x 9223372036854775808 = x % 9223372036854775808 := by
  rw [iandn_eq, BitVec.toNat_and, show (~~~ bv 9223372036854775808).toNat = 2 ^ 63 - 1 by decide, Nat.and_two_pow_sub_one_eq_mod]
  have hb := bv_W h
  unfold W at h
  omega
theorem ior_top {y : Int} (h : 0 ≤ y ∧ y < 9223372036854775808) : ior .u64 y 4611686018427387904 = y % 4611686018427387904 + 4611686018427387904 := by
  by_cases hy : y < 4611686018427387904
  · rw [(ior_sum (x := 4611686018427387904) (y := y) (s := 62) (A := 1) (by omega) (by decide) h.1 (by simp only [Int.reducePow]; omega) (by omega)).2]
    omega
  · obtain ⟨Y, rfl⟩ := Int.eq_ofNat_of_zero_le h.1
    obtain ⟨r, rfl⟩ : ∃ r, Y = 2 ^ 62 + r := ⟨Y - 2 ^ 62, by omega⟩
    have hr : r < 2 ^ 62 := by omega
    have e : 2 ^ 62 + r = (2 ^ 62 ||| r) := by
      have := Nat.shiftLeft_add_eq_or_of_lt hr 1
      simpa [Nat.shiftLeft_eq] using this
    have key : (2 ^ 62 + r) ||| 2 ^ 62 = 2 ^ 62 + r := by rw [e, Nat.or_comm, ← Nat.or_assoc, Nat.or_self]
    have hb1 := bv_W (x := ((2 ^ 62 + r : Nat) : Int)) (by unfold W; omega)
    have hb2 : (bv 4611686018427387904).toNat = 2 ^ 62 := by decide
    unfold ior
    show IntKind.u64.wrap (((bv ((2 ^ 62 + r : Nat) : Int) ||| bv 4611686018427387904).toNat : Nat) : Int) = _
    rw [BitVec.toNat_or, hb2, show (bv ((2 ^ 62 + r : Nat) : Int)).toNat = 2 ^ 62 + r by omega, key, uw64 (by omega)]
    omega
end Go.Mo
namespace Go.Mo
open Go.Ev Go.Wn
def kwL (l : List Int) : List Int := (l.set 0 (iandn .u64 (l.getD 0 0) 7)).set 3 (ior .u64 (iandn .u64 ((l.set 0 (iandn .u64 (l.getD 0 0) 7)).getD 3 0) 9223372036854775808) 4611686018427387904)
def uwL (l : List Int) : List Int := l.set 3 (iandn .u64 (l.getD 3 0) 9223372036854775808)
theorem W8_W {a b c d e f g h : Int} (ha : B8 a) (hb : B8 b) (hc : B8 c) (hd : B8 d) (he : B8 e) (hf : B8 f) (hg : B8 g) (hh : B8 h) : W (W8 a b c d e f g h) := by
  unfold B8 W W8 at *; omega
def clI (K : Int) : Int := K % 28948022309329048855892746252171976963317496166410141009864396001978282409984 - K % 8 + 28948022309329048855892746252171976963317496166410141009864396001978282409984
def upI (U : Int) : Int := U % 57896044618658097711785492504343953926634992332820282019728792003956564819968
end Go.Mo
namespace Go.Proofs.YthelmpjkkkhopaaDoor
open Go.Ev Go.Wn Go.Mo
set_option maxRecDepth 100000
def leI (l : List Int) : Int := val (litL l)
theorem lit_words {l : List Int} (hl : l.length = 32) (hr : ∀ x ∈ l, inR .u8 x = true) : ∃ a b c d, litL l = [a, b, c, d] ∧ W a ∧ W b ∧ W c ∧ W d := by
  obtain ⟨b0, b1, b2, b3, b4, b5, b6, b7, b8, b9, b10, b11, b12, b13, b14, b15, b16, b17, b18, b19, b20, b21, b22, b23, b24, b25, b26, b27, b28, b29, b30, b31, rfl⟩ := thirty hl
  simp only [List.forall_mem_cons, List.not_mem_nil, false_implies, implies_true, and_true] at hr
  obtain ⟨k0, k1, k2, k3, k4, k5, k6, k7, k8, k9, k10, k11, k12, k13, k14, k15, k16, k17, k18, k19, k20, k21, k22, k23, k24, k25, k26, k27, k28, k29, k30, k31⟩ := hr
  exact ⟨_, _, _, _, rfl, W8_W (inR_B8 k7) (inR_B8 k6) (inR_B8 k5) (inR_B8 k4) (inR_B8 k3) (inR_B8 k2) (inR_B8 k1) (inR_B8 k0), W8_W (inR_B8 k15) (inR_B8 k14) (inR_B8 k13) (inR_B8 k12) (inR_B8 k11) (inR_B8 k10) (inR_B8 k9) (inR_B8 k8), W8_W (inR_B8 k23) (inR_B8 k22) (inR_B8 k21) (inR_B8 k20) (inR_B8 k19) (inR_B8 k18) (inR_B8 k17) (inR_B8 k16), W8_W (inR_B8 k31) (inR_B8 k30) (inR_B8 k29) (inR_B8 k28) (inR_B8 k27) (inR_B8 k26) (inR_B8 k25) (inR_B8 k24)⟩
theorem limbs_of {a b c d : Int} (ha : W a) (hb : W b) (hc : W c) (hd : W d) : limbs (val [a, b, c, d]) = [a, b, c, d] := by
  unfold limbs val W at *
  simp only [List.getD_cons_zero, List.getD_cons_succ, List.cons.injEq, and_true]
  refine ⟨?_, ?_, ?_, ?_⟩ <;> omega
theorem kw_eq {l : List Int} (hl : l.length = 32) (hr : ∀ x ∈ l, inR .u8 x = true) : val (kwL (litL l)) = clI (leI l) ∧ limbs (val (kwL (litL l))) = kwL (litL l) := by
  obtain ⟨a, b, c, d, e, ha, hb, hc, hd⟩ := lit_words hl hr
  unfold leI
  rw [e]
  have e2 : kwL [a, b, c, d] = [iandn .u64 a 7, b, c, ior .u64 (iandn .u64 d 9223372036854775808) 4611686018427387904] := rfl
  have hd2 : 0 ≤ d % 9223372036854775808 ∧ d % 9223372036854775808 < 9223372036854775808 := by omega
  rw [e2, iandn_seven ha, iandn_top hd, ior_top hd2]
  refine ⟨?_, limbs_of (by unfold W at *; omega) hb hc (by unfold W at *; omega)⟩
  unfold clI val W at *
  simp only [List.getD_cons_zero, List.getD_cons_succ]
  omega
theorem uw_eq {l : List Int} (hl : l.length = 32) (hr : ∀ x ∈ l, inR .u8 x = true) : val (uwL (litL l)) = upI (leI l) ∧ limbs (val (uwL (litL l))) = uwL (litL l) ∧ (uwL (litL l)).length = 4 := by
  obtain ⟨a, b, c, d, e, ha, hb, hc, hd⟩ := lit_words hl hr
  unfold leI
  rw [e]
  have e2 : uwL [a, b, c, d] = [a, b, c, iandn .u64 d 9223372036854775808] := rfl
  rw [e2, iandn_top hd]
  refine ⟨?_, limbs_of ha hb hc (by unfold W at *; omega), rfl⟩
  unfold upI val W at *
  simp only [List.getD_cons_zero, List.getD_cons_succ]
  omega
theorem byteW_b {x : Int} (s : Nat) : inR .u8 (byteW x s) = true := by
  rw [inR_iff]
  simp only [lo, hi]
  unfold byteW
  omega
theorem W8_back {a : Int} (ha : W a) : W8 (byteW a 56) (byteW a 48) (byteW a 40) (byteW a 32) (byteW a 24) (byteW a 16) (byteW a 8) (byteW a 0) = a := by
  unfold W8 byteW W at *
  simp only [Int.reducePow]
  omega
theorem tb_ok {x : Int} (h : ok x) : (turnedL (limbs x)).length = 32 ∧ (∀ y ∈ turnedL (limbs x), inR .u8 y = true) ∧ leI (turnedL (limbs x)) = x := by
  have hw := limbs_W x
  have hv : val (limbs x) = x := vl_ok h
  obtain ⟨a, b, c, d, e⟩ := four (show (limbs x).length = 4 from rfl)
  rw [e] at hw hv ⊢
  have wa := hw a (by simp); have wb := hw b (by simp); have wc := hw c (by simp); have wd := hw d (by simp)
  refine ⟨rfl, fun y hy => ?_, ?_⟩
  · simp only [turnedL, List.mem_cons, List.not_mem_nil, or_false] at hy
    rcases hy with rfl | rfl | rfl | rfl | rfl | rfl | rfl | rfl | rfl | rfl | rfl | rfl | rfl | rfl | rfl | rfl | rfl | rfl | rfl | rfl | rfl | rfl | rfl | rfl | rfl | rfl | rfl | rfl | rfl | rfl | rfl | rfl <;> exact byteW_b _
  · unfold leI turnedL litL
    simp only
    rw [W8_back wa, W8_back wb, W8_back wc, W8_back wd]
    exact hv
def okb (l : List Int) : Prop := l.length = 32 ∧ ∀ x ∈ l, inR .u8 x = true
theorem le_range {l : List Int} (h : okb l) : 0 ≤ leI l ∧ leI l < 115792089237316195423570985008687907853269984665640564039457584007913129639936 := by
  obtain ⟨a, b, c, d, e, ha, hb, hc, hd⟩ := lit_words h.1 h.2
  unfold leI
  rw [e]
  exact val_range ha hb hc hd
theorem cl_nat {l : List Int} (h : okb l) : ∃ N : Nat, clI (leI l) = (N : Int) ∧ N < 2 ^ 255 ∧ N % 8 = 0 ∧ 0 < N := by
  have hr := le_range h
  generalize leI l = K at *
  have h1 : 0 < clI K ∧ clI K < 57896044618658097711785492504343953926634992332820282019728792003956564819968 ∧ clI K % 8 = 0 := by unfold clI; omega
  generalize clI K = x at *
  obtain ⟨N, rfl⟩ := Int.eq_ofNat_of_zero_le (by omega : 0 ≤ x)
  have hN : N < 57896044618658097711785492504343953926634992332820282019728792003956564819968 := by omega
  exact ⟨N, rfl, hN, by omega, by omega⟩
theorem big_rev {l : List Int} (h : l.length = 32) : bigL l.reverse = litL l := by
  obtain ⟨b0, b1, b2, b3, b4, b5, b6, b7, b8, b9, b10, b11, b12, b13, b14, b15, b16, b17, b18, b19, b20, b21, b22, b23, b24, b25, b26, b27, b28, b29, b30, b31, rfl⟩ := thirty h
  rfl
end Go.Proofs.YthelmpjkkkhopaaDoor
namespace Go.Mo
open Go.Ev Go.Wn Go.Ed
set_option maxRecDepth 100000
/-- The number of the bytes that are written. -/
def wnI (p : E4) : Int := eWy p + T255 * (eWx p % 2)
def eNeg (p : E4) : E4 := ⟨sI 0 p.x, p.y, p.z, sI 0 p.t⟩
end Go.Mo
