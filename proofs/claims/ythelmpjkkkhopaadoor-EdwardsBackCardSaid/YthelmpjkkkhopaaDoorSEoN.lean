/- Layer 10: points off their bytes: which number is a point's, on numbers. Own work. -/
import Derived.Test.YthelmpjkkkhopaaDoorSEoM
import Derived.Test.YthelmpjkkkhopaaDoorSMyW
set_option linter.unusedSimpArgs false
set_option linter.unusedVariables false
set_option linter.unusedSectionVars false
namespace Go.Mo
open Go.Ev Go.Wn Go.Ed
set_option maxRecDepth 100000
def T255 : Int := 57896044618658097711785492504343953926634992332820282019728792003956564819968
def dI : Int := 37095705934669439343138083508754565189542113879843219016388785533085940283555
def iI : Int := 19681161376707505956807079304988542015446066515923890162744021073123829784752
/-- x^2 of a y. -/
def fXX (y : Int) : Int := mI (sI (mI y y) 1) (pI (aI 1 (mI dI (mI y y))))
/-- A number to the power (p + 3)/8. -/
def fR (w : Int) : Int := (vl w ^ p8) % val PL
def fX0 (y : Int) : Int := fR (fXX y)
def fX (y : Int) : Int := if mI (fX0 y) (fX0 y) = fXX y then fX0 y else mI (fX0 y) iI
def fOk (y : Int) : Bool := decide (mI (fX y) (fX y) = fXX y)
/-- Are these a point's y, and bit of x? -/
def ryB (y o : Int) : Bool := decide (y < (P25 : Int)) && (fOk y && !(decide (fX y = 0) && decide (o = 1)))
def ryX (y o : Int) : Int := if (o + fX y) % 2 = 1 then sI 0 (fX y) else fX y
def ryP (y o : Int) : E4 := ⟨ryX y o, y, 1, mI (ryX y o) y⟩
def inP (x : Int) : Prop := 0 ≤ x ∧ x < (P25 : Int)
theorem inP_ok {x : Int} (h : inP x) : ok x := by
  have h2 := h.2
  have h3 : (P25 : Int) < 115792089237316195423570985008687907853269984665640564039457584007913129639936 := by decide
  exact ⟨h.1, by omega⟩
theorem mI_inP (x y : Int) : inP (mI x y) := mI_range x y
theorem mod_inP (x : Int) : inP (x % val PL) := by rw [pl_eq]; exact ⟨Int.emod_nonneg _ (by have := p_pos; omega), Int.emod_lt_of_pos _ p_pos⟩
theorem ph_inj {x y : Int} (hx : inP x) (hy : inP y) (h : ph x = ph y) : x = y := by
  have h1 := ph_lt hx; have h2 := ph_lt hy
  rw [← h1, ← h2, h]
theorem iI_ok : ok iI := ⟨by decide, by decide⟩
theorem dI_ok : ok dI := ⟨by decide, by decide⟩
theorem ph_i : ph iI = i25 := by decide +kernel
theorem ph_d : ph dI = dA := by decide +kernel
theorem ph_R {w : Int} (h : ok w) : ph (fR w) = fp (ph w) p8 := by
  unfold fR
  rw [pl_eq, ph_mod, vl_ok h, ph_pow]
theorem fX_inP (y : Int) : inP (fX y) := by
  unfold fX
  split
  · exact mod_inP _
  · exact mI_inP _ _
theorem fXX_inP (y : Int) : inP (fXX y) := mI_inP _ _
theorem ph_XX {y : Int} (hy : ok y) : ph (fXX y) = (ph y * ph y - 1) * cA.inv (1 + dA * (ph y * ph y)) := by
  unfold fXX
  rw [ph_m (sI_ok _ _) (pI_ok _), ph_s (mI_ok _ _) ok_1, ph_m hy hy, ph_p (aI_ok _ _), ph_a ok_1 (mI_ok _ _), ph_m dI_ok (mI_ok _ _), ph_m hy hy, ph_1, ph_d]
  rfl
theorem dyA (y : Fin P25) : 1 + dA * (y * y) ≠ 0 := by
  have := cA.dy (y := y)
  rwa [Fin.mul_assoc] at this
/-- x fits y. -/
theorem fits {x y : Fin P25} : x * x = (y * y - 1) * cA.inv (1 + dA * (y * y)) ↔ cA.on ⟨x, y⟩ := by
  have hd := dyA y
  have hi := cA.hinv _ hd
  unfold C.on
  show _ ↔ y * y = x * x + 1 + dA * x * x * y * y
  generalize cA.inv (1 + dA * (y * y)) = v at *
  generalize dA = d at *
  constructor
  · intro h; grind
  · intro h
    have : (y * y - 1) = x * x * (1 + d * (y * y)) := by grind
    rw [this, Fin.mul_assoc, hi, Fin.mul_one]
theorem ph_sub0 {x : Int} (h : ok x) : ph (sI 0 x) = - ph x := by
  rw [ph_s ok_0 h, ph_0]
  grind
theorem sI_0 {x : Int} (h : inP x) : sI 0 x = if x = 0 then 0 else (P25 : Int) - x := by
  unfold sI
  rw [vl_ok ok_0, vl_ok (inP_ok h), pl_eq]
  have hp := p_pos
  unfold inP at h
  split
  · rename_i e; subst e; exact Int.emod_eq_of_lt (by omega) (by omega)
  · rename_i e
    have : (0 - x) % (P25 : Int) = (0 - x + (P25 : Int)) % (P25 : Int) := by rw [Int.add_emod_right]
    rw [this, Int.emod_eq_of_lt (by omega) (by omega)]
    omega
theorem p_odd : (P25 : Int) % 2 = 1 := by decide
theorem rdX_inP (y o : Int) : inP (ryX y o) := by
  unfold ryX
  split
  · exact mod_inP _
  · exact fX_inP y
theorem rdX_bit {y o : Int} (ho : o = 0 ∨ o = 1) (h : ¬ (fX y = 0 ∧ o = 1)) : ryX y o % 2 = o := by
  have hx := fX_inP y
  have h2 := p_odd
  unfold ryX
  rw [sI_0 hx]
  unfold inP at hx
  generalize fX y = x at *
  generalize (P25 : Int) = p at *
  rcases ho with rfl | rfl <;> split <;> (try split) <;> omega
theorem ph_rdX (y o : Int) : ph (ryX y o) = ph (fX y) ∨ ph (ryX y o) = - ph (fX y) := by
  unfold ryX
  split
  · exact .inr (ph_sub0 (inP_ok (fX_inP y)))
  · exact .inl rfl
/-- The point that is read. -/
def ryQ (y o : Int) : Pt P25 := ⟨ph (ryX y o), ph y⟩
theorem rdP_R {y o : Int} (hy : inP y) : (ryP y o).R (ryQ y o) := by
  have oy := inP_ok hy
  have ox := inP_ok (rdX_inP y o)
  refine ⟨⟨ox, oy, ok_1, mI_ok _ _⟩, ?_⟩
  show cA.PT (ph (ryX y o)) (ph y) (ph 1) (ph (mI (ryX y o) y)) _
  rw [ph_m ox oy, ph_1]
  exact cA.PT_of one25 ⟨ph (ryX y o), ph y⟩
theorem rdB_iff {y o : Int} : ryB y o = true ↔ y < (P25 : Int) ∧ mI (fX y) (fX y) = fXX y ∧ ¬ (fX y = 0 ∧ o = 1) := by
  unfold ryB fOk
  simp only [Bool.and_eq_true, decide_eq_true_eq, Bool.not_eq_true', Bool.and_eq_false_iff, decide_eq_false_iff_not]
  constructor <;> rintro ⟨a, b, c⟩ <;> refine ⟨a, b, ?_⟩
  · rintro ⟨h1, h2⟩
    rcases c with h | h
    · exact h h1
    · exact h h2
  · by_cases h1 : fX y = 0
    · exact .inr fun h2 => c ⟨h1, h2⟩
    · exact .inl h1
theorem fX_root {y : Int} (h : ∃ s, s * s = ph (fXX y)) : mI (fX y) (fX y) = fXX y := by
  have o0 : ok (fX0 y) := inP_ok (mod_inP _)
  have ow : ok (fXX y) := inP_ok (fXX_inP y)
  have e0 : ph (fX0 y) = fp (ph (fXX y)) p8 := ph_R ow
  by_cases hw : ph (fXX y) = 0
  · have e1 : mI (fX0 y) (fX0 y) = fXX y := ph_inj (mI_inP _ _) (fXX_inP y) (by rw [ph_m o0 o0, e0, hw, fp_zero' (by decide +kernel)]; decide +kernel)
    have : fX y = fX0 y := by unfold fX; rw [if_pos e1]
    rw [this, e1]
  · rcases (root_ok hw).1 h with h1 | h1
    · have e1 : mI (fX0 y) (fX0 y) = fXX y := ph_inj (mI_inP _ _) (fXX_inP y) (by rw [ph_m o0 o0, e0, h1])
      have : fX y = fX0 y := by unfold fX; rw [if_pos e1]
      rw [this, e1]
    · unfold fX
      split
      · assumption
      · exact ph_inj (mI_inP _ _) (fXX_inP y) (by rw [ph_m (mI_ok _ _) (mI_ok _ _), ph_m o0 iI_ok, e0, ph_i, h1])
theorem neg_val {x : Fin P25} (h : x ≠ 0) : ((-x).val : Int) % 2 ≠ (x.val : Int) % 2 := by
  have hx : inP (x.val : Int) := ⟨by omega, by have := x.isLt; omega⟩
  have e : ph (x.val : Int) = x := Fin.ext (by have := ph_lt hx; omega)
  have h0 : (x.val : Int) ≠ 0 := fun h0 => h (by rw [← e, h0, ph_0])
  have h1 := ph_sub0 (inP_ok hx)
  rw [e] at h1
  have h2 := ph_lt (mod_inP (vl 0 - vl (x.val : Int)))
  rw [show (vl 0 - vl (x.val : Int)) % val PL = sI 0 (x.val : Int) from rfl, h1, sI_0 hx, if_neg h0] at h2
  have := p_odd
  generalize (P25 : Int) = p at *
  omega
theorem sq_two {x s : Fin P25} (h : x * x = s * s) : x = s ∨ x = -s := by
  have h1 : (x - s) * (x + s) = 0 := by grind
  rcases k25.zero_of h1 with h2 | h2
  · exact .inl (by grind)
  · exact .inr (by grind)
/-- A point is read off its bytes. -/
theorem pt_read {P : Pt P25} (hP : cA.on P) {y o : Int} (hy : 0 ≤ y ∧ y < T255) (ho : o = 0 ∨ o = 1) (h : ptI P = y + T255 * o) : ryB y o = true ∧ ryQ y o = P := by
  obtain ⟨px, py⟩ := P
  have h' : (py.val : Int) + 57896044618658097711785492504343953926634992332820282019728792003956564819968 * ((px.val : Int) % 2) = y + T255 * o := h
  have hpy : inP (py.val : Int) := ⟨by omega, by have := py.isLt; omega⟩
  have lt : (P25 : Int) < 57896044618658097711785492504343953926634992332820282019728792003956564819968 := by decide
  have ey : y = (py.val : Int) ∧ o = (px.val : Int) % 2 := by
    unfold inP at hpy
    unfold T255 at *
    generalize (P25 : Int) = p at *
    omega
  obtain ⟨rfl, e2⟩ := ey
  have ep : ph (py.val : Int) = py := Fin.ext (by have := ph_lt hpy; omega)
  have hf := fits.2 hP
  have hw : px * px = ph (fXX (py.val : Int)) := by rw [ph_XX (inP_ok hpy), ep]; exact hf
  have h2 := fX_root ⟨px, hw⟩
  have hx2 : ph (fX (py.val : Int)) * ph (fX (py.val : Int)) = px * px := by
    rw [hw, ← h2, ph_m (inP_ok (fX_inP _)) (inP_ok (fX_inP _))]
  have ho2 : (px.val : Int) % 2 = o := e2.symm
  have hne : ¬ (fX (py.val : Int) = 0 ∧ o = 1) := fun ⟨e, f⟩ => by
    rw [e, ph_0] at hx2
    have : px * px = 0 := by rw [← hx2]; decide +kernel
    have p0 : px = 0 := by rcases k25.zero_of this with h | h <;> exact h
    subst p0
    rw [f] at ho2
    revert ho2
    decide +kernel
  refine ⟨rdB_iff.2 ⟨hpy.2, h2, hne⟩, ?_⟩
  have hb := rdX_bit ho hne
  have ex : ph (ryX (py.val : Int) o) = px ∨ ph (ryX (py.val : Int) o) = -px := by
    rcases sq_two hx2 with e | e <;> rcases ph_rdX (py.val : Int) o with f | f <;> rw [e] at f
    · exact .inl f
    · exact .inr f
    · exact .inr f
    · exact .inl (by rw [f]; grind)
  unfold ryQ
  rw [ep]
  rcases ex with e | e
  · rw [e]
  · have hv := ph_lt (rdX_inP (py.val : Int) o)
    by_cases h0 : px = 0
    · rw [e, h0]; congr 1
    · have := neg_val h0
      rw [← e, hv, hb, ho2] at this
      exact absurd rfl this
end Go.Mo
namespace Go.Mo
open Go.Ev Go.Wn
theorem iandn_eq (x y : Int) : iandn .u64 x y = ((bv x &&& ~~~ bv y).toNat : Int) := by
  have h := bv_range (bv x &&& ~~~ bv y)
  unfold W at h
  exact uw64 h
theorem iandn_seven {x : Int} (h : W x) : iandn .u64 x 7 = x - x % 8 := by
  rw [iandn_eq]
  have hb := bv_W h
  have e : (bv x &&& ~~~ bv 7) + (bv x &&& bv 7) = bv x := by
    rw [BitVec.add_eq_or_of_and_eq_zero]
    · ext i hi; simp; cases (bv x)[i] <;> simp
    · ext i hi; simp only [BitVec.getElem_and, BitVec.getElem_not, BitVec.getElem_zero]; cases (bv x)[i] <;> cases (bv 7)[i] <;> rfl
  have e2 : (bv x &&& bv 7).toNat = (bv x).toNat % 8 := by
    rw [BitVec.toNat_and, show (bv 7).toNat = 2 ^ 3 - 1 by decide, Nat.and_two_pow_sub_one_eq_mod]
  have e3 : (bv x &&& ~~~ bv 7).toNat ≤ (bv x).toNat := by rw [BitVec.toNat_and]; exact Nat.and_le_left
  have e4 := congrArg BitVec.toNat e
  rw [BitVec.toNat_add, e2] at e4
  have := (bv x).isLt
  unfold W at h
  omega
theorem iandn_top {x : Int} (h : W x) : iandn .u64 x 9223372036854775808 = x % 9223372036854775808 := by
  rw [iandn_eq, BitVec.toNat_and, show (~~~ bv 9223372036854775808).toNat = 2 ^ 63 - 1 by decide, Nat.and_two_pow_sub_one_eq_mod]
  have hb := bv_W h
  unfold W at h
  omega
theorem ior_top {y : Int} (h : 0 ≤ y ∧ y < 9223372036854775808) : ior .u64 y 4611686018427387904 = y % 4611686018427387904 + 4611686018427387904 := by
  by_cases hy : y < 4611686018427387904
  · rw [(ior_sum (x := 4611686018427387904) (y := y) (s := 62) (A := 1) (by omega) (by decide) h.1 (by simp only [Int.reducePow]; omega) (by omega)).2]
    omega
  · obtain ⟨Y, rfl⟩ := Int.eq_ofNat_of_zero_le h.1
    obtain ⟨r, rfl⟩ : ∃ r, Y = 2 ^ 62 + r := ⟨Y - 2 ^ 62, by omega⟩
    have hr : r < 2 ^ 62 := by omega
    have e : 2 ^ 62 + r = (2 ^ 62 ||| r) := by
      have := Nat.shiftLeft_add_eq_or_of_lt hr 1
      simpa [Nat.shiftLeft_eq] using this
    have key : (2 ^ 62 + r) ||| 2 ^ 62 = 2 ^ 62 + r := by rw [e, Nat.or_comm, ← Nat.or_assoc, Nat.or_self]
    have hb1 := bv_W (x := ((2 ^ 62 + r : Nat) : Int)) (by unfold W; omega)
    have hb2 : (bv 4611686018427387904).toNat = 2 ^ 62 := by decide
    unfold ior
    show IntKind.u64.wrap (((bv ((2 ^ 62 + r : Nat) : Int) ||| bv 4611686018427387904).toNat : Nat) : Int) = _
    rw [BitVec.toNat_or, hb2, show (bv ((2 ^ 62 + r : Nat) : Int)).toNat = 2 ^ 62 + r by omega, key, uw64 (by omega)]
    omega
end Go.Mo
namespace Go.Mo
open Go.Ev Go.Wn
def kwL (l : List Int) : List Int := (l.set 0 (iandn .u64 (l.getD 0 0) 7)).set 3 (ior .u64 (iandn .u64 ((l.set 0 (iandn .u64 (l.getD 0 0) 7)).getD 3 0) 9223372036854775808) 4611686018427387904)
def uwL (l : List Int) : List Int := l.set 3 (iandn .u64 (l.getD 3 0) 9223372036854775808)
theorem W8_W {a b c d e f g h : Int} (ha : B8 a) (hb : B8 b) (hc : B8 c) (hd : B8 d) (he : B8 e) (hf : B8 f) (hg : B8 g) (hh : B8 h) : W (W8 a b c d e f g h) := by
  unfold B8 W W8 at *; omega
def clI (K : Int) : Int := K % 28948022309329048855892746252171976963317496166410141009864396001978282409984 - K % 8 + 28948022309329048855892746252171976963317496166410141009864396001978282409984
def upI (U : Int) : Int := U % 57896044618658097711785492504343953926634992332820282019728792003956564819968
end Go.Mo
namespace Go.Proofs.YthelmpjkkkhopaaDoor
open Go.Ev Go.Wn Go.Mo
set_option maxRecDepth 100000
def leI (l : List Int) : Int := val (litL l)
theorem lit_words {l : List Int} (hl : l.length = 32) (hr : ∀ x ∈ l, inR .u8 x = true) : ∃ a b c d, litL l = [a, b, c, d] ∧ W a ∧ W b ∧ W c ∧ W d := by
  obtain ⟨b0, b1, b2, b3, b4, b5, b6, b7, b8, b9, b10, b11, b12, b13, b14, b15, b16, b17, b18, b19, b20, b21, b22, b23, b24, b25, b26, b27, b28, b29, b30, b31, rfl⟩ := thirty hl
  simp only [List.forall_mem_cons, List.not_mem_nil, false_implies, implies_true, and_true] at hr
  obtain ⟨k0, k1, k2, k3, k4, k5, k6, k7, k8, k9, k10, k11, k12, k13, k14, k15, k16, k17, k18, k19, k20, k21, k22, k23, k24, k25, k26, k27, k28, k29, k30, k31⟩ := hr
  exact ⟨_, _, _, _, rfl, W8_W (inR_B8 k7) (inR_B8 k6) (inR_B8 k5) (inR_B8 k4) (inR_B8 k3) (inR_B8 k2) (inR_B8 k1) (inR_B8 k0), W8_W (inR_B8 k15) (inR_B8 k14) (inR_B8 k13) (inR_B8 k12) (inR_B8 k11) (inR_B8 k10) (inR_B8 k9) (inR_B8 k8), W8_W (inR_B8 k23) (inR_B8 k22) (inR_B8 k21) (inR_B8 k20) (inR_B8 k19) (inR_B8 k18) (inR_B8 k17) (inR_B8 k16), W8_W (inR_B8 k31) (inR_B8 k30) (inR_B8 k29) (inR_B8 k28) (inR_B8 k27) (inR_B8 k26) (inR_B8 k25) (inR_B8 k24)⟩
theorem limbs_of {a b c d : Int} (ha : W a) (hb : W b) (hc : W c) (hd : W d) : limbs (val [a, b, c, d]) = [a, b, c, d] := by
  unfold limbs val W at *
  simp only [List.getD_cons_zero, List.getD_cons_succ, List.cons.injEq, and_true]
  refine ⟨?_, ?_, ?_, ?_⟩ <;> omega
theorem kw_eq {l : List Int} (hl : l.length = 32) (hr : ∀ x ∈ l, inR .u8 x = true) : val (kwL (litL l)) = clI (leI l) ∧ limbs (val (kwL (litL l))) = kwL (litL l) := by
  obtain ⟨a, b, c, d, e, ha, hb, hc, hd⟩ := lit_words hl hr
  unfold leI
  rw [e]
  have e2 : kwL [a, b, c, d] = [iandn .u64 a 7, b, c, ior .u64 (iandn .u64 d 9223372036854775808) 4611686018427387904] := rfl
  have hd2 : 0 ≤ d % 9223372036854775808 ∧ d % 9223372036854775808 < 9223372036854775808 := by omega
  rw [e2, iandn_seven ha, iandn_top hd, ior_top hd2]
  refine ⟨?_, limbs_of (by unfold W at *; omega) hb hc (by unfold W at *; omega)⟩
  unfold clI val W at *
  simp only [List.getD_cons_zero, List.getD_cons_succ]
  omega
theorem uw_eq {l : List Int} (hl : l.length = 32) (hr : ∀ x ∈ l, inR .u8 x = true) : val (uwL (litL l)) = upI (leI l) ∧ limbs (val (uwL (litL l))) = uwL (litL l) ∧ (uwL (litL l)).length = 4 := by
  obtain ⟨a, b, c, d, e, ha, hb, hc, hd⟩ := lit_words hl hr
  unfold leI
  rw [e]
  have e2 : uwL [a, b, c, d] = [a, b, c, iandn .u64 d 9223372036854775808] := rfl
  rw [e2, iandn_top hd]
  refine ⟨?_, limbs_of ha hb hc (by unfold W at *; omega), rfl⟩
  unfold upI val W at *
  simp only [List.getD_cons_zero, List.getD_cons_succ]
  omega
theorem byteW_b {x : Int} (s : Nat) : inR .u8 (byteW x s) = true := by
  rw [inR_iff]
  simp only [lo, hi]
  unfold byteW
  omega
theorem W8_back {a : Int} (ha : W a) : W8 (byteW a 56) (byteW a 48) (byteW a 40) (byteW a 32) (byteW a 24) (byteW a 16) (byteW a 8) (byteW a 0) = a := by
  unfold W8 byteW W at *
  simp only [Int.reducePow]
  omega
theorem tb_ok {x : Int} (h : ok x) : (turnedL (limbs x)).length = 32 ∧ (∀ y ∈ turnedL (limbs x), inR .u8 y = true) ∧ leI (turnedL (limbs x)) = x := by
  have hw := limbs_W x
  have hv : val (limbs x) = x := vl_ok h
  obtain ⟨a, b, c, d, e⟩ := four (show (limbs x).length = 4 from rfl)
  rw [e] at hw hv ⊢
  have wa := hw a (by simp); have wb := hw b (by simp); have wc := hw c (by simp); have wd := hw d (by simp)
  refine ⟨rfl, fun y hy => ?_, ?_⟩
  · simp only [turnedL, List.mem_cons, List.not_mem_nil, or_false] at hy
    rcases hy with rfl | rfl | rfl | rfl | rfl | rfl | rfl | rfl | rfl | rfl | rfl | rfl | rfl | rfl | rfl | rfl | rfl | rfl | rfl | rfl | rfl | rfl | rfl | rfl | rfl | rfl | rfl | rfl | rfl | rfl | rfl | rfl <;> exact byteW_b _
  · unfold leI turnedL litL
    simp only
    rw [W8_back wa, W8_back wb, W8_back wc, W8_back wd]
    exact hv
def okb (l : List Int) : Prop := l.length = 32 ∧ ∀ x ∈ l, inR .u8 x = true
theorem le_range {l : List Int} (h : okb l) : 0 ≤ leI l ∧ leI l < 115792089237316195423570985008687907853269984665640564039457584007913129639936 := by
  obtain ⟨a, b, c, d, e, ha, hb, hc, hd⟩ := lit_words h.1 h.2
  unfold leI
  rw [e]
  exact val_range ha hb hc hd
theorem cl_nat {l : List Int} (h : okb l) : ∃ N : Nat, clI (leI l) = (N : Int) ∧ N < 2 ^ 255 ∧ N % 8 = 0 ∧ 0 < N := by
  have hr := le_range h
  generalize leI l = K at *
  have h1 : 0 < clI K ∧ clI K < 57896044618658097711785492504343953926634992332820282019728792003956564819968 ∧ clI K % 8 = 0 := by unfold clI; omega
  generalize clI K = x at *
  obtain ⟨N, rfl⟩ := Int.eq_ofNat_of_zero_le (by omega : 0 ≤ x)
  have hN : N < 57896044618658097711785492504343953926634992332820282019728792003956564819968 := by omega
  exact ⟨N, rfl, hN, by omega, by omega⟩
end Go.Proofs.YthelmpjkkkhopaaDoor
