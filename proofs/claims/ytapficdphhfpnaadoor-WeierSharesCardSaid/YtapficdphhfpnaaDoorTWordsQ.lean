/- Numbers digit by digit of 16 bits: plain arithmetic. Own work. -/
import Derived.Test.YtapficdphhfpnaaDoorTWordsN
import Derived.Test.YtapficdphhfpnaaDoorTEv
set_option linter.unusedSimpArgs false
set_option linter.unusedVariables false
set_option linter.unusedSectionVars false
namespace Go.Wn
open Go.Ev

def digs : List Int → List Int
  | [] => []
  | x :: r => x % 65536 :: x / 65536 % 65536 :: x / 4294967296 % 65536 :: x / 281474976710656 % 65536 :: digs r
def nb : List Int → Int
  | [] => 0
  | x :: r => x + 65536 * nb r
def D (x : Int) : Prop := 0 ≤ x ∧ x < 65536
def allD (l : List Int) : Bool := l.all fun x => decide (0 ≤ x) && decide (x < 65536)
theorem allD_iff {l : List Int} : allD l = true ↔ ∀ x ∈ l, D x := by simp [allD, D]
def numD : List Int → List Int
  | a :: b :: c :: d :: r => (a + 65536 * b + 4294967296 * c + 281474976710656 * d) :: numD r
  | _ => []

theorem digs_D : ∀ {l : List Int}, ∀ x ∈ digs l, D x
  | [], x, h => by simp [digs] at h
  | y :: l, x, h => by
    simp only [digs, List.mem_cons] at h
    unfold D
    rcases h with rfl | rfl | rfl | rfl | h
    · omega
    · omega
    · omega
    · omega
    · exact digs_D x h
theorem digs_nb {a0 a1 a2 a3 : Int} (h0 : W a0) (h1 : W a1) (h2 : W a2) (h3 : W a3) : nb (digs [a0, a1, a2, a3]) = val [a0, a1, a2, a3] := by
  have w : ∀ {x : Int}, W x → x = x % 65536 + 65536 * (x / 65536 % 65536) + 4294967296 * (x / 4294967296 % 65536) + 281474976710656 * (x / 281474976710656 % 65536) := by
    intro x hx; unfold W at hx; omega
  have e0 := w h0; have e1 := w h1; have e2 := w h2; have e3 := w h3
  simp only [digs, nb, val, List.getD_cons_zero, List.getD_cons_succ]
  omega
theorem sixteen {l : List Int} (h : l.length = 16) : ∃ x0 x1 x2 x3 x4 x5 x6 x7 x8 x9 xa xb xc xd xe xf, l = [x0, x1, x2, x3, x4, x5, x6, x7, x8, x9, xa, xb, xc, xd, xe, xf] := by
  match l, h with
  | [x0, x1, x2, x3, x4, x5, x6, x7, x8, x9, xa, xb, xc, xd, xe, xf], _ => exact ⟨x0, x1, x2, x3, x4, x5, x6, x7, x8, x9, xa, xb, xc, xd, xe, xf, rfl⟩
/-- Sixteen digits as four words. -/
theorem numD_spec {l : List Int} (hl : l.length = 16) (h : ∀ x ∈ l, D x) {T c : Int} (hT : T = nb l + 115792089237316195423570985008687907853269984665640564039457584007913129639936 * c) : limbs T = numD l := by
  obtain ⟨x0, x1, x2, x3, x4, x5, x6, x7, x8, x9, xa, xb, xc, xd, xe, xf, rfl⟩ := sixteen hl
  simp only [List.forall_mem_cons, List.not_mem_nil, false_implies, implies_true, and_true] at h
  obtain ⟨h0, h1, h2, h3, h4, h5, h6, h7, h8, h9, ha, hb, hc, hd, he, hf⟩ := h
  have w : ∀ {a b c d : Int}, D a → D b → D c → D d → W (a + 65536 * b + 4294967296 * c + 281474976710656 * d) := by
    intro a b c d ha hb hc hd; unfold D W at *; omega
  simp only [numD]
  refine limbs_of (c := c) (w h0 h1 h2 h3) (w h4 h5 h6 h7) (w h8 h9 ha hb) (w hc hd he hf) ?_
  simp only [nb] at hT
  omega

def w64 (x : Int) : Int := IntKind.i64.wrap x
theorem w64_id {x : Int} (h : -9223372036854775808 ≤ x ∧ x < 9223372036854775808) : w64 x = x := by
  unfold w64 IntKind.wrap
  simp [IntKind.bits, IntKind.signed]
  split <;> omega

theorem tdm {s : Int} (h : 0 ≤ s) : s.tdiv 65536 = s / 65536 ∧ s.tmod 65536 = s % 65536 := ⟨Int.tdiv_eq_ediv_of_nonneg h, Int.tmod_eq_emod_of_nonneg h⟩
def sb (x y c : Int) : Int := w64 (w64 (w64 (65536 + x) - y) - c)
def subD : List Int → List Int → Int → List Int × Int
  | x :: xs, y :: ys, c => ((sb x y c).tmod 65536 :: (subD xs ys (w64 (1 - w64 ((sb x y c).tdiv 65536)))).1, (subD xs ys (w64 (1 - w64 ((sb x y c).tdiv 65536)))).2)
  | _, _, c => ([], c)
theorem subD_spec : ∀ {xs ys : List Int} {c : Int}, xs.length = ys.length → (∀ x ∈ xs, D x) → (∀ y ∈ ys, D y) → 0 ≤ c ∧ c ≤ 1 →
    (subD xs ys c).1.length = xs.length ∧ (∀ z ∈ (subD xs ys c).1, D z) ∧ (0 ≤ (subD xs ys c).2 ∧ (subD xs ys c).2 ≤ 1) ∧ nb xs - nb ys - c = nb (subD xs ys c).1 - 65536 ^ xs.length * (subD xs ys c).2
  | [], [], c, _, _, _, hc => by simp [subD, nb, hc]
  | x :: xs, y :: ys, c, hl, hx, hy, hc => by
    have h1 := hx x (by simp); have h2 := hy y (by simp)
    unfold D at h1 h2
    have e0 : sb x y c = 65536 + x - y - c := by
      unfold sb
      rw [w64_id (x := 65536 + x) (by omega), w64_id (x := 65536 + x - y) (by omega), w64_id (by omega)]
    obtain ⟨t1, t2⟩ := tdm (s := 65536 + x - y - c) (by omega)
    have e3 : w64 ((65536 + x - y - c) / 65536) = (65536 + x - y - c) / 65536 := w64_id (by omega)
    have e4 : w64 (1 - (65536 + x - y - c) / 65536) = 1 - (65536 + x - y - c) / 65536 := w64_id (by omega)
    simp only [subD, e0, t1, t2, e3, e4]
    obtain ⟨g1, g2, g3, g4⟩ := subD_spec (xs := xs) (ys := ys) (c := 1 - (65536 + x - y - c) / 65536) (by simpa using hl) (fun z hz => hx z (by simp [hz])) (fun z hz => hy z (by simp [hz])) (by omega)
    refine ⟨by simp [g1], ?_, g3, ?_⟩
    · intro z hz
      rcases List.mem_cons.1 hz with rfl | hz
      · unfold D; omega
      · exact g2 z hz
    · simp only [nb, List.length_cons, Int.pow_succ]
      generalize nb (subD xs ys (1 - (65536 + x - y - c) / 65536)).1 = A at *
      generalize (subD xs ys (1 - (65536 + x - y - c) / 65536)).2 = B at *
      have : (65536 : Int) ^ xs.length * 65536 * B = 65536 * (65536 ^ xs.length * B) := by
        rw [Int.mul_comm ((65536 : Int) ^ xs.length) 65536, Int.mul_assoc]
      rw [this]
      generalize (65536 : Int) ^ xs.length * B = C at *
      omega
  | [], _ :: _, _, hl, _, _, _ => by simp at hl
  | _ :: _, [], _, hl, _, _, _ => by simp at hl

theorem digs_len {a0 a1 a2 a3 : Int} : (digs [a0, a1, a2, a3]).length = 16 := rfl
theorem nb_range : ∀ {l : List Int}, (∀ x ∈ l, D x) → 0 ≤ nb l ∧ nb l < 65536 ^ l.length
  | [], _ => by simp [nb]
  | x :: l, h => by
    have h1 := h x (by simp)
    have ih := nb_range (l := l) fun y hy => h y (by simp [hy])
    unfold D at h1
    simp only [nb, List.length_cons, Int.pow_succ]
    generalize (65536 : Int) ^ l.length = C at *
    omega
theorem numD_range {l : List Int} {a0 a1 a2 a3 : Int} (hl : l.length = (digs [a0, a1, a2, a3]).length) (h : ∀ x ∈ l, D x) : 0 ≤ nb l ∧ nb l < 115792089237316195423570985008687907853269984665640564039457584007913129639936 := by
  have := nb_range h
  rw [hl, digs_len] at this
  exact this
theorem ref_sub {a0 a1 a2 a3 b0 b1 b2 b3 : Int} (ha0 : W a0) (ha1 : W a1) (ha2 : W a2) (ha3 : W a3) (hb0 : W b0) (hb1 : W b1) (hb2 : W b2) (hb3 : W b3) :
    allD (subD (digs [a0, a1, a2, a3]) (digs [b0, b1, b2, b3]) 0).1 = true ∧
    numD (subD (digs [a0, a1, a2, a3]) (digs [b0, b1, b2, b3]) 0).1 = limbs (val [a0, a1, a2, a3] - val [b0, b1, b2, b3]) ∧
    IntKind.u64.wrap (subD (digs [a0, a1, a2, a3]) (digs [b0, b1, b2, b3]) 0).2 = (if val [a0, a1, a2, a3] < val [b0, b1, b2, b3] then 1 else 0) := by
  obtain ⟨g1, g2, g3, g4⟩ := subD_spec (xs := digs [a0, a1, a2, a3]) (ys := digs [b0, b1, b2, b3]) (c := 0) rfl digs_D digs_D (by omega)
  rw [digs_nb ha0 ha1 ha2 ha3, digs_nb hb0 hb1 hb2 hb3] at g4
  have hp : (65536 : Int) ^ (digs [a0, a1, a2, a3]).length = 115792089237316195423570985008687907853269984665640564039457584007913129639936 := by rw [digs_len]; rfl
  rw [hp] at g4
  have hs := numD_spec (by rw [g1, digs_len]) g2 (T := val [a0, a1, a2, a3] - val [b0, b1, b2, b3]) (c := -(subD (digs [a0, a1, a2, a3]) (digs [b0, b1, b2, b3]) 0).2) (by omega)
  refine ⟨allD_iff.2 g2, hs.symm, ?_⟩
  have hr := numD_range g1 g2
  have hw : IntKind.u64.wrap (subD (digs [a0, a1, a2, a3]) (digs [b0, b1, b2, b3]) 0).2 = (subD (digs [a0, a1, a2, a3]) (digs [b0, b1, b2, b3]) 0).2 := by
    unfold IntKind.wrap; simp [IntKind.bits, IntKind.signed]; omega
  rw [hw]
  split <;> omega

def lessE (a3 b3 a2 b2 a1 b1 a0 b0 : Int) : Bool :=
  match a3 != b3 with
  | true => decide (a3 < b3)
  | false => match a2 != b2 with
    | true => decide (a2 < b2)
    | false => match a1 != b1 with
      | true => decide (a1 < b1)
      | false => match a0 != b0 with
        | true => decide (a0 < b0)
        | false => false
theorem lessE_spec {a0 a1 a2 a3 b0 b1 b2 b3 : Int} (ha0 : W a0) (ha1 : W a1) (ha2 : W a2) (_ : W a3) (hb0 : W b0) (hb1 : W b1) (hb2 : W b2) (_ : W b3) :
    lessE a3 b3 a2 b2 a1 b1 a0 b0 = decide (val [a0, a1, a2, a3] < val [b0, b1, b2, b3]) := by
  unfold W at *
  have key : ∀ {p : Prop} [Decidable p] {x : Bool}, (x = true ↔ p) → x = decide p := by
    intro p _ x h
    cases x <;> simp_all
  refine key ?_
  simp only [val, List.getD_cons_zero, List.getD_cons_succ]
  unfold lessE
  by_cases h3 : a3 = b3
  · rw [show (a3 != b3) = false by simp [h3]]
    by_cases h2 : a2 = b2
    · rw [show (a2 != b2) = false by simp [h2]]
      by_cases h1 : a1 = b1
      · rw [show (a1 != b1) = false by simp [h1]]
        by_cases h0 : a0 = b0
        · rw [show (a0 != b0) = false by simp [h0]]; simp only [Bool.false_eq_true, false_iff]; omega
        · rw [show (a0 != b0) = true by simp [h0]]; simp only [decide_eq_true_eq]; omega
      · rw [show (a1 != b1) = true by simp [h1]]; simp only [decide_eq_true_eq]; omega
    · rw [show (a2 != b2) = true by simp [h2]]; simp only [decide_eq_true_eq]; omega
  · rw [show (a3 != b3) = true by simp [h3]]; simp only [decide_eq_true_eq]; omega

/-- A digit, as the program reckons it. -/
def dg (x k : Int) : Int := w64 ((ishr .u64 x k).tmod 65536)
theorem dg_spec {x : Int} (h : W x) : dg x 0 = x % 65536 ∧ dg x 16 = x / 65536 % 65536 ∧ dg x 32 = x / 4294967296 % 65536 ∧ dg x 48 = x / 281474976710656 % 65536 := by
  unfold W at h
  have key : ∀ (k : Int) (p : Int), 0 < p → ishr .u64 x k = x / p → dg x k = x / p % 65536 := by
    intro k p hp hk
    have h1 : 0 ≤ x / p := Int.ediv_nonneg h.1 (by omega)
    unfold dg
    rw [hk, Int.tmod_eq_emod_of_nonneg h1]
    exact w64_id (by omega)
  have s : ∀ (k : Nat) (p : Int), k ≤ 64 → (2 : Int) ^ k = p → 0 < p → ishr .u64 x (k : Int) = x / p := by
    intro k p hk hp hpp
    unfold ishr
    rw [show min ((k : Int).toNat) IntKind.u64.bits = k by simp [IntKind.bits]; omega, hp]
    exact Int.fdiv_eq_ediv_of_nonneg _ (by omega)
  refine ⟨?_, key 16 65536 (by omega) (s 16 _ (by omega) (by rfl) (by omega)), key 32 4294967296 (by omega) (s 32 _ (by omega) (by rfl) (by omega)), key 48 281474976710656 (by omega) (s 48 _ (by omega) (by rfl) (by omega))⟩
  have := key 0 1 (by omega) (s 0 _ (by omega) (by rfl) (by omega))
  simpa using this
/-- A digit put to its place. -/
def pl (x k : Int) : Int := ishl .u64 (IntKind.u64.wrap x) k
def u64w (x : Int) : Int := IntKind.u64.wrap x
theorem pl_spec {x : Int} (h : D x) : pl x 0 = x ∧ pl x 16 = 65536 * x ∧ pl x 32 = 4294967296 * x ∧ pl x 48 = 281474976710656 * x := by
  unfold D at h
  have uw : ∀ {y : Int}, 0 ≤ y ∧ y < 18446744073709551616 → IntKind.u64.wrap y = y := by
    intro y hy; unfold IntKind.wrap; simp [IntKind.bits, IntKind.signed]; omega
  have s : ∀ (k : Nat) (p : Int), k ≤ 48 → (2 : Int) ^ k = p → 0 < p → p ≤ 281474976710656 → pl x (k : Int) = x * p := by
    intro k p hk hp hpp hpl
    unfold pl ishl
    rw [uw (y := x) (by omega), show min ((k : Int).toNat) IntKind.u64.bits = k by simp [IntKind.bits]; omega, hp]
    refine uw ⟨Int.mul_nonneg h.1 (by omega), ?_⟩
    have : x * p ≤ 65535 * p := Int.mul_le_mul_of_nonneg_right (by omega) (by omega)
    omega
  refine ⟨?_, ?_, ?_, ?_⟩
  · have := s 0 1 (by omega) (by rfl) (by omega) (by omega); simpa using this
  · have := s 16 65536 (by omega) (by rfl) (by omega) (by omega); rw [Int.mul_comm] at this; exact this
  · have := s 32 4294967296 (by omega) (by rfl) (by omega) (by omega); rw [Int.mul_comm] at this; exact this
  · have := s 48 281474976710656 (by omega) (by rfl) (by omega) (by omega); rw [Int.mul_comm] at this; exact this
def w4 (a b c d : Int) : Int := u64w (u64w (u64w (u64w (0 + pl a 0) + pl b 16) + pl c 32) + pl d 48)
theorem w4_spec {a b c d : Int} (ha : D a) (hb : D b) (hc : D c) (hd : D d) : w4 a b c d = a + 65536 * b + 4294967296 * c + 281474976710656 * d := by
  unfold w4 u64w
  have uw : ∀ {y : Int}, 0 ≤ y ∧ y < 18446744073709551616 → IntKind.u64.wrap y = y := by
    intro y hy; unfold IntKind.wrap; simp [IntKind.bits, IntKind.signed]; omega
  rw [(pl_spec ha).1, (pl_spec hb).2.1, (pl_spec hc).2.2.1, (pl_spec hd).2.2.2]
  unfold D at *
  rw [uw (y := 0 + a) (by omega), uw (y := 0 + a + 65536 * b) (by omega), uw (y := 0 + a + 65536 * b + 4294967296 * c) (by omega), uw (by omega)]
  omega
end Go.Wn
namespace Go.Wn
open Go.Ev

theorem uw64 {y : Int} (h : 0 ≤ y ∧ y < 18446744073709551616) : IntKind.u64.wrap y = y := by
  unfold IntKind.wrap; simp [IntKind.bits, IntKind.signed]; omega
def bv (x : Int) : BitVec 64 := BitVec.ofInt 64 x
theorem bv_W {x : Int} (h : W x) : ((bv x).toNat : Int) = x := by
  unfold bv W at *
  rw [BitVec.toNat_ofInt]
  have : ((2 ^ 64 : Nat) : Int) = 18446744073709551616 := by rfl
  rw [this]
  omega
theorem bv_back (b : BitVec 64) : bv (b.toNat : Int) = b := by
  unfold bv
  rw [BitVec.ofInt_natCast, BitVec.ofNat_toNat, BitVec.setWidth_eq]
theorem bv_range (b : BitVec 64) : W (b.toNat : Int) := by
  have := b.isLt
  unfold W
  omega
theorem iand_eq (x y : Int) : iand .u64 x y = ((bv x &&& bv y).toNat : Int) := by
  have h := bv_range (bv x &&& bv y)
  unfold W at h
  exact uw64 h
theorem ixor_eq (x y : Int) : ixor .u64 x y = ((bv x ^^^ bv y).toNat : Int) := by
  have h := bv_range (bv x ^^^ bv y)
  unfold W at h
  exact uw64 h
theorem iand_one {x : Int} (h : W x) : iand .u64 x 1 = x % 2 := by
  rw [iand_eq, BitVec.toNat_and]
  have h1 : (bv 1).toNat = 1 := by decide
  rw [h1, Nat.and_one_is_mod]
  have := bv_W h
  omega
def mask (x : Int) : Int := IntKind.u64.wrap (0 - iand .u64 x 1)
def pickW (x a b : Int) : Int := ixor .u64 b (iand .u64 (mask x) (ixor .u64 a b))
theorem pickW_spec {x a b : Int} (hx : W x) (ha : W a) (hb : W b) : pickW x a b = if x % 2 = 1 then a else b := by
  unfold pickW mask
  rw [iand_one hx]
  rcases Int.emod_two_eq x with h | h
  · rw [if_neg (by omega), h, show IntKind.u64.wrap (0 - 0) = 0 by rfl, iand_eq, show bv 0 = 0#64 by rfl, BitVec.zero_and, ixor_eq]
    show ((bv b ^^^ bv 0).toNat : Int) = b
    rw [show bv 0 = 0#64 by rfl, BitVec.xor_zero]
    exact bv_W hb
  · rw [if_pos h, h, show IntKind.u64.wrap (0 - 1) = 18446744073709551615 by rfl, iand_eq, show bv 18446744073709551615 = BitVec.allOnes 64 by decide, BitVec.allOnes_and, ixor_eq, bv_back, ixor_eq, bv_back]
    rw [BitVec.xor_comm (bv a) (bv b), ← BitVec.xor_assoc, BitVec.xor_self, BitVec.zero_xor]
    exact bv_W ha

theorem ishr_eq {k : IntKind} {x : Int} {r : Nat} (hr : r ≤ k.bits) : ishr k x (r : Int) = x / 2 ^ r := by
  unfold ishr
  rw [Int.toNat_natCast, show min r k.bits = r by omega]
  exact Int.fdiv_eq_ediv_of_nonneg _ (Int.le_of_lt (Int.pow_pos (by omega)))
/-- Bit r of a word, as the program reckons it. -/
theorem word_bit {x : Int} (h : W x) {r : Nat} (hr : r < 64) : iand .u64 (ishr .u64 x (r : Int)) 1 = x / 2 ^ r % 2 := by
  rw [ishr_eq (by simp [IntKind.bits]; omega)]
  refine iand_one ?_
  unfold W at *
  have hp : (0 : Int) < 2 ^ r := Int.pow_pos (by omega)
  have := Int.ediv_nonneg h.1 (Int.le_of_lt hp)
  have := Int.ediv_le_self (2 ^ r) h.1
  omega
def bitP (l : List Int) (i : Int) : Int := iand .u64 (ishr .u64 (l.getD (0 + (w64 (i.tdiv 64)).toNat * 1) 0) (i.tmod 64)) 1
end Go.Wn
