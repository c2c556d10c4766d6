/- Bits of words: plain arithmetic. Own work. -/
import Derived.Test.YtdpaedcgbhlibaaWordsM
namespace Go.Wn
open Go.Ev

theorem uw64 {y : Int} (h : 0 ≤ y ∧ y < 18446744073709551616) : IntKind.u64.wrap y = y := by
  unfold IntKind.wrap; simp [IntKind.bits, IntKind.signed]; omega
def bv (x : Int) : BitVec 64 := BitVec.ofInt 64 x
theorem bv_W {x : Int} (h : W x) : ((bv x).toNat : Int) = x := by
  unfold bv W at *
  rw [BitVec.toNat_ofInt]
  have : ((2 ^ 64 : Nat) : Int) = 18446744073709551616 := by rfl
  rw [this]
  omega
theorem bv_back (b : BitVec 64) : bv (b.toNat : Int) = b := by
  unfold bv
  rw [BitVec.ofInt_natCast, BitVec.ofNat_toNat, BitVec.setWidth_eq]
theorem bv_range (b : BitVec 64) : W (b.toNat : Int) := by
  have := b.isLt
  unfold W
  omega
theorem iand_eq (x y : Int) : iand .u64 x y = ((bv x &&& bv y).toNat : Int) := by
  have h := bv_range (bv x &&& bv y)
  unfold W at h
  exact uw64 h
theorem ixor_eq (x y : Int) : ixor .u64 x y = ((bv x ^^^ bv y).toNat : Int) := by
  have h := bv_range (bv x ^^^ bv y)
  unfold W at h
  exact uw64 h
theorem iand_one {x : Int} (h : W x) : iand .u64 x 1 = x % 2 := by
  rw [iand_eq, BitVec.toNat_and]
  have h1 : (bv 1).toNat = 1 := by decide
  rw [h1, Nat.and_one_is_mod]
  have := bv_W h
  omega
def mask (x : Int) : Int := IntKind.u64.wrap (0 - iand .u64 x 1)
def pickW (x a b : Int) : Int := ixor .u64 b (iand .u64 (mask x) (ixor .u64 a b))
theorem pickW_spec {x a b : Int} (hx : W x) (ha : W a) (hb : W b) : pickW x a b = if x % 2 = 1 then a else b := by
  unfold pickW mask
  rw [iand_one hx]
  rcases Int.emod_two_eq x with h | h
  · rw [if_neg (by omega), h, show IntKind.u64.wrap (0 - 0) = 0 by rfl, iand_eq, show bv 0 = 0#64 by rfl, BitVec.zero_and, ixor_eq]
    show ((bv b ^^^ bv 0).toNat : Int) = b
    rw [show bv 0 = 0#64 by rfl, BitVec.xor_zero]
    exact bv_W hb
  · rw [if_pos h, h, show IntKind.u64.wrap (0 - 1) = 18446744073709551615 by rfl, iand_eq, show bv 18446744073709551615 = BitVec.allOnes 64 by decide, BitVec.allOnes_and, ixor_eq, bv_back, ixor_eq, bv_back]
    rw [BitVec.xor_comm (bv a) (bv b), ← BitVec.xor_assoc, BitVec.xor_self, BitVec.zero_xor]
    exact bv_W ha

theorem low_bit (y : Int) : ∀ s : Nat, s < 16 → y % 65536 / 2 ^ s % 2 = y / 2 ^ s % 2
  | 0, _ => by simp only [Int.pow_zero]; omega
  | 1, _ => by simp only [Int.reducePow]; omega
  | 2, _ => by simp only [Int.reducePow]; omega
  | 3, _ => by simp only [Int.reducePow]; omega
  | 4, _ => by simp only [Int.reducePow]; omega
  | 5, _ => by simp only [Int.reducePow]; omega
  | 6, _ => by simp only [Int.reducePow]; omega
  | 7, _ => by simp only [Int.reducePow]; omega
  | 8, _ => by simp only [Int.reducePow]; omega
  | 9, _ => by simp only [Int.reducePow]; omega
  | 10, _ => by simp only [Int.reducePow]; omega
  | 11, _ => by simp only [Int.reducePow]; omega
  | 12, _ => by simp only [Int.reducePow]; omega
  | 13, _ => by simp only [Int.reducePow]; omega
  | 14, _ => by simp only [Int.reducePow]; omega
  | 15, _ => by simp only [Int.reducePow]; omega
  | n + 16, h => by omega

theorem ishr_eq {k : IntKind} {x : Int} {r : Nat} (hr : r ≤ k.bits) : ishr k x (r : Int) = x / 2 ^ r := by
  unfold ishr
  rw [Int.toNat_natCast, show min r k.bits = r by omega]
  exact Int.fdiv_eq_ediv_of_nonneg _ (Int.le_of_lt (Int.pow_pos (by omega)))
/-- Bit r of a word, as the program reckons it. -/
theorem word_bit {x : Int} (h : W x) {r : Nat} (hr : r < 64) : iand .u64 (ishr .u64 x (r : Int)) 1 = x / 2 ^ r % 2 := by
  rw [ishr_eq (by simp [IntKind.bits]; omega)]
  refine iand_one ?_
  unfold W at *
  have hp : (0 : Int) < 2 ^ r := Int.pow_pos (by omega)
  have := Int.ediv_nonneg h.1 (Int.le_of_lt hp)
  have := Int.ediv_le_self (2 ^ r) h.1
  omega
/-- Bit s of digit m, as the reference reckons it. -/
theorem digit_bit {x : Int} {m s : Nat} (hs : s < 16) : IntKind.u64.wrap ((ishr .i64 (x / 2 ^ (16 * m) % 65536) (s : Int)).tmod 2) = x / 2 ^ (16 * m + s) % 2 := by
  rw [ishr_eq (by simp [IntKind.bits]; omega)]
  have hp : (0 : Int) < 2 ^ s := Int.pow_pos (by omega)
  have h0 : 0 ≤ x / 2 ^ (16 * m) % 65536 / 2 ^ s := Int.ediv_nonneg (by omega) (Int.le_of_lt hp)
  rw [Int.tmod_eq_emod_of_nonneg h0, low_bit _ s hs, Int.ediv_ediv_of_nonneg (Int.le_of_lt (Int.pow_pos (by omega))), ← Int.pow_add]
  exact uw64 (by omega)

def bitP (l : List Int) (i : Int) : Int := iand .u64 (ishr .u64 (l.getD (0 + (w64 (i.tdiv 64)).toNat * 1) 0) (i.tmod 64)) 1
def bitR (l : List Int) (i : Int) : Int := IntKind.u64.wrap ((ishr .i64 (l.getD (0 + (w64 (i.tdiv 16)).toNat * 1) 0) (i.tmod 16)).tmod 2)
theorem bits_same {a0 a1 a2 a3 : Int} (h0 : W a0) (h1 : W a1) (h2 : W a2) (h3 : W a3) {i : Int} (hi : 0 ≤ i ∧ i ≤ 255) : bitP [a0, a1, a2, a3] i = bitR (digs [a0, a1, a2, a3]) i := by
  obtain ⟨n, rfl⟩ := Int.eq_ofNat_of_zero_le hi.1
  have hn : n < 256 := by omega
  unfold bitP bitR
  have e1 : ((n : Int)).tdiv 64 = ((n / 64 : Nat) : Int) := by rw [Int.tdiv_eq_ediv_of_nonneg (by omega)]; omega
  have e2 : ((n : Int)).tmod 64 = ((n % 64 : Nat) : Int) := by rw [Int.tmod_eq_emod_of_nonneg (by omega)]; omega
  have e3 : ((n : Int)).tdiv 16 = ((n / 16 : Nat) : Int) := by rw [Int.tdiv_eq_ediv_of_nonneg (by omega)]; omega
  have e4 : ((n : Int)).tmod 16 = ((n % 16 : Nat) : Int) := by rw [Int.tmod_eq_emod_of_nonneg (by omega)]; omega
  rw [e1, e2, e3, e4, w64_id (by omega), w64_id (by omega), Int.toNat_natCast, Int.toNat_natCast, Nat.mul_one, Nat.mul_one, Nat.zero_add, Nat.zero_add]
  -- the word, and the digit in it
  have key : ∀ {x : Int} (_ : W x) (m s : Nat), m < 4 → s < 16 → n % 64 = 16 * m + s → n % 16 = s → iand .u64 (ishr .u64 x ((n % 64 : Nat) : Int)) 1 = IntKind.u64.wrap ((ishr .i64 (x / 2 ^ (16 * m) % 65536) ((n % 16 : Nat) : Int)).tmod 2) := by
    intro x hx m s hm hs g1 g2
    rw [word_bit hx (by omega), g1, g2, digit_bit hs]
  have dgt : ∀ (q m : Nat), q < 4 → m < 4 → (digs [a0, a1, a2, a3]).getD (4 * q + m) 0 = ([a0, a1, a2, a3] : List Int).getD q 0 / 2 ^ (16 * m) % 65536 := by
    intro q m hq hm
    have hq' : q = 0 ∨ q = 1 ∨ q = 2 ∨ q = 3 := by omega
    have hm' : m = 0 ∨ m = 1 ∨ m = 2 ∨ m = 3 := by omega
    rcases hq' with rfl | rfl | rfl | rfl <;> rcases hm' with rfl | rfl | rfl | rfl <;> simp [digs]
  have hx : W (([a0, a1, a2, a3] : List Int).getD (n / 64) 0) := by
    have hq' : n / 64 = 0 ∨ n / 64 = 1 ∨ n / 64 = 2 ∨ n / 64 = 3 := by omega
    rcases hq' with h | h | h | h <;> rw [h] <;> assumption
  rw [show n / 16 = 4 * (n / 64) + n % 64 / 16 by omega, dgt _ _ (by omega) (by omega)]
  exact key hx (n % 64 / 16) (n % 16) (by omega) (by omega) (by omega) rfl
end Go.Wn
