/- Lengths of words, and long division by digits of 32 bits: plain arithmetic. Own work. -/
import Derived.Test.YtdpaedcgbhlibaaModC
namespace Go.Wn
open Go.Ev
def blen (x : Int) : Int := if x ≤ 0 then 0 else (Nat.log2 x.toNat : Int) + 1
theorem blen_of {x : Int} {n : Nat} (h1 : 2 ^ n ≤ x) (h2 : x < 2 ^ (n + 1)) : blen x = n + 1 := by
  have hp : (0 : Int) < 2 ^ n := Int.pow_pos (by omega)
  unfold blen
  rw [if_neg (by omega)]
  obtain ⟨X, rfl⟩ := Int.eq_ofNat_of_zero_le (show 0 ≤ x by omega)
  have h1' : 2 ^ n ≤ X := by exact_mod_cast h1
  have h2' : X < 2 ^ (n + 1) := by exact_mod_cast h2
  rw [Int.toNat_natCast]
  have : X.log2 = n := (Nat.log2_eq_iff (by have := Nat.pow_pos (n := n) (show 0 < 2 by omega); omega)).2 ⟨h1', h2'⟩
  rw [this]
theorem blen_spec {x : Int} (h : 0 < x) : ∃ n : Nat, blen x = n + 1 ∧ 2 ^ n ≤ x ∧ x < 2 ^ (n + 1) := by
  obtain ⟨X, rfl⟩ := Int.eq_ofNat_of_zero_le (show 0 ≤ x by omega)
  have hX : X ≠ 0 := by omega
  obtain ⟨h1, h2⟩ := (Nat.log2_eq_iff hX).1 rfl
  refine ⟨X.log2, ?_, by exact_mod_cast h1, by exact_mod_cast h2⟩
  unfold blen
  rw [if_neg (by omega), Int.toNat_natCast]
def tab8 : List Int := (List.range 256).map fun (b : Nat) => blen b
theorem tab8_get {b : Nat} (h : b < 256) : tab8.getD b 0 = blen b := by
  unfold tab8
  simp [List.getD, h]
/-- A word that is shifted down by k, to a byte that isn't 0: its length is k more. -/
theorem blen_shift {x : Int} {k : Nat} (h : 0 < x / 2 ^ k) : blen x = k + blen (x / 2 ^ k) := by
  have hp : (0 : Int) < 2 ^ k := Int.pow_pos (by omega)
  obtain ⟨n, e, h1, h2⟩ := blen_spec h
  rw [e]
  have a1 : 2 ^ (k + n) ≤ x := by
    rw [Int.pow_add]
    have := Int.mul_le_mul_of_nonneg_left h1 (Int.le_of_lt hp)
    have := Int.mul_ediv_self_le (x := x) (k := 2 ^ k) (Int.ne_of_gt hp)
    omega
  have a2 : x < 2 ^ (k + n + 1) := by
    rw [Nat.add_assoc, Int.pow_add, Int.mul_comm]
    exact Int.lt_mul_of_ediv_lt hp h2
  rw [blen_of a1 a2]
  omega

/- a digit of a quotient -/
theorem digit_end {H c q r y1 y0 : Int} (hy : 0 < y1 * 4294967296 + y0) (hr : r = H - q * y1) (h : q * y0 ≤ 4294967296 * r + c) : q ≤ (H * 4294967296 + c) / (y1 * 4294967296 + y0) := by
  apply Int.le_ediv_of_mul_le hy
  have e : q * (y1 * 4294967296 + y0) = 4294967296 * (q * y1) + q * y0 := by grind
  rw [e]
  generalize q * y1 = A at *
  generalize q * y0 = B at *
  omega
theorem digit_more {H c q r y1 y0 : Int} (hy : 0 < y1 * 4294967296 + y0) (hr : r = H - q * y1) (h : 4294967296 * r + c < q * y0) : (H * 4294967296 + c) / (y1 * 4294967296 + y0) < q := by
  apply Int.ediv_lt_of_lt_mul hy
  have e : q * (y1 * 4294967296 + y0) = 4294967296 * (q * y1) + q * y0 := by grind
  rw [e]
  generalize q * y1 = A at *
  generalize q * y0 = B at *
  omega
theorem digit_first {H c y1 y0 : Int} (h1 : 2147483648 ≤ y1 ∧ y1 < 4294967296) (h0 : 0 ≤ y0 ∧ y0 < 4294967296) (hc : 0 ≤ c ∧ c < 4294967296) (hH : 0 ≤ H ∧ H < y1 * 4294967296 + y0) :
    (H * 4294967296 + c) / (y1 * 4294967296 + y0) ≤ H / y1 ∧ 0 ≤ H / y1 ∧ H / y1 ≤ 4294967297 ∧ 0 ≤ H - H / y1 * y1 ∧ H - H / y1 * y1 < y1 ∧ 0 ≤ (H * 4294967296 + c) / (y1 * 4294967296 + y0) ∧ (H * 4294967296 + c) / (y1 * 4294967296 + y0) < 4294967296 := by
  have hy : 0 < y1 * 4294967296 + y0 := by omega
  have e1 := Int.emod_add_mul_ediv H y1
  have e2 := Int.emod_nonneg H (show y1 ≠ 0 by omega)
  have e3 := Int.emod_lt_of_pos H (show 0 < y1 by omega)
  have e4 : H / y1 * y1 = y1 * (H / y1) := Int.mul_comm _ _
  refine ⟨?_, Int.ediv_nonneg hH.1 (by omega), ?_, by omega, by omega, Int.ediv_nonneg (by omega) (by omega), ?_⟩
  · apply Int.le_ediv_of_mul_le (by omega)
    have hq := Int.ediv_mul_le (H * 4294967296 + c) (Int.ne_of_gt hy)
    have hq0 := Int.ediv_nonneg (show 0 ≤ H * 4294967296 + c by omega) (Int.le_of_lt hy)
    generalize (H * 4294967296 + c) / (y1 * 4294967296 + y0) = Q at *
    have e : Q * (y1 * 4294967296 + y0) = 4294967296 * (Q * y1) + Q * y0 := by grind
    have hz := Int.mul_nonneg hq0 h0.1
    rw [e] at hq
    generalize Q * y1 = A at *
    generalize Q * y0 = B at *
    omega
  · have : H / y1 < 4294967298 := by
      apply Int.ediv_lt_of_lt_mul (by omega)
      omega
    omega
  · apply Int.ediv_lt_of_lt_mul hy
    generalize y1 * 4294967296 + y0 = y at *
    omega
theorem digit_break {q r c y0 : Int} (h0 : 0 ≤ y0 ∧ y0 < 4294967296) (hc : 0 ≤ c) (hq : 0 ≤ q ∧ q ≤ 4294967296) (hr : 4294967296 ≤ r) : q * y0 ≤ 4294967296 * r + c := by
  have : q * y0 ≤ 4294967296 * y0 := Int.mul_le_mul_of_nonneg_right hq.2 h0.1
  omega
/-- Two digits, and what is left. -/
theorem two_digits {hi lo y : Int} (hy : 0 < y) (un1 un0 : Int) (hl : lo = un1 * 4294967296 + un0) :
    (hi * 18446744073709551616 + lo) / y = (hi * 4294967296 + un1) / y * 4294967296 + (((hi * 4294967296 + un1) % y) * 4294967296 + un0) / y ∧
    (hi * 18446744073709551616 + lo) % y = (((hi * 4294967296 + un1) % y) * 4294967296 + un0) % y := by
  have e1 := Int.emod_add_mul_ediv (hi * 4294967296 + un1) y
  generalize (hi * 4294967296 + un1) % y = r at *
  generalize (hi * 4294967296 + un1) / y = q at *
  have e : hi * 18446744073709551616 + lo = (r * 4294967296 + un0) + y * (q * 4294967296) := by
    have : y * (q * 4294967296) = (y * q) * 4294967296 := by rw [Int.mul_assoc]
    rw [this]
    generalize y * q = A at *
    omega
  rw [e, Int.add_mul_ediv_left _ _ (Int.ne_of_gt hy), Int.add_mul_emod_self_left]
  exact ⟨by omega, rfl⟩
end Go.Wn
