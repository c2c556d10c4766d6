/- The inverse of a word, the highest bit, the square of 2^256: what the program answers. Own work. -/
import Derived.Test.YthddlnldjbijmaaDoorTMyMD
set_option linter.unusedSimpArgs false
set_option linter.unusedVariables false
set_option linter.unusedSectionVars false
namespace Go.Ev
section
variable {P : Program} {q : FuncId → Bool} {H : CallH}
end
end Go.Ev
namespace Go.Wn
open Go.Ev
/- the inverse of a word -/
def stepI (n v : Int) : Int := IntKind.u64.wrap (v * IntKind.u64.wrap (2 - IntKind.u64.wrap (n * v)))
def invF (n : Int) : Int := stepI n (stepI n (stepI n (stepI n (stepI n n))))
theorem stepI_eq (n v : Int) : stepI n v = (v * (2 - n * v)) % 18446744073709551616 := by
  unfold stepI
  simp only [wrap_eq]
  rw [mul_mod_right]
  have e : (2 - n * v % 18446744073709551616) % 18446744073709551616 = (2 - n * v) % 18446744073709551616 := by omega
  rw [← mul_mod_right v (2 - n * v % 18446744073709551616), e, mul_mod_right]
theorem stepI_spec {n v d : Int} (e : Int) (hd : d ∣ n * v - 1) (he : d * d = e ∨ (∃ c, d * d = c * e)) (hb : e ∣ 18446744073709551616) : e ∣ n * stepI n v - 1 := by
  rw [stepI_eq]
  obtain ⟨x, hx⟩ := hd
  obtain ⟨y, hy⟩ := hb
  have e1 : v * (2 - n * v) % 18446744073709551616 = v * (2 - n * v) - 18446744073709551616 * (v * (2 - n * v) / 18446744073709551616) := by
    have := Int.emod_add_mul_ediv (v * (2 - n * v)) 18446744073709551616
    omega
  rw [e1, hy]
  generalize v * (2 - n * v) / (e * y) = k
  have hv : n * v = d * x + 1 := by omega
  have e2 : n * (v * (2 - n * v) - e * y * k) - 1 = -(d * d) * (x * x) - e * (n * y * k) := by
    have : n * (v * (2 - n * v) - e * y * k) = (n * v) * (2 - n * v) - e * (n * y * k) := by grind
    rw [this, hv]
    grind
  rw [e2]
  have hdd : e ∣ d * d := by
    rcases he with h | ⟨c, h⟩
    · exact ⟨1, by rw [h, Int.mul_one]⟩
    · exact ⟨c, by rw [h, Int.mul_comm]⟩
  exact Int.dvd_sub (Int.dvd_mul_of_dvd_left (Int.dvd_neg.2 hdd)) (Int.dvd_mul_right _ _)
theorem invF_spec {n : Int} (h : n % 2 = 1) : (n * invF n - 1) % 18446744073709551616 = 0 := by
  have h0 : (8 : Int) ∣ n * n - 1 := by
    obtain ⟨k, rfl⟩ : ∃ k, n = 2 * k + 1 := ⟨n / 2, by omega⟩
    have e : (2 * k + 1) * (2 * k + 1) - 1 = 4 * (k * (k + 1)) := by grind
    rw [e]
    have : k % 2 = 0 ∨ k % 2 = 1 := by omega
    rcases this with hk | hk
    · obtain ⟨j, rfl⟩ : ∃ j, k = 2 * j := ⟨k / 2, by omega⟩
      exact ⟨j * (2 * j + 1), by grind⟩
    · obtain ⟨j, rfl⟩ : ∃ j, k = 2 * j + 1 := ⟨k / 2, by omega⟩
      exact ⟨(2 * j + 1) * (j + 1), by grind⟩
  have h1 := stepI_spec 64 h0 (Or.inl rfl) ⟨288230376151711744, by decide⟩
  have h2 := stepI_spec 4096 h1 (Or.inl rfl) ⟨4503599627370496, by decide⟩
  have h3 := stepI_spec 16777216 h2 (Or.inl rfl) ⟨1099511627776, by decide⟩
  have h4 := stepI_spec 281474976710656 h3 (Or.inl rfl) ⟨65536, by decide⟩
  have h5 := stepI_spec 18446744073709551616 h4 (Or.inr ⟨4294967296, by decide⟩) ⟨1, by decide⟩
  exact Int.emod_eq_zero_of_dvd h5

/- the highest bit -/
def hiF (b : Int → Int) : Nat → Int
  | 0 => 0
  | k + 1 => match b (k + 1) == 0 with | true => hiF b k | false => k + 1
theorem hiF_spec {M : Int} (h0 : 0 ≤ M) (b : Int → Int) (hb : ∀ k : Nat, k ≤ 255 → b k = M / 2 ^ k % 2) : ∀ k : Nat, k ≤ 255 → M < 2 ^ (k + 1) →
    ∃ i : Nat, hiF b k = i ∧ i ≤ k ∧ M < 2 ^ (i + 1) ∧ (i = 0 ∨ 2 ^ i ≤ M)
  | 0, _, hM => ⟨0, rfl, Nat.le_refl _, hM, Or.inl rfl⟩
  | k + 1, hk, hM => by
    have e := hb (k + 1) hk
    have hp : (0 : Int) < 2 ^ (k + 1) := Int.pow_pos (by omega)
    unfold hiF
    cases hc : b ((k : Int) + 1) == 0 with
    | true =>
      simp only
      have hz : M / 2 ^ (k + 1) % 2 = 0 := by
        rw [← e]; simpa using hc
      have hlt : M / 2 ^ (k + 1) < 2 := by
        apply Int.ediv_lt_of_lt_mul hp
        rw [Int.pow_succ] at hM
        omega
      have hge : 0 ≤ M / 2 ^ (k + 1) := Int.ediv_nonneg h0 (by omega)
      have hq : M / 2 ^ (k + 1) = 0 := by omega
      have hM' : M < 2 ^ (k + 1) := by
        have := Int.lt_ediv_add_one_mul_self M hp
        rw [hq] at this
        omega
      obtain ⟨i, h1, h2, h3, h4⟩ := hiF_spec h0 b hb k (by omega) hM'
      exact ⟨i, h1, by omega, h3, h4⟩
    | false =>
      simp only
      have hz : M / 2 ^ (k + 1) % 2 ≠ 0 := by
        rw [← e]; simpa using hc
      refine ⟨k + 1, rfl, Nat.le_refl _, hM, Or.inr ?_⟩
      rcases Int.lt_or_le M (2 ^ (k + 1)) with hlt | hge
      · rw [Int.ediv_eq_zero_of_lt h0 hlt] at hz
        exact absurd rfl hz
      · exact hge
/-- A bit of a number is one of its word. -/
theorem up_bit {a y : Int} {r : Nat} (hr : r < 64) : (a + 18446744073709551616 * y) / 2 ^ r % 2 = a / 2 ^ r % 2 := by
  have e : (18446744073709551616 : Int) = 2 ^ r * (2 * 2 ^ (63 - r)) := by
    rw [← Int.mul_assoc, Int.mul_comm (2 ^ r) 2, Int.mul_assoc, ← Int.pow_add, show r + (63 - r) = 63 by omega]
    rfl
  rw [e, Int.mul_assoc, Int.add_mul_ediv_left _ _ (Int.ne_of_gt (Int.pow_pos (by omega))), Int.mul_assoc, Int.add_mul_emod_self_left]
theorem bit_word {a0 a1 a2 a3 : Int} (h0 : W a0) (h1 : W a1) (h2 : W a2) (h3 : W a3) {k : Nat} (hk : k ≤ 255) : bitP [a0, a1, a2, a3] k = val [a0, a1, a2, a3] / 2 ^ k % 2 := by
  unfold bitP
  have e1 : ((k : Int)).tdiv 64 = ((k / 64 : Nat) : Int) := by rw [Int.tdiv_eq_ediv_of_nonneg (by omega)]; omega
  have e2 : ((k : Int)).tmod 64 = ((k % 64 : Nat) : Int) := by rw [Int.tmod_eq_emod_of_nonneg (by omega)]; omega
  rw [e1, e2, w64_id (by omega), Int.toNat_natCast, Nat.mul_one, Nat.zero_add]
  have hq : k / 64 = 0 ∨ k / 64 = 1 ∨ k / 64 = 2 ∨ k / 64 = 3 := by omega
  have key : ∀ {x : Int} (_ : W x) (P : Int) (y : Int), (2 : Int) ^ (64 * (k / 64)) = P → val [a0, a1, a2, a3] / P = x + 18446744073709551616 * y → iand .u64 (ishr .u64 x ((k % 64 : Nat) : Int)) 1 = val [a0, a1, a2, a3] / 2 ^ k % 2 := by
    intro x hx P y hP hd
    have hr : k % 64 < 64 := by omega
    rw [word_bit hx hr, show (2 : Int) ^ k = P * 2 ^ (k % 64) by rw [← hP, ← Int.pow_add]; congr 1; omega,
      ← Int.ediv_ediv_of_nonneg (by rw [← hP]; exact Int.le_of_lt (Int.pow_pos (by omega))), hd, up_bit hr]
  unfold W at h0 h1 h2 h3
  rcases hq with h | h | h | h
  · rw [h]; exact key h0 1 (a1 + 18446744073709551616 * a2 + 340282366920938463463374607431768211456 * a3) (by rw [h]; rfl) (by simp [val]; omega)
  · rw [h]; exact key h1 18446744073709551616 (a2 + 18446744073709551616 * a3) (by rw [h]; rfl) (by simp [val]; omega)
  · rw [h]; exact key h2 340282366920938463463374607431768211456 a3 (by rw [h]; rfl) (by simp [val]; omega)
  · rw [h]; exact key h3 6277101735386680763835789423207666416102355444464034512896 0 (by rw [h]; rfl) (by simp [val]; omega)
end Go.Wn
namespace Go.Proofs.YthddlnldjbijmaaDoor
open Go.Ev Go.Wn
set_option maxRecDepth 100000
def invS : List AV → E AV
  | [.int _ .u64 n] => some ([], .int true .u64 (invF n))
  | _ => none
theorem inv_eval (n : Int) : res (funcA Tryd.prog qAll hm6 100 46 [.int true .u64 n] []) = some ([], .int true .u64 (invF n)) := by kernel_rfl
theorem inv_ok {args : List AV} {o : List Bool} {v : AV} (h : invS args = some (o, v)) : PureCall Tryd.prog 46 args v := by
  unfold invS at h
  split at h
  · rename_i s n
    cases h
    intro ρ N vs ha
    cases ha with
    | cons _ _ _ _ r0 hb =>
      cases hb
      exact pure_of_res mixed noCount hm6_ok (by kernel_rfl) (inv_eval n) Paid.nil rfl (by kernel_rfl) (.cons _ _ _ _ (remark r0) .nil)
  · cases h
def higS : List AV → E AV
  | [.ints .u64 4 a] => some ([], .int true .i64 (hiF (bitV a) 255))
  | _ => none
theorem hig_eval (a : List Int) : (funcA Tryd.prog qAll hm6 400 59 [.ints .u64 4 a] []).mix = some ([], .int true .i64 (hiF (bitV a) 255)) := by kernel_rfl
theorem hig_ok {args : List AV} {o : List Bool} {v : AV} (h : higS args = some (o, v)) : PureCall Tryd.prog 59 args v := by
  unfold higS at h
  split at h
  · rename_i a
    cases h
    exact pure_of_mix mixed noCount hm6_ok (by kernel_rfl) (hig_eval a) Paid.nil rfl
  · cases h
def hm7 : CallH := withC 59 higS (withC 46 invS hm6)
theorem hm7_ok : HOk Tryd.prog hm7 := (hm6_ok.withC fun _ _ _ h _ => inv_ok h).withC fun _ _ _ h _ => hig_ok h
end Go.Proofs.YthddlnldjbijmaaDoor
