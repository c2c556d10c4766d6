/- The reference's long division: what a digit's turn does to the number. Own work. -/
import Derived.Test.YtdpaedcgbhlibaaRemE
namespace Go.Wn
open Go.Ev
theorem sg_shift (f : Nat → Int) : ∀ k : Nat, sg f (k + 1) = f 0 + 18446744073709551616 * sg (fun t => f (t + 1)) k
  | 0 => by simp [sg]
  | k + 1 => by
    rw [sg, sg_shift f k, sg, Int.pow_succ]
    grind
theorem sg_digits {X : Int} : ∀ {k : Nat}, 0 ≤ X → X < 18446744073709551616 ^ k → sg (fun t => X / 18446744073709551616 ^ t % 18446744073709551616) k = X
  | 0, h0, h1 => by
    rw [Int.pow_zero] at h1
    have : X = 0 := by omega
    subst this
    rfl
  | k + 1, h0, h1 => by
    rw [sg_shift]
    have hd : 0 ≤ X / 18446744073709551616 := Int.ediv_nonneg h0 (by omega)
    have hl : X / 18446744073709551616 < 18446744073709551616 ^ k := by
      apply Int.ediv_lt_of_lt_mul (by omega)
      rw [Int.pow_succ] at h1
      omega
    have ih := sg_digits hd hl
    have e : (fun t => X / 18446744073709551616 ^ (t + 1) % 18446744073709551616) = fun t => X / 18446744073709551616 / 18446744073709551616 ^ t % 18446744073709551616 := by
      funext t
      rw [Int.ediv_ediv_of_nonneg (by omega), Int.pow_succ, Int.mul_comm]
    rw [e, ih, Int.pow_zero, Int.ediv_one]
    omega
theorem digit_zero {X : Int} {n t : Nat} (h0 : 0 ≤ X) (h1 : X < 18446744073709551616 ^ n) (ht : n ≤ t) : X / 18446744073709551616 ^ t % 18446744073709551616 = 0 := by
  have : (18446744073709551616 : Int) ^ n ≤ 18446744073709551616 ^ t := by
    have e : (18446744073709551616 : Int) ^ t = 18446744073709551616 ^ n * 18446744073709551616 ^ (t - n) := by rw [← Int.pow_add]; congr 1; omega
    have h2 := Int.mul_le_mul_of_nonneg_left (show (1 : Int) ≤ 18446744073709551616 ^ (t - n) from bp (t - n)) (Int.le_of_lt (bp n))
    rw [Int.mul_one] at h2
    rw [e]; exact h2
  rw [Int.ediv_eq_zero_of_lt h0 (by omega)]
  rfl
theorem dig_W (X : Int) (t : Nat) : W (X / 18446744073709551616 ^ t % 18446744073709551616) := by unfold W; omega
theorem putSeg_congr {a al : List Int} {J k : Nat} {X : Int} (hl : al.length = a.length) (hJ : J + k ≤ a.length) (ho : ∀ t, t < J ∨ J + k ≤ t → al.getD t 0 = a.getD t 0) : putSeg al J X k = putSeg a J X k := by
  apply list_ext_int (by rw [putSeg_len, putSeg_len, hl])
  intro t ht
  rw [putSeg_get (by rw [hl]; exact hJ), putSeg_get hJ]
  split
  · rfl
  · exact ho t (by omega)
/-- The words while the division goes on: below k as they were, from k on those of what is left. -/
def divL (a0 : List Int) (B : Int) (k : Nat) : List Int :=
  (List.range 10).map fun t => if t < k then a0.getD t 0 else (sg (fun t => a0.getD t 0) 10 / 18446744073709551616 ^ k % B) / 18446744073709551616 ^ (t - k) % 18446744073709551616
theorem divL_len {a0 : List Int} {B : Int} {k : Nat} : (divL a0 B k).length = 10 := by simp [divL]
theorem divL_get {a0 : List Int} {B : Int} {k t : Nat} (ht : t < 10) : (divL a0 B k).getD t 0 = if t < k then a0.getD t 0 else (sg (fun t => a0.getD t 0) 10 / 18446744073709551616 ^ k % B) / 18446744073709551616 ^ (t - k) % 18446744073709551616 := by
  unfold divL
  simp [List.getD, ht]
theorem divL_W {a0 : List Int} {B : Int} {k : Nat} (hw : ∀ t, W (a0.getD t 0)) (t : Nat) : W ((divL a0 B k).getD t 0) := by
  by_cases ht : t < 10
  · rw [divL_get ht]
    split
    · exact hw t
    · exact dig_W _ _
  · rw [List.getD, List.getElem?_eq_none (by rw [divL_len]; omega)]
    exact ⟨by decide, by decide⟩
/-- The segment that a digit's turn looks at. -/
theorem divL_seg {a0 : List Int} {B : Int} {k n : Nat} (hw : ∀ t, W (a0.getD t 0)) (hB : 0 < B) (hBn : B ≤ 18446744073709551616 ^ n) (hk : 1 ≤ k) (hkn : k + n ≤ 10) :
    sg (fun t => (divL a0 B k).getD (k - 1 + t) 0) (n + 1) = a0.getD (k - 1) 0 + 18446744073709551616 * (sg (fun t => a0.getD t 0) 10 / 18446744073709551616 ^ k % B) ∧
    sg (fun t => (divL a0 B k).getD (k - 1 + t) 0) (n + 1) % B = sg (fun t => a0.getD t 0) 10 / 18446744073709551616 ^ (k - 1) % B := by
  have hR0 := Int.emod_nonneg (sg (fun t => a0.getD t 0) 10 / 18446744073709551616 ^ k) (show B ≠ 0 by omega)
  have hR1 := Int.emod_lt_of_pos (sg (fun t => a0.getD t 0) 10 / 18446744073709551616 ^ k) hB
  have e1 : sg (fun t => (divL a0 B k).getD (k - 1 + t) 0) (n + 1) = a0.getD (k - 1) 0 + 18446744073709551616 * (sg (fun t => a0.getD t 0) 10 / 18446744073709551616 ^ k % B) := by
    rw [sg_shift]
    have c0 : (divL a0 B k).getD (k - 1 + 0) 0 = a0.getD (k - 1) 0 := by rw [divL_get (by omega), if_pos (by omega)]; rfl
    have c1 : sg (fun t => (divL a0 B k).getD (k - 1 + (t + 1)) 0) n = sg (fun t => (sg (fun t => a0.getD t 0) 10 / 18446744073709551616 ^ k % B) / 18446744073709551616 ^ t % 18446744073709551616) n :=
      sg_congr fun t ht => by rw [divL_get (by omega), if_neg (by omega), show k - 1 + (t + 1) - k = t by omega]
    rw [c0, c1, sg_digits hR0 (by omega)]
  refine ⟨e1, ?_⟩
  rw [e1]
  have hd := sg_digit hw (n := 10) (k := k - 1) (by omega)
  have hp := bp (k - 1)
  have e2 : sg (fun t => a0.getD t 0) 10 / 18446744073709551616 ^ k = sg (fun t => a0.getD t 0) 10 / 18446744073709551616 ^ (k - 1) / 18446744073709551616 := by
    rw [Int.ediv_ediv_of_nonneg (Int.le_of_lt hp), ← Int.pow_succ, show (k - 1).succ = k by omega]
  have e3 : sg (fun t => a0.getD t 0) 10 / 18446744073709551616 ^ (k - 1) = a0.getD (k - 1) 0 + 18446744073709551616 * (sg (fun t => a0.getD t 0) 10 / 18446744073709551616 ^ k) := by
    rw [e2, ← hd]; omega
  rw [e3]
  generalize sg (fun t => a0.getD t 0) 10 / 18446744073709551616 ^ k = Y
  rw [Int.add_emod, mul_mod_right, ← Int.add_emod]
/-- A digit's turn. -/
theorem divL_step {a0 : List Int} {B : Int} {k n : Nat} (hw : ∀ t, W (a0.getD t 0)) (hB : 0 < B) (hBn : B ≤ 18446744073709551616 ^ n) (hk : 1 ≤ k) (hkn : k + n ≤ 10) :
    putSeg (divL a0 B k) (k - 1) (sg (fun t => (divL a0 B k).getD (k - 1 + t) 0) (n + 1) % B) (n + 1) = divL a0 B (k - 1) := by
  rw [(divL_seg hw hB hBn hk hkn).2]
  have hR0 := Int.emod_nonneg (sg (fun t => a0.getD t 0) 10 / 18446744073709551616 ^ k) (show B ≠ 0 by omega)
  have hR1 := Int.emod_lt_of_pos (sg (fun t => a0.getD t 0) 10 / 18446744073709551616 ^ k) hB
  have hX0 := Int.emod_nonneg (sg (fun t => a0.getD t 0) 10 / 18446744073709551616 ^ (k - 1)) (show B ≠ 0 by omega)
  have hX1 := Int.emod_lt_of_pos (sg (fun t => a0.getD t 0) 10 / 18446744073709551616 ^ (k - 1)) hB
  apply list_ext_int (by rw [putSeg_len, divL_len, divL_len])
  intro t ht
  rw [putSeg_len, divL_len] at ht
  rw [putSeg_get (by rw [divL_len]; omega), divL_get ht, divL_get ht]
  by_cases h1 : t < k - 1
  · rw [if_neg (by omega), if_pos (by omega), if_pos h1]
  · by_cases h2 : t < k - 1 + (n + 1)
    · rw [if_pos (by omega), if_neg h1]
    · rw [if_neg (by omega), if_neg (by omega), if_neg h1, digit_zero hR0 (n := n) (by omega) (by omega), digit_zero hX0 (n := n) (by omega) (by omega)]
/-- The guess is high enough. -/
theorem guess_ok {f b : Nat → Int} {n : Nat} (hn : 1 ≤ n) (hf : ∀ t, W (f t)) (hb : ∀ t, W (b t)) (hy : 0 < b (n - 1)) : sg f (n + 1) / sg b n ≤ (f n * 18446744073709551616 + f (n - 1)) / b (n - 1) := by
  obtain ⟨k, rfl⟩ : ∃ k, n = k + 1 := ⟨n - 1, by omega⟩
  simp only [Nat.add_sub_cancel] at *
  have r1 := sg_range hf k
  have r2 := sg_range hb k
  have hp := bp k
  have e1 : sg f (k + 1 + 1) = sg f k + (f (k + 1) * 18446744073709551616 + f k) * 18446744073709551616 ^ k := by
    rw [sg, sg, Int.pow_succ]; grind
  have h0 := (sg_range hf (k + 1 + 1)).1
  refine guess_ge hp hy ?_ ?_ h0
  · rw [sg]; omega
  · rw [e1]
    generalize f (k + 1) * 18446744073709551616 + f k = c
    rw [Int.add_mul, Int.one_mul]; omega
theorem below_B {V B q : Int} (hB : 0 < B) (h : V / B ≤ q) : V - q * B < B := by
  have h1 := Int.lt_ediv_add_one_mul_self V hB
  have h2 : (V / B) * B ≤ q * B := Int.mul_le_mul_of_nonneg_right h (by omega)
  rw [Int.add_mul, Int.one_mul] at h1
  omega
end Go.Wn
namespace Go.Proofs.Ytdpaedcgbhlibaa
open Go.Ev Go.Wn
theorem ms_all {q : Int} {n : Nat} {j : Int} {b a : List Int} (h : 0 ≤ j ∧ j + n ≤ 9) (hl : a.length = 10) (hw : ∀ t, W (a.getD t 0)) (hb : ∀ t, W (b.getD t 0)) (hq : W q) :
    (msT q b a j n).length = 10 ∧ (∀ t, W ((msT q b a j n).getD t 0)) ∧ (∀ t, t < j.toNat ∨ j.toNat + (n + 1) ≤ t → (msT q b a j n).getD t 0 = a.getD t 0) ∧ (0 ≤ msB q b a j n ∧ msB q b a j n ≤ 1) ∧
      segV (msT q b a j n) j (msB q b a j n) n = sg (fun t => a.getD (j.toNat + t) 0) (n + 1) - q * bigB b n ∧ ∀ i, i ≤ n → (msN q b (jx j) a i).2.1 ≤ 1 := by
  have hs := ms_spec hl hw hb hq (jx_eq h) (J := j.toNat) (by omega)
  obtain ⟨e1, e2, e3, e4, e5, e6⟩ := hs n (Nat.le_refl _)
  have hx := jx_eq h n (Nat.le_refl _)
  have hk : j.toNat + n < (msN q b (jx j) a n).1.length := by omega
  have c2 : (msN q b (jx j) a n).1.getD (j.toNat + n) 0 = a.getD (j.toNat + n) 0 := e3 _ (by omega)
  have w1 := hw (j.toNat + n)
  have g : W ((a.getD (j.toNat + n) 0 - (msN q b (jx j) a n).2.2 - (msN q b (jx j) a n).2.1) % 18446744073709551616) ∧ (0 ≤ msB q b a j n ∧ msB q b a j n ≤ 1) ∧
      a.getD (j.toNat + n) 0 - (msN q b (jx j) a n).2.2 - (msN q b (jx j) a n).2.1 = (a.getD (j.toNat + n) 0 - (msN q b (jx j) a n).2.2 - (msN q b (jx j) a n).2.1) % 18446744073709551616 - msB q b a j n * 18446744073709551616 := by
    unfold msB
    rw [hx, c2]
    unfold W at *
    split <;> omega
  obtain ⟨g1, g2, g3⟩ := g
  refine ⟨by unfold msT; simp [e1], by unfold msT; rw [hx, c2]; exact W_set e2 g1, fun t ht => ?_, g2, ?_, fun i hi => (hs i hi).2.2.2.1.2⟩
  · unfold msT
    rw [hx, getD_set_int hk, if_neg (by omega)]
    exact e3 t (by omega)
  · have c1 : sg (fun t => (msT q b a j n).getD (j.toNat + t) 0) n = sg (fun t => (msN q b (jx j) a n).1.getD (j.toNat + t) 0) n :=
      sg_congr fun t ht => by unfold msT; rw [hx, getD_set_int hk, if_neg (by omega)]
    have c3 : (msT q b a j n).getD (j.toNat + n) 0 = (a.getD (j.toNat + n) 0 - (msN q b (jx j) a n).2.2 - (msN q b (jx j) a n).2.1) % 18446744073709551616 := by unfold msT; rw [hx, getD_set_int hk, if_pos rfl, c2]
    unfold segV bigB
    simp only [sg]
    rw [c1, c3, Int.pow_succ]
    generalize (a.getD (j.toNat + n) 0 - (msN q b (jx j) a n).2.2 - (msN q b (jx j) a n).2.1) % 18446744073709551616 = X at *
    generalize msB q b a j n = bo' at *
    generalize a.getD (j.toNat + n) 0 = x at *
    generalize (18446744073709551616 : Int) ^ n = p at *
    generalize sg (fun t => a.getD (j.toNat + t) 0) n = A at *
    generalize sg (fun t => b.getD t 0) n = Bs at *
    generalize sg (fun t => (msN q b (jx j) a n).1.getD (j.toNat + t) 0) n = A' at *
    generalize (msN q b (jx j) a n).2.1 = bo at *
    generalize (msN q b (jx j) a n).2.2 = ca at *
    grind
end Go.Proofs.Ytdpaedcgbhlibaa
