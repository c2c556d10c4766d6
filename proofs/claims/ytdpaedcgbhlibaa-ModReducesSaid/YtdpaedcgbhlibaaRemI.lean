/- What the reference's long division answers. Own work. -/
import Derived.Test.YtdpaedcgbhlibaaRemH
namespace Go.Wn
open Go.Ev
theorem val_sg (l : List Int) : val l = sg (fun t => l.getD t 0) 4 := by
  simp only [val, sg, Int.pow_zero, Int.reducePow]
  omega
theorem sg_top {f : Nat → Int} {n : Nat} (h : ∀ t, n ≤ t → t < 4 → f t = 0) (hn : n ≤ 4) : sg f 4 = sg f n := by
  have : ∀ k, n ≤ k → k ≤ 4 → sg f k = sg f n := by
    intro k
    induction k with
    | zero => intro h1 _; have : n = 0 := by omega
              subst this; rfl
    | succ k ih =>
      intro h1 h2
      rcases Nat.lt_or_ge n (k + 1) with h3 | h3
      · rw [sg, h k (by omega) (by omega), Int.zero_mul, Int.add_zero]
        exact ih (by omega) (by omega)
      · have : n = k + 1 := by omega
        subst this; rfl
  exact this 4 hn (Nat.le_refl _)
theorem sg_pred (f : Nat → Int) {n : Nat} (hn : 1 ≤ n) : sg f n = sg f (n - 1) + f (n - 1) * 18446744073709551616 ^ (n - 1) := by
  obtain ⟨k, rfl⟩ : ∃ k, n = k + 1 := ⟨n - 1, by omega⟩
  rfl
theorem limbs_get (r : Int) {t : Nat} (ht : t < 4) : (limbs r).getD t 0 = r / 18446744073709551616 ^ t % 18446744073709551616 := by
  have : t = 0 ∨ t = 1 ∨ t = 2 ∨ t = 3 := by omega
  rcases this with rfl | rfl | rfl | rfl <;> simp [limbs]
theorem dSN_paid {s : Nat} (hs : s ≤ 63) : ∀ k, Paid (dSN (s : Int) k)
  | 0 => Paid.nil
  | k + 1 => by
    have h1 : (!decide ((s : Int) < 0)) = true := by rw [decide_eq_false (by omega)]; rfl
    have h2 : (!decide (IntKind.i64.wrap (64 - (s : Int)) < 0)) = true := by rw [wrap64 (by omega), decide_eq_false (by omega)]; rfl
    exact paid_cons h1 (paid_cons h2 (dSN_paid hs k))
end Go.Wn
namespace Go.Proofs.Ytdpaedcgbhlibaa
open Go.Ev Go.Wn
set_option maxRecDepth 100000
theorem rem_value {n : Nat} {u m : List Int} (hn : 1 ≤ n ∧ n ≤ 4) (hu : ∀ t, W (u.getD t 0)) (hm : ∀ t, W (m.getD t 0)) (hp : 0 < m.getD (n - 1) 0) (hz : ∀ t, n ≤ t → t < 4 → m.getD t 0 = 0) :
    Paid (dSN (remS m n) (n + 9) ++ (o6 n (9 - n) (shN m (remS m n) 5 n) (shN u (remS m n) 10 9) ++ dSN (remS m n) n)) ∧ remA u m (remS m n) n = limbs (sg (fun t => u.getD t 0) 9 % val m) := by
  obtain ⟨k, ek, h1, h2⟩ := blen_spec hp
  have hk : k ≤ 63 := by
    have := blen_word (hm (n - 1)) hp
    omega
  have es : remS m n = ((63 - k : Nat) : Int) := by unfold remS; rw [ek]; omega
  rw [es]
  have hs : 63 - k ≤ 63 := by omega
  generalize hsN : 63 - k = s at *
  have q1 := two_pos s
  -- m, shifted
  have g1 : 9223372036854775808 ≤ m.getD (n - 1) 0 * 2 ^ s := by
    have e : (9223372036854775808 : Int) = 2 ^ k * 2 ^ s := by rw [← Int.pow_add, show k + s = 63 by omega]; rfl
    rw [e]
    exact Int.mul_le_mul_of_nonneg_right h1 (by omega)
  have g2 : (m.getD (n - 1) 0 + 1) * 2 ^ s ≤ 18446744073709551616 := by
    have e : (18446744073709551616 : Int) = 2 ^ (k + 1) * 2 ^ s := by rw [← Int.pow_add, show k + 1 + s = 64 by omega]; rfl
    rw [e]
    exact Int.mul_le_mul_of_nonneg_right (by omega) (by omega)
  have hX := shN_spec (len := 5) hs hm n (by omega)
  have hA9 := shN_spec (len := 10) hs hu 9 (by omega)
  have b2 := hX.2.1; have b5 := hX.2.2.2.2
  have a1 := hA9.1; have a2 := hA9.2.1; have a5 := hA9.2.2.2.2
  clear hX hA9
  have hpn := bp (n - 1)
  have epn : (18446744073709551616 : Int) ^ n = 18446744073709551616 ^ (n - 1) * 18446744073709551616 := by
    rw [← Int.pow_succ, show (n - 1).succ = n by omega]
  have em := sg_pred (fun t => m.getD t 0) hn.1
  have rm := sg_range hm (n - 1)
  unfold remA
  generalize shN m s 5 n = X at *
  generalize shN u s 10 9 = A at *
  -- its number
  have rX := sg_range b2 n
  have hXn := (b2 n).1
  have hMlt : sg (fun t => m.getD t 0) n * 2 ^ s < 18446744073709551616 ^ n := by
    have c1 : sg (fun t => m.getD t 0) n < (m.getD (n - 1) 0 + 1) * 18446744073709551616 ^ (n - 1) := by rw [em, Int.add_mul, Int.one_mul]; omega
    have c2 := Int.mul_lt_mul_of_pos_right c1 q1
    have c3 : (m.getD (n - 1) 0 + 1) * 18446744073709551616 ^ (n - 1) * 2 ^ s = (m.getD (n - 1) 0 + 1) * 2 ^ s * 18446744073709551616 ^ (n - 1) := by
      rw [Int.mul_assoc, Int.mul_comm (18446744073709551616 ^ (n - 1)), ← Int.mul_assoc]
    have c4 := Int.mul_le_mul_of_nonneg_right g2 (Int.le_of_lt hpn)
    rw [epn, Int.mul_comm (18446744073709551616 ^ (n - 1))]
    omega
  have hB : sg (fun t => X.getD t 0) n = 2 ^ s * sg (fun t => m.getD t 0) n := by
    rw [sg] at b5
    have hzero : X.getD n 0 = 0 := by
      rcases Int.lt_or_eq_of_le hXn with h | h
      · have : 1 * 18446744073709551616 ^ n ≤ X.getD n 0 * 18446744073709551616 ^ n := Int.mul_le_mul_of_nonneg_right (by omega) (Int.le_of_lt (bp n))
        rw [Int.mul_comm (2 ^ s)] at b5
        omega
      · exact h.symm
    rw [hzero, Int.zero_mul, Int.add_zero] at b5
    exact b5
  have hBge : m.getD (n - 1) 0 * 2 ^ s * 18446744073709551616 ^ (n - 1) ≤ sg (fun t => X.getD t 0) n := by
    rw [hB, em, Int.mul_add]
    have : 0 ≤ 2 ^ s * sg (fun t => m.getD t 0) (n - 1) := Int.mul_nonneg (by omega) rm.1
    have e : 2 ^ s * (m.getD (n - 1) 0 * 18446744073709551616 ^ (n - 1)) = m.getD (n - 1) 0 * 2 ^ s * 18446744073709551616 ^ (n - 1) := by
      rw [← Int.mul_assoc, Int.mul_comm (2 ^ s)]
    omega
  have hM0 : 0 < sg (fun t => m.getD t 0) n := by
    have := Int.mul_pos hp hpn
    rw [em]; omega
  have hBpos : 0 < sg (fun t => X.getD t 0) n := by rw [hB]; exact Int.mul_pos q1 hM0
  have hval : val m = sg (fun t => m.getD t 0) n := by rw [val_sg]; exact sg_top hz hn.2
  -- the highest word
  have hy : 9223372036854775808 ≤ X.getD (n - 1) 0 := by
    have eX := sg_pred (fun t => X.getD t 0) hn.1
    have rX1 := sg_range b2 (n - 1)
    have c1 : 9223372036854775808 * 18446744073709551616 ^ (n - 1) < (X.getD (n - 1) 0 + 1) * 18446744073709551616 ^ (n - 1) := by
      have := Int.mul_le_mul_of_nonneg_right g1 (Int.le_of_lt hpn)
      rw [Int.add_mul, Int.one_mul]
      omega
    have := Int.lt_of_mul_lt_mul_right c1 (Int.le_of_lt hpn)
    omega
  -- what is divided
  have rU := sg_range hu 9
  have hA : sg (fun t => A.getD t 0) 10 = 2 ^ s * sg (fun t => u.getD t 0) 9 := a5
  have hstart : sg (fun t => A.getD t 0) 10 / 18446744073709551616 ^ (10 - n) < sg (fun t => X.getD t 0) n := by
    apply Int.ediv_lt_of_lt_mul (bp (10 - n))
    rw [hA]
    have c1 := Int.mul_lt_mul_of_pos_left rU.2 q1
    have e9 : (18446744073709551616 : Int) ^ 9 = 18446744073709551616 ^ (n - 1) * 18446744073709551616 ^ (10 - n) := by rw [← Int.pow_add, show n - 1 + (10 - n) = 9 by omega]
    have c2 : 2 ^ s * 18446744073709551616 ^ (n - 1) ≤ sg (fun t => X.getD t 0) n := by
      have c3 : 1 * 2 ^ s ≤ m.getD (n - 1) 0 * 2 ^ s := Int.mul_le_mul_of_nonneg_right (by omega) (by omega)
      rw [Int.one_mul] at c3
      have := Int.mul_le_mul_of_nonneg_right c3 (Int.le_of_lt hpn)
      omega
    have c4 := Int.mul_le_mul_of_nonneg_right c2 (Int.le_of_lt (bp (10 - n)))
    rw [Int.mul_assoc, ← e9] at c4
    omega
  refine ⟨paid_append.2 ⟨dSN_paid hs _, paid_append.2 ⟨?_, dSN_paid hs _⟩⟩, ?_⟩
  · unfold o6
    exact paid_cons (decide_eq_true hn) (paid_cons (decide_eq_true (by omega)) (paid_cons (decide_eq_true a1) (paid_cons (allW_of a2) (paid_cons (allW_of b2) (paid_cons (decide_eq_true hy) (paid_cons (decide_eq_true hstart) Paid.nil))))))
  · have hD : ∀ t, t < 10 → (divL A (bigB X n) 0).getD t 0 = (sg (fun t => u.getD t 0) 9 % val m) * 2 ^ s / 18446744073709551616 ^ t % 18446744073709551616 := fun t ht => by
      rw [divL_get ht, if_neg (by omega), Int.pow_zero, Int.ediv_one, Nat.sub_zero, hA]
      have e : 2 ^ s * sg (fun t => u.getD t 0) 9 % bigB X n = (sg (fun t => u.getD t 0) 9 % val m) * 2 ^ s := by
        unfold bigB
        rw [hB, Int.mul_emod_mul_of_pos _ _ q1, hval, Int.mul_comm]
      rw [e]
    have hr0 : 0 ≤ sg (fun t => u.getD t 0) 9 % val m := Int.emod_nonneg _ (by omega)
    have hr1 : sg (fun t => u.getD t 0) 9 % val m < val m := Int.emod_lt_of_pos _ (by omega)
    have hO := outN_spec hs hr0 hD n hn.2
    have hMn : val m < 18446744073709551616 ^ n := by rw [hval]; exact (sg_range hm n).2
    generalize sg (fun t => u.getD t 0) 9 % val m = r at *
    apply list_ext_int (by rw [hO.1]; rfl)
    intro t ht
    rw [hO.1] at ht
    rw [hO.2 t ht, limbs_get r ht]
    by_cases h : t < n
    · rw [if_pos h]
    · rw [if_neg h, digit_zero hr0 (n := n) (by omega) (by omega)]
theorem rem_word {m : List Int} (hm : ∀ t, W (m.getD t 0)) {t : Nat} (h : ¬ m.getD t 0 = 0) : 0 < m.getD t 0 := by
  have := (hm t).1
  omega
def remZ : List V → E (AV × Mem)
  | [.pl (.ints .u64 9 u), .pl (.ints .u64 4 m)] => some ([decide (0 < val m)], (.ints .u64 4 (limbs (sg (fun t => u.getD t 0) 9 % val m)), []))
  | _ => none
theorem rem2_lok : LOk Try.prog (bodyOf Try.prog 56) remΛ2 := by
  refine ⟨fun {id c st st' o} hc hl ho => ?_⟩
  have hid : id = 6 := by
    unfold remΛ2 at hl
    split at hl
    · rfl
    · cases hl
  subst hid
  exact rem6_ok hc hl ho
theorem ints_W {ρ : Nat → Loc3} {N : Nat → Prop} {n : Nat} {l : List Int} {v : Value} (h : Rep ρ N (.ints .u64 n l) v) (t : Nat) : W (l.getD t 0) := by
  cases h with
  | ints _ _ _ hn hl =>
    by_cases ht : t < l.length
    · rw [List.getD, List.getElem?_eq_getElem ht]
      exact inR_W (hl _ (List.getElem_mem ht))
    · rw [List.getD, List.getElem?_eq_none (by omega)]
      exact ⟨by decide, by decide⟩
theorem rem_ok {xs : List V} {o : List Bool} {v : AV} {bs : Mem} (h : remZ xs = some (o, (v, bs))) (ho : Paid o) : ViewCall Try.prog 56 xs v bs := by
  unfold remZ at h
  split at h
  · rename_i u m
    cases h
    have h1 := ho _ (List.mem_cons_self ..)
    rw [decide_eq_true_eq] at h1
    intro ρ vs w ha hi
    have hb := ha
    cases hb with
    | cons _ _ _ _ r0 hb => cases hb with
      | cons _ _ _ _ r1 hb =>
        have hu := ints_W r0
        have hm := ints_W r1
        have hΛ : ∀ fn c, Try.prog.funcs[56]? = some fn → fn.body = some c → LOk Try.prog c remΛ2 := fun fn c hf hb => by rw [bodyOf_eq hf hb]; exact rem2_lok
        have nz : ∀ t, ¬ m.getD t 0 = 0 → (!(m.getD t 0 == 0)) = true := fun t ht => by simpa using ht
        have ze : ∀ t, m.getD t 0 = 0 → (m.getD t 0 == 0) = true := fun t ht => by simpa using ht
        by_cases z3 : m.getD 3 0 = 0
        · by_cases z2 : m.getD 2 0 = 0
          · by_cases z1 : m.getD 1 0 = 0
            · have z0 : ¬ m.getD 0 0 = 0 := fun z0 => by
                have : val m = 0 := by simp only [val, z0, z1, z2, z3]; rfl
                omega
              have hz1 : ∀ t, 1 ≤ t → t < 4 → m.getD t 0 = 0 := fun t h1 h2 => by
                have h3 : t = 1 ∨ t = 2 ∨ t = 3 := by omega
                rcases h3 with h | h | h <;> rw [h] <;> assumption
              obtain ⟨t1, t2⟩ := rem_value (n := 1) ⟨by decide, by decide⟩ hu hm (rem_word hm z0) hz1
              exact view_of_goL mixed noCount hr3_ok hΛ (remW 1) (RG_1 u m) (paid_append.2 ⟨paid_cons (ze 3 z3) (paid_cons (ze 2 z2) (paid_cons (ze 1 z1) (paid_cons (nz 0 z0) Paid.nil))), paid_cons (decide_eq_true (rem_word hm z0)) t1⟩) (by rw [t2]) (by kernel_rfl) ha hi
            · have hz2 : ∀ t, 2 ≤ t → t < 4 → m.getD t 0 = 0 := fun t h1 h2 => by
                have h3 : t = 2 ∨ t = 3 := by omega
                rcases h3 with h | h <;> rw [h] <;> assumption
              obtain ⟨t1, t2⟩ := rem_value (n := 2) ⟨by decide, by decide⟩ hu hm (rem_word hm z1) hz2
              exact view_of_goL mixed noCount hr3_ok hΛ (remW 2) (RG_2 u m) (paid_append.2 ⟨paid_cons (ze 3 z3) (paid_cons (ze 2 z2) (paid_cons (nz 1 z1) Paid.nil)), paid_cons (decide_eq_true (rem_word hm z1)) t1⟩) (by rw [t2]) (by kernel_rfl) ha hi
          · have hz3 : ∀ t, 3 ≤ t → t < 4 → m.getD t 0 = 0 := fun t h1 h2 => by
              have h3 : t = 3 := by omega
              rw [h3]; assumption
            obtain ⟨t1, t2⟩ := rem_value (n := 3) ⟨by decide, by decide⟩ hu hm (rem_word hm z2) hz3
            exact view_of_goL mixed noCount hr3_ok hΛ (remW 3) (RG_3 u m) (paid_append.2 ⟨paid_cons (ze 3 z3) (paid_cons (nz 2 z2) Paid.nil), paid_cons (decide_eq_true (rem_word hm z2)) t1⟩) (by rw [t2]) (by kernel_rfl) ha hi
        · obtain ⟨t1, t2⟩ := rem_value (n := 4) ⟨by decide, by decide⟩ hu hm (rem_word hm z3) (fun t a b => by omega)
          exact view_of_goL mixed noCount hr3_ok hΛ (remW 4) (RG_4 u m) (paid_append.2 ⟨paid_cons (nz 3 z3) Paid.nil, paid_cons (decide_eq_true (rem_word hm z3)) t1⟩) (by rw [t2]) (by kernel_rfl) ha hi
  · cases h
end Go.Proofs.Ytdpaedcgbhlibaa
