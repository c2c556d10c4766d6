/- The reference's long division, whole. Own work. -/
import Derived.Test.YthelmpjkkkhopaaDoorPEeRemF
set_option linter.unusedSimpArgs false
set_option linter.unusedVariables false
set_option linter.unusedSectionVars false
namespace Go.Wn
open Go.Ev
def shN (l : List Int) (s : Int) (len : Nat) : Nat → List Int
  | 0 => List.replicate len 0
  | i + 1 => ((shN l s len i).set i (IntKind.u64.wrap ((shN l s len i).getD i 0 + ishl .u64 (l.getD i 0) s))).set (i + 1) (ishr .u64 (l.getD i 0) (IntKind.i64.wrap (64 - s)))
def outN (a : List Int) (s : Int) : Nat → List Int
  | 0 => [0, 0, 0, 0]
  | i + 1 => (outN a s i).set i (IntKind.u64.wrap (ishr .u64 (a.getD i 0) s + ishl .u64 (a.getD (i + 1) 0) (IntKind.i64.wrap (64 - s))))
def dSN (s : Int) : Nat → List Bool
  | 0 => []
  | k + 1 => (!decide (s < 0)) :: (!decide (IntKind.i64.wrap (64 - s) < 0)) :: dSN s k
end Go.Wn
namespace Go.Proofs.YthelmpjkkkhopaaDoor
open Go.Ev Go.Wn
set_option maxRecDepth 100000
def remW : Nat → List Bool
  | 4 => [false]
  | 3 => [true, false]
  | 2 => [true, true, false]
  | _ => [true, true, true, false]
def remC (m : List Int) : Nat → List Bool
  | 4 => [!(m.getD 3 0 == 0)]
  | 3 => [m.getD 3 0 == 0, !(m.getD 2 0 == 0)]
  | 2 => [m.getD 3 0 == 0, m.getD 2 0 == 0, !(m.getD 1 0 == 0)]
  | _ => [m.getD 3 0 == 0, m.getD 2 0 == 0, m.getD 1 0 == 0, !(m.getD 0 0 == 0)]
def remS (m : List Int) (n : Nat) : Int := 64 - blen (m.getD (n - 1) 0)
def remO (u m : List Int) (s : Int) (n : Nat) : List Bool := remC m n ++ (decide (0 < m.getD (n - 1) 0) :: (dSN s (n + 9) ++ (o6 n (9 - n) (shN m s 5 n) (shN u s 10 9) ++ dSN s n)))
def remA (u m : List Int) (s : Int) (n : Nat) : List Int := outN (divL (shN u s 10 9) (bigB (shN m s 5 n) n) 0) s n
def RG (n : Nat) : Prop := ∀ (u m : List Int), res ((funcL Tryd.prog qAll hv3 remΛ2 100 87 (cArgs 0 [.pl (.ints .u64 9 u), .pl (.ints .u64 4 m)]) (cMem [.pl (.ints .u64 9 u), .pl (.ints .u64 4 m)])).go (remW n)) =
  some (remO u m (remS m n) n, .ints .u64 4 (remA u m (remS m n) n))
theorem RG_1 : RG 1 := fun u m => by kernel_rfl
theorem RG_2 : RG 2 := fun u m => by kernel_rfl
theorem RG_3 : RG 3 := fun u m => by kernel_rfl
theorem RG_4 : RG 4 := fun u m => by kernel_rfl
end Go.Proofs.YthelmpjkkkhopaaDoor
namespace Go.Wn
open Go.Ev
theorem p64 {s : Nat} (hs : s ≤ 64) : (18446744073709551616 : Int) = 2 ^ s * 2 ^ (64 - s) := by
  rw [← Int.pow_add, show s + (64 - s) = 64 by omega]; rfl
theorem two_pos (s : Nat) : (0 : Int) < 2 ^ s := Int.pow_pos (by omega)
theorem shl_eq {x : Int} {s : Nat} (hs : s ≤ 64) : ishl .u64 x (s : Int) = x * 2 ^ s % 18446744073709551616 := by
  unfold ishl
  rw [Int.toNat_natCast, show min s IntKind.u64.bits = s by simp [IntKind.bits]; omega, wrap_eq]
theorem shr_eq {x : Int} {s : Nat} (hs : s ≤ 64) : ishr .u64 x (s : Int) = x / 2 ^ s := ishr_eq (by simp [IntKind.bits]; omega)
theorem shr_up {x : Int} {s : Nat} (hs : s ≤ 64) : ishr .u64 x ((64 - s : Nat) : Int) = x * 2 ^ s / 18446744073709551616 := by
  rw [shr_eq (by omega)]
  have e := p64 hs
  rw [e, Int.mul_comm x, Int.mul_ediv_mul_of_pos _ _ (two_pos s)]
theorem wrap64 {s : Nat} (hs : s ≤ 64) : IntKind.i64.wrap (64 - (s : Int)) = ((64 - s : Nat) : Int) := by
  have : IntKind.i64.wrap (64 - (s : Int)) = 64 - (s : Int) := Go.Proofs.YthelmpjkkkhopaaDoor.w64_id' (by omega)
  rw [this]; omega
/-- The low part of a shifted word leaves room. -/
theorem room {x : Int} {s : Nat} (hs : s ≤ 64) : 0 ≤ x * 2 ^ s % 18446744073709551616 ∧ x * 2 ^ s % 18446744073709551616 + 2 ^ s ≤ 18446744073709551616 := by
  have e := p64 hs
  have h1 := two_pos s
  have h2 := two_pos (64 - s)
  have e2 : x * 2 ^ s % 18446744073709551616 = 2 ^ s * (x % 2 ^ (64 - s)) := by
    rw [e, Int.mul_comm x, Int.mul_emod_mul_of_pos _ _ h1]
  have h3 := Int.emod_nonneg x (Int.ne_of_gt h2)
  have h4 := Int.emod_lt_of_pos x h2
  have h5 : 2 ^ s * (x % 2 ^ (64 - s)) ≤ 2 ^ s * (2 ^ (64 - s) - 1) := Int.mul_le_mul_of_nonneg_left (by omega) (by omega)
  rw [Int.mul_sub, Int.mul_one, ← e] at h5
  rw [e2]
  exact ⟨Int.mul_nonneg (by omega) h3, by omega⟩
theorem high_lt {x : Int} {s : Nat} (_hs : s ≤ 64) (hx : W x) : 0 ≤ x * 2 ^ s / 18446744073709551616 ∧ x * 2 ^ s / 18446744073709551616 < 2 ^ s := by
  have h1 := two_pos s
  refine ⟨Int.ediv_nonneg (Int.mul_nonneg hx.1 (by omega)) (by omega), ?_⟩
  apply Int.ediv_lt_of_lt_mul (by omega)
  rw [Int.mul_comm]
  exact Int.mul_lt_mul_of_pos_left hx.2 h1
theorem shN_spec {l : List Int} {s len : Nat} (hs : s ≤ 63) (hw : ∀ t, W (l.getD t 0)) : ∀ i : Nat, i < len → (shN l s len i).length = len ∧ (∀ t, W ((shN l s len i).getD t 0)) ∧ (∀ t, i < t → (shN l s len i).getD t 0 = 0) ∧
    (shN l s len i).getD i 0 < 2 ^ s ∧ sg (fun t => (shN l s len i).getD t 0) (i + 1) = 2 ^ s * sg (fun t => l.getD t 0) i
  | 0, hi => by
    have z : ∀ t, (List.replicate len (0 : Int)).getD t 0 = 0 := fun t => by
      simp only [List.getD, List.getElem?_replicate]; split <;> rfl
    have h1 := two_pos s
    refine ⟨by simp [shN], fun t => ?_, fun t _ => z t, ?_, ?_⟩
    · show W ((List.replicate len (0 : Int)).getD t 0)
      rw [z]; exact ⟨by decide, by decide⟩
    · show (List.replicate len (0 : Int)).getD 0 0 < _
      rw [z]; exact h1
    · simp only [sg, shN, z]; simp
  | i + 1, hi => by
    obtain ⟨e1, e2, e3, e4, e5⟩ := shN_spec (len := len) hs hw i (by omega)
    unfold shN
    rw [wrap64 (by omega), shr_up (by omega), shl_eq (by omega)]
    generalize shN l s len i = X at *
    have hx := hw i
    obtain ⟨r1, r2⟩ := room (x := l.getD i 0) (s := s) (by omega)
    obtain ⟨h1, h2⟩ := high_lt (s := s) (by omega) hx
    have hd := Int.emod_add_mul_ediv (l.getD i 0 * 2 ^ s) 18446744073709551616
    have x0 := (e2 i).1
    have hp : (2 : Int) ^ s ≤ 18446744073709551616 := by
      have := room (x := 0) (s := s) (by omega)
      omega
    have hlo : IntKind.u64.wrap (X.getD i 0 + l.getD i 0 * 2 ^ s % 18446744073709551616) = X.getD i 0 + l.getD i 0 * 2 ^ s % 18446744073709551616 := uw64 (by omega)
    rw [hlo]
    generalize hA : l.getD i 0 * 2 ^ s % 18446744073709551616 = A at *
    generalize hC : l.getD i 0 * 2 ^ s / 18446744073709551616 = C at *
    have k1 : i < X.length := by omega
    have k2 : i + 1 < (X.set i (X.getD i 0 + A)).length := by simp; omega
    have g : ∀ t, ((X.set i (X.getD i 0 + A)).set (i + 1) C).getD t 0 = if i + 1 = t then C else if i = t then X.getD i 0 + A else X.getD t 0 := fun t => by
      rw [getD_set_int k2, getD_set_int k1]
    refine ⟨by simp [e1], W_set (W_set e2 ⟨by omega, by omega⟩) ⟨h1, by omega⟩, fun t ht => ?_, ?_, ?_⟩
    · rw [g, if_neg (by omega), if_neg (by omega)]
      exact e3 t (by omega)
    · rw [g, if_pos rfl]; exact h2
    · have c1 : sg (fun t => ((X.set i (X.getD i 0 + A)).set (i + 1) C).getD t 0) i = sg (fun t => X.getD t 0) i :=
        sg_congr fun t ht => by rw [g, if_neg (by omega), if_neg (by omega)]
      rw [sg] at e5
      simp only [sg]
      rw [c1, g, if_neg (by omega), if_pos rfl, g, if_pos rfl, Int.pow_succ]
      generalize (18446744073709551616 : Int) ^ i = p at *
      generalize sg (fun t => X.getD t 0) i = S at *
      generalize sg (fun t => l.getD t 0) i = L at *
      generalize X.getD i 0 = x at *
      generalize l.getD i 0 = y at *
      generalize (2 : Int) ^ s = q at *
      grind
theorem outN_spec {a : List Int} {s : Nat} {r : Int} (hs : s ≤ 63) (hr : 0 ≤ r) (ha : ∀ t, t < 10 → a.getD t 0 = r * 2 ^ s / 18446744073709551616 ^ t % 18446744073709551616) : ∀ n : Nat, n ≤ 4 → (outN a s n).length = 4 ∧ ∀ t, t < 4 → (outN a s n).getD t 0 = if t < n then r / 18446744073709551616 ^ t % 18446744073709551616 else 0
  | 0, _ => by
    refine ⟨rfl, fun t ht => ?_⟩
    have : t = 0 ∨ t = 1 ∨ t = 2 ∨ t = 3 := by omega
    rcases this with rfl | rfl | rfl | rfl <;> rfl
  | i + 1, hi => by
    obtain ⟨e1, e2⟩ := outN_spec hs hr ha i (by omega)
    unfold outN
    rw [wrap64 (by omega), shr_eq (by omega), shl_eq (by omega)]
    have hp := bp i
    have q1 := two_pos s
    have q2 := two_pos (64 - s)
    -- the two words, and what comes of them
    have key : IntKind.u64.wrap (a.getD i 0 / 2 ^ s + a.getD (i + 1) 0 * 2 ^ (64 - s) % 18446744073709551616) = r / 18446744073709551616 ^ i % 18446744073709551616 := by
      have hY0 : 0 ≤ r * 2 ^ s / 18446744073709551616 ^ i := Int.ediv_nonneg (Int.mul_nonneg hr (by omega)) (Int.le_of_lt hp)
      have d0 := ha i (by omega)
      have d1 := ha (i + 1) (by omega)
      have e3 : r * 2 ^ s / 18446744073709551616 ^ (i + 1) = r * 2 ^ s / 18446744073709551616 ^ i / 18446744073709551616 := by
        rw [Int.ediv_ediv_of_nonneg (Int.le_of_lt hp), ← Int.pow_succ]
      have e4 : r / 18446744073709551616 ^ i = r * 2 ^ s / 18446744073709551616 ^ i / 2 ^ s := by
        rw [Int.ediv_ediv_of_nonneg (Int.le_of_lt hp), Int.mul_comm (18446744073709551616 ^ i), Int.mul_comm r, Int.mul_ediv_mul_of_pos _ _ q1]
      rw [e3] at d1
      rw [e4, d0, d1]
      generalize r * 2 ^ s / 18446744073709551616 ^ i = Y at *
      have f1 := Int.emod_add_mul_ediv Y 18446744073709551616
      have f2 := Int.emod_add_mul_ediv (Y / 18446744073709551616) 18446744073709551616
      have y0 := Int.emod_nonneg Y (show (18446744073709551616 : Int) ≠ 0 by decide)
      have y1 := Int.emod_lt_of_pos Y (show (0 : Int) < 18446744073709551616 by decide)
      generalize Y / 18446744073709551616 / 18446744073709551616 = Z at *
      generalize Y / 18446744073709551616 % 18446744073709551616 = D at *
      generalize Y / 18446744073709551616 = Q at *
      generalize Y % 18446744073709551616 = E at *
      have ep := p64 (s := s) (by omega)
      have eY : Y = E + 2 ^ s * (2 ^ (64 - s) * (D + 18446744073709551616 * Z)) := by
        rw [← Int.mul_assoc, ← ep]; omega
      rw [eY, Int.add_mul_ediv_left _ _ (Int.ne_of_gt q1), wrap_eq]
      have e5 : 2 ^ (64 - s) * (D + 18446744073709551616 * Z) = D * 2 ^ (64 - s) + 18446744073709551616 * (2 ^ (64 - s) * Z) := by grind
      rw [e5]
      generalize D * 2 ^ (64 - s) = T
      generalize 2 ^ (64 - s) * Z = V
      generalize E / 2 ^ s = F
      omega
    rw [key]
    have k : i < (outN a s i).length := by omega
    refine ⟨by simp [e1], fun t ht => ?_⟩
    rw [getD_set_int k]
    by_cases h : i = t
    · subst h
      rw [if_pos rfl, if_pos (by omega)]
    · rw [if_neg h, e2 t ht]
      by_cases h2 : t < i
      · rw [if_pos h2, if_pos (by omega)]
      · rw [if_neg h2, if_neg (by omega)]
end Go.Wn
namespace Go.Wn
open Go.Ev
theorem val_sg (l : List Int) : val l = sg (fun t => l.getD t 0) 4 := by
  simp only [val, sg, Int.pow_zero, Int.reducePow]
  omega
theorem sg_top {f : Nat → Int} {n : Nat} (h : ∀ t, n ≤ t → t < 4 → f t = 0) (hn : n ≤ 4) : sg f 4 = sg f n := by
  have : ∀ k, n ≤ k → k ≤ 4 → sg f k = sg f n := by
    intro k
    induction k with
    | zero => intro h1 _; have : n = 0 := by omega
              subst this; rfl
    | succ k ih =>
      intro h1 h2
      rcases Nat.lt_or_ge n (k + 1) with h3 | h3
      · rw [sg, h k (by omega) (by omega), Int.zero_mul, Int.add_zero]
        exact ih (by omega) (by omega)
      · have : n = k + 1 := by omega
        subst this; rfl
  exact this 4 hn (Nat.le_refl _)
theorem sg_pred (f : Nat → Int) {n : Nat} (hn : 1 ≤ n) : sg f n = sg f (n - 1) + f (n - 1) * 18446744073709551616 ^ (n - 1) := by
  obtain ⟨k, rfl⟩ : ∃ k, n = k + 1 := ⟨n - 1, by omega⟩
  rfl
theorem limbs_get (r : Int) {t : Nat} (ht : t < 4) : (limbs r).getD t 0 = r / 18446744073709551616 ^ t % 18446744073709551616 := by
  have : t = 0 ∨ t = 1 ∨ t = 2 ∨ t = 3 := by omega
  rcases this with rfl | rfl | rfl | rfl <;> simp [limbs]
theorem dSN_paid {s : Nat} (hs : s ≤ 63) : ∀ k, Paid (dSN (s : Int) k)
  | 0 => Paid.nil
  | k + 1 => by
    have h1 : (!decide ((s : Int) < 0)) = true := by rw [decide_eq_false (by omega)]; rfl
    have h2 : (!decide (IntKind.i64.wrap (64 - (s : Int)) < 0)) = true := by rw [wrap64 (by omega), decide_eq_false (by omega)]; rfl
    exact paid_cons h1 (paid_cons h2 (dSN_paid hs k))
end Go.Wn
namespace Go.Proofs.YthelmpjkkkhopaaDoor
open Go.Ev Go.Wn
set_option maxRecDepth 100000
theorem rem_value {n : Nat} {u m : List Int} (hn : 1 ≤ n ∧ n ≤ 4) (hu : ∀ t, W (u.getD t 0)) (hm : ∀ t, W (m.getD t 0)) (hp : 0 < m.getD (n - 1) 0) (hz : ∀ t, n ≤ t → t < 4 → m.getD t 0 = 0) :
    Paid (dSN (remS m n) (n + 9) ++ (o6 n (9 - n) (shN m (remS m n) 5 n) (shN u (remS m n) 10 9) ++ dSN (remS m n) n)) ∧ remA u m (remS m n) n = limbs (sg (fun t => u.getD t 0) 9 % val m) := by
  obtain ⟨k, ek, h1, h2⟩ := blen_spec hp
  have hk : k ≤ 63 := by
    have := blen_word (hm (n - 1)) hp
    omega
  have es : remS m n = ((63 - k : Nat) : Int) := by unfold remS; rw [ek]; omega
  rw [es]
  have hs : 63 - k ≤ 63 := by omega
  generalize hsN : 63 - k = s at *
  have q1 := two_pos s
  -- m, shifted
  have g1 : 9223372036854775808 ≤ m.getD (n - 1) 0 * 2 ^ s := by
    have e : (9223372036854775808 : Int) = 2 ^ k * 2 ^ s := by rw [← Int.pow_add, show k + s = 63 by omega]; rfl
    rw [e]
    exact Int.mul_le_mul_of_nonneg_right h1 (by omega)
  have g2 : (m.getD (n - 1) 0 + 1) * 2 ^ s ≤ 18446744073709551616 := by
    have e : (18446744073709551616 : Int) = 2 ^ (k + 1) * 2 ^ s := by rw [← Int.pow_add, show k + 1 + s = 64 by omega]; rfl
    rw [e]
    exact Int.mul_le_mul_of_nonneg_right (by omega) (by omega)
  have hX := shN_spec (len := 5) hs hm n (by omega)
  have hA9 := shN_spec (len := 10) hs hu 9 (by omega)
  have b2 := hX.2.1; have b5 := hX.2.2.2.2
  have a1 := hA9.1; have a2 := hA9.2.1; have a5 := hA9.2.2.2.2
  clear hX hA9
  have hpn := bp (n - 1)
  have epn : (18446744073709551616 : Int) ^ n = 18446744073709551616 ^ (n - 1) * 18446744073709551616 := by
    rw [← Int.pow_succ, show (n - 1).succ = n by omega]
  have em := sg_pred (fun t => m.getD t 0) hn.1
  have rm := sg_range hm (n - 1)
  unfold remA
  generalize shN m s 5 n = X at *
  generalize shN u s 10 9 = A at *
  -- its number
  have rX := sg_range b2 n
  have hXn := (b2 n).1
  have hMlt : sg (fun t => m.getD t 0) n * 2 ^ s < 18446744073709551616 ^ n := by
    have c1 : sg (fun t => m.getD t 0) n < (m.getD (n - 1) 0 + 1) * 18446744073709551616 ^ (n - 1) := by rw [em, Int.add_mul, Int.one_mul]; omega
    have c2 := Int.mul_lt_mul_of_pos_right c1 q1
    have c3 : (m.getD (n - 1) 0 + 1) * 18446744073709551616 ^ (n - 1) * 2 ^ s = (m.getD (n - 1) 0 + 1) * 2 ^ s * 18446744073709551616 ^ (n - 1) := by
      rw [Int.mul_assoc, Int.mul_comm (18446744073709551616 ^ (n - 1)), ← Int.mul_assoc]
    have c4 := Int.mul_le_mul_of_nonneg_right g2 (Int.le_of_lt hpn)
    rw [epn, Int.mul_comm (18446744073709551616 ^ (n - 1))]
    omega
  have hB : sg (fun t => X.getD t 0) n = 2 ^ s * sg (fun t => m.getD t 0) n := by
    rw [sg] at b5
    have hzero : X.getD n 0 = 0 := by
      rcases Int.lt_or_eq_of_le hXn with h | h
      · have : 1 * 18446744073709551616 ^ n ≤ X.getD n 0 * 18446744073709551616 ^ n := Int.mul_le_mul_of_nonneg_right (by omega) (Int.le_of_lt (bp n))
        rw [Int.mul_comm (2 ^ s)] at b5
        omega
      · exact h.symm
    rw [hzero, Int.zero_mul, Int.add_zero] at b5
    exact b5
  have hBge : m.getD (n - 1) 0 * 2 ^ s * 18446744073709551616 ^ (n - 1) ≤ sg (fun t => X.getD t 0) n := by
    rw [hB, em, Int.mul_add]
    have : 0 ≤ 2 ^ s * sg (fun t => m.getD t 0) (n - 1) := Int.mul_nonneg (by omega) rm.1
    have e : 2 ^ s * (m.getD (n - 1) 0 * 18446744073709551616 ^ (n - 1)) = m.getD (n - 1) 0 * 2 ^ s * 18446744073709551616 ^ (n - 1) := by
      rw [← Int.mul_assoc, Int.mul_comm (2 ^ s)]
    omega
  have hM0 : 0 < sg (fun t => m.getD t 0) n := by
    have := Int.mul_pos hp hpn
    rw [em]; omega
  have hBpos : 0 < sg (fun t => X.getD t 0) n := by rw [hB]; exact Int.mul_pos q1 hM0
  have hval : val m = sg (fun t => m.getD t 0) n := by rw [val_sg]; exact sg_top hz hn.2
  -- the highest word
  have hy : 9223372036854775808 ≤ X.getD (n - 1) 0 := by
    have eX := sg_pred (fun t => X.getD t 0) hn.1
    have rX1 := sg_range b2 (n - 1)
    have c1 : 9223372036854775808 * 18446744073709551616 ^ (n - 1) < (X.getD (n - 1) 0 + 1) * 18446744073709551616 ^ (n - 1) := by
      have := Int.mul_le_mul_of_nonneg_right g1 (Int.le_of_lt hpn)
      rw [Int.add_mul, Int.one_mul]
      omega
    have := Int.lt_of_mul_lt_mul_right c1 (Int.le_of_lt hpn)
    omega
  -- what is divided
  have rU := sg_range hu 9
  have hA : sg (fun t => A.getD t 0) 10 = 2 ^ s * sg (fun t => u.getD t 0) 9 := a5
  have hstart : sg (fun t => A.getD t 0) 10 / 18446744073709551616 ^ (10 - n) < sg (fun t => X.getD t 0) n := by
    apply Int.ediv_lt_of_lt_mul (bp (10 - n))
    rw [hA]
    have c1 := Int.mul_lt_mul_of_pos_left rU.2 q1
    have e9 : (18446744073709551616 : Int) ^ 9 = 18446744073709551616 ^ (n - 1) * 18446744073709551616 ^ (10 - n) := by rw [← Int.pow_add, show n - 1 + (10 - n) = 9 by omega]
    have c2 : 2 ^ s * 18446744073709551616 ^ (n - 1) ≤ sg (fun t => X.getD t 0) n := by
      have c3 : 1 * 2 ^ s ≤ m.getD (n - 1) 0 * 2 ^ s := Int.mul_le_mul_of_nonneg_right (by omega) (by omega)
      rw [Int.one_mul] at c3
      have := Int.mul_le_mul_of_nonneg_right c3 (Int.le_of_lt hpn)
      omega
    have c4 := Int.mul_le_mul_of_nonneg_right c2 (Int.le_of_lt (bp (10 - n)))
    rw [Int.mul_assoc, ← e9] at c4
    omega
  refine ⟨paid_append.2 ⟨dSN_paid hs _, paid_append.2 ⟨?_, dSN_paid hs _⟩⟩, ?_⟩
  · unfold o6
    exact paid_cons (decide_eq_true hn) (paid_cons (decide_eq_true (by omega)) (paid_cons (decide_eq_true a1) (paid_cons (allW_of a2) (paid_cons (allW_of b2) (paid_cons (decide_eq_true hy) (paid_cons (decide_eq_true hstart) Paid.nil))))))
  · have hD : ∀ t, t < 10 → (divL A (bigB X n) 0).getD t 0 = (sg (fun t => u.getD t 0) 9 % val m) * 2 ^ s / 18446744073709551616 ^ t % 18446744073709551616 := fun t ht => by
      rw [divL_get ht, if_neg (by omega), Int.pow_zero, Int.ediv_one, Nat.sub_zero, hA]
      have e : 2 ^ s * sg (fun t => u.getD t 0) 9 % bigB X n = (sg (fun t => u.getD t 0) 9 % val m) * 2 ^ s := by
        unfold bigB
        rw [hB, Int.mul_emod_mul_of_pos _ _ q1, hval, Int.mul_comm]
      rw [e]
    have hr0 : 0 ≤ sg (fun t => u.getD t 0) 9 % val m := Int.emod_nonneg _ (by omega)
    have hv1 : sg (fun t => u.getD t 0) 9 % val m < val m := Int.emod_lt_of_pos _ (by omega)
    have hO := outN_spec hs hr0 hD n hn.2
    have hMn : val m < 18446744073709551616 ^ n := by rw [hval]; exact (sg_range hm n).2
    generalize sg (fun t => u.getD t 0) 9 % val m = r at *
    apply list_ext_int (by rw [hO.1]; rfl)
    intro t ht
    rw [hO.1] at ht
    rw [hO.2 t ht, limbs_get r ht]
    by_cases h : t < n
    · rw [if_pos h]
    · rw [if_neg h, digit_zero hr0 (n := n) (by omega) (by omega)]
theorem rem_word {m : List Int} (hm : ∀ t, W (m.getD t 0)) {t : Nat} (h : ¬ m.getD t 0 = 0) : 0 < m.getD t 0 := by
  have := (hm t).1
  omega
def remZ : List V → E (AV × Mem)
  | [.pl (.ints .u64 9 u), .pl (.ints .u64 4 m)] => some ([decide (0 < val m)], (.ints .u64 4 (limbs (sg (fun t => u.getD t 0) 9 % val m)), []))
  | _ => none
theorem rem2_lok : LOk Tryd.prog (bodyOf Tryd.prog 87) remΛ2 := by
  refine ⟨fun {id c st st' o} hc hl ho => ?_⟩
  have hid : id = 6 := by
    unfold remΛ2 at hl
    split at hl
    · rfl
    · cases hl
  subst hid
  exact rem6_ok hc hl ho
theorem ints_W {ρ : Nat → Loc3} {N : Nat → Prop} {n : Nat} {l : List Int} {v : Value} (h : Rep ρ N (.ints .u64 n l) v) (t : Nat) : W (l.getD t 0) := by
  cases h with
  | ints _ _ _ hn hl =>
    by_cases ht : t < l.length
    · rw [List.getD, List.getElem?_eq_getElem ht]
      exact inR_W (hl _ (List.getElem_mem ht))
    · rw [List.getD, List.getElem?_eq_none (by omega)]
      exact ⟨by decide, by decide⟩
theorem rem_ok {xs : List V} {o : List Bool} {v : AV} {bs : Mem} (h : remZ xs = some (o, (v, bs))) (ho : Paid o) : ViewCall Tryd.prog 87 xs v bs := by
  unfold remZ at h
  split at h
  · rename_i u m
    cases h
    have h1 := ho _ (List.mem_cons_self ..)
    rw [decide_eq_true_eq] at h1
    intro ρ vs w ha hi
    have hb := ha
    cases hb with
    | cons _ _ _ _ r0 hb => cases hb with
      | cons _ _ _ _ r1 hb =>
        have hu := ints_W r0
        have hm := ints_W r1
        have hΛ : ∀ fn c, Tryd.prog.funcs[87]? = some fn → fn.body = some c → LOk Tryd.prog c remΛ2 := fun fn c hf hb => by rw [bodyOf_eq hf hb]; exact rem2_lok
        have nz : ∀ t, ¬ m.getD t 0 = 0 → (!(m.getD t 0 == 0)) = true := fun t ht => by simpa using ht
        have ze : ∀ t, m.getD t 0 = 0 → (m.getD t 0 == 0) = true := fun t ht => by simpa using ht
        by_cases z3 : m.getD 3 0 = 0
        · by_cases z2 : m.getD 2 0 = 0
          · by_cases z1 : m.getD 1 0 = 0
            · have z0 : ¬ m.getD 0 0 = 0 := fun z0 => by
                have : val m = 0 := by simp only [val, z0, z1, z2, z3]; rfl
                omega
              have hz1 : ∀ t, 1 ≤ t → t < 4 → m.getD t 0 = 0 := fun t h1 h2 => by
                have h3 : t = 1 ∨ t = 2 ∨ t = 3 := by omega
                rcases h3 with h | h | h <;> rw [h] <;> assumption
              obtain ⟨t1, t2⟩ := rem_value (n := 1) ⟨by decide, by decide⟩ hu hm (rem_word hm z0) hz1
              exact view_of_goL mixed noCount hv3_ok hΛ (remW 1) (RG_1 u m) (paid_append.2 ⟨paid_cons (ze 3 z3) (paid_cons (ze 2 z2) (paid_cons (ze 1 z1) (paid_cons (nz 0 z0) Paid.nil))), paid_cons (decide_eq_true (rem_word hm z0)) t1⟩) (by rw [t2]) (by kernel_rfl) ha hi
            · have hz2 : ∀ t, 2 ≤ t → t < 4 → m.getD t 0 = 0 := fun t h1 h2 => by
                have h3 : t = 2 ∨ t = 3 := by omega
                rcases h3 with h | h <;> rw [h] <;> assumption
              obtain ⟨t1, t2⟩ := rem_value (n := 2) ⟨by decide, by decide⟩ hu hm (rem_word hm z1) hz2
              exact view_of_goL mixed noCount hv3_ok hΛ (remW 2) (RG_2 u m) (paid_append.2 ⟨paid_cons (ze 3 z3) (paid_cons (ze 2 z2) (paid_cons (nz 1 z1) Paid.nil)), paid_cons (decide_eq_true (rem_word hm z1)) t1⟩) (by rw [t2]) (by kernel_rfl) ha hi
          · have hz3 : ∀ t, 3 ≤ t → t < 4 → m.getD t 0 = 0 := fun t h1 h2 => by
              have h3 : t = 3 := by omega
              rw [h3]; assumption
            obtain ⟨t1, t2⟩ := rem_value (n := 3) ⟨by decide, by decide⟩ hu hm (rem_word hm z2) hz3
            exact view_of_goL mixed noCount hv3_ok hΛ (remW 3) (RG_3 u m) (paid_append.2 ⟨paid_cons (ze 3 z3) (paid_cons (nz 2 z2) Paid.nil), paid_cons (decide_eq_true (rem_word hm z2)) t1⟩) (by rw [t2]) (by kernel_rfl) ha hi
        · obtain ⟨t1, t2⟩ := rem_value (n := 4) ⟨by decide, by decide⟩ hu hm (rem_word hm z3) (fun t a b => by omega)
          exact view_of_goL mixed noCount hv3_ok hΛ (remW 4) (RG_4 u m) (paid_append.2 ⟨paid_cons (nz 3 z3) Paid.nil, paid_cons (decide_eq_true (rem_word hm z3)) t1⟩) (by rw [t2]) (by kernel_rfl) ha hi
  · cases h
end Go.Proofs.YthelmpjkkkhopaaDoor
