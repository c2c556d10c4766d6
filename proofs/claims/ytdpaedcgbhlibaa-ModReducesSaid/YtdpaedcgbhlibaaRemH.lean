/- The reference's long division, whole. Own work. -/
import Derived.Test.YtdpaedcgbhlibaaRemF
namespace Go.Wn
open Go.Ev
def shN (l : List Int) (s : Int) (len : Nat) : Nat → List Int
  | 0 => List.replicate len 0
  | i + 1 => ((shN l s len i).set i (IntKind.u64.wrap ((shN l s len i).getD i 0 + ishl .u64 (l.getD i 0) s))).set (i + 1) (ishr .u64 (l.getD i 0) (IntKind.i64.wrap (64 - s)))
def outN (a : List Int) (s : Int) : Nat → List Int
  | 0 => [0, 0, 0, 0]
  | i + 1 => (outN a s i).set i (IntKind.u64.wrap (ishr .u64 (a.getD i 0) s + ishl .u64 (a.getD (i + 1) 0) (IntKind.i64.wrap (64 - s))))
def dSN (s : Int) : Nat → List Bool
  | 0 => []
  | k + 1 => (!decide (s < 0)) :: (!decide (IntKind.i64.wrap (64 - s) < 0)) :: dSN s k
end Go.Wn
namespace Go.Proofs.Ytdpaedcgbhlibaa
open Go.Ev Go.Wn
set_option maxRecDepth 100000
def remW : Nat → List Bool
  | 4 => [false]
  | 3 => [true, false]
  | 2 => [true, true, false]
  | _ => [true, true, true, false]
def remC (m : List Int) : Nat → List Bool
  | 4 => [!(m.getD 3 0 == 0)]
  | 3 => [m.getD 3 0 == 0, !(m.getD 2 0 == 0)]
  | 2 => [m.getD 3 0 == 0, m.getD 2 0 == 0, !(m.getD 1 0 == 0)]
  | _ => [m.getD 3 0 == 0, m.getD 2 0 == 0, m.getD 1 0 == 0, !(m.getD 0 0 == 0)]
def remS (m : List Int) (n : Nat) : Int := 64 - blen (m.getD (n - 1) 0)
def remO (u m : List Int) (s : Int) (n : Nat) : List Bool := remC m n ++ (decide (0 < m.getD (n - 1) 0) :: (dSN s (n + 9) ++ (o6 n (9 - n) (shN m s 5 n) (shN u s 10 9) ++ dSN s n)))
def remA (u m : List Int) (s : Int) (n : Nat) : List Int := outN (divL (shN u s 10 9) (bigB (shN m s 5 n) n) 0) s n
def RG (n : Nat) : Prop := ∀ (u m : List Int), res ((funcL Try.prog qAll hr3 remΛ2 100 56 (cArgs 0 [.pl (.ints .u64 9 u), .pl (.ints .u64 4 m)]) (cMem [.pl (.ints .u64 9 u), .pl (.ints .u64 4 m)])).go (remW n)) =
  some (remO u m (remS m n) n, .ints .u64 4 (remA u m (remS m n) n))
theorem RG_1 : RG 1 := fun u m => by kernel_rfl
theorem RG_2 : RG 2 := fun u m => by kernel_rfl
theorem RG_3 : RG 3 := fun u m => by kernel_rfl
theorem RG_4 : RG 4 := fun u m => by kernel_rfl
end Go.Proofs.Ytdpaedcgbhlibaa
namespace Go.Wn
open Go.Ev
theorem p64 {s : Nat} (hs : s ≤ 64) : (18446744073709551616 : Int) = 2 ^ s * 2 ^ (64 - s) := by
  rw [← Int.pow_add, show s + (64 - s) = 64 by omega]; rfl
theorem two_pos (s : Nat) : (0 : Int) < 2 ^ s := Int.pow_pos (by omega)
theorem shl_eq {x : Int} {s : Nat} (hs : s ≤ 64) : ishl .u64 x (s : Int) = x * 2 ^ s % 18446744073709551616 := by
  unfold ishl
  rw [Int.toNat_natCast, show min s IntKind.u64.bits = s by simp [IntKind.bits]; omega, wrap_eq]
theorem shr_eq {x : Int} {s : Nat} (hs : s ≤ 64) : ishr .u64 x (s : Int) = x / 2 ^ s := ishr_eq (by simp [IntKind.bits]; omega)
theorem shr_up {x : Int} {s : Nat} (hs : s ≤ 64) : ishr .u64 x ((64 - s : Nat) : Int) = x * 2 ^ s / 18446744073709551616 := by
  rw [shr_eq (by omega)]
  have e := p64 hs
  rw [e, Int.mul_comm x, Int.mul_ediv_mul_of_pos _ _ (two_pos s)]
theorem wrap64 {s : Nat} (hs : s ≤ 64) : IntKind.i64.wrap (64 - (s : Int)) = ((64 - s : Nat) : Int) := by
  have : IntKind.i64.wrap (64 - (s : Int)) = 64 - (s : Int) := Go.Proofs.Ytdpaedcgbhlibaa.w64_id' (by omega)
  rw [this]; omega
/-- The low part of a shifted word leaves room. -/
theorem room {x : Int} {s : Nat} (hs : s ≤ 64) : 0 ≤ x * 2 ^ s % 18446744073709551616 ∧ x * 2 ^ s % 18446744073709551616 + 2 ^ s ≤ 18446744073709551616 := by
  have e := p64 hs
  have h1 := two_pos s
  have h2 := two_pos (64 - s)
  have e2 : x * 2 ^ s % 18446744073709551616 = 2 ^ s * (x % 2 ^ (64 - s)) := by
    rw [e, Int.mul_comm x, Int.mul_emod_mul_of_pos _ _ h1]
  have h3 := Int.emod_nonneg x (Int.ne_of_gt h2)
  have h4 := Int.emod_lt_of_pos x h2
  have h5 : 2 ^ s * (x % 2 ^ (64 - s)) ≤ 2 ^ s * (2 ^ (64 - s) - 1) := Int.mul_le_mul_of_nonneg_left (by omega) (by omega)
  rw [Int.mul_sub, Int.mul_one, ← e] at h5
  rw [e2]
  exact ⟨Int.mul_nonneg (by omega) h3, by omega⟩
theorem high_lt {x : Int} {s : Nat} (_hs : s ≤ 64) (hx : W x) : 0 ≤ x * 2 ^ s / 18446744073709551616 ∧ x * 2 ^ s / 18446744073709551616 < 2 ^ s := by
  have h1 := two_pos s
  refine ⟨Int.ediv_nonneg (Int.mul_nonneg hx.1 (by omega)) (by omega), ?_⟩
  apply Int.ediv_lt_of_lt_mul (by omega)
  rw [Int.mul_comm]
  exact Int.mul_lt_mul_of_pos_left hx.2 h1
theorem shN_spec {l : List Int} {s len : Nat} (hs : s ≤ 63) (hw : ∀ t, W (l.getD t 0)) : ∀ i : Nat, i < len → (shN l s len i).length = len ∧ (∀ t, W ((shN l s len i).getD t 0)) ∧ (∀ t, i < t → (shN l s len i).getD t 0 = 0) ∧
    (shN l s len i).getD i 0 < 2 ^ s ∧ sg (fun t => (shN l s len i).getD t 0) (i + 1) = 2 ^ s * sg (fun t => l.getD t 0) i
  | 0, hi => by
    have z : ∀ t, (List.replicate len (0 : Int)).getD t 0 = 0 := fun t => by
      simp only [List.getD, List.getElem?_replicate]; split <;> rfl
    have h1 := two_pos s
    refine ⟨by simp [shN], fun t => ?_, fun t _ => z t, ?_, ?_⟩
    · show W ((List.replicate len (0 : Int)).getD t 0)
      rw [z]; exact ⟨by decide, by decide⟩
    · show (List.replicate len (0 : Int)).getD 0 0 < _
      rw [z]; exact h1
    · simp only [sg, shN, z]; simp
  | i + 1, hi => by
    obtain ⟨e1, e2, e3, e4, e5⟩ := shN_spec (len := len) hs hw i (by omega)
    unfold shN
    rw [wrap64 (by omega), shr_up (by omega), shl_eq (by omega)]
    generalize shN l s len i = X at *
    have hx := hw i
    obtain ⟨r1, r2⟩ := room (x := l.getD i 0) (s := s) (by omega)
    obtain ⟨h1, h2⟩ := high_lt (s := s) (by omega) hx
    have hd := Int.emod_add_mul_ediv (l.getD i 0 * 2 ^ s) 18446744073709551616
    have x0 := (e2 i).1
    have hp : (2 : Int) ^ s ≤ 18446744073709551616 := by
      have := room (x := 0) (s := s) (by omega)
      omega
    have hlo : IntKind.u64.wrap (X.getD i 0 + l.getD i 0 * 2 ^ s % 18446744073709551616) = X.getD i 0 + l.getD i 0 * 2 ^ s % 18446744073709551616 := uw64 (by omega)
    rw [hlo]
    generalize hA : l.getD i 0 * 2 ^ s % 18446744073709551616 = A at *
    generalize hC : l.getD i 0 * 2 ^ s / 18446744073709551616 = C at *
    have k1 : i < X.length := by omega
    have k2 : i + 1 < (X.set i (X.getD i 0 + A)).length := by simp; omega
    have g : ∀ t, ((X.set i (X.getD i 0 + A)).set (i + 1) C).getD t 0 = if i + 1 = t then C else if i = t then X.getD i 0 + A else X.getD t 0 := fun t => by
      rw [getD_set_int k2, getD_set_int k1]
    refine ⟨by simp [e1], W_set (W_set e2 ⟨by omega, by omega⟩) ⟨h1, by omega⟩, fun t ht => ?_, ?_, ?_⟩
    · rw [g, if_neg (by omega), if_neg (by omega)]
      exact e3 t (by omega)
    · rw [g, if_pos rfl]; exact h2
    · have c1 : sg (fun t => ((X.set i (X.getD i 0 + A)).set (i + 1) C).getD t 0) i = sg (fun t => X.getD t 0) i :=
        sg_congr fun t ht => by rw [g, if_neg (by omega), if_neg (by omega)]
      rw [sg] at e5
      simp only [sg]
      rw [c1, g, if_neg (by omega), if_pos rfl, g, if_pos rfl, Int.pow_succ]
      generalize (18446744073709551616 : Int) ^ i = p at *
      generalize sg (fun t => X.getD t 0) i = S at *
      generalize sg (fun t => l.getD t 0) i = L at *
      generalize X.getD i 0 = x at *
      generalize l.getD i 0 = y at *
      generalize (2 : Int) ^ s = q at *
      grind
theorem outN_spec {a : List Int} {s : Nat} {r : Int} (hs : s ≤ 63) (hr : 0 ≤ r) (ha : ∀ t, t < 10 → a.getD t 0 = r * 2 ^ s / 18446744073709551616 ^ t % 18446744073709551616) : ∀ n : Nat, n ≤ 4 → (outN a s n).length = 4 ∧ ∀ t, t < 4 → (outN a s n).getD t 0 = if t < n then r / 18446744073709551616 ^ t % 18446744073709551616 else 0
  | 0, _ => by
    refine ⟨rfl, fun t ht => ?_⟩
    have : t = 0 ∨ t = 1 ∨ t = 2 ∨ t = 3 := by omega
    rcases this with rfl | rfl | rfl | rfl <;> rfl
  | i + 1, hi => by
    obtain ⟨e1, e2⟩ := outN_spec hs hr ha i (by omega)
    unfold outN
    rw [wrap64 (by omega), shr_eq (by omega), shl_eq (by omega)]
    have hp := bp i
    have q1 := two_pos s
    have q2 := two_pos (64 - s)
    -- the two words, and what comes of them
    have key : IntKind.u64.wrap (a.getD i 0 / 2 ^ s + a.getD (i + 1) 0 * 2 ^ (64 - s) % 18446744073709551616) = r / 18446744073709551616 ^ i % 18446744073709551616 := by
      have hY0 : 0 ≤ r * 2 ^ s / 18446744073709551616 ^ i := Int.ediv_nonneg (Int.mul_nonneg hr (by omega)) (Int.le_of_lt hp)
      have d0 := ha i (by omega)
      have d1 := ha (i + 1) (by omega)
      have e3 : r * 2 ^ s / 18446744073709551616 ^ (i + 1) = r * 2 ^ s / 18446744073709551616 ^ i / 18446744073709551616 := by
        rw [Int.ediv_ediv_of_nonneg (Int.le_of_lt hp), ← Int.pow_succ]
      have e4 : r / 18446744073709551616 ^ i = r * 2 ^ s / 18446744073709551616 ^ i / 2 ^ s := by
        rw [Int.ediv_ediv_of_nonneg (Int.le_of_lt hp), Int.mul_comm (18446744073709551616 ^ i), Int.mul_comm r, Int.mul_ediv_mul_of_pos _ _ q1]
      rw [e3] at d1
      rw [e4, d0, d1]
      generalize r * 2 ^ s / 18446744073709551616 ^ i = Y at *
      have f1 := Int.emod_add_mul_ediv Y 18446744073709551616
      have f2 := Int.emod_add_mul_ediv (Y / 18446744073709551616) 18446744073709551616
      have y0 := Int.emod_nonneg Y (show (18446744073709551616 : Int) ≠ 0 by decide)
      have y1 := Int.emod_lt_of_pos Y (show (0 : Int) < 18446744073709551616 by decide)
      generalize Y / 18446744073709551616 / 18446744073709551616 = Z at *
      generalize Y / 18446744073709551616 % 18446744073709551616 = D at *
      generalize Y / 18446744073709551616 = Q at *
      generalize Y % 18446744073709551616 = E at *
      have ep := p64 (s := s) (by omega)
      have eY : Y = E + 2 ^ s * (2 ^ (64 - s) * (D + 18446744073709551616 * Z)) := by
        rw [← Int.mul_assoc, ← ep]; omega
      rw [eY, Int.add_mul_ediv_left _ _ (Int.ne_of_gt q1), wrap_eq]
      have e5 : 2 ^ (64 - s) * (D + 18446744073709551616 * Z) = D * 2 ^ (64 - s) + 18446744073709551616 * (2 ^ (64 - s) * Z) := by grind
      rw [e5]
      generalize D * 2 ^ (64 - s) = T
      generalize 2 ^ (64 - s) * Z = V
      generalize E / 2 ^ s = F
      omega
    rw [key]
    have k : i < (outN a s i).length := by omega
    refine ⟨by simp [e1], fun t ht => ?_⟩
    rw [getD_set_int k]
    by_cases h : i = t
    · subst h
      rw [if_pos rfl, if_pos (by omega)]
    · rw [if_neg h, e2 t ht]
      by_cases h2 : t < i
      · rw [if_pos h2, if_pos (by omega)]
      · rw [if_neg h2, if_neg (by omega)]
end Go.Wn
