/- The reference's fold: columns of 32 bits, of any sign, come to the number modulo P-256's prime in at most three passes. Own work. -/
import Derived.Test.YtapficdphhfpnaaDoorTWe2
set_option linter.unusedSimpArgs false
set_option linter.unusedVariables false
set_option linter.unusedSectionVars false
namespace Go.We
def v32 : List Int → Int
  | [] => 0
  | x :: l => x + 4294967296 * v32 l
/-- The carries of one pass: digits, and what goes out. -/
def cry : Int → List Int → List Int × Int
  | c, [] => ([], c)
  | c, x :: l => ((x + c) % 4294967296 :: (cry ((x + c) / 4294967296) l).1, (cry ((x + c) / 4294967296) l).2)
theorem cry_val : ∀ (l : List Int) (c : Int), v32 l + c = v32 (cry c l).1 + 4294967296 ^ l.length * (cry c l).2
  | [], c => by show 0 + c = 0 + 1 * c; omega
  | x :: l, c => by
    have ih := cry_val l ((x + c) / 4294967296)
    show x + 4294967296 * v32 l + c = (x + c) % 4294967296 + 4294967296 * v32 (cry ((x + c) / 4294967296) l).1 + 4294967296 ^ (l.length + 1) * (cry ((x + c) / 4294967296) l).2
    have e : (4294967296 : Int) ^ (l.length + 1) * (cry ((x + c) / 4294967296) l).2 = 4294967296 * (4294967296 ^ l.length * (cry ((x + c) / 4294967296) l).2) := by
      rw [Int.pow_succ, Int.mul_comm ((4294967296 : Int) ^ l.length) 4294967296, Int.mul_assoc]
    rw [e]
    generalize (4294967296 : Int) ^ l.length * (cry ((x + c) / 4294967296) l).2 = q at *
    generalize v32 (cry ((x + c) / 4294967296) l).1 = r at *
    generalize v32 l = s at *
    omega
def D32 (x : Int) : Prop := 0 ≤ x ∧ x < 4294967296
theorem cry_dig : ∀ (l : List Int) (c : Int), ∀ x ∈ (cry c l).1, D32 x
  | [], _, x, h => by cases h
  | y :: l, c, x, h => by
    rcases List.mem_cons.1 h with e | e
    · subst e
      exact ⟨Int.emod_nonneg _ (by decide), Int.emod_lt_of_pos _ (by decide)⟩
    · exact cry_dig l _ x e
theorem cry_len : ∀ (l : List Int) (c : Int), (cry c l).1.length = l.length
  | [], _ => rfl
  | _ :: l, c => by show (cry _ l).1.length + 1 = l.length + 1; rw [cry_len l]
theorem v32_range : ∀ {l : List Int}, (∀ x ∈ l, D32 x) → 0 ≤ v32 l ∧ v32 l < 4294967296 ^ l.length
  | [], _ => by constructor <;> decide
  | x :: l, h => by
    have ⟨h1, h2⟩ := h x (List.mem_cons_self ..)
    have ⟨h3, h4⟩ := v32_range (l := l) (fun y hy => h y (List.mem_cons_of_mem _ hy))
    show 0 ≤ x + 4294967296 * v32 l ∧ x + 4294967296 * v32 l < 4294967296 ^ (l.length + 1)
    rw [Int.pow_succ]
    generalize (4294967296 : Int) ^ l.length = q at *
    omega
def M6 : Int := 115792089237316195423570985008687907853269984665640564039457584007913129639936
def I6 : Int := 115792089210356248762697446949407573530086143415290314195533631308867097853951
theorem pow8 : (4294967296 : Int) ^ 8 = M6 := by decide +kernel
/-- A pass of eight columns: the number's rest and quotient by 2^256. -/
theorem cry8 {l : List Int} (hl : l.length = 8) : v32 (cry 0 l).1 = v32 l % M6 ∧ (cry 0 l).2 = v32 l / M6 := by
  have h := cry_val l 0
  have hr := v32_range (cry_dig l 0)
  rw [cry_len, hl, pow8] at hr
  rw [hl, pow8] at h
  generalize v32 (cry 0 l).1 = r at *
  generalize (cry 0 l).2 = d at *
  generalize v32 l = s at *
  unfold M6 at *
  omega
/-- What went out comes in again: 2^256 is 2^224 - 2^192 - 2^96 + 1. -/
def adj (c : Int) : List Int → List Int
  | [a0, a1, a2, a3, a4, a5, a6, a7] => [a0 + c, a1, a2, a3 - c, a4, a5, a6 - c, a7 + c]
  | l => l
theorem adj_val {l : List Int} (hl : l.length = 8) (c : Int) : (adj c l).length = 8 ∧ v32 (adj c l) = v32 l + c * (M6 - I6) := by
  match l, hl with
  | [a0, a1, a2, a3, a4, a5, a6, a7], _ =>
    refine ⟨rfl, ?_⟩
    simp only [adj, v32, M6, I6]
    omega
/-- The passes. -/
def passes : Nat → List Int → List Int
  | 0, l => l
  | f + 1, l => if (cry 0 l).2 = 0 then (cry 0 l).1 else passes f (adj (cry 0 l).2 (cry 0 l).1)
theorem passes_end {f : Nat} {l : List Int} (h : (cry 0 l).2 = 0) : passes (f + 1) l = (cry 0 l).1 := if_pos h
theorem passes_on {f : Nat} {l : List Int} (h : (cry 0 l).2 ≠ 0) : passes (f + 1) l = passes f (adj (cry 0 l).2 (cry 0 l).1) := if_neg h
/-- One pass: what stands behind it. -/
theorem pass_on {l : List Int} (hl : l.length = 8) : (adj (cry 0 l).2 (cry 0 l).1).length = 8 ∧ v32 (adj (cry 0 l).2 (cry 0 l).1) = v32 l % M6 + v32 l / M6 * (M6 - I6) := by
  obtain ⟨r0, d0⟩ := cry8 hl
  obtain ⟨l1, v1⟩ := adj_val ((cry_len l 0).trans hl) (cry 0 l).2
  rw [r0, d0] at v1
  exact ⟨l1, by rw [d0]; exact v1⟩
theorem pass_end {l : List Int} (hl : l.length = 8) (h : (cry 0 l).2 = 0) : (cry 0 l).1.length = 8 ∧ (∀ x ∈ (cry 0 l).1, D32 x) ∧ v32 (cry 0 l).1 = v32 l % M6 ∧ v32 l / M6 = 0 := by
  obtain ⟨r0, d0⟩ := cry8 hl
  exact ⟨(cry_len l 0).trans hl, cry_dig l 0, r0, d0.symm.trans h⟩
/-- Three are enough, and no more than three begin. -/
theorem passes_ok {l : List Int} (hl : l.length = 8) (h1 : -8 * M6 ≤ v32 l) (h2 : v32 l < 8 * M6) : (passes 3 l).length = 8 ∧ (∀ x ∈ passes 3 l, D32 x) ∧ v32 (passes 3 l) % I6 = v32 l % I6 := by
  by_cases c0 : (cry 0 l).2 = 0
  · rw [passes_end c0]
    obtain ⟨k1, k2, k3, k4⟩ := pass_end hl c0
    refine ⟨k1, k2, ?_⟩
    rw [k3]
    generalize v32 l = s at *
    clear k1 k2 k3
    unfold M6 I6 at *
    omega
  · rw [passes_on c0]
    obtain ⟨l1, v1⟩ := pass_on hl
    have d0 : v32 l / M6 ≠ 0 := (cry8 hl).2 ▸ c0
    generalize adj (cry 0 l).2 (cry 0 l).1 = k at *
    by_cases c1 : (cry 0 k).2 = 0
    · rw [passes_end c1]
      obtain ⟨k1, k2, k3, k4⟩ := pass_end l1 c1
      refine ⟨k1, k2, ?_⟩
      rw [k3]
      generalize v32 k = t at *
      generalize v32 l = s at *
      clear k1 k2 k3
      unfold M6 I6 at *
      omega
    · rw [passes_on c1]
      obtain ⟨l2, v2⟩ := pass_on l1
      have d1 : v32 k / M6 ≠ 0 := (cry8 l1).2 ▸ c1
      generalize adj (cry 0 k).2 (cry 0 k).1 = m at *
      have c2 : (cry 0 m).2 = 0 := by
        rw [(cry8 l2).2]
        generalize v32 m = u at *
        generalize v32 k = t at *
        generalize v32 l = s at *
        clear c0 c1
        unfold M6 I6 at *
        omega
      rw [passes_end c2]
      obtain ⟨k1, k2, k3, k4⟩ := pass_end l2 c2
      refine ⟨k1, k2, ?_⟩
      rw [k3]
      generalize v32 m = u at *
      generalize v32 k = t at *
      generalize v32 l = s at *
      clear k1 k2 k3 c0 c1 c2
      unfold M6 I6 at *
      omega
/-- At last the prime is taken off, at most once. -/
theorem passes_mod {l : List Int} (hl : l.length = 8) (h1 : -8 * M6 ≤ v32 l) (h2 : v32 l < 8 * M6) : v32 l % I6 = if v32 (passes 3 l) < I6 then v32 (passes 3 l) else v32 (passes 3 l) - I6 := by
  obtain ⟨k1, k2, k3⟩ := passes_ok hl h1 h2
  have hr := v32_range k2
  rw [k1, pow8] at hr
  rw [← k3]
  generalize v32 (passes 3 l) = r at *
  clear k1 k2 k3 h1 h2
  unfold M6 I6 at *
  split <;> omega
/-- The columns of a product: 2^256 times the upper half's words, laid upon the lower half's. -/
theorem prod_cols (a0 a1 a2 a3 a4 a5 a6 a7 h0 h1 h2 h3 h4 h5 h6 h7 : Int) : (v32 [a0 + h0 + h1 - h3 - h4 - h5 - h6, a1 + h1 + h2 - h4 - h5 - h6 - h7, a2 + h2 + h3 - h5 - h6 - h7, a3 + 2 * h3 + 2 * h4 + h5 - h7 - h0 - h1, a4 + 2 * h4 + 2 * h5 + h6 - h1 - h2, a5 + 2 * h5 + 2 * h6 + h7 - h2 - h3, a6 + 3 * h6 + 2 * h7 + h5 - h0 - h1, a7 + 3 * h7 + h0 - h2 - h3 - h4 - h5]) % I6 = (v32 [a0, a1, a2, a3, a4, a5, a6, a7] + M6 * v32 [h0, h1, h2, h3, h4, h5, h6, h7]) % I6 := by
  have e : (v32 [a0 + h0 + h1 - h3 - h4 - h5 - h6, a1 + h1 + h2 - h4 - h5 - h6 - h7, a2 + h2 + h3 - h5 - h6 - h7, a3 + 2 * h3 + 2 * h4 + h5 - h7 - h0 - h1, a4 + 2 * h4 + 2 * h5 + h6 - h1 - h2, a5 + 2 * h5 + 2 * h6 + h7 - h2 - h3, a6 + 3 * h6 + 2 * h7 + h5 - h0 - h1, a7 + 3 * h7 + h0 - h2 - h3 - h4 - h5]) = (v32 [a0, a1, a2, a3, a4, a5, a6, a7] + M6 * v32 [h0, h1, h2, h3, h4, h5, h6, h7]) + I6 * ((-1) * h0 + (-4294967297) * h1 + (-18446744078004518912) * h2 + (-79228162532711081667253501951) * h3 + (-340282367000166625977638945021017194495) * h4 + (-1461501637671185285124623296161210883009696235519) * h5 + (-6277101736848182401166692341332123086285927382448418586623) * h6 + (-26959946673427741530053695850515137729844644212646842236464328081408) * h7) := by
    simp only [v32, M6, I6]
    omega
  rw [e]
  exact Int.add_mul_emod_self_left ..
end Go.We
namespace Go.We
open Go.Wn
set_option maxRecDepth 100000
theorem i6_eq : I6 = (P6 : Int) := by decide +kernel
theorem i6_pos : (0 : Int) < I6 := by decide +kernel
def h6 (x : Int) : Fin P6 := ⟨(x % I6).toNat, by
  have h1 := i6_pos
  have h2 := Int.emod_nonneg x (by omega : I6 ≠ 0)
  have h3 := Int.emod_lt_of_pos x h1
  have h4 := i6_eq
  omega⟩
theorem h6_val (x : Int) : ((h6 x).val : Int) = x % I6 := by
  have h2 := Int.emod_nonneg x (by have := i6_pos; omega : I6 ≠ 0)
  show (((x % I6).toNat : Nat) : Int) = _
  omega
theorem h6_ext {x y : Int} (h : x % I6 = y % I6) : h6 x = h6 y := by
  apply Fin.ext
  have := h6_val x; have := h6_val y
  omega
theorem h6_mod (x : Int) : h6 (x % I6) = h6 x := h6_ext (Int.emod_emod_of_dvd _ (Int.dvd_refl _))
theorem h6_add (x y : Int) : h6 (x + y) = h6 x + h6 y := by
  apply Fin.ext
  have h1 : ((h6 x + h6 y).val : Int) = ((h6 x).val + (h6 y).val : Int) % I6 := by rw [Fin.val_add, i6_eq]; simp
  have h2 := h6_val (x + y)
  rw [h6_val, h6_val, ← Int.add_emod, ← h2] at h1
  exact_mod_cast h1.symm
theorem h6_mul (x y : Int) : h6 (x * y) = h6 x * h6 y := by
  apply Fin.ext
  have h1 : ((h6 x * h6 y).val : Int) = ((h6 x).val * (h6 y).val : Int) % I6 := by rw [Fin.val_mul, i6_eq]; simp
  have h2 := h6_val (x * y)
  rw [h6_val, h6_val, ← Int.mul_emod, ← h2] at h1
  exact_mod_cast h1.symm
theorem h6_sub (x y : Int) : h6 (x - y) = h6 x - h6 y := by
  have h : h6 (x - y) + h6 y = h6 x := by rw [← h6_add, Int.sub_add_cancel]
  rw [← h]
  generalize h6 (x - y) = a
  generalize h6 y = b
  grind
def in6 (x : Int) : Prop := 0 ≤ x ∧ x < I6
theorem in6_mod (x : Int) : in6 (x % I6) := ⟨Int.emod_nonneg _ (by have := i6_pos; omega), Int.emod_lt_of_pos _ i6_pos⟩
theorem h6_in {x : Int} (h : in6 x) : ((h6 x).val : Int) = x := by rw [h6_val]; exact Int.emod_eq_of_lt h.1 h.2
theorem h6_inj {x y : Int} (hx : in6 x) (hy : in6 y) (h : h6 x = h6 y) : x = y := by
  rw [← h6_in hx, ← h6_in hy, h]
theorem h6_0 : h6 0 = 0 := by decide +kernel
theorem in6_0 : in6 0 := ⟨by decide, i6_pos⟩
theorem in6_1 : in6 1 := ⟨by decide, by decide +kernel⟩
theorem h6_z {x : Int} (h : in6 x) : h6 x = 0 ↔ x = 0 := ⟨fun e => h6_inj h in6_0 (e.trans h6_0.symm), fun e => by rw [e]; exact h6_0⟩
def mJ (x y : Int) : Int := x * y % I6
def aJ (x y : Int) : Int := (x + y) % I6
def sJ (x y : Int) : Int := (x - y) % I6
theorem h6_m (x y : Int) : h6 (mJ x y) = h6 x * h6 y := by unfold mJ; rw [h6_mod, h6_mul]
theorem h6_a (x y : Int) : h6 (aJ x y) = h6 x + h6 y := by unfold aJ; rw [h6_mod, h6_add]
theorem h6_s (x y : Int) : h6 (sJ x y) = h6 x - h6 y := by unfold sJ; rw [h6_mod, h6_sub]
theorem in6_m (x y : Int) : in6 (mJ x y) := in6_mod _
theorem in6_a (x y : Int) : in6 (aJ x y) := in6_mod _
theorem in6_s (x y : Int) : in6 (sJ x y) := in6_mod _
/-- X/Z, Y/Z. -/
structure J3 where
  x : Int
  y : Int
  z : Int
def J3.none : J3 := ⟨0, 1, 0⟩
/-- Twice, by the tangent. -/
def jT (a : J3) : Int := mJ 3 (sJ (mJ a.x a.x) (mJ a.z a.z))
def jU (a : J3) : Int := mJ a.y a.z
def jV (a : J3) : Int := mJ (jU a) (mJ a.x a.y)
def jW (a : J3) : Int := sJ (mJ (jT a) (jT a)) (mJ 8 (jV a))
def jUY (a : J3) : Int := mJ (jU a) a.y
def jTwo (a : J3) : J3 := ⟨mJ 2 (mJ (jU a) (jW a)), sJ (mJ (jT a) (sJ (mJ 4 (jV a)) (jW a))) (mJ 8 (mJ (jUY a) (jUY a))), mJ 8 (mJ (jU a) (mJ (jU a) (jU a)))⟩
def jTw (a : J3) : J3 := if a.z = 0 ∨ a.y = 0 then .none else jTwo a
/-- The sum, by the chord. -/
def kX (a c : J3) : Int := mJ a.x c.z
def kY (a c : J3) : Int := mJ a.y c.z
def kU (a c : J3) : Int := sJ (mJ c.y a.z) (kY a c)
def kV (a c : J3) : Int := sJ (mJ c.x a.z) (kX a c)
def kW (a c : J3) : Int := mJ a.z c.z
def kVV (a c : J3) : Int := mJ (kV a c) (kV a c)
def kVVV (a c : J3) : Int := mJ (kV a c) (kVV a c)
def kR (a c : J3) : Int := mJ (kVV a c) (kX a c)
def kK (a c : J3) : Int := sJ (sJ (mJ (mJ (kU a c) (kU a c)) (kW a c)) (kVVV a c)) (aJ (kR a c) (kR a c))
def kSum (a c : J3) : J3 := ⟨mJ (kV a c) (kK a c), sJ (mJ (kU a c) (sJ (kR a c) (kK a c))) (mJ (kVVV a c) (kY a c)), mJ (kVVV a c) (kW a c)⟩
def jPl (a c : J3) : J3 := if a.z = 0 then c else if c.z = 0 then a else if kV a c = 0 then if kU a c = 0 then jTw a else .none else kSum a c
def J3.R (a : J3) (P : Q P6) : Prop := (in6 a.x ∧ in6 a.y ∧ in6 a.z) ∧ PT (h6 a.x) (h6 a.y) (h6 a.z) P
theorem none_R : J3.none.R .o := ⟨⟨in6_0, in6_1, in6_0⟩, h6_0⟩
theorem c6_a : c6.a = -3 := rfl
theorem h6_2 : h6 2 = 2 := by decide +kernel
theorem h6_3 : h6 3 = 3 := by decide +kernel
theorem h6_4 : h6 4 = 4 := by decide +kernel
theorem h6_8 : h6 8 = 8 := by decide +kernel
theorem jTw_R {a : J3} {P : Q P6} (hP : c6.on P) (h : a.R P) : (jTw a).R (c6.add P P) := by
  obtain ⟨⟨ix, iy, iz⟩, h⟩ := h
  unfold jTw
  by_cases h0 : a.z = 0 ∨ a.y = 0
  · rw [if_pos h0, c6.twice_0 h (h0.imp (h6_z iz).2 (h6_z iy).2)]
    exact none_R
  · rw [if_neg h0]
    have hz : h6 a.z ≠ 0 := fun e => h0 (.inl ((h6_z iz).1 e))
    have hy : h6 a.y ≠ 0 := fun e => h0 (.inr ((h6_z iy).1 e))
    refine ⟨⟨in6_m _ _, in6_s _ _, in6_m _ _⟩, ?_⟩
    have k := c6.twice_PT c6_a (T := h6 (jT a)) (u := h6 (jU a)) (v := h6 (jV a)) (w := h6 (jW a)) (uy := h6 (jUY a)) hP h hz hy
      (by unfold jT; rw [h6_m, h6_s, h6_m, h6_m, h6_3]) (by unfold jU; rw [h6_m]) (by unfold jV; rw [h6_m, h6_m]) (by unfold jW; rw [h6_s, h6_m, h6_m, h6_8]) (by unfold jUY; rw [h6_m])
    show PT (h6 (mJ 2 (mJ (jU a) (jW a)))) (h6 (sJ (mJ (jT a) (sJ (mJ 4 (jV a)) (jW a))) (mJ 8 (mJ (jUY a) (jUY a))))) (h6 (mJ 8 (mJ (jU a) (mJ (jU a) (jU a))))) _
    rw [h6_m, h6_m, h6_s, h6_m, h6_s, h6_m, h6_m, h6_m, h6_m, h6_m, h6_m, h6_2, h6_4, h6_8]
    exact k
theorem jPl_R {a c : J3} {P R : Q P6} (hP : c6.on P) (hR : c6.on R) (h : a.R P) (h' : c.R R) : (jPl a c).R (c6.add P R) := by
  have hh := h
  obtain ⟨⟨ix, iy, iz⟩, h⟩ := h
  have hh' := h'
  obtain ⟨⟨jx, jy, jz⟩, h'⟩ := h'
  unfold jPl
  by_cases hz : a.z = 0
  · rw [if_pos hz, h.z0 ((h6_z iz).2 hz), c6.o_add]
    exact hh'
  rw [if_neg hz]
  by_cases hz' : c.z = 0
  · rw [if_pos hz', h'.z0 ((h6_z jz).2 hz'), c6.add_o]
    exact hh
  rw [if_neg hz']
  have gz : h6 a.z ≠ 0 := fun e => hz ((h6_z iz).1 e)
  have gz' : h6 c.z ≠ 0 := fun e => hz' ((h6_z jz).1 e)
  have ex : h6 (kX a c) = h6 a.x * h6 c.z := by unfold kX; rw [h6_m]
  have ey : h6 (kY a c) = h6 a.y * h6 c.z := by unfold kY; rw [h6_m]
  have eu : h6 (kU a c) = h6 c.y * h6 a.z - h6 (kY a c) := by unfold kU; rw [h6_s, h6_m]
  have ev : h6 (kV a c) = h6 c.x * h6 a.z - h6 (kX a c) := by unfold kV; rw [h6_s, h6_m]
  by_cases hv : kV a c = 0
  · rw [if_pos hv]
    obtain ⟨q1, q2⟩ := c6.plus_v0 hP hR h h' gz gz' ex ey eu ev (by rw [hv]; exact h6_0)
    by_cases hu : kU a c = 0
    · rw [if_pos hu, q1 (by rw [hu]; exact h6_0)]
      exact jTw_R hP hh
    · rw [if_neg hu, q2 (fun e => hu ((h6_z (in6_s _ _)).1 e))]
      exact none_R
  · rw [if_neg hv]
    refine ⟨⟨in6_m _ _, in6_s _ _, in6_m _ _⟩, ?_⟩
    have k := c6.plus_PT (w := h6 (kW a c)) (vv := h6 (kVV a c)) (vvv := h6 (kVVV a c)) (r := h6 (kR a c)) (k := h6 (kK a c)) hP hR h h' gz gz' ex ey eu ev (fun e => hv ((h6_z (in6_s _ _)).1 e))
      (by unfold kW; rw [h6_m]) (by unfold kVV; rw [h6_m]) (by unfold kVVV; rw [h6_m]) (by unfold kR; rw [h6_m]) (by unfold kK; rw [h6_s, h6_s, h6_m, h6_m, h6_a])
    show PT (h6 (mJ (kV a c) (kK a c))) (h6 (sJ (mJ (kU a c) (sJ (kR a c) (kK a c))) (mJ (kVVV a c) (kY a c)))) (h6 (mJ (kVVV a c) (kW a c))) _
    rw [h6_m, h6_s, h6_m, h6_s, h6_m, h6_m]
    exact k
/-- So many times by itself, from the lowest bit up. -/
def jTm : Nat → Int → J3 → J3 → J3
  | 0, _, r, _ => r
  | f + 1, k, r, a => jTm f (k / 2) (if k % 2 = 1 then jPl r a else r) (jTw a)
theorem jTm_R : ∀ {f : Nat} {k : Nat} {r a : J3} {P A : Q P6}, c6.on P → c6.on A → r.R P → a.R A → k < 2 ^ f → (jTm f (k : Int) r a).R (c6.add P (c6.mul k A))
  | 0, k, r, a, P, A, _, _, h, _, hk => by
    have : k = 0 := by simpa using hk
    subst this
    show r.R (c6.add P .o)
    rw [c6.add_o]; exact h
  | f + 1, k, r, a, P, A, hP, hA, h, h', hk => by
    have hk2 : k / 2 < 2 ^ f := by rw [Nat.pow_succ] at hk; omega
    have e2 : c6.mul (k / 2) (c6.add A A) = c6.mul (k / 2 * 2) A := by
      rw [← c6.mul_mul _ _ hA]
      show _ = c6.mul (k / 2) (c6.add A (c6.add A .o))
      rw [c6.add_o]
    show (jTm f ((k : Int) / 2) (if (k : Int) % 2 = 1 then jPl r a else r) (jTw a)).R _
    rw [show (k : Int) / 2 = ((k / 2 : Nat) : Int) by omega]
    by_cases h1 : (k : Int) % 2 = 1
    · rw [if_pos h1]
      have := jTm_R (c6.on_add hP hA) (c6.on_add hA hA) (jPl_R hP hA h h') (jTw_R hA h') hk2
      rw [e2, c6.assoc hP hA (c6.on_mul _ hA)] at this
      rw [show c6.mul k A = c6.mul (k / 2 * 2 + 1) A from congrArg (fun i => c6.mul i A) (by omega)]
      exact this
    · rw [if_neg h1]
      have := jTm_R hP (c6.on_add hA hA) h (jTw_R hA h') hk2
      rw [e2] at this
      rw [show c6.mul k A = c6.mul (k / 2 * 2) A from congrArg (fun i => c6.mul i A) (by omega)]
      exact this
end Go.We
