/- Reckoning modulo an odd number, by Montgomery's way: plain arithmetic. Own work. -/
import Derived.Test.YtapficdphhfpnaaDoorTWordsQ
import Derived.Test.YtapficdphhfpnaaDoorTWordsN
set_option linter.unusedSimpArgs false
set_option linter.unusedVariables false
set_option linter.unusedSectionVars false
namespace Go.Wn
open Go.Ev

/- products of words -/
theorem mul_W {a b : Int} (ha : W a) (hb : W b) : 0 ≤ a * b ∧ a * b ≤ 340282366920938463426481119284349108225 := by
  unfold W at *
  refine ⟨Int.mul_nonneg ha.1 hb.1, ?_⟩
  have h1 : a * b ≤ 18446744073709551615 * b := Int.mul_le_mul_of_nonneg_right (by omega) hb.1
  omega
/-- a b + c + d: its high word, its low word. -/
def pH (a b c d : Int) : Int := (a * b + c + d) / 18446744073709551616
def pL (a b c d : Int) : Int := (a * b + c + d) % 18446744073709551616
theorem p_spec {a b c d : Int} (ha : W a) (hb : W b) (hc : W c) (hd : W d) : W (pH a b c d) ∧ W (pL a b c d) ∧ a * b + c + d = 18446744073709551616 * pH a b c d + pL a b c d := by
  have h := mul_W ha hb
  unfold W pH pL at *
  generalize a * b = P at *
  omega

/-- Of a word times a number of four words and a number of four words: the words, and what goes beyond them. -/
theorem row_spec {w b0 b1 b2 b3 t0 t1 t2 t3 : Int} (hw : W w) (h0 : W b0) (h1 : W b1) (h2 : W b2) (h3 : W b3) (k0 : W t0) (k1 : W t1) (k2 : W t2) (k3 : W t3) :
    ∃ c0 c1 c2 c3 r0 r1 r2 r3, c0 = pH w b0 t0 0 ∧ r0 = pL w b0 t0 0 ∧ c1 = pH w b1 t1 c0 ∧ r1 = pL w b1 t1 c0 ∧ c2 = pH w b2 t2 c1 ∧ r2 = pL w b2 t2 c1 ∧ c3 = pH w b3 t3 c2 ∧ r3 = pL w b3 t3 c2 ∧
      W c0 ∧ W c1 ∧ W c2 ∧ W c3 ∧ W r0 ∧ W r1 ∧ W r2 ∧ W r3 ∧
      w * val [b0, b1, b2, b3] + val [t0, t1, t2, t3] = val [r0, r1, r2, r3] + 115792089237316195423570985008687907853269984665640564039457584007913129639936 * c3 := by
  have z : W 0 := by unfold W; omega
  obtain ⟨a1, a2, a3⟩ := p_spec hw h0 k0 z
  obtain ⟨a4, a5, a6⟩ := p_spec hw h1 k1 a1
  obtain ⟨a7, a8, a9⟩ := p_spec hw h2 k2 a4
  obtain ⟨b4, b5, b6⟩ := p_spec hw h3 k3 a7
  refine ⟨_, _, _, _, _, _, _, _, rfl, rfl, rfl, rfl, rfl, rfl, rfl, rfl, a1, a4, a7, b4, a2, a5, a8, b5, ?_⟩
  generalize pH w b3 t3 (pH w b2 t2 (pH w b1 t1 (pH w b0 t0 0))) = c3 at *
  generalize pL w b3 t3 (pH w b2 t2 (pH w b1 t1 (pH w b0 t0 0))) = r3 at *
  generalize pH w b2 t2 (pH w b1 t1 (pH w b0 t0 0)) = c2 at *
  generalize pL w b2 t2 (pH w b1 t1 (pH w b0 t0 0)) = r2 at *
  generalize pH w b1 t1 (pH w b0 t0 0) = c1 at *
  generalize pL w b1 t1 (pH w b0 t0 0) = r1 at *
  generalize pH w b0 t0 0 = c0 at *
  generalize pL w b0 t0 0 = r0 at *
  have e : w * val [b0, b1, b2, b3] = w * b0 + 18446744073709551616 * (w * b1) + 340282366920938463463374607431768211456 * (w * b2) + 6277101735386680763835789423207666416102355444464034512896 * (w * b3) := by
    simp [val, Int.mul_add, Int.mul_left_comm]
  rw [e]
  simp only [val, List.getD_cons_zero, List.getD_cons_succ]
  generalize w * b0 = P0 at *
  generalize w * b1 = P1 at *
  generalize w * b2 = P2 at *
  generalize w * b3 = P3 at *
  omega

/-- One word's turn: what is added, what is made 0, what is dropped. -/
def mst (m b : List Int) (ni w : Int) : List Int → List Int
  | [t0, t1, t2, t3, top] =>
    let b0 := b.getD 0 0; let b1 := b.getD 1 0; let b2 := b.getD 2 0; let b3 := b.getD 3 0
    let m0 := m.getD 0 0; let m1 := m.getD 1 0; let m2 := m.getD 2 0; let m3 := m.getD 3 0
    let c0 := pH w b0 t0 0; let r0 := pL w b0 t0 0
    let c1 := pH w b1 t1 c0; let r1 := pL w b1 t1 c0
    let c2 := pH w b2 t2 c1; let r2 := pL w b2 t2 c1
    let c3 := pH w b3 t3 c2; let r3 := pL w b3 t3 c2
    let tp := (top + c3 + 0) % 18446744073709551616
    let by' := (top + c3 + 0) / 18446744073709551616
    let q := IntKind.u64.wrap (r0 * ni)
    let d0 := pH q m0 r0 0
    let d1 := pH q m1 r1 d0; let s0 := pL q m1 r1 d0
    let d2 := pH q m2 r2 d1; let s1 := pL q m2 r2 d1
    let d3 := pH q m3 r3 d2; let s2 := pL q m3 r3 d2
    [s0, s1, s2, (tp + d3 + 0) % 18446744073709551616, IntKind.u64.wrap (by' + (tp + d3 + 0) / 18446744073709551616)]
  | l => l
def v5 (l : List Int) : Int := val l + 115792089237316195423570985008687907853269984665640564039457584007913129639936 * l.getD 4 0
def W5 (l : List Int) : Prop := ∃ t0 t1 t2 t3 top, l = [t0, t1, t2, t3, top] ∧ W t0 ∧ W t1 ∧ W t2 ∧ W t3 ∧ W top

theorem wrap_W (x : Int) : W (IntKind.u64.wrap x) := by
  unfold IntKind.wrap W; simp [IntKind.bits, IntKind.signed]; omega
theorem wrap_eq (x : Int) : IntKind.u64.wrap x = x % 18446744073709551616 := by
  unfold IntKind.wrap; simp [IntKind.bits, IntKind.signed]
theorem low_zero {r0 ni m0 : Int} (h : (m0 * ni + 1) % 18446744073709551616 = 0) : (IntKind.u64.wrap (r0 * ni) * m0 + r0) % 18446744073709551616 = 0 := by
  rw [wrap_eq, Int.add_emod, Int.mul_emod, Int.emod_emod_of_dvd _ (Int.dvd_refl _), ← Int.mul_emod, ← Int.add_emod]
  have e : r0 * ni * m0 + r0 = r0 * (m0 * ni + 1) := by rw [Int.mul_add, Int.mul_one, Int.mul_assoc, Int.mul_comm ni m0]
  rw [e, Int.mul_emod, h, Int.mul_zero]
  rfl
/-- One turn: exact, and it stays small. -/
theorem mst_spec {m0 m1 m2 m3 b0 b1 b2 b3 ni w : Int} {l : List Int} (hm0 : W m0) (hm1 : W m1) (hm2 : W m2) (hm3 : W m3) (h0 : W b0) (h1 : W b1) (h2 : W b2) (h3 : W b3) (hw : W w) (hl : W5 l)
    (hni : (m0 * ni + 1) % 18446744073709551616 = 0) (hlt : v5 l < val [b0, b1, b2, b3] + val [m0, m1, m2, m3]) (hbm : val [b0, b1, b2, b3] < val [m0, m1, m2, m3]) :
    W5 (mst [m0, m1, m2, m3] [b0, b1, b2, b3] ni w l) ∧ v5 (mst [m0, m1, m2, m3] [b0, b1, b2, b3] ni w l) < val [b0, b1, b2, b3] + val [m0, m1, m2, m3] ∧
      ∃ q, 18446744073709551616 * v5 (mst [m0, m1, m2, m3] [b0, b1, b2, b3] ni w l) = v5 l + w * val [b0, b1, b2, b3] + q * val [m0, m1, m2, m3] := by
  obtain ⟨t0, t1, t2, t3, top, rfl, k0, k1, k2, k3, k4⟩ := hl
  obtain ⟨c0, c1, c2, c3, r0, r1, r2, r3, rfl, rfl, rfl, rfl, rfl, rfl, e1, e2, w0, w1, w2, w3, x0, x1, x2, x3, hrow⟩ := row_spec hw h0 h1 h2 h3 k0 k1 k2 k3
  simp only [mst, List.getD_cons_zero, List.getD_cons_succ]
  rw [← e1, ← e2]
  generalize pL w b0 t0 0 = r0 at *
  generalize pL w b1 t1 (pH w b0 t0 0) = r1 at *
  generalize pL w b2 t2 (pH w b1 t1 (pH w b0 t0 0)) = r2 at *
  have hq : W (IntKind.u64.wrap (r0 * ni)) := wrap_W _
  have hz := low_zero (r0 := r0) hni
  generalize IntKind.u64.wrap (r0 * ni) = q at *
  obtain ⟨d0, d1, d2, d3, s, s0, s1, s2, g0, g1, g2, g3, g4, g5, g6, g7, y0, y1, y2, y3, z0, z1, z2, z3, hrow2⟩ := row_spec hq hm0 hm1 hm2 hm3 x0 x1 x2 x3
  have hs : s = 0 := by rw [g1]; unfold pL; rw [Int.add_zero]; exact hz
  rw [← g0, ← g2, ← g3, ← g4, ← g5, ← g6, ← g7]
  have hB := val_range h0 h1 h2 h3
  have hM := val_range hm0 hm1 hm2 hm3
  have hwB : w * val [b0, b1, b2, b3] ≤ 18446744073709551615 * val [b0, b1, b2, b3] := Int.mul_le_mul_of_nonneg_right (by unfold W at hw; omega) hB.1
  have hqM : q * val [m0, m1, m2, m3] ≤ 18446744073709551615 * val [m0, m1, m2, m3] := Int.mul_le_mul_of_nonneg_right (by unfold W at hq; omega) hM.1
  rw [wrap_eq]
  generalize val [b0, b1, b2, b3] = B at *
  generalize val [m0, m1, m2, m3] = M at *
  generalize w * B = P at *
  have hv5 : v5 [t0, t1, t2, t3, top] = val [t0, t1, t2, t3] + 115792089237316195423570985008687907853269984665640564039457584007913129639936 * top := rfl
  rw [hv5] at hlt ⊢
  have key : ∃ Q, Q = q * M := ⟨_, rfl⟩
  obtain ⟨Q, hQ⟩ := key
  rw [← hQ] at hrow2 hqM
  unfold W at *
  simp only [v5, val, List.getD_cons_zero, List.getD_cons_succ] at *
  subst hs
  have ht : 0 ≤ top ∧ top ≤ 1 := by omega
  have main : 18446744073709551616 * (s0 + 18446744073709551616 * s1 + 340282366920938463463374607431768211456 * s2 + 6277101735386680763835789423207666416102355444464034512896 * (((top + c3 + 0) % 18446744073709551616 + d3 + 0) % 18446744073709551616) +
      115792089237316195423570985008687907853269984665640564039457584007913129639936 * ((top + c3 + 0) / 18446744073709551616 + ((top + c3 + 0) % 18446744073709551616 + d3 + 0) / 18446744073709551616)) =
      t0 + 18446744073709551616 * t1 + 340282366920938463463374607431768211456 * t2 + 6277101735386680763835789423207666416102355444464034512896 * t3 + 115792089237316195423570985008687907853269984665640564039457584007913129639936 * top + P + Q := by omega
  have small : (top + c3 + 0) / 18446744073709551616 + ((top + c3 + 0) % 18446744073709551616 + d3 + 0) / 18446744073709551616 ≤ 2 ∧ 0 ≤ (top + c3 + 0) / 18446744073709551616 + ((top + c3 + 0) % 18446744073709551616 + d3 + 0) / 18446744073709551616 := by omega
  have hid : ((top + c3 + 0) / 18446744073709551616 + ((top + c3 + 0) % 18446744073709551616 + d3 + 0) / 18446744073709551616) % 18446744073709551616 = (top + c3 + 0) / 18446744073709551616 + ((top + c3 + 0) % 18446744073709551616 + d3 + 0) / 18446744073709551616 := by omega
  rw [hid]
  refine ⟨⟨s0, s1, s2, _, _, rfl, z1, z2, z3, by unfold W; omega, by unfold W; omega⟩, by omega, q, by rw [← hQ]; exact main⟩

/- half: what twice is 1 -/
def half (M : Int) : Int := (M + 1) / 2
theorem one_pow (M : Int) : ∀ n : Nat, (M + 1) ^ n % M = 1 % M
  | 0 => by simp
  | n + 1 => by rw [Int.pow_succ, Int.mul_emod, one_pow M n, ← Int.mul_emod, Int.one_mul]; simp
theorem half_spec {M : Int} (h : M % 2 = 1) (n : Nat) : (2 ^ n * half M ^ n) % M = 1 % M := by
  rw [← Int.mul_pow, show 2 * half M = M + 1 by unfold half; omega]
  exact one_pow M n
/-- a b, divided by 2^256, modulo M. -/
def mont (a b M : Int) : Int := (a * b * half M ^ 256) % M
theorem mont_of {a b M T : Int} (hM : M % 2 = 1) (h : (2 ^ 256 * T) % M = (a * b) % M) : T % M = mont a b M := by
  unfold mont
  rw [Int.mul_emod, ← h, ← Int.mul_emod]
  have e : 2 ^ 256 * T * half M ^ 256 = T * (2 ^ 256 * half M ^ 256) := by rw [Int.mul_comm (2 ^ 256) T, Int.mul_assoc]
  rw [e, Int.mul_emod, half_spec hM, ← Int.mul_emod, Int.mul_one]
/-- With 2^256 or its square put in, it is only a product. -/
theorem mont_square {a b M : Int} (hM : M % 2 = 1) (hb : b % M = (2 ^ 256 * 2 ^ 256) % M) : mont a b M = (a * 2 ^ 256) % M := by
  unfold mont
  rw [show a * b * half M ^ 256 = b * (a * half M ^ 256) by rw [Int.mul_comm a b, Int.mul_assoc], Int.mul_emod, hb, ← Int.mul_emod]
  rw [show (2 : Int) ^ 256 * 2 ^ 256 * (a * half M ^ 256) = (a * 2 ^ 256) * (2 ^ 256 * half M ^ 256) by
    generalize (2 : Int) ^ 256 = R
    generalize half M ^ 256 = h
    rw [Int.mul_assoc, Int.mul_comm R (a * h), Int.mul_assoc, Int.mul_comm h R, Int.mul_comm a R, Int.mul_assoc R a, ← Int.mul_assoc a, Int.mul_comm a R, Int.mul_assoc R a]]
  rw [Int.mul_emod, half_spec hM, ← Int.mul_emod, Int.mul_one]
theorem mul_mod_right (a X M : Int) : (a * (X % M)) % M = (a * X) % M := by
  rw [Int.mul_emod, Int.emod_emod_of_dvd _ (Int.dvd_refl _), ← Int.mul_emod]
theorem mont_grown {a b M : Int} (hM : M % 2 = 1) : mont a ((b * 2 ^ 256) % M) M = (a * b) % M := by
  unfold mont
  rw [show a * ((b * 2 ^ 256) % M) * half M ^ 256 = (a * half M ^ 256) * ((b * 2 ^ 256) % M) by rw [Int.mul_assoc, Int.mul_comm ((b * 2 ^ 256) % M), ← Int.mul_assoc], mul_mod_right]
  rw [show (a * half M ^ 256) * (b * 2 ^ 256) = (a * b) * (2 ^ 256 * half M ^ 256) by
    generalize (2 : Int) ^ 256 = R
    generalize half M ^ 256 = h
    rw [Int.mul_assoc, Int.mul_assoc, Int.mul_comm h (b * R), Int.mul_assoc]]
  rw [Int.mul_emod, half_spec hM, ← Int.mul_emod, Int.mul_one]

def turns (m b : List Int) (ni a0 a1 a2 a3 : Int) : List Int := mst m b ni a3 (mst m b ni a2 (mst m b ni a1 (mst m b ni a0 [0, 0, 0, 0, 0])))
theorem turns_spec {m0 m1 m2 m3 b0 b1 b2 b3 a0 a1 a2 a3 ni : Int} (hm0 : W m0) (hm1 : W m1) (hm2 : W m2) (hm3 : W m3) (h0 : W b0) (h1 : W b1) (h2 : W b2) (h3 : W b3) (k0 : W a0) (k1 : W a1) (k2 : W a2) (k3 : W a3)
    (hni : (m0 * ni + 1) % 18446744073709551616 = 0) (hbm : val [b0, b1, b2, b3] < val [m0, m1, m2, m3]) :
    W5 (turns [m0, m1, m2, m3] [b0, b1, b2, b3] ni a0 a1 a2 a3) ∧ v5 (turns [m0, m1, m2, m3] [b0, b1, b2, b3] ni a0 a1 a2 a3) < val [b0, b1, b2, b3] + val [m0, m1, m2, m3] ∧
      (2 ^ 256 * v5 (turns [m0, m1, m2, m3] [b0, b1, b2, b3] ni a0 a1 a2 a3)) % val [m0, m1, m2, m3] = (val [a0, a1, a2, a3] * val [b0, b1, b2, b3]) % val [m0, m1, m2, m3] := by
  have z : W 0 := by unfold W; omega
  have hB := val_range h0 h1 h2 h3
  have hM := val_range hm0 hm1 hm2 hm3
  have s0 : W5 [0, 0, 0, 0, 0] := ⟨0, 0, 0, 0, 0, rfl, z, z, z, z, z⟩
  have v0 : v5 [0, 0, 0, 0, 0] = 0 := rfl
  obtain ⟨s1, l1, q1, e1⟩ := mst_spec (ni := ni) hm0 hm1 hm2 hm3 h0 h1 h2 h3 k0 s0 hni (by rw [v0]; omega) hbm
  obtain ⟨s2, l2, q2, e2⟩ := mst_spec (ni := ni) hm0 hm1 hm2 hm3 h0 h1 h2 h3 k1 s1 hni l1 hbm
  obtain ⟨s3, l3, q3, e3⟩ := mst_spec (ni := ni) hm0 hm1 hm2 hm3 h0 h1 h2 h3 k2 s2 hni l2 hbm
  obtain ⟨s4, l4, q4, e4⟩ := mst_spec (ni := ni) hm0 hm1 hm2 hm3 h0 h1 h2 h3 k3 s3 hni l3 hbm
  refine ⟨s4, l4, ?_⟩
  unfold turns
  generalize v5 (mst [m0, m1, m2, m3] [b0, b1, b2, b3] ni a3 (mst [m0, m1, m2, m3] [b0, b1, b2, b3] ni a2 (mst [m0, m1, m2, m3] [b0, b1, b2, b3] ni a1 (mst [m0, m1, m2, m3] [b0, b1, b2, b3] ni a0 [0, 0, 0, 0, 0])))) = T at *
  generalize v5 (mst [m0, m1, m2, m3] [b0, b1, b2, b3] ni a2 (mst [m0, m1, m2, m3] [b0, b1, b2, b3] ni a1 (mst [m0, m1, m2, m3] [b0, b1, b2, b3] ni a0 [0, 0, 0, 0, 0]))) = T3 at *
  generalize v5 (mst [m0, m1, m2, m3] [b0, b1, b2, b3] ni a1 (mst [m0, m1, m2, m3] [b0, b1, b2, b3] ni a0 [0, 0, 0, 0, 0])) = T2 at *
  generalize v5 (mst [m0, m1, m2, m3] [b0, b1, b2, b3] ni a0 [0, 0, 0, 0, 0]) = T1 at *
  rw [v0] at e1
  have eA : val [a0, a1, a2, a3] * val [b0, b1, b2, b3] = a0 * val [b0, b1, b2, b3] + 18446744073709551616 * (a1 * val [b0, b1, b2, b3]) + 340282366920938463463374607431768211456 * (a2 * val [b0, b1, b2, b3]) + 6277101735386680763835789423207666416102355444464034512896 * (a3 * val [b0, b1, b2, b3]) := by
    generalize val [b0, b1, b2, b3] = B
    simp [val, Int.add_mul, Int.mul_assoc]
  rw [eA]
  generalize val [b0, b1, b2, b3] = B at *
  generalize val [m0, m1, m2, m3] = M at *
  have e : 2 ^ 256 * T = a0 * B + 18446744073709551616 * (a1 * B) + 340282366920938463463374607431768211456 * (a2 * B) + 6277101735386680763835789423207666416102355444464034512896 * (a3 * B) +
      (q1 + 18446744073709551616 * q2 + 340282366920938463463374607431768211456 * q3 + 6277101735386680763835789423207666416102355444464034512896 * q4) * M := by
    rw [show (2 : Int) ^ 256 = 115792089237316195423570985008687907853269984665640564039457584007913129639936 by rfl]
    simp only [Int.add_mul, Int.mul_assoc]
    generalize a0 * B = x0 at *
    generalize a1 * B = x1 at *
    generalize a2 * B = x2 at *
    generalize a3 * B = x3 at *
    generalize q1 * M = y0 at *
    generalize q2 * M = y1 at *
    generalize q3 * M = y2 at *
    generalize q4 * M = y3 at *
    omega
  rw [e, Int.add_mul_emod_self_right]
end Go.Wn
