/- Numbers of four words: plain arithmetic. Own work. -/

set_option linter.unusedSimpArgs false
set_option linter.unusedVariables false
set_option linter.unusedSectionVars false
namespace Go.Wn
def val (l : List Int) : Int := l.getD 0 0 + 18446744073709551616 * l.getD 1 0 + 340282366920938463463374607431768211456 * l.getD 2 0 + 6277101735386680763835789423207666416102355444464034512896 * l.getD 3 0
def limbs (n : Int) : List Int := [n % 18446744073709551616, n / 18446744073709551616 % 18446744073709551616, n / 340282366920938463463374607431768211456 % 18446744073709551616,
  n / 6277101735386680763835789423207666416102355444464034512896 % 18446744073709551616]
def W (x : Int) : Prop := 0 ≤ x ∧ x < 18446744073709551616

theorem limbs_of {s0 s1 s2 s3 c T : Int} (h0 : W s0) (h1 : W s1) (h2 : W s2) (h3 : W s3)
    (hT : T = s0 + 18446744073709551616 * s1 + 340282366920938463463374607431768211456 * s2 + 6277101735386680763835789423207666416102355444464034512896 * s3 + 115792089237316195423570985008687907853269984665640564039457584007913129639936 * c) :
    limbs T = [s0, s1, s2, s3] := by
  unfold limbs W at *
  have e0 : T % 18446744073709551616 = s0 := by omega
  have e1 : T / 18446744073709551616 % 18446744073709551616 = s1 := by omega
  have e2 : T / 340282366920938463463374607431768211456 % 18446744073709551616 = s2 := by omega
  have e3 : T / 6277101735386680763835789423207666416102355444464034512896 % 18446744073709551616 = s3 := by omega
  rw [e0, e1, e2, e3]
theorem limbs_val {a0 a1 a2 a3 : Int} (h0 : W a0) (h1 : W a1) (h2 : W a2) (h3 : W a3) : limbs (val [a0, a1, a2, a3]) = [a0, a1, a2, a3] :=
  limbs_of h0 h1 h2 h3 (c := 0) (by simp [val])
theorem limbs_W (T : Int) : ∀ x ∈ limbs T, W x := by
  intro x hx
  simp only [limbs, List.mem_cons, List.not_mem_nil, or_false] at hx
  unfold W
  rcases hx with rfl | rfl | rfl | rfl <;> omega
theorem val_range {a0 a1 a2 a3 : Int} (h0 : W a0) (h1 : W a1) (h2 : W a2) (h3 : W a3) : 0 ≤ val [a0, a1, a2, a3] ∧ val [a0, a1, a2, a3] < 115792089237316195423570985008687907853269984665640564039457584007913129639936 := by
  unfold W at *
  simp [val]
  omega
theorem val_limbs (T : Int) : val (limbs T) = T % 115792089237316195423570985008687907853269984665640564039457584007913129639936 := by
  simp [val, limbs]
  omega

def cy (x y c : Int) : Int := (x + y + c) / 18446744073709551616
def sm (x y c : Int) : Int := (x + y + c) % 18446744073709551616
theorem add_chain {a0 a1 a2 a3 b0 b1 b2 b3 : Int} (ha0 : W a0) (ha1 : W a1) (ha2 : W a2) (ha3 : W a3) (hb0 : W b0) (hb1 : W b1) (hb2 : W b2) (hb3 : W b3) :
    [sm a0 b0 0, sm a1 b1 (cy a0 b0 0), sm a2 b2 (cy a1 b1 (cy a0 b0 0)), sm a3 b3 (cy a2 b2 (cy a1 b1 (cy a0 b0 0)))] = limbs (val [a0, a1, a2, a3] + val [b0, b1, b2, b3]) ∧
    cy a3 b3 (cy a2 b2 (cy a1 b1 (cy a0 b0 0))) = (val [a0, a1, a2, a3] + val [b0, b1, b2, b3]) / 115792089237316195423570985008687907853269984665640564039457584007913129639936 ∧
    cy a0 b0 0 ≤ 1 ∧ cy a1 b1 (cy a0 b0 0) ≤ 1 ∧ cy a2 b2 (cy a1 b1 (cy a0 b0 0)) ≤ 1 := by
  have r : ∀ {x y c : Int}, W x → W y → 0 ≤ c ∧ c ≤ 1 → W (sm x y c) ∧ (0 ≤ cy x y c ∧ cy x y c ≤ 1) ∧ x + y + c = 18446744073709551616 * cy x y c + sm x y c := by
    intro x y c hx hy hc
    unfold W cy sm at *
    omega
  have h0 := r ha0 hb0 (c := 0) (by omega)
  generalize sm a0 b0 0 = s0 at *
  generalize cy a0 b0 0 = c0 at *
  have h1 := r ha1 hb1 h0.2.1
  generalize sm a1 b1 c0 = s1 at *
  generalize cy a1 b1 c0 = c1 at *
  have h2 := r ha2 hb2 h1.2.1
  generalize sm a2 b2 c1 = s2 at *
  generalize cy a2 b2 c1 = c2 at *
  have h3 := r ha3 hb3 h2.2.1
  generalize sm a3 b3 c2 = s3 at *
  generalize cy a3 b3 c2 = c3 at *
  have hT : val [a0, a1, a2, a3] + val [b0, b1, b2, b3] = s0 + 18446744073709551616 * s1 + 340282366920938463463374607431768211456 * s2 + 6277101735386680763835789423207666416102355444464034512896 * s3 + 115792089237316195423570985008687907853269984665640564039457584007913129639936 * c3 := by
    simp [val]
    omega
  refine ⟨(limbs_of h0.1 h1.1 h2.1 h3.1 hT).symm, ?_, h0.2.1.2, h1.2.1.2, h2.2.1.2⟩
  have g0 := h0.1; have g1 := h1.1; have g2 := h2.1; have g3 := h3.1
  unfold W at g0 g1 g2 g3
  rw [hT]
  omega

def bw (x y c : Int) : Int := if x < y + c then 1 else 0
def df (x y c : Int) : Int := (x - y - c) % 18446744073709551616
theorem sub_chain {a0 a1 a2 a3 b0 b1 b2 b3 : Int} (ha0 : W a0) (ha1 : W a1) (ha2 : W a2) (ha3 : W a3) (hb0 : W b0) (hb1 : W b1) (hb2 : W b2) (hb3 : W b3) :
    [df a0 b0 0, df a1 b1 (bw a0 b0 0), df a2 b2 (bw a1 b1 (bw a0 b0 0)), df a3 b3 (bw a2 b2 (bw a1 b1 (bw a0 b0 0)))] = limbs (val [a0, a1, a2, a3] - val [b0, b1, b2, b3]) ∧
    bw a3 b3 (bw a2 b2 (bw a1 b1 (bw a0 b0 0))) = (if val [a0, a1, a2, a3] < val [b0, b1, b2, b3] then 1 else 0) ∧
    bw a0 b0 0 ≤ 1 ∧ bw a1 b1 (bw a0 b0 0) ≤ 1 ∧ bw a2 b2 (bw a1 b1 (bw a0 b0 0)) ≤ 1 := by
  have r : ∀ {x y c : Int}, W x → W y → 0 ≤ c ∧ c ≤ 1 → W (df x y c) ∧ (0 ≤ bw x y c ∧ bw x y c ≤ 1) ∧ x - y - c = df x y c - 18446744073709551616 * bw x y c := by
    intro x y c hx hy hc
    unfold W bw df at *
    split <;> omega
  have h0 := r ha0 hb0 (c := 0) (by omega)
  generalize df a0 b0 0 = s0 at *
  generalize bw a0 b0 0 = c0 at *
  have h1 := r ha1 hb1 h0.2.1
  generalize df a1 b1 c0 = s1 at *
  generalize bw a1 b1 c0 = c1 at *
  have h2 := r ha2 hb2 h1.2.1
  generalize df a2 b2 c1 = s2 at *
  generalize bw a2 b2 c1 = c2 at *
  have h3 := r ha3 hb3 h2.2.1
  generalize df a3 b3 c2 = s3 at *
  generalize bw a3 b3 c2 = c3 at *
  have hT : val [a0, a1, a2, a3] - val [b0, b1, b2, b3] = s0 + 18446744073709551616 * s1 + 340282366920938463463374607431768211456 * s2 + 6277101735386680763835789423207666416102355444464034512896 * s3 + 115792089237316195423570985008687907853269984665640564039457584007913129639936 * (-c3) := by
    simp [val]
    omega
  refine ⟨(limbs_of h0.1 h1.1 h2.1 h3.1 hT).symm, ?_, h0.2.1.2, h1.2.1.2, h2.2.1.2⟩
  have g0 := h0.1; have g1 := h1.1; have g2 := h2.1; have g3 := h3.1
  unfold W at g0 g1 g2 g3
  generalize val [a0, a1, a2, a3] = A at hT ⊢
  generalize val [b0, b1, b2, b3] = B at hT ⊢
  split <;> omega
theorem back (a b : List Int) (h : ∃ a0 a1 a2 a3, a = [a0, a1, a2, a3] ∧ W a0 ∧ W a1 ∧ W a2 ∧ W a3) (k : ∃ a0 a1 a2 a3, b = [a0, a1, a2, a3] ∧ W a0 ∧ W a1 ∧ W a2 ∧ W a3) :
    limbs (val (limbs (val a + val b)) - val b) = a ∧
    (val a + val b) / 115792089237316195423570985008687907853269984665640564039457584007913129639936 = (if val (limbs (val a + val b)) < val b then 1 else 0) := by
  obtain ⟨a0, a1, a2, a3, rfl, h0, h1, h2, h3⟩ := h
  obtain ⟨b0, b1, b2, b3, rfl, k0, k1, k2, k3⟩ := k
  have ra := val_range h0 h1 h2 h3
  have rb := val_range k0 k1 k2 k3
  have hl := limbs_val h0 h1 h2 h3
  rw [val_limbs]
  generalize val [a0, a1, a2, a3] = A at *
  generalize val [b0, b1, b2, b3] = B at *
  refine ⟨?_, by split <;> omega⟩
  rw [← hl]
  have e : (A + B) % 115792089237316195423570985008687907853269984665640564039457584007913129639936 - B = A - 115792089237316195423570985008687907853269984665640564039457584007913129639936 * ((A + B) / 115792089237316195423570985008687907853269984665640564039457584007913129639936) := by omega
  rw [e]
  generalize (A + B) / 115792089237316195423570985008687907853269984665640564039457584007913129639936 = q
  unfold limbs
  have e0 : (A - 115792089237316195423570985008687907853269984665640564039457584007913129639936 * q) % 18446744073709551616 = A % 18446744073709551616 := by omega
  have e1 : (A - 115792089237316195423570985008687907853269984665640564039457584007913129639936 * q) / 18446744073709551616 % 18446744073709551616 = A / 18446744073709551616 % 18446744073709551616 := by omega
  have e2 : (A - 115792089237316195423570985008687907853269984665640564039457584007913129639936 * q) / 340282366920938463463374607431768211456 % 18446744073709551616 = A / 340282366920938463463374607431768211456 % 18446744073709551616 := by omega
  have e3 : (A - 115792089237316195423570985008687907853269984665640564039457584007913129639936 * q) / 6277101735386680763835789423207666416102355444464034512896 % 18446744073709551616 = A / 6277101735386680763835789423207666416102355444464034512896 % 18446744073709551616 := by omega
  rw [e0, e1, e2, e3]
end Go.Wn
