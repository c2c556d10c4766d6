/- The reference of layer 11: a product's words; its columns. Own work. -/
import Derived.Test.YtapficdphhfpnaaDoorTWqA
import Derived.Test.YtapficdphhfpnaaDoorTMyMC
set_option linter.unusedSimpArgs false
set_option linter.unusedVariables false
set_option linter.unusedSectionVars false
namespace Go.We
open Go.Ev Go.Wn
def pY (a b t c : Int) : Int := ((a * b % 18446744073709551616 + t + 0) % 18446744073709551616 + c + 0) % 18446744073709551616
def pC (a b t c : Int) : Int := IntKind.u64.wrap (IntKind.u64.wrap (a * b / 18446744073709551616 + (a * b % 18446744073709551616 + t + 0) / 18446744073709551616) + ((a * b % 18446744073709551616 + t + 0) % 18446744073709551616 + c + 0) / 18446744073709551616)
theorem pYC {a b t c : Int} (ha : W a) (hb : W b) (ht : W t) (hc : W c) : W (pY a b t c) ∧ W (pC a b t c) ∧ a * b + t + c = 18446744073709551616 * pC a b t c + pY a b t c := by
  obtain ⟨_, e1, e2⟩ := prod_eq ha hb ht hc
  obtain ⟨h1, h2, h3⟩ := p_spec ha hb ht hc
  unfold pY pC
  rw [e1, e2]
  exact ⟨h2, h1, h3⟩
/-- A row: a word times four, and four words on. -/
structure Rw where
  y0 : Int
  y1 : Int
  y2 : Int
  y3 : Int
  c : Int
def rwR (a b0 b1 b2 b3 t0 t1 t2 t3 : Int) : Rw :=
  ⟨pY a b0 t0 0, pY a b1 t1 (pC a b0 t0 0), pY a b2 t2 (pC a b1 t1 (pC a b0 t0 0)), pY a b3 t3 (pC a b2 t2 (pC a b1 t1 (pC a b0 t0 0))), pC a b3 t3 (pC a b2 t2 (pC a b1 t1 (pC a b0 t0 0)))⟩
theorem rw_spec {a b0 b1 b2 b3 t0 t1 t2 t3 : Int} (ha : W a) (h0 : W b0) (h1 : W b1) (h2 : W b2) (h3 : W b3) (k0 : W t0) (k1 : W t1) (k2 : W t2) (k3 : W t3) :
    (W (rwR a b0 b1 b2 b3 t0 t1 t2 t3).y0 ∧ W (rwR a b0 b1 b2 b3 t0 t1 t2 t3).y1 ∧ W (rwR a b0 b1 b2 b3 t0 t1 t2 t3).y2 ∧ W (rwR a b0 b1 b2 b3 t0 t1 t2 t3).y3 ∧ W (rwR a b0 b1 b2 b3 t0 t1 t2 t3).c) ∧
    (rwR a b0 b1 b2 b3 t0 t1 t2 t3).y0 + 18446744073709551616 * (rwR a b0 b1 b2 b3 t0 t1 t2 t3).y1 + 340282366920938463463374607431768211456 * (rwR a b0 b1 b2 b3 t0 t1 t2 t3).y2 + 6277101735386680763835789423207666416102355444464034512896 * (rwR a b0 b1 b2 b3 t0 t1 t2 t3).y3 + 115792089237316195423570985008687907853269984665640564039457584007913129639936 * (rwR a b0 b1 b2 b3 t0 t1 t2 t3).c =
      a * b0 + 18446744073709551616 * (a * b1) + 340282366920938463463374607431768211456 * (a * b2) + 6277101735386680763835789423207666416102355444464034512896 * (a * b3) + (t0 + 18446744073709551616 * t1 + 340282366920938463463374607431768211456 * t2 + 6277101735386680763835789423207666416102355444464034512896 * t3) := by
  have z : W 0 := by unfold W; omega
  obtain ⟨w0, v0, e0⟩ := pYC ha h0 k0 z
  obtain ⟨w1, v1, e1⟩ := pYC ha h1 k1 v0
  obtain ⟨w2, v2, e2⟩ := pYC ha h2 k2 v1
  obtain ⟨w3, v3, e3⟩ := pYC ha h3 k3 v2
  refine ⟨⟨w0, w1, w2, w3, v3⟩, ?_⟩
  unfold rwR
  simp only
  generalize pC a b3 t3 (pC a b2 t2 (pC a b1 t1 (pC a b0 t0 0))) = c4 at *
  generalize pY a b3 t3 (pC a b2 t2 (pC a b1 t1 (pC a b0 t0 0))) = y3 at *
  generalize pC a b2 t2 (pC a b1 t1 (pC a b0 t0 0)) = c3 at *
  generalize pY a b2 t2 (pC a b1 t1 (pC a b0 t0 0)) = y2 at *
  generalize pC a b1 t1 (pC a b0 t0 0) = c2 at *
  generalize pY a b1 t1 (pC a b0 t0 0) = y1 at *
  generalize pC a b0 t0 0 = c1 at *
  generalize pY a b0 t0 0 = y0 at *
  generalize a * b0 = m0 at *
  generalize a * b1 = m1 at *
  generalize a * b2 = m2 at *
  generalize a * b3 = m3 at *
  clear w0 w1 w2 w3 v0 v1 v2 v3 ha h0 h1 h2 h3 k0 k1 k2 k3
  omega
def r1 (a0 b0 b1 b2 b3 : Int) : Rw := rwR a0 b0 b1 b2 b3 0 0 0 0
def r2 (a0 a1 b0 b1 b2 b3 : Int) : Rw := rwR a1 b0 b1 b2 b3 (r1 a0 b0 b1 b2 b3).y1 (r1 a0 b0 b1 b2 b3).y2 (r1 a0 b0 b1 b2 b3).y3 (r1 a0 b0 b1 b2 b3).c
def r3 (a0 a1 a2 b0 b1 b2 b3 : Int) : Rw := rwR a2 b0 b1 b2 b3 (r2 a0 a1 b0 b1 b2 b3).y1 (r2 a0 a1 b0 b1 b2 b3).y2 (r2 a0 a1 b0 b1 b2 b3).y3 (r2 a0 a1 b0 b1 b2 b3).c
def r4 (a0 a1 a2 a3 b0 b1 b2 b3 : Int) : Rw := rwR a3 b0 b1 b2 b3 (r3 a0 a1 a2 b0 b1 b2 b3).y1 (r3 a0 a1 a2 b0 b1 b2 b3).y2 (r3 a0 a1 a2 b0 b1 b2 b3).y3 (r3 a0 a1 a2 b0 b1 b2 b3).c
def muLo (a0 a1 a2 a3 b0 b1 b2 b3 : Int) : List Int := [(r1 a0 b0 b1 b2 b3).y0, (r2 a0 a1 b0 b1 b2 b3).y0, (r3 a0 a1 a2 b0 b1 b2 b3).y0, (r4 a0 a1 a2 a3 b0 b1 b2 b3).y0]
def muHi (a0 a1 a2 a3 b0 b1 b2 b3 : Int) : List Int := [(r4 a0 a1 a2 a3 b0 b1 b2 b3).y1, (r4 a0 a1 a2 a3 b0 b1 b2 b3).y2, (r4 a0 a1 a2 a3 b0 b1 b2 b3).y3, (r4 a0 a1 a2 a3 b0 b1 b2 b3).c]
theorem mu_val {a0 a1 a2 a3 b0 b1 b2 b3 : Int} (ha0 : W a0) (ha1 : W a1) (ha2 : W a2) (ha3 : W a3) (hb0 : W b0) (hb1 : W b1) (hb2 : W b2) (hb3 : W b3) :
    (∀ x ∈ muLo a0 a1 a2 a3 b0 b1 b2 b3, W x) ∧ (∀ x ∈ muHi a0 a1 a2 a3 b0 b1 b2 b3, W x) ∧ val [a0, a1, a2, a3] * val [b0, b1, b2, b3] = val (muLo a0 a1 a2 a3 b0 b1 b2 b3) + M6 * val (muHi a0 a1 a2 a3 b0 b1 b2 b3) := by
  have z : W 0 := by unfold W; omega
  obtain ⟨⟨u0, u1, u2, u3, u4⟩, e1⟩ := rw_spec ha0 hb0 hb1 hb2 hb3 z z z z
  obtain ⟨⟨v0, v1, v2, v3, v4⟩, e2⟩ := rw_spec ha1 hb0 hb1 hb2 hb3 u1 u2 u3 u4
  obtain ⟨⟨w0, w1, w2, w3, w4⟩, e3⟩ := rw_spec ha2 hb0 hb1 hb2 hb3 v1 v2 v3 v4
  obtain ⟨⟨x0, x1, x2, x3, x4⟩, e4⟩ := rw_spec ha3 hb0 hb1 hb2 hb3 w1 w2 w3 w4
  have e6 : val [a0, a1, a2, a3] * val [b0, b1, b2, b3] = (a0 * b0 + 18446744073709551616 * (a0 * b1) + 340282366920938463463374607431768211456 * (a0 * b2) + 6277101735386680763835789423207666416102355444464034512896 * (a0 * b3)) + 18446744073709551616 * (a1 * b0 + 18446744073709551616 * (a1 * b1) + 340282366920938463463374607431768211456 * (a1 * b2) + 6277101735386680763835789423207666416102355444464034512896 * (a1 * b3)) + 340282366920938463463374607431768211456 * (a2 * b0 + 18446744073709551616 * (a2 * b1) + 340282366920938463463374607431768211456 * (a2 * b2) + 6277101735386680763835789423207666416102355444464034512896 * (a2 * b3)) + 6277101735386680763835789423207666416102355444464034512896 * (a3 * b0 + 18446744073709551616 * (a3 * b1) + 340282366920938463463374607431768211456 * (a3 * b2) + 6277101735386680763835789423207666416102355444464034512896 * (a3 * b3)) := by
    unfold val
    simp only [List.getD_cons_zero, List.getD_cons_succ]
    grind
  refine ⟨?_, ?_, ?_⟩
  · unfold muLo r4 r3 r2 r1
    simp only [List.forall_mem_cons, List.not_mem_nil, false_implies, implies_true, and_true]
    exact ⟨u0, v0, w0, x0⟩
  · unfold muHi r4 r3 r2 r1
    simp only [List.forall_mem_cons, List.not_mem_nil, false_implies, implies_true, and_true]
    exact ⟨x1, x2, x3, x4⟩
  rw [e6]
  unfold muLo muHi val M6
  simp only [List.getD_cons_zero, List.getD_cons_succ]
  unfold r4 r3 r2 r1 at *
  generalize hR1 : rwR a0 b0 b1 b2 b3 0 0 0 0 = R1 at *
  generalize hR2 : rwR a1 b0 b1 b2 b3 R1.y1 R1.y2 R1.y3 R1.c = R2 at *
  generalize hR3 : rwR a2 b0 b1 b2 b3 R2.y1 R2.y2 R2.y3 R2.c = R3 at *
  generalize hR4 : rwR a3 b0 b1 b2 b3 R3.y1 R3.y2 R3.y3 R3.c = R4 at *
  clear hR1 hR2 hR3 hR4 u0 u1 u2 u3 u4 v0 v1 v2 v3 v4 w0 w1 w2 w3 w4 x0 x1 x2 x3 x4 ha0 ha1 ha2 ha3 hb0 hb1 hb2 hb3 z
  omega
/-- A product's columns, as they are reckoned. -/
def colE : List Int → List Int → List Int
  | [a0, a1, a2, a3, a4, a5, a6, a7], [h0, h1, h2, h3, h4, h5, h6, h7] => [IntKind.i64.wrap (IntKind.i64.wrap (IntKind.i64.wrap (IntKind.i64.wrap (IntKind.i64.wrap (IntKind.i64.wrap (a0 + h0) + h1) - h3) - h4) - h5) - h6), IntKind.i64.wrap (IntKind.i64.wrap (IntKind.i64.wrap (IntKind.i64.wrap (IntKind.i64.wrap (IntKind.i64.wrap (a1 + h1) + h2) - h4) - h5) - h6) - h7), IntKind.i64.wrap (IntKind.i64.wrap (IntKind.i64.wrap (IntKind.i64.wrap (IntKind.i64.wrap (a2 + h2) + h3) - h5) - h6) - h7), IntKind.i64.wrap (IntKind.i64.wrap (IntKind.i64.wrap (IntKind.i64.wrap (IntKind.i64.wrap (IntKind.i64.wrap (a3 + IntKind.i64.wrap (2 * h3)) + IntKind.i64.wrap (2 * h4)) + h5) - h7) - h0) - h1), IntKind.i64.wrap (IntKind.i64.wrap (IntKind.i64.wrap (IntKind.i64.wrap (IntKind.i64.wrap (a4 + IntKind.i64.wrap (2 * h4)) + IntKind.i64.wrap (2 * h5)) + h6) - h1) - h2), IntKind.i64.wrap (IntKind.i64.wrap (IntKind.i64.wrap (IntKind.i64.wrap (IntKind.i64.wrap (a5 + IntKind.i64.wrap (2 * h5)) + IntKind.i64.wrap (2 * h6)) + h7) - h2) - h3), IntKind.i64.wrap (IntKind.i64.wrap (IntKind.i64.wrap (IntKind.i64.wrap (IntKind.i64.wrap (a6 + IntKind.i64.wrap (3 * h6)) + IntKind.i64.wrap (2 * h7)) + h5) - h0) - h1), IntKind.i64.wrap (IntKind.i64.wrap (IntKind.i64.wrap (IntKind.i64.wrap (IntKind.i64.wrap (IntKind.i64.wrap (a7 + IntKind.i64.wrap (3 * h7)) + h0) - h2) - h3) - h4) - h5)]
  | l, _ => l
theorem col_eq {a0 a1 a2 a3 a4 a5 a6 a7 h0 h1 h2 h3 h4 h5 h6 h7 : Int} (ha : ∀ x ∈ [a0, a1, a2, a3, a4, a5, a6, a7], D32 x) (hh : ∀ x ∈ [h0, h1, h2, h3, h4, h5, h6, h7], D32 x) :
    colE [a0, a1, a2, a3, a4, a5, a6, a7] [h0, h1, h2, h3, h4, h5, h6, h7] = [a0 + h0 + h1 - h3 - h4 - h5 - h6, a1 + h1 + h2 - h4 - h5 - h6 - h7, a2 + h2 + h3 - h5 - h6 - h7, a3 + 2 * h3 + 2 * h4 + h5 - h7 - h0 - h1, a4 + 2 * h4 + 2 * h5 + h6 - h1 - h2, a5 + 2 * h5 + 2 * h6 + h7 - h2 - h3, a6 + 3 * h6 + 2 * h7 + h5 - h0 - h1, a7 + 3 * h7 + h0 - h2 - h3 - h4 - h5] ∧ (∀ x ∈ [a0 + h0 + h1 - h3 - h4 - h5 - h6, a1 + h1 + h2 - h4 - h5 - h6 - h7, a2 + h2 + h3 - h5 - h6 - h7, a3 + 2 * h3 + 2 * h4 + h5 - h7 - h0 - h1, a4 + 2 * h4 + 2 * h5 + h6 - h1 - h2, a5 + 2 * h5 + 2 * h6 + h7 - h2 - h3, a6 + 3 * h6 + 2 * h7 + h5 - h0 - h1, a7 + 3 * h7 + h0 - h2 - h3 - h4 - h5], Sm x) ∧ -8 * M6 ≤ v32 [a0 + h0 + h1 - h3 - h4 - h5 - h6, a1 + h1 + h2 - h4 - h5 - h6 - h7, a2 + h2 + h3 - h5 - h6 - h7, a3 + 2 * h3 + 2 * h4 + h5 - h7 - h0 - h1, a4 + 2 * h4 + 2 * h5 + h6 - h1 - h2, a5 + 2 * h5 + 2 * h6 + h7 - h2 - h3, a6 + 3 * h6 + 2 * h7 + h5 - h0 - h1, a7 + 3 * h7 + h0 - h2 - h3 - h4 - h5] ∧ v32 [a0 + h0 + h1 - h3 - h4 - h5 - h6, a1 + h1 + h2 - h4 - h5 - h6 - h7, a2 + h2 + h3 - h5 - h6 - h7, a3 + 2 * h3 + 2 * h4 + h5 - h7 - h0 - h1, a4 + 2 * h4 + 2 * h5 + h6 - h1 - h2, a5 + 2 * h5 + 2 * h6 + h7 - h2 - h3, a6 + 3 * h6 + 2 * h7 + h5 - h0 - h1, a7 + 3 * h7 + h0 - h2 - h3 - h4 - h5] < 8 * M6 := by
  simp only [List.forall_mem_cons, List.not_mem_nil, false_implies, implies_true, and_true] at ha hh
  obtain ⟨p0, p1, p2, p3, p4, p5, p6, p7⟩ := ha
  obtain ⟨q0, q1, q2, q3, q4, q5, q6, q7⟩ := hh
  unfold D32 at *
  refine ⟨?_, ?_, ?_, ?_⟩
  · unfold colE
    simp only [List.cons.injEq, and_true]
    refine ⟨?_, ?_, ?_, ?_, ?_, ?_, ?_, ?_⟩
    · rw [i64_id (z := a0 + h0) (by omega), i64_id (z := a0 + h0 + h1) (by omega), i64_id (z := a0 + h0 + h1 - h3) (by omega), i64_id (z := a0 + h0 + h1 - h3 - h4) (by omega), i64_id (z := a0 + h0 + h1 - h3 - h4 - h5) (by omega), i64_id (z := a0 + h0 + h1 - h3 - h4 - h5 - h6) (by omega)]
    · rw [i64_id (z := a1 + h1) (by omega), i64_id (z := a1 + h1 + h2) (by omega), i64_id (z := a1 + h1 + h2 - h4) (by omega), i64_id (z := a1 + h1 + h2 - h4 - h5) (by omega), i64_id (z := a1 + h1 + h2 - h4 - h5 - h6) (by omega), i64_id (z := a1 + h1 + h2 - h4 - h5 - h6 - h7) (by omega)]
    · rw [i64_id (z := a2 + h2) (by omega), i64_id (z := a2 + h2 + h3) (by omega), i64_id (z := a2 + h2 + h3 - h5) (by omega), i64_id (z := a2 + h2 + h3 - h5 - h6) (by omega), i64_id (z := a2 + h2 + h3 - h5 - h6 - h7) (by omega)]
    · rw [i64_id (z := 2 * h3) (by omega), i64_id (z := a3 + 2 * h3) (by omega), i64_id (z := 2 * h4) (by omega), i64_id (z := a3 + 2 * h3 + 2 * h4) (by omega), i64_id (z := a3 + 2 * h3 + 2 * h4 + h5) (by omega), i64_id (z := a3 + 2 * h3 + 2 * h4 + h5 - h7) (by omega), i64_id (z := a3 + 2 * h3 + 2 * h4 + h5 - h7 - h0) (by omega), i64_id (z := a3 + 2 * h3 + 2 * h4 + h5 - h7 - h0 - h1) (by omega)]
    · rw [i64_id (z := 2 * h4) (by omega), i64_id (z := a4 + 2 * h4) (by omega), i64_id (z := 2 * h5) (by omega), i64_id (z := a4 + 2 * h4 + 2 * h5) (by omega), i64_id (z := a4 + 2 * h4 + 2 * h5 + h6) (by omega), i64_id (z := a4 + 2 * h4 + 2 * h5 + h6 - h1) (by omega), i64_id (z := a4 + 2 * h4 + 2 * h5 + h6 - h1 - h2) (by omega)]
    · rw [i64_id (z := 2 * h5) (by omega), i64_id (z := a5 + 2 * h5) (by omega), i64_id (z := 2 * h6) (by omega), i64_id (z := a5 + 2 * h5 + 2 * h6) (by omega), i64_id (z := a5 + 2 * h5 + 2 * h6 + h7) (by omega), i64_id (z := a5 + 2 * h5 + 2 * h6 + h7 - h2) (by omega), i64_id (z := a5 + 2 * h5 + 2 * h6 + h7 - h2 - h3) (by omega)]
    · rw [i64_id (z := 3 * h6) (by omega), i64_id (z := a6 + 3 * h6) (by omega), i64_id (z := 2 * h7) (by omega), i64_id (z := a6 + 3 * h6 + 2 * h7) (by omega), i64_id (z := a6 + 3 * h6 + 2 * h7 + h5) (by omega), i64_id (z := a6 + 3 * h6 + 2 * h7 + h5 - h0) (by omega), i64_id (z := a6 + 3 * h6 + 2 * h7 + h5 - h0 - h1) (by omega)]
    · rw [i64_id (z := 3 * h7) (by omega), i64_id (z := a7 + 3 * h7) (by omega), i64_id (z := a7 + 3 * h7 + h0) (by omega), i64_id (z := a7 + 3 * h7 + h0 - h2) (by omega), i64_id (z := a7 + 3 * h7 + h0 - h2 - h3) (by omega), i64_id (z := a7 + 3 * h7 + h0 - h2 - h3 - h4) (by omega), i64_id (z := a7 + 3 * h7 + h0 - h2 - h3 - h4 - h5) (by omega)]
  · unfold Sm
    simp only [List.forall_mem_cons, List.not_mem_nil, false_implies, implies_true, and_true]
    omega
  · unfold v32 v32 v32 v32 v32 v32 v32 v32 v32 M6
    omega
  · unfold v32 v32 v32 v32 v32 v32 v32 v32 v32 M6
    omega
def adE : List Int → List Int → List Int
  | [a0, a1, a2, a3, a4, a5, a6, a7], [h0, h1, h2, h3, h4, h5, h6, h7] => [IntKind.i64.wrap (a0 + h0), IntKind.i64.wrap (a1 + h1), IntKind.i64.wrap (a2 + h2), IntKind.i64.wrap (a3 + h3), IntKind.i64.wrap (a4 + h4), IntKind.i64.wrap (a5 + h5), IntKind.i64.wrap (a6 + h6), IntKind.i64.wrap (a7 + h7)]
  | l, _ => l
def sbE : List Int → List Int → List Int
  | [a0, a1, a2, a3, a4, a5, a6, a7], [h0, h1, h2, h3, h4, h5, h6, h7] => [IntKind.i64.wrap (a0 - h0), IntKind.i64.wrap (a1 - h1), IntKind.i64.wrap (a2 - h2), IntKind.i64.wrap (a3 - h3), IntKind.i64.wrap (a4 - h4), IntKind.i64.wrap (a5 - h5), IntKind.i64.wrap (a6 - h6), IntKind.i64.wrap (a7 - h7)]
  | l, _ => l
theorem ad_eq {a0 a1 a2 a3 a4 a5 a6 a7 h0 h1 h2 h3 h4 h5 h6 h7 : Int} (ha : ∀ x ∈ [a0, a1, a2, a3, a4, a5, a6, a7], D32 x) (hh : ∀ x ∈ [h0, h1, h2, h3, h4, h5, h6, h7], D32 x) :
    (∀ x ∈ adE [a0, a1, a2, a3, a4, a5, a6, a7] [h0, h1, h2, h3, h4, h5, h6, h7], Sm x) ∧ v32 (adE [a0, a1, a2, a3, a4, a5, a6, a7] [h0, h1, h2, h3, h4, h5, h6, h7]) = v32 [a0, a1, a2, a3, a4, a5, a6, a7] + v32 [h0, h1, h2, h3, h4, h5, h6, h7] := by
  simp only [List.forall_mem_cons, List.not_mem_nil, false_implies, implies_true, and_true] at ha hh
  obtain ⟨p0, p1, p2, p3, p4, p5, p6, p7⟩ := ha
  obtain ⟨q0, q1, q2, q3, q4, q5, q6, q7⟩ := hh
  unfold D32 at *
  unfold adE
  simp only
  rw [i64_id (z := a0 + h0) (by omega), i64_id (z := a1 + h1) (by omega), i64_id (z := a2 + h2) (by omega), i64_id (z := a3 + h3) (by omega), i64_id (z := a4 + h4) (by omega), i64_id (z := a5 + h5) (by omega), i64_id (z := a6 + h6) (by omega), i64_id (z := a7 + h7) (by omega)]
  refine ⟨?_, ?_⟩
  · unfold Sm
    simp only [List.forall_mem_cons, List.not_mem_nil, false_implies, implies_true, and_true]
    omega
  · simp only [v32]
    omega
theorem sb_eq {a0 a1 a2 a3 a4 a5 a6 a7 h0 h1 h2 h3 h4 h5 h6 h7 : Int} (ha : ∀ x ∈ [a0, a1, a2, a3, a4, a5, a6, a7], D32 x) (hh : ∀ x ∈ [h0, h1, h2, h3, h4, h5, h6, h7], D32 x) :
    (∀ x ∈ sbE [a0, a1, a2, a3, a4, a5, a6, a7] [h0, h1, h2, h3, h4, h5, h6, h7], Sm x) ∧ v32 (sbE [a0, a1, a2, a3, a4, a5, a6, a7] [h0, h1, h2, h3, h4, h5, h6, h7]) = v32 [a0, a1, a2, a3, a4, a5, a6, a7] - v32 [h0, h1, h2, h3, h4, h5, h6, h7] := by
  simp only [List.forall_mem_cons, List.not_mem_nil, false_implies, implies_true, and_true] at ha hh
  obtain ⟨p0, p1, p2, p3, p4, p5, p6, p7⟩ := ha
  obtain ⟨q0, q1, q2, q3, q4, q5, q6, q7⟩ := hh
  unfold D32 at *
  unfold sbE
  simp only
  rw [i64_id (z := a0 - h0) (by omega), i64_id (z := a1 - h1) (by omega), i64_id (z := a2 - h2) (by omega), i64_id (z := a3 - h3) (by omega), i64_id (z := a4 - h4) (by omega), i64_id (z := a5 - h5) (by omega), i64_id (z := a6 - h6) (by omega), i64_id (z := a7 - h7) (by omega)]
  refine ⟨?_, ?_⟩
  · unfold Sm
    simp only [List.forall_mem_cons, List.not_mem_nil, false_implies, implies_true, and_true]
    omega
  · simp only [v32]
    omega
end Go.We
