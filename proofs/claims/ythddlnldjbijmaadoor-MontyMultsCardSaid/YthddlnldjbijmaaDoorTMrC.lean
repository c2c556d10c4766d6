/- The reference of layer 9: products modulo the prime. Own work. -/
import Derived.Test.YthddlnldjbijmaaDoorTMrB
set_option linter.unusedSimpArgs false
set_option linter.unusedVariables false
set_option linter.unusedSectionVars false
namespace Go.Mo
open Go.Ev Go.Wn
theorem low_mod {x v : Int} (hx : 0 ≤ x ∧ x < WW) (hv : 0 ≤ v ∧ v < 1000) : (0 ≤ lowI x v ∧ lowI x v < WW) ∧ lowI x v % pN = (x + v * WW) % pN := by
  unfold lowI WW pN at *
  refine ⟨by split <;> omega, by split <;> omega⟩
def pY (a b t c : Int) : Int := ((a * b % 18446744073709551616 + t + 0) % 18446744073709551616 + c + 0) % 18446744073709551616
def pC (a b t c : Int) : Int := IntKind.u64.wrap (IntKind.u64.wrap (a * b / 18446744073709551616 + (a * b % 18446744073709551616 + t + 0) / 18446744073709551616) + ((a * b % 18446744073709551616 + t + 0) % 18446744073709551616 + c + 0) / 18446744073709551616)
theorem pYC {a b t c : Int} (ha : W a) (hb : W b) (ht : W t) (hc : W c) : W (pY a b t c) ∧ W (pC a b t c) ∧ a * b + t + c = 18446744073709551616 * pC a b t c + pY a b t c := by
  obtain ⟨_, e1, e2⟩ := prod_eq ha hb ht hc
  obtain ⟨h1, h2, h3⟩ := p_spec ha hb ht hc
  unfold pY pC
  rw [e1, e2]
  exact ⟨h2, h1, h3⟩
/-- A row: a word times four, and four words on. -/
structure Rw where
  y0 : Int
  y1 : Int
  y2 : Int
  y3 : Int
  c : Int
def rwR (a b0 b1 b2 b3 t0 t1 t2 t3 : Int) : Rw :=
  ⟨pY a b0 t0 0, pY a b1 t1 (pC a b0 t0 0), pY a b2 t2 (pC a b1 t1 (pC a b0 t0 0)), pY a b3 t3 (pC a b2 t2 (pC a b1 t1 (pC a b0 t0 0))), pC a b3 t3 (pC a b2 t2 (pC a b1 t1 (pC a b0 t0 0)))⟩
theorem rw_spec {a b0 b1 b2 b3 t0 t1 t2 t3 : Int} (ha : W a) (h0 : W b0) (h1 : W b1) (h2 : W b2) (h3 : W b3) (k0 : W t0) (k1 : W t1) (k2 : W t2) (k3 : W t3) :
    (W (rwR a b0 b1 b2 b3 t0 t1 t2 t3).y0 ∧ W (rwR a b0 b1 b2 b3 t0 t1 t2 t3).y1 ∧ W (rwR a b0 b1 b2 b3 t0 t1 t2 t3).y2 ∧ W (rwR a b0 b1 b2 b3 t0 t1 t2 t3).y3 ∧ W (rwR a b0 b1 b2 b3 t0 t1 t2 t3).c) ∧
    (rwR a b0 b1 b2 b3 t0 t1 t2 t3).y0 + 18446744073709551616 * (rwR a b0 b1 b2 b3 t0 t1 t2 t3).y1 + 340282366920938463463374607431768211456 * (rwR a b0 b1 b2 b3 t0 t1 t2 t3).y2 + 6277101735386680763835789423207666416102355444464034512896 * (rwR a b0 b1 b2 b3 t0 t1 t2 t3).y3 + 115792089237316195423570985008687907853269984665640564039457584007913129639936 * (rwR a b0 b1 b2 b3 t0 t1 t2 t3).c =
      a * b0 + 18446744073709551616 * (a * b1) + 340282366920938463463374607431768211456 * (a * b2) + 6277101735386680763835789423207666416102355444464034512896 * (a * b3) + (t0 + 18446744073709551616 * t1 + 340282366920938463463374607431768211456 * t2 + 6277101735386680763835789423207666416102355444464034512896 * t3) := by
  have z : W 0 := by unfold W; omega
  obtain ⟨w0, v0, e0⟩ := pYC ha h0 k0 z
  obtain ⟨w1, v1, e1⟩ := pYC ha h1 k1 v0
  obtain ⟨w2, v2, e2⟩ := pYC ha h2 k2 v1
  obtain ⟨w3, v3, e3⟩ := pYC ha h3 k3 v2
  refine ⟨⟨w0, w1, w2, w3, v3⟩, ?_⟩
  unfold rwR
  simp only
  generalize pC a b3 t3 (pC a b2 t2 (pC a b1 t1 (pC a b0 t0 0))) = c4 at *
  generalize pY a b3 t3 (pC a b2 t2 (pC a b1 t1 (pC a b0 t0 0))) = y3 at *
  generalize pC a b2 t2 (pC a b1 t1 (pC a b0 t0 0)) = c3 at *
  generalize pY a b2 t2 (pC a b1 t1 (pC a b0 t0 0)) = y2 at *
  generalize pC a b1 t1 (pC a b0 t0 0) = c2 at *
  generalize pY a b1 t1 (pC a b0 t0 0) = y1 at *
  generalize pC a b0 t0 0 = c1 at *
  generalize pY a b0 t0 0 = y0 at *
  generalize a * b0 = m0 at *
  generalize a * b1 = m1 at *
  generalize a * b2 = m2 at *
  generalize a * b3 = m3 at *
  clear w0 w1 w2 w3 v0 v1 v2 v3 ha h0 h1 h2 h3 k0 k1 k2 k3
  omega
def r1 (a0 b0 b1 b2 b3 : Int) : Rw := rwR a0 b0 b1 b2 b3 0 0 0 0
def r2 (a0 a1 b0 b1 b2 b3 : Int) : Rw := rwR a1 b0 b1 b2 b3 (r1 a0 b0 b1 b2 b3).y1 (r1 a0 b0 b1 b2 b3).y2 (r1 a0 b0 b1 b2 b3).y3 (r1 a0 b0 b1 b2 b3).c
def r3 (a0 a1 a2 b0 b1 b2 b3 : Int) : Rw := rwR a2 b0 b1 b2 b3 (r2 a0 a1 b0 b1 b2 b3).y1 (r2 a0 a1 b0 b1 b2 b3).y2 (r2 a0 a1 b0 b1 b2 b3).y3 (r2 a0 a1 b0 b1 b2 b3).c
def r4 (a0 a1 a2 a3 b0 b1 b2 b3 : Int) : Rw := rwR a3 b0 b1 b2 b3 (r3 a0 a1 a2 b0 b1 b2 b3).y1 (r3 a0 a1 a2 b0 b1 b2 b3).y2 (r3 a0 a1 a2 b0 b1 b2 b3).y3 (r3 a0 a1 a2 b0 b1 b2 b3).c
/-- The high half 38 times on the low one. -/
def fdR (l0 l1 l2 l3 h0 h1 h2 h3 : Int) : Rw :=
  ⟨pY h0 38 0 l0, pY h1 38 (pC h0 38 0 l0) l1, pY h2 38 (pC h1 38 (pC h0 38 0 l0) l1) l2, pY h3 38 (pC h2 38 (pC h1 38 (pC h0 38 0 l0) l1) l2) l3, pC h3 38 (pC h2 38 (pC h1 38 (pC h0 38 0 l0) l1) l2) l3⟩
def muR (a0 a1 a2 a3 b0 b1 b2 b3 : Int) : Rw := fdR (r1 a0 b0 b1 b2 b3).y0 (r2 a0 a1 b0 b1 b2 b3).y0 (r3 a0 a1 a2 b0 b1 b2 b3).y0 (r4 a0 a1 a2 a3 b0 b1 b2 b3).y0 (r4 a0 a1 a2 a3 b0 b1 b2 b3).y1 (r4 a0 a1 a2 a3 b0 b1 b2 b3).y2 (r4 a0 a1 a2 a3 b0 b1 b2 b3).y3 (r4 a0 a1 a2 a3 b0 b1 b2 b3).c
theorem fd_spec {l0 l1 l2 l3 h0 h1 h2 h3 : Int} (w0 : W l0) (w1 : W l1) (w2 : W l2) (w3 : W l3) (k0 : W h0) (k1 : W h1) (k2 : W h2) (k3 : W h3) :
    (W (fdR l0 l1 l2 l3 h0 h1 h2 h3).y0 ∧ W (fdR l0 l1 l2 l3 h0 h1 h2 h3).y1 ∧ W (fdR l0 l1 l2 l3 h0 h1 h2 h3).y2 ∧ W (fdR l0 l1 l2 l3 h0 h1 h2 h3).y3 ∧ 0 ≤ (fdR l0 l1 l2 l3 h0 h1 h2 h3).c ∧ (fdR l0 l1 l2 l3 h0 h1 h2 h3).c < 1000) ∧
    (fdR l0 l1 l2 l3 h0 h1 h2 h3).y0 + 18446744073709551616 * (fdR l0 l1 l2 l3 h0 h1 h2 h3).y1 + 340282366920938463463374607431768211456 * (fdR l0 l1 l2 l3 h0 h1 h2 h3).y2 + 6277101735386680763835789423207666416102355444464034512896 * (fdR l0 l1 l2 l3 h0 h1 h2 h3).y3 + 115792089237316195423570985008687907853269984665640564039457584007913129639936 * (fdR l0 l1 l2 l3 h0 h1 h2 h3).c =
      (l0 + 18446744073709551616 * l1 + 340282366920938463463374607431768211456 * l2 + 6277101735386680763835789423207666416102355444464034512896 * l3) + 38 * (h0 + 18446744073709551616 * h1 + 340282366920938463463374607431768211456 * h2 + 6277101735386680763835789423207666416102355444464034512896 * h3) := by
  have z : W 0 := by unfold W; omega
  have q : W 38 := by unfold W; omega
  obtain ⟨x0, v0, e0⟩ := pYC k0 q z w0
  obtain ⟨x1, v1, e1⟩ := pYC k1 q v0 w1
  obtain ⟨x2, v2, e2⟩ := pYC k2 q v1 w2
  obtain ⟨x3, v3, e3⟩ := pYC k3 q v2 w3
  unfold fdR
  simp only
  generalize pC h3 38 (pC h2 38 (pC h1 38 (pC h0 38 0 l0) l1) l2) l3 = c4 at *
  generalize pY h3 38 (pC h2 38 (pC h1 38 (pC h0 38 0 l0) l1) l2) l3 = y3 at *
  generalize pC h2 38 (pC h1 38 (pC h0 38 0 l0) l1) l2 = c3 at *
  generalize pY h2 38 (pC h1 38 (pC h0 38 0 l0) l1) l2 = y2 at *
  generalize pC h1 38 (pC h0 38 0 l0) l1 = c2 at *
  generalize pY h1 38 (pC h0 38 0 l0) l1 = y1 at *
  generalize pC h0 38 0 l0 = c1 at *
  generalize pY h0 38 0 l0 = y0 at *
  refine ⟨⟨x0, x1, x2, x3, v3.1, ?_⟩, ?_⟩
  · unfold W at *
    omega
  · clear x0 x1 x2 x3 v0 v1 v2 v3 w0 w1 w2 w3 k0 k1 k2 k3
    omega
theorem mu_spec {a0 a1 a2 a3 b0 b1 b2 b3 : Int} (ha0 : W a0) (ha1 : W a1) (ha2 : W a2) (ha3 : W a3) (hb0 : W b0) (hb1 : W b1) (hb2 : W b2) (hb3 : W b3) :
    (0 ≤ (muR a0 a1 a2 a3 b0 b1 b2 b3).c ∧ (muR a0 a1 a2 a3 b0 b1 b2 b3).c < 1000) ∧
    (val [(muR a0 a1 a2 a3 b0 b1 b2 b3).y0, (muR a0 a1 a2 a3 b0 b1 b2 b3).y1, (muR a0 a1 a2 a3 b0 b1 b2 b3).y2, (muR a0 a1 a2 a3 b0 b1 b2 b3).y3] + (muR a0 a1 a2 a3 b0 b1 b2 b3).c * WW) % pN = (val [a0, a1, a2, a3] * val [b0, b1, b2, b3]) % pN := by
  have z : W 0 := by unfold W; omega
  obtain ⟨⟨u0, u1, u2, u3, u4⟩, e1⟩ := rw_spec ha0 hb0 hb1 hb2 hb3 z z z z
  obtain ⟨⟨v0, v1, v2, v3, v4⟩, e2⟩ := rw_spec ha1 hb0 hb1 hb2 hb3 u1 u2 u3 u4
  obtain ⟨⟨w0, w1, w2, w3, w4⟩, e3⟩ := rw_spec ha2 hb0 hb1 hb2 hb3 v1 v2 v3 v4
  obtain ⟨⟨x0, x1, x2, x3, x4⟩, e4⟩ := rw_spec ha3 hb0 hb1 hb2 hb3 w1 w2 w3 w4
  obtain ⟨⟨y0, y1, y2, y3, y4⟩, e5⟩ := fd_spec u0 v0 w0 x0 x1 x2 x3 x4
  refine ⟨y4, ?_⟩
  have e6 : val [a0, a1, a2, a3] * val [b0, b1, b2, b3] = (a0 * b0 + 18446744073709551616 * (a0 * b1) + 340282366920938463463374607431768211456 * (a0 * b2) + 6277101735386680763835789423207666416102355444464034512896 * (a0 * b3)) + 18446744073709551616 * (a1 * b0 + 18446744073709551616 * (a1 * b1) + 340282366920938463463374607431768211456 * (a1 * b2) + 6277101735386680763835789423207666416102355444464034512896 * (a1 * b3)) + 340282366920938463463374607431768211456 * (a2 * b0 + 18446744073709551616 * (a2 * b1) + 340282366920938463463374607431768211456 * (a2 * b2) + 6277101735386680763835789423207666416102355444464034512896 * (a2 * b3)) + 6277101735386680763835789423207666416102355444464034512896 * (a3 * b0 + 18446744073709551616 * (a3 * b1) + 340282366920938463463374607431768211456 * (a3 * b2) + 6277101735386680763835789423207666416102355444464034512896 * (a3 * b3)) := by
    unfold val
    simp only [List.getD_cons_zero, List.getD_cons_succ]
    grind
  rw [e6]
  unfold muR val
  simp only [List.getD_cons_zero, List.getD_cons_succ]
  unfold r4 r3 r2 r1 at *
  generalize hR1 : rwR a0 b0 b1 b2 b3 0 0 0 0 = R1 at *
  generalize hR2 : rwR a1 b0 b1 b2 b3 R1.y1 R1.y2 R1.y3 R1.c = R2 at *
  generalize hR3 : rwR a2 b0 b1 b2 b3 R2.y1 R2.y2 R2.y3 R2.c = R3 at *
  generalize hR4 : rwR a3 b0 b1 b2 b3 R3.y1 R3.y2 R3.y3 R3.c = R4 at *
  generalize fdR R1.y0 R2.y0 R3.y0 R4.y0 R4.y1 R4.y2 R4.y3 R4.c = R5 at *
  clear hR1 hR2 hR3 hR4 u0 u1 u2 u3 u4 v0 v1 v2 v3 v4 w0 w1 w2 w3 w4 x0 x1 x2 x3 x4 y0 y1 y2 y3 y4 ha0 ha1 ha2 ha3 hb0 hb1 hb2 hb3 z
  rw [← Int.sub_zero (a0 * b0 + _ + _ + _)] at *
  unfold WW pN
  omega
end Go.Mo
