/- The reference of layer 9: products modulo the prime. Own work. -/
import Derived.Test.YthelmpjkkkhopaaDoorPMrB
set_option linter.unusedSimpArgs false
set_option linter.unusedVariables false
set_option linter.unusedSectionVars false
namespace Go.Mo
open Go.Ev Go.Wn
theorem low_mod {x v : Int} (hx : 0 ≤ x ∧ x < WW) (hv : 0 ≤ v ∧ v < 1000) : (0 ≤ lowI x v ∧ lowI x v < WW) ∧ lowI x v % pN = (x + v * WW) % pN := by
  unfold lowI WW pN at *
  refine ⟨by split <;> omega, by split <;> omega⟩
def pYy (a b t c : Int) : Int := ((a * b % 18446744073709551616 + t + 0) % 18446744073709551616 + c + 0) % 18446744073709551616
def pCc (a b t c : Int) : Int := IntKind.u64.wrap (IntKind.u64.wrap (a * b / 18446744073709551616 + (a * b % 18446744073709551616 + t + 0) / 18446744073709551616) + ((a * b % 18446744073709551616 + t + 0) % 18446744073709551616 + c + 0) / 18446744073709551616)
theorem pYC {a b t c : Int} (ha : W a) (hb : W b) (ht : W t) (hc : W c) : W (pYy a b t c) ∧ W (pCc a b t c) ∧ a * b + t + c = 18446744073709551616 * pCc a b t c + pYy a b t c := by
  obtain ⟨_, e1, e2⟩ := prod_eq ha hb ht hc
  obtain ⟨h1, h2, h3⟩ := p_spec ha hb ht hc
  unfold pYy pCc
  rw [e1, e2]
  exact ⟨h2, h1, h3⟩
/-- A row: a word times four, and four words on. -/
structure Rw where
  y0 : Int
  y1 : Int
  y2 : Int
  y3 : Int
  c : Int
def rwR (a b0 b1 b2 b3 t0 t1 t2 t3 : Int) : Rw :=
  ⟨pYy a b0 t0 0, pYy a b1 t1 (pCc a b0 t0 0), pYy a b2 t2 (pCc a b1 t1 (pCc a b0 t0 0)), pYy a b3 t3 (pCc a b2 t2 (pCc a b1 t1 (pCc a b0 t0 0))), pCc a b3 t3 (pCc a b2 t2 (pCc a b1 t1 (pCc a b0 t0 0)))⟩
theorem rw_spec {a b0 b1 b2 b3 t0 t1 t2 t3 : Int} (ha : W a) (h0 : W b0) (h1 : W b1) (h2 : W b2) (h3 : W b3) (k0 : W t0) (k1 : W t1) (k2 : W t2) (k3 : W t3) :
    (W (rwR a b0 b1 b2 b3 t0 t1 t2 t3).y0 ∧ W (rwR a b0 b1 b2 b3 t0 t1 t2 t3).y1 ∧ W (rwR a b0 b1 b2 b3 t0 t1 t2 t3).y2 ∧ W (rwR a b0 b1 b2 b3 t0 t1 t2 t3).y3 ∧ W (rwR a b0 b1 b2 b3 t0 t1 t2 t3).c) ∧
    (rwR a b0 b1 b2 b3 t0 t1 t2 t3).y0 + 18446744073709551616 * (rwR a b0 b1 b2 b3 t0 t1 t2 t3).y1 + 340282366920938463463374607431768211456 * (rwR a b0 b1 b2 b3 t0 t1 t2 t3).y2 + 6277101735386680763835789423207666416102355444464034512896 * (rwR a b0 b1 b2 b3 t0 t1 t2 t3).y3 + 115792089237316195423570985008687907853269984665640564039457584007913129639936 * (rwR a b0 b1 b2 b3 t0 t1 t2 t3).c =
      a * b0 + 18446744073709551616 * (a * b1) + 340282366920938463463374607431768211456 * (a * b2) + 6277101735386680763835789423207666416102355444464034512896 * (a * b3) + (t0 + 18446744073709551616 * t1 + 340282366920938463463374607431768211456 * t2 + 6277101735386680763835789423207666416102355444464034512896 * t3) := by
  have z : W 0 := by unfold W; omega
  obtain ⟨w0, v0, e0⟩ := pYC ha h0 k0 z
  obtain ⟨w1, v1, e1⟩ := pYC ha h1 k1 v0
  obtain ⟨w2, v2, e2⟩ := pYC ha h2 k2 v1
  obtain ⟨w3, v3, e3⟩ := pYC ha h3 k3 v2
  refine ⟨⟨w0, w1, w2, w3, v3⟩, ?_⟩
  unfold rwR
  simp only
  generalize pCc a b3 t3 (pCc a b2 t2 (pCc a b1 t1 (pCc a b0 t0 0))) = c4 at *
  generalize pYy a b3 t3 (pCc a b2 t2 (pCc a b1 t1 (pCc a b0 t0 0))) = y3 at *
  generalize pCc a b2 t2 (pCc a b1 t1 (pCc a b0 t0 0)) = c3 at *
  generalize pYy a b2 t2 (pCc a b1 t1 (pCc a b0 t0 0)) = y2 at *
  generalize pCc a b1 t1 (pCc a b0 t0 0) = c2 at *
  generalize pYy a b1 t1 (pCc a b0 t0 0) = y1 at *
  generalize pCc a b0 t0 0 = c1 at *
  generalize pYy a b0 t0 0 = y0 at *
  generalize a * b0 = m0 at *
  generalize a * b1 = m1 at *
  generalize a * b2 = m2 at *
  generalize a * b3 = m3 at *
  clear w0 w1 w2 w3 v0 v1 v2 v3 ha h0 h1 h2 h3 k0 k1 k2 k3
  omega
def r1 (a0 b0 b1 b2 b3 : Int) : Rw := rwR a0 b0 b1 b2 b3 0 0 0 0
def r2 (a0 a1 b0 b1 b2 b3 : Int) : Rw := rwR a1 b0 b1 b2 b3 (r1 a0 b0 b1 b2 b3).y1 (r1 a0 b0 b1 b2 b3).y2 (r1 a0 b0 b1 b2 b3).y3 (r1 a0 b0 b1 b2 b3).c
def r3 (a0 a1 a2 b0 b1 b2 b3 : Int) : Rw := rwR a2 b0 b1 b2 b3 (r2 a0 a1 b0 b1 b2 b3).y1 (r2 a0 a1 b0 b1 b2 b3).y2 (r2 a0 a1 b0 b1 b2 b3).y3 (r2 a0 a1 b0 b1 b2 b3).c
def r4 (a0 a1 a2 a3 b0 b1 b2 b3 : Int) : Rw := rwR a3 b0 b1 b2 b3 (r3 a0 a1 a2 b0 b1 b2 b3).y1 (r3 a0 a1 a2 b0 b1 b2 b3).y2 (r3 a0 a1 a2 b0 b1 b2 b3).y3 (r3 a0 a1 a2 b0 b1 b2 b3).c
/-- The high half 38 times on the low one. -/
def fdR (l0 l1 l2 l3 h0 h1 h2 h3 : Int) : Rw :=
  ⟨pYy h0 38 0 l0, pYy h1 38 (pCc h0 38 0 l0) l1, pYy h2 38 (pCc h1 38 (pCc h0 38 0 l0) l1) l2, pYy h3 38 (pCc h2 38 (pCc h1 38 (pCc h0 38 0 l0) l1) l2) l3, pCc h3 38 (pCc h2 38 (pCc h1 38 (pCc h0 38 0 l0) l1) l2) l3⟩
def muR (a0 a1 a2 a3 b0 b1 b2 b3 : Int) : Rw := fdR (r1 a0 b0 b1 b2 b3).y0 (r2 a0 a1 b0 b1 b2 b3).y0 (r3 a0 a1 a2 b0 b1 b2 b3).y0 (r4 a0 a1 a2 a3 b0 b1 b2 b3).y0 (r4 a0 a1 a2 a3 b0 b1 b2 b3).y1 (r4 a0 a1 a2 a3 b0 b1 b2 b3).y2 (r4 a0 a1 a2 a3 b0 b1 b2 b3).y3 (r4 a0 a1 a2 a3 b0 b1 b2 b3).c
theorem fd_spec {l0 l1 l2 l3 h0 h1 h2 h3 : Int} (w0 : W l0) (w1 : W l1) (w2 : W l2) (w3 : W l3) (k0 : W h0) (k1 : W h1) (k2 : W h2) (k3 : W h3) :
    (W (fdR l0 l1 l2 l3 h0 h1 h2 h3).y0 ∧ W (fdR l0 l1 l2 l3 h0 h1 h2 h3).y1 ∧ W (fdR l0 l1 l2 l3 h0 h1 h2 h3).y2 ∧ W (fdR l0 l1 l2 l3 h0 h1 h2 h3).y3 ∧ 0 ≤ (fdR l0 l1 l2 l3 h0 h1 h2 h3).c ∧ (fdR l0 l1 l2 l3 h0 h1 h2 h3).c < 1000) ∧
    (fdR l0 l1 l2 l3 h0 h1 h2 h3).y0 + 18446744073709551616 * (fdR l0 l1 l2 l3 h0 h1 h2 h3).y1 + 340282366920938463463374607431768211456 * (fdR l0 l1 l2 l3 h0 h1 h2 h3).y2 + 6277101735386680763835789423207666416102355444464034512896 * (fdR l0 l1 l2 l3 h0 h1 h2 h3).y3 + 115792089237316195423570985008687907853269984665640564039457584007913129639936 * (fdR l0 l1 l2 l3 h0 h1 h2 h3).c =
      (l0 + 18446744073709551616 * l1 + 340282366920938463463374607431768211456 * l2 + 6277101735386680763835789423207666416102355444464034512896 * l3) + 38 * (h0 + 18446744073709551616 * h1 + 340282366920938463463374607431768211456 * h2 + 6277101735386680763835789423207666416102355444464034512896 * h3) := by
  have z : W 0 := by unfold W; omega
  have q : W 38 := by unfold W; omega
  obtain ⟨x0, v0, e0⟩ := pYC k0 q z w0
  obtain ⟨x1, v1, e1⟩ := pYC k1 q v0 w1
  obtain ⟨x2, v2, e2⟩ := pYC k2 q v1 w2
  obtain ⟨x3, v3, e3⟩ := pYC k3 q v2 w3
  unfold fdR
  simp only
  generalize pCc h3 38 (pCc h2 38 (pCc h1 38 (pCc h0 38 0 l0) l1) l2) l3 = c4 at *
  generalize pYy h3 38 (pCc h2 38 (pCc h1 38 (pCc h0 38 0 l0) l1) l2) l3 = y3 at *
  generalize pCc h2 38 (pCc h1 38 (pCc h0 38 0 l0) l1) l2 = c3 at *
  generalize pYy h2 38 (pCc h1 38 (pCc h0 38 0 l0) l1) l2 = y2 at *
  generalize pCc h1 38 (pCc h0 38 0 l0) l1 = c2 at *
  generalize pYy h1 38 (pCc h0 38 0 l0) l1 = y1 at *
  generalize pCc h0 38 0 l0 = c1 at *
  generalize pYy h0 38 0 l0 = y0 at *
  refine ⟨⟨x0, x1, x2, x3, v3.1, ?_⟩, ?_⟩
  · unfold W at *
    omega
  · clear x0 x1 x2 x3 v0 v1 v2 v3 w0 w1 w2 w3 k0 k1 k2 k3
    omega
theorem mu_spec {a0 a1 a2 a3 b0 b1 b2 b3 : Int} (ha0 : W a0) (ha1 : W a1) (ha2 : W a2) (ha3 : W a3) (hb0 : W b0) (hb1 : W b1) (hb2 : W b2) (hb3 : W b3) :
    (0 ≤ (muR a0 a1 a2 a3 b0 b1 b2 b3).c ∧ (muR a0 a1 a2 a3 b0 b1 b2 b3).c < 1000) ∧
    (val [(muR a0 a1 a2 a3 b0 b1 b2 b3).y0, (muR a0 a1 a2 a3 b0 b1 b2 b3).y1, (muR a0 a1 a2 a3 b0 b1 b2 b3).y2, (muR a0 a1 a2 a3 b0 b1 b2 b3).y3] + (muR a0 a1 a2 a3 b0 b1 b2 b3).c * WW) % pN = (val [a0, a1, a2, a3] * val [b0, b1, b2, b3]) % pN := by
  have z : W 0 := by unfold W; omega
  obtain ⟨⟨u0, u1, u2, u3, u4⟩, e1⟩ := rw_spec ha0 hb0 hb1 hb2 hb3 z z z z
  obtain ⟨⟨v0, v1, v2, v3, v4⟩, e2⟩ := rw_spec ha1 hb0 hb1 hb2 hb3 u1 u2 u3 u4
  obtain ⟨⟨w0, w1, w2, w3, w4⟩, e3⟩ := rw_spec ha2 hb0 hb1 hb2 hb3 v1 v2 v3 v4
  obtain ⟨⟨x0, x1, x2, x3, x4⟩, e4⟩ := rw_spec ha3 hb0 hb1 hb2 hb3 w1 w2 w3 w4
  obtain ⟨⟨y0, y1, y2, y3, y4⟩, e5⟩ := fd_spec u0 v0 w0 x0 x1 x2 x3 x4
  refine ⟨y4, ?_⟩
  have e6 : val [a0, a1, a2, a3] * val [b0, b1, b2, b3] = (a0 * b0 + 18446744073709551616 * (a0 * b1) + 340282366920938463463374607431768211456 * (a0 * b2) + 6277101735386680763835789423207666416102355444464034512896 * (a0 * b3)) + 18446744073709551616 * (a1 * b0 + 18446744073709551616 * (a1 * b1) + 340282366920938463463374607431768211456 * (a1 * b2) + 6277101735386680763835789423207666416102355444464034512896 * (a1 * b3)) + 340282366920938463463374607431768211456 * (a2 * b0 + 18446744073709551616 * (a2 * b1) + 340282366920938463463374607431768211456 * (a2 * b2) + 6277101735386680763835789423207666416102355444464034512896 * (a2 * b3)) + 6277101735386680763835789423207666416102355444464034512896 * (a3 * b0 + 18446744073709551616 * (a3 * b1) + 340282366920938463463374607431768211456 * (a3 * b2) + 6277101735386680763835789423207666416102355444464034512896 * (a3 * b3)) := by
    unfold val
    simp only [List.getD_cons_zero, List.getD_cons_succ]
    grind
  rw [e6]
  unfold muR val
  simp only [List.getD_cons_zero, List.getD_cons_succ]
  unfold r4 r3 r2 r1 at *
  generalize hR1 : rwR a0 b0 b1 b2 b3 0 0 0 0 = R1 at *
  generalize hR2 : rwR a1 b0 b1 b2 b3 R1.y1 R1.y2 R1.y3 R1.c = R2 at *
  generalize hR3 : rwR a2 b0 b1 b2 b3 R2.y1 R2.y2 R2.y3 R2.c = R3 at *
  generalize hR4 : rwR a3 b0 b1 b2 b3 R3.y1 R3.y2 R3.y3 R3.c = R4 at *
  generalize fdR R1.y0 R2.y0 R3.y0 R4.y0 R4.y1 R4.y2 R4.y3 R4.c = R5 at *
  clear hR1 hR2 hR3 hR4 u0 u1 u2 u3 u4 v0 v1 v2 v3 v4 w0 w1 w2 w3 w4 x0 x1 x2 x3 x4 y0 y1 y2 y3 y4 ha0 ha1 ha2 ha3 hb0 hb1 hb2 hb3 z
  rw [← Int.sub_zero (a0 * b0 + _ + _ + _)] at *
  unfold WW pN
  omega
end Go.Mo
namespace Go.Proofs.YthelmpjkkkhopaaDoor
open Go.Ev Go.Wn Go.Mo
set_option maxRecDepth 100000
def lowS : List V → E (AV × Mem)
  | [.pl (.ints .u64 4 a), .pl (.int _ .u64 v)] => some ([decide (0 ≤ v), decide (v < 1000)], (.ints .u64 4 (limbs ((val a + v * WW) % pN)), []))
  | _ => none
theorem low_ok9 {xs : List V} {o : List Bool} {v : AV} {bs : Mem} (h : lowS xs = some (o, (v, bs))) (ho : Paid o) : ViewCall Tryd.prog 84 xs v bs := by
  unfold lowS at h
  split at h
  · rename_i a s v
    cases h
    have h1 := of_decide_eq_true (ho _ (List.mem_cons_self ..))
    have h2 := of_decide_eq_true (ho _ (List.mem_cons_of_mem _ (List.mem_cons_self ..)))
    intro ρ vs w ha hi
    have hb := ha
    cases hb with
    | cons _ _ _ _ r0 hb =>
      obtain ⟨a0, a1, a2, a3, rfl, w0, w1, w2, w3⟩ := num_arg r0
      have hr := val_range w0 w1 w2 w3
      have hl := limbs_of w0 w1 w2 w3
      obtain ⟨l1, l2⟩ := low_mod (x := val [a0, a1, a2, a3]) hr ⟨h1, h2⟩
      have hv : val (limbs (lowI (val [a0, a1, a2, a3]) v)) = lowI (val [a0, a1, a2, a3]) v := vl_ok l1
      have ev := low_eval a0 a1 a2 a3 v s
      refine view_of_resL mixed noCount (hr0_ok.deep (q := qn) mixed noCount 100 3) (fun fn c hf hb => by rw [bodyOf_eq hf hb]; exact lwΛ_ok) ev ?_ (by rw [hv, l2]) (by kernel_rfl) ha hi
      unfold lwO1
      rw [hv]
      exact paid_cons (decide_eq_true hl.symm) (paid_cons rfl (paid_cons (decide_eq_true h1) (paid_cons (decide_eq_true h2) (paid_cons (decide_eq_true hr.1) (paid_cons (decide_eq_true hr.2) (paid_cons (decide_eq_true rfl) (paid_cons rfl (paid_cons (decide_eq_true l1.1) (paid_cons (decide_eq_true l1.2) Paid.nil)))))))))
  · cases h
def hr1 : CallH := withV 84 lowS hr0
theorem hr1_ok : HOk Tryd.prog hr1 := hr0_ok.withV fun _ _ _ _ h ho => low_ok9 h ho
def rwl (r : Rw) : List Int := [r.y0, r.y1, r.y2, r.y3]
theorem rm_eval (a0 a1 a2 a3 b0 b1 b2 b3 : Int) : res (funcA Tryd.prog qn (deep Tryd.prog qn hr1 100 3) 200 60 [.ints .u64 4 [a0, a1, a2, a3], .ints .u64 4 [b0, b1, b2, b3]] []) =
    some (List.replicate 40 true ++ [decide (0 ≤ (muR a0 a1 a2 a3 b0 b1 b2 b3).c), decide ((muR a0 a1 a2 a3 b0 b1 b2 b3).c < 1000)], .ints .u64 4 (limbs ((val (rwl (muR a0 a1 a2 a3 b0 b1 b2 b3)) + (muR a0 a1 a2 a3 b0 b1 b2 b3).c * WW) % pN))) := by kernel_rfl
def rmS : List AV → E AV
  | [.ints .u64 4 a, .ints .u64 4 b] => some ([], .ints .u64 4 (limbs ((val a * val b) % pN)))
  | _ => none
theorem rm_ok {args : List AV} {o : List Bool} {v : AV} (h : rmS args = some (o, v)) : PureCall Tryd.prog 60 args v := by
  unfold rmS at h
  split at h
  · rename_i a b
    cases h
    intro ρ N vs ha
    have hb := ha
    cases hb with
    | cons _ _ _ _ r1 hb => cases hb with
      | cons _ _ _ _ r2 hb =>
        obtain ⟨a0, a1, a2, a3, rfl, wa0, wa1, wa2, wa3⟩ := num_arg r1
        obtain ⟨b0, b1, b2, b3, rfl, wb0, wb1, wb2, wb3⟩ := num_arg r2
        obtain ⟨m1, m2⟩ := mu_spec wa0 wa1 wa2 wa3 wb0 wb1 wb2 wb3
        exact pure_of_res mixed noCount (hr1_ok.deep (q := qn) mixed noCount 100 3) (by kernel_rfl) (rm_eval a0 a1 a2 a3 b0 b1 b2 b3)
          (paid_append.2 ⟨fun x hx => (List.mem_replicate.1 hx).2, paid_cons (decide_eq_true m1.1) (paid_cons (decide_eq_true m1.2) Paid.nil)⟩) (by rw [← m2]; rfl) (by kernel_rfl) ha
  · cases h
def raS : List AV → E AV
  | [.ints .u64 4 a, .ints .u64 4 b] => some ([], .ints .u64 4 (limbs ((val a + val b) % pN)))
  | _ => none
theorem ra_eval (a b : List Int) : res (funcA Tryd.prog qn (deep Tryd.prog qn hr1 100 3) 200 63 [.ints .u64 4 a, .ints .u64 4 b] []) =
    some ([decide (0 ≤ (val a + val b) / 115792089237316195423570985008687907853269984665640564039457584007913129639936), decide ((val a + val b) / 115792089237316195423570985008687907853269984665640564039457584007913129639936 < 1000)], .ints .u64 4 (limbs ((val (limbs (val a + val b)) + (val a + val b) / 115792089237316195423570985008687907853269984665640564039457584007913129639936 * WW) % pN))) := by kernel_rfl
theorem ra_ok {args : List AV} {o : List Bool} {v : AV} (h : raS args = some (o, v)) : PureCall Tryd.prog 63 args v := by
  unfold raS at h
  split at h
  · rename_i a b
    cases h
    intro ρ N vs ha
    have hb := ha
    cases hb with
    | cons _ _ _ _ r1 hb => cases hb with
      | cons _ _ _ _ r2 hb =>
        obtain ⟨a0, a1, a2, a3, ea, wa0, wa1, wa2, wa3⟩ := num_arg r1
        obtain ⟨b0, b1, b2, b3, eb, wb0, wb1, wb2, wb3⟩ := num_arg r2
        have h1 : 0 ≤ val a ∧ val a < WW := by rw [ea]; exact val_range wa0 wa1 wa2 wa3
        have h2 : 0 ≤ val b ∧ val b < WW := by rw [eb]; exact val_range wb0 wb1 wb2 wb3
        have ev := ra_eval a b
        rw [val_limbs] at ev
        generalize val a = x at *
        generalize val b = y at *
        have e : (x + y) % 115792089237316195423570985008687907853269984665640564039457584007913129639936 + (x + y) / 115792089237316195423570985008687907853269984665640564039457584007913129639936 * WW = x + y := by unfold WW at *; omega
        rw [e] at ev
        exact pure_of_res mixed noCount (hr1_ok.deep (q := qn) mixed noCount 100 3) (by kernel_rfl) ev
          (paid_cons (decide_eq_true (by unfold WW at *; omega)) (paid_cons (decide_eq_true (by unfold WW at *; omega)) Paid.nil)) rfl (by kernel_rfl) ha
  · cases h
theorem rs_n1 {x y : Int} (h1 : 0 ≤ x ∧ x < WW) (h2 : 0 ≤ y ∧ y < WW) (l1 : x < pN) (l2 : y < pN) (h : x < y) : limbs (val (limbs (x - y)) + val PN) = limbs ((x - y) % pN) := by
  rw [val_limbs, vPN]
  refine limbs_congr ?_
  unfold WW pN W4 at *
  omega
theorem rs_n2 {x y : Int} (h1 : 0 ≤ x ∧ x < WW) (h2 : 0 ≤ y ∧ y < WW) (l1 : x < pN) (l2 : y < pN) (h : ¬ x < y) : limbs (x - y) = limbs ((x - y) % pN) := by
  refine limbs_congr ?_
  unfold WW pN W4 at *
  omega
def rsS : List AV → E AV
  | [.ints .u64 4 a, .ints .u64 4 b] => some ([decide (val a < pN), decide (val b < pN)], .ints .u64 4 (limbs ((val a - val b) % pN)))
  | _ => none
theorem rs_t (a b : List Int) : res ((funcA Tryd.prog qn (deep Tryd.prog qn hr1 100 3) 200 61 [.ints .u64 4 a, .ints .u64 4 b] []).go [true]) =
    some ([decide ((if val a < val b then (1 : Int) else 0) > 0)], .ints .u64 4 (limbs (val (limbs (val a - val b)) + val PN))) := by kernel_rfl
theorem rs_f (a b : List Int) : res ((funcA Tryd.prog qn (deep Tryd.prog qn hr1 100 3) 200 61 [.ints .u64 4 a, .ints .u64 4 b] []).go [false]) =
    some ([!decide ((if val a < val b then (1 : Int) else 0) > 0)], .ints .u64 4 (limbs (val a - val b))) := by kernel_rfl
theorem rs_ok {args : List AV} {o : List Bool} {v : AV} (h : rsS args = some (o, v)) (ho : Paid o) : PureCall Tryd.prog 61 args v := by
  unfold rsS at h
  split at h
  · rename_i a b
    cases h
    have l1 := of_decide_eq_true (ho _ (List.mem_cons_self ..))
    have l2 := of_decide_eq_true (ho _ (List.mem_cons_of_mem _ (List.mem_cons_self ..)))
    intro ρ N vs ha
    have hb := ha
    cases hb with
    | cons _ _ _ _ r1 hb => cases hb with
      | cons _ _ _ _ r2 hb =>
        obtain ⟨a0, a1, a2, a3, ea, wa0, wa1, wa2, wa3⟩ := num_arg r1
        obtain ⟨b0, b1, b2, b3, eb, wb0, wb1, wb2, wb3⟩ := num_arg r2
        have h1 : 0 ≤ val a ∧ val a < WW := by rw [ea]; exact val_range wa0 wa1 wa2 wa3
        have h2 : 0 ≤ val b ∧ val b < WW := by rw [eb]; exact val_range wb0 wb1 wb2 wb3
        by_cases hlt : val a < val b
        · have ev := rs_t a b
          rw [if_pos hlt] at ev
          refine pure_of_go mixed noCount (hr1_ok.deep (q := qn) mixed noCount 100 3) [true] (by kernel_rfl) ev (paid_cons rfl Paid.nil) ?_ (by kernel_rfl) ha
          rw [rs_n1 h1 h2 l1 l2 hlt]
        · have ev := rs_f a b
          rw [if_neg hlt] at ev
          refine pure_of_go mixed noCount (hr1_ok.deep (q := qn) mixed noCount 100 3) [false] (by kernel_rfl) ev (paid_cons rfl Paid.nil) ?_ (by kernel_rfl) ha
          rw [rs_n2 h1 h2 l1 l2 hlt]
  · cases h
def hr2 : CallH := withC 60 rmS (withC 63 raS (withC 61 rsS hr1))
theorem hr2_ok : HOk Tryd.prog hr2 := ((hr1_ok.withC fun _ _ _ h ho => rs_ok h ho).withC fun _ _ _ h _ => ra_ok h).withC fun _ _ _ h _ => rm_ok h
end Go.Proofs.YthelmpjkkkhopaaDoor
namespace Go.Mo
open Go.Ev Go.Wn
structure PwS where
  a0 : List Int
  e : List Int
  A : Int
  R : Int
  i : Int
def nM (x y : Int) : Int := (vl x * vl y) % pN
end Go.Mo
namespace Go.Proofs.YthelmpjkkkhopaaDoor
open Go.Ev Go.Wn Go.Mo
set_option maxRecDepth 100000
def pwTs : List Nat := [2, 3, 4, 5, 6]
def pwV (s : PwS) : List AV := [.ptr false 2 0, .ptr false 3 0, .ptr false 4 0, .ptr false 5 0, .int true .i64 s.i]
def pwM (s : PwS) : Mem := [none, none, some ⟨true, .ints .u64 (some 4) (limbs s.A)⟩, some ⟨true, .ints .u64 (some 4) s.e⟩, some ⟨true, .ints .u64 (some 4) [0, 0, 0, 0]⟩, some ⟨true, .ints .u64 (some 4) (limbs s.R)⟩]
end Go.Proofs.YthelmpjkkkhopaaDoor
