/- What the reference's sums and products modulo a number are. Own work. -/
import Derived.Test.YtfmgodgakndjcaaQCzRemI
import Derived.Test.YtfmgodgakndjcaaQWordsN
set_option linter.unusedSimpArgs false
set_option linter.unusedVariables false
set_option linter.unusedSectionVars false
namespace Go.Wn
open Go.Ev
def W4 : Int := 115792089237316195423570985008687907853269984665640564039457584007913129639936
theorem sg9 (a b c d e f g h i : Int) : sg (fun t => [a, b, c, d, e, f, g, h, i].getD t 0) 9 = val [a, b, c, d] + W4 * (e + 18446744073709551616 * f + 340282366920938463463374607431768211456 * g + 6277101735386680763835789423207666416102355444464034512896 * h + W4 * i) := by
  simp only [sg, val, W4, Int.pow_zero, Int.reducePow, List.getD_cons_zero, List.getD_cons_succ]
  omega
def rH (a b c d : Int) : Int := IntKind.u64.wrap (IntKind.u64.wrap (a * b / 18446744073709551616 + (a * b % 18446744073709551616 + c + 0) / 18446744073709551616) + ((a * b % 18446744073709551616 + c + 0) % 18446744073709551616 + d + 0) / 18446744073709551616)
def rL (a b c d : Int) : Int := ((a * b % 18446744073709551616 + c + 0) % 18446744073709551616 + d + 0) % 18446744073709551616
theorem r_eq {a b c d : Int} (ha : W a) (hb : W b) (hc : W c) (hd : W d) : rH a b c d = pH a b c d ∧ rL a b c d = pL a b c d := by
  obtain ⟨_, h1, h2⟩ := prod_eq ha hb hc hd
  exact ⟨h1, h2⟩
/-- A word's row: the lowest word, and the other four. -/
def rowL (w b0 b1 b2 b3 t0 t1 t2 t3 : Int) : List Int :=
  [rL w b0 t0 0, rL w b1 t1 (rH w b0 t0 0), rL w b2 t2 (rH w b1 t1 (rH w b0 t0 0)), rL w b3 t3 (rH w b2 t2 (rH w b1 t1 (rH w b0 t0 0))), rH w b3 t3 (rH w b2 t2 (rH w b1 t1 (rH w b0 t0 0)))]
theorem rowL_spec {w b0 b1 b2 b3 t0 t1 t2 t3 : Int} (hw : W w) (h0 : W b0) (h1 : W b1) (h2 : W b2) (h3 : W b3) (k0 : W t0) (k1 : W t1) (k2 : W t2) (k3 : W t3) :
    ∃ r0 r1 r2 r3 r4, rowL w b0 b1 b2 b3 t0 t1 t2 t3 = [r0, r1, r2, r3, r4] ∧ W r0 ∧ W r1 ∧ W r2 ∧ W r3 ∧ W r4 ∧ w * val [b0, b1, b2, b3] + val [t0, t1, t2, t3] = r0 + 18446744073709551616 * val [r1, r2, r3, r4] := by
  have z : W 0 := ⟨by decide, by decide⟩
  obtain ⟨c0, c1, c2, c3, r0, r1, r2, r3, rfl, rfl, rfl, rfl, rfl, rfl, rfl, rfl, w0, w1, w2, w3, x0, x1, x2, x3, hrow⟩ := row_spec hw h0 h1 h2 h3 k0 k1 k2 k3
  obtain ⟨a0, l0⟩ := r_eq hw h0 k0 z
  obtain ⟨a1, l1⟩ := r_eq hw h1 k1 w0
  obtain ⟨a2, l2⟩ := r_eq hw h2 k2 w1
  obtain ⟨a3, l3⟩ := r_eq hw h3 k3 w2
  refine ⟨_, _, _, _, _, by unfold rowL; rw [a0, l0, a1, l1, a2, l2, a3, l3], x0, x1, x2, x3, w3, ?_⟩
  rw [hrow]
  simp only [val, List.getD_cons_zero, List.getD_cons_succ]
  omega
def mulX (a0 b0 b1 b2 b3 : Int) : List Int := rowL a0 b0 b1 b2 b3 0 0 0 0
def mulY (x : List Int) (a b0 b1 b2 b3 : Int) : List Int := rowL a b0 b1 b2 b3 (x.getD 1 0) (x.getD 2 0) (x.getD 3 0) (x.getD 4 0)
def mulL (a0 a1 a2 a3 b0 b1 b2 b3 : Int) : List Int :=
  let x := mulX a0 b0 b1 b2 b3; let y := mulY x a1 b0 b1 b2 b3; let z := mulY y a2 b0 b1 b2 b3; let w := mulY z a3 b0 b1 b2 b3
  [x.getD 0 0, y.getD 0 0, z.getD 0 0, w.getD 0 0, w.getD 1 0, w.getD 2 0, w.getD 3 0, w.getD 4 0, 0]
theorem mulL_spec {a0 a1 a2 a3 b0 b1 b2 b3 : Int} (k0 : W a0) (k1 : W a1) (k2 : W a2) (k3 : W a3) (h0 : W b0) (h1 : W b1) (h2 : W b2) (h3 : W b3) : sg (fun t => (mulL a0 a1 a2 a3 b0 b1 b2 b3).getD t 0) 9 = val [a0, a1, a2, a3] * val [b0, b1, b2, b3] := by
  have z : W 0 := ⟨by decide, by decide⟩
  obtain ⟨x0, x1, x2, x3, x4, ex, wx0, wx1, wx2, wx3, wx4, e1⟩ := rowL_spec k0 h0 h1 h2 h3 z z z z
  obtain ⟨y0, y1, y2, y3, y4, ey, wy0, wy1, wy2, wy3, wy4, e2⟩ := rowL_spec k1 h0 h1 h2 h3 wx1 wx2 wx3 wx4
  obtain ⟨z0, z1, z2, z3, z4, ez, wz0, wz1, wz2, wz3, wz4, e3⟩ := rowL_spec k2 h0 h1 h2 h3 wy1 wy2 wy3 wy4
  obtain ⟨w0, w1, w2, w3, w4, ew, ww0, ww1, ww2, ww3, ww4, e4⟩ := rowL_spec k3 h0 h1 h2 h3 wz1 wz2 wz3 wz4
  have hl : mulL a0 a1 a2 a3 b0 b1 b2 b3 = [x0, y0, z0, w0, w1, w2, w3, w4, 0] := by
    unfold mulL mulX mulY
    simp only [ex, ey, ez, ew, List.getD_cons_zero, List.getD_cons_succ]
  rw [hl, sg9]
  have eA : val [a0, a1, a2, a3] * val [b0, b1, b2, b3] = a0 * val [b0, b1, b2, b3] + 18446744073709551616 * (a1 * val [b0, b1, b2, b3]) + 340282366920938463463374607431768211456 * (a2 * val [b0, b1, b2, b3]) + 6277101735386680763835789423207666416102355444464034512896 * (a3 * val [b0, b1, b2, b3]) := by
    generalize val [b0, b1, b2, b3] = B
    simp [val, Int.add_mul, Int.mul_assoc]
  rw [eA]
  generalize val [b0, b1, b2, b3] = B at *
  generalize a0 * B = q0 at *
  generalize a1 * B = q1 at *
  generalize a2 * B = q2 at *
  generalize a3 * B = q3 at *
  simp only [val, W4, List.getD_cons_zero, List.getD_cons_succ] at *
  omega
end Go.Wn
namespace Go.Proofs.Ytfmgodgakndjcaa
open Go.Ev Go.Wn
set_option maxRecDepth 100000
def hf1 : CallH := withV 95 remZ hr3
theorem hf1_ok : HOk Try.prog hf1 := hr3_ok.withV fun _ _ _ _ h ho => rem_ok h ho
-- Add
def rfaS : List AV → E AV
  | [.ints .u64 4 a, .ints .u64 4 b, .ints .u64 4 m] => some ([decide (0 < val m)], .ints .u64 4 (limbs ((val a + val b) % val m)))
  | _ => none
def addL9 (a0 a1 a2 a3 b0 b1 b2 b3 : Int) : List Int := [sm a0 b0 0, sm a1 b1 (cy a0 b0 0), sm a2 b2 (cy a1 b1 (cy a0 b0 0)), sm a3 b3 (cy a2 b2 (cy a1 b1 (cy a0 b0 0))), cy a3 b3 (cy a2 b2 (cy a1 b1 (cy a0 b0 0))), 0, 0, 0, 0]
theorem rfa_eval (a0 a1 a2 a3 b0 b1 b2 b3 : Int) (m : List Int) : res (funcA Try.prog qAll hf1 100 73 [.ints .u64 4 [a0, a1, a2, a3], .ints .u64 4 [b0, b1, b2, b3], .ints .u64 4 m] []) =
    some ([decide ((0 : Int) ≤ 1), decide (cy a0 b0 0 ≤ 1), decide (cy a1 b1 (cy a0 b0 0) ≤ 1), decide (cy a2 b2 (cy a1 b1 (cy a0 b0 0)) ≤ 1), decide (0 < val m)], .ints .u64 4 (limbs (sg (fun t => (addL9 a0 a1 a2 a3 b0 b1 b2 b3).getD t 0) 9 % val m))) := by kernel_rfl
theorem rfa_ok {args : List AV} {o : List Bool} {v : AV} (h : rfaS args = some (o, v)) (ho : Paid o) : PureCall Try.prog 73 args v := by
  unfold rfaS at h
  split at h
  · rename_i a b m
    cases h
    intro ρ N vs ha
    have hb := ha
    cases hb with
    | cons _ _ _ _ r1 hb => cases hb with
      | cons _ _ _ _ r2 hb =>
        obtain ⟨a0, a1, a2, a3, rfl, wa0, wa1, wa2, wa3⟩ := num_arg r1
        obtain ⟨b0, b1, b2, b3, rfl, wb0, wb1, wb2, wb3⟩ := num_arg r2
        obtain ⟨k1, k2, k3, k4, k5⟩ := add_chain wa0 wa1 wa2 wa3 wb0 wb1 wb2 wb3
        have e : sg (fun t => (addL9 a0 a1 a2 a3 b0 b1 b2 b3).getD t 0) 9 = val [a0, a1, a2, a3] + val [b0, b1, b2, b3] := by
          unfold addL9
          rw [sg9, k1, k2, val_limbs]
          unfold W4
          omega
        exact pure_of_res mixed noCount hf1_ok (by kernel_rfl) (rfa_eval a0 a1 a2 a3 b0 b1 b2 b3 m) (paid_cons (by kernel_rfl) (paid_cons (decide_eq_true k3) (paid_cons (decide_eq_true k4) (paid_cons (decide_eq_true k5) ho)))) (by rw [e]) (by kernel_rfl) ha
  · cases h
-- Mul
def rfmS : List AV → E AV
  | [.ints .u64 4 a, .ints .u64 4 b, .ints .u64 4 m] => some ([decide (0 < val m)], .ints .u64 4 (limbs (val a * val b % val m)))
  | _ => none
theorem rfm_eval (a0 a1 a2 a3 b0 b1 b2 b3 : Int) (m : List Int) : res (funcA Try.prog qAll hf1 100 72 [.ints .u64 4 [a0, a1, a2, a3], .ints .u64 4 [b0, b1, b2, b3], .ints .u64 4 m] []) =
    some (rep 32 true [decide (0 < val m)], .ints .u64 4 (limbs (sg (fun t => (mulL a0 a1 a2 a3 b0 b1 b2 b3).getD t 0) 9 % val m))) := by kernel_rfl
theorem rfm_ok {args : List AV} {o : List Bool} {v : AV} (h : rfmS args = some (o, v)) (ho : Paid o) : PureCall Try.prog 72 args v := by
  unfold rfmS at h
  split at h
  · rename_i a b m
    cases h
    intro ρ N vs ha
    have hb := ha
    cases hb with
    | cons _ _ _ _ r1 hb => cases hb with
      | cons _ _ _ _ r2 hb =>
        obtain ⟨a0, a1, a2, a3, rfl, wa0, wa1, wa2, wa3⟩ := num_arg r1
        obtain ⟨b0, b1, b2, b3, rfl, wb0, wb1, wb2, wb3⟩ := num_arg r2
        exact pure_of_res mixed noCount hf1_ok (by kernel_rfl) (rfm_eval a0 a1 a2 a3 b0 b1 b2 b3 m) (paid_rep rfl ho _) (by rw [mulL_spec wa0 wa1 wa2 wa3 wb0 wb1 wb2 wb3]) (by kernel_rfl) ha
  · cases h
def hcz : CallH := withC 72 rfmS (withC 73 rfaS hr3)
theorem hcz_ok : HOk Try.prog hcz := (hr3_ok.withC fun _ _ _ h ho => rfa_ok h ho).withC fun _ _ _ h ho => rfm_ok h ho
end Go.Proofs.Ytfmgodgakndjcaa
namespace Go.Ch
open Go.Ev Go.Sh
def ad (x y : Int) : Int := (x + y) % 4294967296
def hD (n : Nat) (a b d : Int) : Int := rr 32 n (ix d (ad a b))
def hC (n : Nat) (a b c d : Int) : Int := ad c (hD n a b d)
def hB (n m : Nat) (a b c d : Int) : Int := rr 32 m (ix b (hC n a b c d))
/-- A quarter's four numbers. -/
def qa (a b c d : Int) : Int := ad (ad a b) (hB 16 20 a b c d)
def qb (a b c d : Int) : Int := hB 24 25 (ad a b) (hB 16 20 a b c d) (hC 16 a b c d) (hD 16 a b d)
def qc (a b c d : Int) : Int := hC 24 (ad a b) (hB 16 20 a b c d) (hC 16 a b c d) (hD 16 a b d)
def qd (a b c d : Int) : Int := hD 24 (ad a b) (hB 16 20 a b c d) (hD 16 a b d)
theorem ad_wd (x y : Int) : Wd 32 (ad x y) := by unfold ad Wd; omega
theorem hD_wd {n : Nat} (h : n ≤ 32) {a b d : Int} (hd : Wd 32 d) : Wd 32 (hD n a b d) := rr_wd h (ix_wd hd (ad_wd _ _))
theorem hC_wd {n : Nat} {a b c d : Int} : Wd 32 (hC n a b c d) := ad_wd _ _
theorem hB_wd {n m : Nat} (h : m ≤ 32) {a b c d : Int} (hb : Wd 32 b) : Wd 32 (hB n m a b c d) := rr_wd h (ix_wd hb hC_wd)
theorem qa_wd {a b c d : Int} : Wd 32 (qa a b c d) := ad_wd _ _
theorem qb_wd {a b c d : Int} (hb : Wd 32 b) : Wd 32 (qb a b c d) := hB_wd (by decide) (hB_wd (by decide) hb)
theorem qc_wd {a b c d : Int} : Wd 32 (qc a b c d) := hC_wd
theorem qd_wd {a b c d : Int} (hd : Wd 32 d) : Wd 32 (qd a b c d) := hD_wd (by decide) (hD_wd (by decide) hd)
/- as the program reckons them -/
def pA (a b : Int) : Int := IntKind.u32.wrap (a + b)
def pD (s n : Int) (a b d : Int) : Int := R .u32 s n (ixor .u32 d (pA a b))
def pC (s n : Int) (a b c d : Int) : Int := IntKind.u32.wrap (c + pD s n a b d)
def pB (s n s' n' : Int) (a b c d : Int) : Int := R .u32 s' n' (ixor .u32 b (pC s n a b c d))
def pqa (a b c d : Int) : Int := pA (pA a b) (pB 16 16 12 20 a b c d)
def pqb (a b c d : Int) : Int := pB 8 24 7 25 (pA a b) (pB 16 16 12 20 a b c d) (pC 16 16 a b c d) (pD 16 16 a b d)
def pqc (a b c d : Int) : Int := pC 8 24 (pA a b) (pB 16 16 12 20 a b c d) (pC 16 16 a b c d) (pD 16 16 a b d)
def pqd (a b c d : Int) : Int := pD 8 24 (pA a b) (pB 16 16 12 20 a b c d) (pD 16 16 a b d)
theorem pA_eq (a b : Int) : pA a b = ad a b := by unfold pA ad; rw [wrap_u (k := .u32) rfl]; rfl
theorem pD_eq {n : Nat} (h : n ≤ 32) {a b d : Int} (hd : Wd 32 d) : pD ((32 - n : Nat) : Int) (n : Int) a b d = hD n a b d := by
  unfold pD hD
  rw [pA_eq, ixor_ix (k := .u32) rfl hd (ad_wd a b)]
  exact R32 n h (ix_wd hd (ad_wd a b))
theorem pC_eq {n : Nat} (h : n ≤ 32) {a b c d : Int} (hd : Wd 32 d) : pC ((32 - n : Nat) : Int) (n : Int) a b c d = hC n a b c d := by
  unfold pC hC
  rw [pD_eq h hd]
  exact pA_eq c _
theorem pB_eq {n m : Nat} (h : n ≤ 32) (h' : m ≤ 32) {a b c d : Int} (hb : Wd 32 b) (hd : Wd 32 d) : pB ((32 - n : Nat) : Int) (n : Int) ((32 - m : Nat) : Int) (m : Int) a b c d = hB n m a b c d := by
  unfold pB hB
  rw [pC_eq h hd, ixor_ix (k := .u32) rfl hb hC_wd]
  exact R32 m h' (ix_wd hb hC_wd)
theorem pq_eq {a b c d : Int} (hb : Wd 32 b) (hd : Wd 32 d) : pqa a b c d = qa a b c d ∧ pqb a b c d = qb a b c d ∧ pqc a b c d = qc a b c d ∧ pqd a b c d = qd a b c d := by
  have e1 : pD 16 16 a b d = hD 16 a b d := pD_eq (n := 16) (by decide) hd
  have e2 : pC 16 16 a b c d = hC 16 a b c d := pC_eq (n := 16) (by decide) hd
  have e3 : pB 16 16 12 20 a b c d = hB 16 20 a b c d := pB_eq (n := 16) (m := 20) (by decide) (by decide) hb hd
  have w1 : Wd 32 (hD 16 a b d) := hD_wd (by decide) hd
  have w3 : Wd 32 (hB 16 20 a b c d) := hB_wd (by decide) hb
  unfold pqa pqb pqc pqd qa qb qc qd
  rw [e1, e2, e3, pA_eq, pA_eq]
  exact ⟨rfl, pB_eq (n := 24) (m := 25) (by decide) (by decide) w3 w1, pC_eq (n := 24) (by decide) w1, pD_eq (n := 24) (by decide) w1⟩
/- as the reference reckons them -/
def rA (a b : Int) : Int := (IntKind.u64.wrap (a + b)).tmod 4294967296
def rL (s n x : Int) : Int := (IntKind.u64.wrap (ishl .u64 x s + ishr .u64 x n)).tmod 4294967296
def rD (s n : Int) (a b d : Int) : Int := rL s n (ixor .u64 d (rA a b))
def rC (s n : Int) (a b c d : Int) : Int := rA c (rD s n a b d)
def rB (s n s' n' : Int) (a b c d : Int) : Int := rL s' n' (ixor .u64 b (rC s n a b c d))
def rqa (a b c d : Int) : Int := rA (rA a b) (rB 16 16 12 20 a b c d)
def rqb (a b c d : Int) : Int := rB 8 24 7 25 (rA a b) (rB 16 16 12 20 a b c d) (rC 16 16 a b c d) (rD 16 16 a b d)
def rqc (a b c d : Int) : Int := rC 8 24 (rA a b) (rB 16 16 12 20 a b c d) (rC 16 16 a b c d) (rD 16 16 a b d)
def rqd (a b c d : Int) : Int := rD 8 24 (rA a b) (rB 16 16 12 20 a b c d) (rD 16 16 a b d)
theorem wd64 {x : Int} (h : Wd 32 x) : Wd 64 x := ⟨h.1, Int.lt_trans h.2 (by decide)⟩
theorem rA_eq {a b : Int} (ha : Wd 32 a) (hb : Wd 32 b) : rA a b = ad a b := by
  unfold rA ad
  unfold Wd at ha hb
  rw [wrap_u (k := .u64) rfl, show (2 : Int) ^ IntKind.u64.bits = 18446744073709551616 from rfl, Int.emod_eq_of_lt (by omega) (by omega), Int.tmod_eq_emod_of_nonneg (by omega)]
theorem rL_eq {x : Int} (hx : Wd 32 x) {s n : Nat} (h : (s = 16 ∧ n = 16) ∨ (s = 12 ∧ n = 20) ∨ (s = 8 ∧ n = 24) ∨ (s = 7 ∧ n = 25)) : rL (s : Int) (n : Int) x = rr 32 n x := by
  unfold rL
  rw [sl64 s (by omega), sd64 n (by omega)]
  unfold rr
  unfold Wd at hx
  rw [wrap_u (k := .u64) rfl, show (2 : Int) ^ IntKind.u64.bits = 18446744073709551616 from rfl]
  rcases h with ⟨rfl, rfl⟩ | ⟨rfl, rfl⟩ | ⟨rfl, rfl⟩ | ⟨rfl, rfl⟩ <;> simp only [Int.reducePow, Nat.reduceSub] at hx ⊢ <;> rw [Int.tmod_eq_emod_of_nonneg (by omega)] <;> omega
theorem rD_eq {s n : Nat} (h : (s = 16 ∧ n = 16) ∨ (s = 12 ∧ n = 20) ∨ (s = 8 ∧ n = 24) ∨ (s = 7 ∧ n = 25)) {a b d : Int} (ha : Wd 32 a) (hb : Wd 32 b) (hd : Wd 32 d) : rD (s : Int) (n : Int) a b d = hD n a b d := by
  unfold rD hD
  rw [rA_eq ha hb, ixor_ix (k := .u64) rfl (wd64 hd) (wd64 (ad_wd a b))]
  exact rL_eq (ix_wd hd (ad_wd a b)) h
theorem rC_eq {s n : Nat} (h : (s = 16 ∧ n = 16) ∨ (s = 12 ∧ n = 20) ∨ (s = 8 ∧ n = 24) ∨ (s = 7 ∧ n = 25)) {a b c d : Int} (ha : Wd 32 a) (hb : Wd 32 b) (hc : Wd 32 c) (hd : Wd 32 d) : rC (s : Int) (n : Int) a b c d = hC n a b c d := by
  unfold rC hC
  rw [rD_eq h ha hb hd]
  exact rA_eq hc (hD_wd (by omega) hd)
theorem rB_eq {s n s' n' : Nat} (h : (s = 16 ∧ n = 16) ∨ (s = 12 ∧ n = 20) ∨ (s = 8 ∧ n = 24) ∨ (s = 7 ∧ n = 25)) (h' : (s' = 16 ∧ n' = 16) ∨ (s' = 12 ∧ n' = 20) ∨ (s' = 8 ∧ n' = 24) ∨ (s' = 7 ∧ n' = 25)) {a b c d : Int} (ha : Wd 32 a) (hb : Wd 32 b) (hc : Wd 32 c) (hd : Wd 32 d) : rB (s : Int) (n : Int) (s' : Int) (n' : Int) a b c d = hB n n' a b c d := by
  unfold rB hB
  rw [rC_eq h ha hb hc hd, ixor_ix (k := .u64) rfl (wd64 hb) (wd64 hC_wd)]
  exact rL_eq (ix_wd hb hC_wd) h'
theorem rq_eq {a b c d : Int} (ha : Wd 32 a) (hb : Wd 32 b) (hc : Wd 32 c) (hd : Wd 32 d) : rqa a b c d = qa a b c d ∧ rqb a b c d = qb a b c d ∧ rqc a b c d = qc a b c d ∧ rqd a b c d = qd a b c d := by
  have e1 : rD 16 16 a b d = hD 16 a b d := rD_eq (s := 16) (n := 16) (by decide) ha hb hd
  have e2 : rC 16 16 a b c d = hC 16 a b c d := rC_eq (s := 16) (n := 16) (by decide) ha hb hc hd
  have e3 : rB 16 16 12 20 a b c d = hB 16 20 a b c d := rB_eq (s := 16) (n := 16) (s' := 12) (n' := 20) (by decide) (by decide) ha hb hc hd
  have w0 : Wd 32 (ad a b) := ad_wd a b
  have w1 : Wd 32 (hD 16 a b d) := hD_wd (by decide) hd
  have w2 : Wd 32 (hC 16 a b c d) := hC_wd
  have w3 : Wd 32 (hB 16 20 a b c d) := hB_wd (by decide) hb
  unfold rqa rqb rqc rqd qa qb qc qd
  rw [e1, e2, e3, rA_eq ha hb, rA_eq w0 w3]
  exact ⟨rfl, rB_eq (s := 8) (n := 24) (s' := 7) (n' := 25) (by decide) (by decide) w0 w3 w2 w1, rC_eq (s := 8) (n := 24) (by decide) w0 w3 w2 w1, rD_eq (s := 8) (n := 24) (by decide) w0 w3 w1⟩
/- sixteen numbers -/
theorem len16 {l : List Int} (h : l.length = 16) : ∃ a0 a1 a2 a3 a4 a5 a6 a7 a8 a9 a10 a11 a12 a13 a14 a15, l = [a0, a1, a2, a3, a4, a5, a6, a7, a8, a9, a10, a11, a12, a13, a14, a15] := by
  match l, h with
  | [a0, a1, a2, a3, a4, a5, a6, a7, a8, a9, a10, a11, a12, a13, a14, a15], _ => exact ⟨a0, a1, a2, a3, a4, a5, a6, a7, a8, a9, a10, a11, a12, a13, a14, a15, rfl⟩
/-- A quarter of the numbers at four places. -/
def qs (l : List Int) (i j k m : Nat) : List Int :=
  (((l.set i (qa (l.getD i 0) (l.getD j 0) (l.getD k 0) (l.getD m 0))).set j (qb (l.getD i 0) (l.getD j 0) (l.getD k 0) (l.getD m 0))).set k (qc (l.getD i 0) (l.getD j 0) (l.getD k 0) (l.getD m 0))).set m (qd (l.getD i 0) (l.getD j 0) (l.getD k 0) (l.getD m 0))
theorem qs_len (l : List Int) (i j k m : Nat) : (qs l i j k m).length = l.length := by simp [qs]
def W32 (l : List Int) : Prop := ∀ x ∈ l, Wd 32 x
theorem W32.get {l : List Int} (h : W32 l) (i : Nat) : Wd 32 (l.getD i 0) := by
  by_cases hi : i < l.length
  · rw [List.getD, List.getElem?_eq_getElem hi]; exact h _ (List.getElem_mem hi)
  · rw [List.getD, List.getElem?_eq_none (by omega)]; exact ⟨by decide, by decide⟩
theorem W32.set {l : List Int} (h : W32 l) (i : Nat) {x : Int} (hx : Wd 32 x) : W32 (l.set i x) := fun y hy => by
  rcases List.mem_or_eq_of_mem_set hy with h1 | h1
  · exact h y h1
  · rw [h1]; exact hx
theorem qs_wd {l : List Int} (h : W32 l) (i j k m : Nat) : W32 (qs l i j k m) :=
  (((h.set i qa_wd).set j (qb_wd (h.get j))).set k qc_wd).set m (qd_wd (h.get m))
/-- The columns, then the slopes. -/
def colL (l : List Int) : List Int := qs (qs (qs (qs l 0 4 8 12) 1 5 9 13) 2 6 10 14) 3 7 11 15
def slpL (l : List Int) : List Int := qs (qs (qs (qs l 0 5 10 15) 1 6 11 12) 2 7 8 13) 3 4 9 14
def rnd (l : List Int) : Nat → List Int
  | 0 => l
  | n + 1 => slpL (colL (rnd l n))
theorem colL_len (l : List Int) : (colL l).length = l.length := by simp [colL, qs_len]
theorem slpL_len (l : List Int) : (slpL l).length = l.length := by simp [slpL, qs_len]
theorem colL_wd {l : List Int} (h : W32 l) : W32 (colL l) := qs_wd (qs_wd (qs_wd (qs_wd h _ _ _ _) _ _ _ _) _ _ _ _) _ _ _ _
theorem slpL_wd {l : List Int} (h : W32 l) : W32 (slpL l) := qs_wd (qs_wd (qs_wd (qs_wd h _ _ _ _) _ _ _ _) _ _ _ _) _ _ _ _
theorem rnd_len (l : List Int) : ∀ n, (rnd l n).length = l.length
  | 0 => rfl
  | n + 1 => by unfold rnd; rw [slpL_len, colL_len, rnd_len l n]
theorem rnd_wd {l : List Int} (h : W32 l) : ∀ n, W32 (rnd l n)
  | 0 => h
  | n + 1 => slpL_wd (colL_wd (rnd_wd h n))
/-- A block's bytes, of what its numbers were at first, and at last. -/
def outB (s t : List Int) : List Int := (List.range 64).map fun n => (s.getD (n / 4) 0 + t.getD (n / 4) 0) / 2 ^ (8 * (n % 4)) % 256
/-- The block of a counter. -/
def blkB (x : List Int) (c : Int) : List Int := outB (x.set 12 c) (rnd (x.set 12 c) 10)
theorem outB_len (s t : List Int) : (outB s t).length = 64 := by simp [outB]
theorem blkB_len (x : List Int) (c : Int) : (blkB x c).length = 64 := outB_len _ _
theorem outB_b8 (s t : List Int) : ∀ x ∈ outB s t, B8 x := fun x hx => by
  obtain ⟨n, _, rfl⟩ := List.mem_map.1 hx
  unfold B8; omega
/-- A word of four bytes, the lowest first. -/
def leW (l : List Int) : Int := l.getD 0 0 + 256 * l.getD 1 0 + 65536 * l.getD 2 0 + 16777216 * l.getD 3 0
/-- The numbers of a key and a nonce. -/
def ini (k l : List Int) : List Int := [1634760805, 857760878, 2036477234, 1797285236] ++ ((List.range 8).map fun i => leW (k.drop (4 * i))) ++ [0] ++ (List.range 3).map fun i => leW (l.drop (4 * i))
theorem ini_len (k l : List Int) : (ini k l).length = 16 := by simp [ini]
theorem get_b8 {l : List Int} (h : ∀ x ∈ l, B8 x) (i : Nat) : B8 (l.getD i 0) := by
  by_cases hi : i < l.length
  · rw [List.getD, List.getElem?_eq_getElem hi]; exact h _ (List.getElem_mem hi)
  · rw [List.getD, List.getElem?_eq_none (by omega)]; exact ⟨by decide, by decide⟩
theorem leW_wd {l : List Int} (h : ∀ x ∈ l, B8 x) : Wd 32 (leW l) := by
  have h0 := get_b8 h 0
  have h1 := get_b8 h 1
  have h2 := get_b8 h 2
  have h3 := get_b8 h 3
  unfold B8 at h0 h1 h2 h3
  unfold leW Wd
  omega
theorem ini_wd {k l : List Int} (hk : ∀ x ∈ k, B8 x) (hl : ∀ x ∈ l, B8 x) : W32 (ini k l) := fun x hx => by
  unfold ini at hx
  simp only [List.mem_append, List.mem_map, List.mem_cons, List.not_mem_nil, or_false] at hx
  rcases hx with ((h | ⟨i, _, rfl⟩) | rfl) | ⟨i, _, rfl⟩
  · rcases h with rfl | rfl | rfl | rfl <;> exact ⟨by decide, by decide⟩
  · exact leW_wd fun x hx => hk x (List.mem_of_mem_drop hx)
  · exact ⟨by decide, by decide⟩
  · exact leW_wd fun x hx => hl x (List.mem_of_mem_drop hx)
end Go.Ch
