/- What the reference's functions of layer 2 answer: a number modulo another, sums, differences, products. Own work. -/
import Derived.Test.YtdpaedcgbhlibaaRemI
import Derived.Test.YtdpaedcgbhlibaaModK
namespace Go.Wn
open Go.Ev
theorem sg9 (a b c d e f g h i : Int) : sg (fun t => [a, b, c, d, e, f, g, h, i].getD t 0) 9 = val [a, b, c, d] + W4 * (e + 18446744073709551616 * f + 340282366920938463463374607431768211456 * g + 6277101735386680763835789423207666416102355444464034512896 * h + W4 * i) := by
  simp only [sg, val, W4, Int.pow_zero, Int.reducePow, List.getD_cons_zero, List.getD_cons_succ]
  omega
def rH (a b c d : Int) : Int := IntKind.u64.wrap (IntKind.u64.wrap (a * b / 18446744073709551616 + (a * b % 18446744073709551616 + c + 0) / 18446744073709551616) + ((a * b % 18446744073709551616 + c + 0) % 18446744073709551616 + d + 0) / 18446744073709551616)
def rL (a b c d : Int) : Int := ((a * b % 18446744073709551616 + c + 0) % 18446744073709551616 + d + 0) % 18446744073709551616
theorem r_eq {a b c d : Int} (ha : W a) (hb : W b) (hc : W c) (hd : W d) : rH a b c d = pH a b c d ∧ rL a b c d = pL a b c d := by
  obtain ⟨_, h1, h2⟩ := prod_eq ha hb hc hd
  exact ⟨h1, h2⟩
/-- A word's row: the lowest word, and the other four. -/
def rowL (w b0 b1 b2 b3 t0 t1 t2 t3 : Int) : List Int :=
  [rL w b0 t0 0, rL w b1 t1 (rH w b0 t0 0), rL w b2 t2 (rH w b1 t1 (rH w b0 t0 0)), rL w b3 t3 (rH w b2 t2 (rH w b1 t1 (rH w b0 t0 0))), rH w b3 t3 (rH w b2 t2 (rH w b1 t1 (rH w b0 t0 0)))]
theorem rowL_spec {w b0 b1 b2 b3 t0 t1 t2 t3 : Int} (hw : W w) (h0 : W b0) (h1 : W b1) (h2 : W b2) (h3 : W b3) (k0 : W t0) (k1 : W t1) (k2 : W t2) (k3 : W t3) :
    ∃ r0 r1 r2 r3 r4, rowL w b0 b1 b2 b3 t0 t1 t2 t3 = [r0, r1, r2, r3, r4] ∧ W r0 ∧ W r1 ∧ W r2 ∧ W r3 ∧ W r4 ∧ w * val [b0, b1, b2, b3] + val [t0, t1, t2, t3] = r0 + 18446744073709551616 * val [r1, r2, r3, r4] := by
  have z : W 0 := ⟨by decide, by decide⟩
  obtain ⟨c0, c1, c2, c3, r0, r1, r2, r3, rfl, rfl, rfl, rfl, rfl, rfl, rfl, rfl, w0, w1, w2, w3, x0, x1, x2, x3, hrow⟩ := row_spec hw h0 h1 h2 h3 k0 k1 k2 k3
  obtain ⟨a0, l0⟩ := r_eq hw h0 k0 z
  obtain ⟨a1, l1⟩ := r_eq hw h1 k1 w0
  obtain ⟨a2, l2⟩ := r_eq hw h2 k2 w1
  obtain ⟨a3, l3⟩ := r_eq hw h3 k3 w2
  refine ⟨_, _, _, _, _, by unfold rowL; rw [a0, l0, a1, l1, a2, l2, a3, l3], x0, x1, x2, x3, w3, ?_⟩
  rw [hrow]
  simp only [val, List.getD_cons_zero, List.getD_cons_succ]
  omega
def mulX (a0 b0 b1 b2 b3 : Int) : List Int := rowL a0 b0 b1 b2 b3 0 0 0 0
def mulY (x : List Int) (a b0 b1 b2 b3 : Int) : List Int := rowL a b0 b1 b2 b3 (x.getD 1 0) (x.getD 2 0) (x.getD 3 0) (x.getD 4 0)
def mulL (a0 a1 a2 a3 b0 b1 b2 b3 : Int) : List Int :=
  let x := mulX a0 b0 b1 b2 b3; let y := mulY x a1 b0 b1 b2 b3; let z := mulY y a2 b0 b1 b2 b3; let w := mulY z a3 b0 b1 b2 b3
  [x.getD 0 0, y.getD 0 0, z.getD 0 0, w.getD 0 0, w.getD 1 0, w.getD 2 0, w.getD 3 0, w.getD 4 0, 0]
theorem mulL_spec {a0 a1 a2 a3 b0 b1 b2 b3 : Int} (k0 : W a0) (k1 : W a1) (k2 : W a2) (k3 : W a3) (h0 : W b0) (h1 : W b1) (h2 : W b2) (h3 : W b3) : sg (fun t => (mulL a0 a1 a2 a3 b0 b1 b2 b3).getD t 0) 9 = val [a0, a1, a2, a3] * val [b0, b1, b2, b3] := by
  have z : W 0 := ⟨by decide, by decide⟩
  obtain ⟨x0, x1, x2, x3, x4, ex, wx0, wx1, wx2, wx3, wx4, e1⟩ := rowL_spec k0 h0 h1 h2 h3 z z z z
  obtain ⟨y0, y1, y2, y3, y4, ey, wy0, wy1, wy2, wy3, wy4, e2⟩ := rowL_spec k1 h0 h1 h2 h3 wx1 wx2 wx3 wx4
  obtain ⟨z0, z1, z2, z3, z4, ez, wz0, wz1, wz2, wz3, wz4, e3⟩ := rowL_spec k2 h0 h1 h2 h3 wy1 wy2 wy3 wy4
  obtain ⟨w0, w1, w2, w3, w4, ew, ww0, ww1, ww2, ww3, ww4, e4⟩ := rowL_spec k3 h0 h1 h2 h3 wz1 wz2 wz3 wz4
  have hl : mulL a0 a1 a2 a3 b0 b1 b2 b3 = [x0, y0, z0, w0, w1, w2, w3, w4, 0] := by
    unfold mulL mulX mulY
    simp only [ex, ey, ez, ew, List.getD_cons_zero, List.getD_cons_succ]
  rw [hl, sg9]
  have eA : val [a0, a1, a2, a3] * val [b0, b1, b2, b3] = a0 * val [b0, b1, b2, b3] + 18446744073709551616 * (a1 * val [b0, b1, b2, b3]) + 340282366920938463463374607431768211456 * (a2 * val [b0, b1, b2, b3]) + 6277101735386680763835789423207666416102355444464034512896 * (a3 * val [b0, b1, b2, b3]) := by
    generalize val [b0, b1, b2, b3] = B
    simp [val, Int.add_mul, Int.mul_assoc]
  rw [eA]
  generalize val [b0, b1, b2, b3] = B at *
  generalize a0 * B = q0 at *
  generalize a1 * B = q1 at *
  generalize a2 * B = q2 at *
  generalize a3 * B = q3 at *
  simp only [val, W4, List.getD_cons_zero, List.getD_cons_succ] at *
  omega
end Go.Wn
namespace Go.Proofs.Ytdpaedcgbhlibaa
open Go.Ev Go.Wn
set_option maxRecDepth 100000
def hf1 : CallH := withV 56 remZ hm11
theorem hf1_ok : HOk Try.prog hf1 := hm11_ok.withV fun _ _ _ _ h ho => rem_ok h ho
-- Low
def lowS : List AV → E AV
  | [.ints .u64 4 a, .ints .u64 4 m] => some ([decide (0 < val m)], .ints .u64 4 (limbs (val a % val m)))
  | _ => none
theorem low_eval (a0 a1 a2 a3 : Int) (m : List Int) : res (funcA Try.prog qAll hf1 100 46 [.ints .u64 4 [a0, a1, a2, a3], .ints .u64 4 m] []) =
    some ([decide (0 < val m)], .ints .u64 4 (limbs (sg (fun t => [a0, a1, a2, a3, 0, 0, 0, 0, 0].getD t 0) 9 % val m))) := by kernel_rfl
theorem low_ok {args : List AV} {o : List Bool} {v : AV} (h : lowS args = some (o, v)) (ho : Paid o) : PureCall Try.prog 46 args v := by
  unfold lowS at h
  split at h
  · rename_i a m
    cases h
    intro ρ N vs ha
    have hb := ha
    cases hb with
    | cons _ _ _ _ r1 hb =>
      obtain ⟨a0, a1, a2, a3, rfl, _⟩ := num_arg r1
      have e : sg (fun t => [a0, a1, a2, a3, 0, 0, 0, 0, 0].getD t 0) 9 = val [a0, a1, a2, a3] := by rw [sg9]; omega
      exact pure_of_res mixed noCount hf1_ok (by kernel_rfl) (low_eval a0 a1 a2 a3 m) ho (by rw [e]) (by kernel_rfl) ha
  · cases h
-- Add
def rfaS : List AV → E AV
  | [.ints .u64 4 a, .ints .u64 4 b, .ints .u64 4 m] => some ([decide (0 < val m)], .ints .u64 4 (limbs ((val a + val b) % val m)))
  | _ => none
def addL9 (a0 a1 a2 a3 b0 b1 b2 b3 : Int) : List Int := [sm a0 b0 0, sm a1 b1 (cy a0 b0 0), sm a2 b2 (cy a1 b1 (cy a0 b0 0)), sm a3 b3 (cy a2 b2 (cy a1 b1 (cy a0 b0 0))), cy a3 b3 (cy a2 b2 (cy a1 b1 (cy a0 b0 0))), 0, 0, 0, 0]
theorem rfa_eval (a0 a1 a2 a3 b0 b1 b2 b3 : Int) (m : List Int) : res (funcA Try.prog qAll hf1 100 36 [.ints .u64 4 [a0, a1, a2, a3], .ints .u64 4 [b0, b1, b2, b3], .ints .u64 4 m] []) =
    some ([decide ((0 : Int) ≤ 1), decide (cy a0 b0 0 ≤ 1), decide (cy a1 b1 (cy a0 b0 0) ≤ 1), decide (cy a2 b2 (cy a1 b1 (cy a0 b0 0)) ≤ 1), decide (0 < val m)], .ints .u64 4 (limbs (sg (fun t => (addL9 a0 a1 a2 a3 b0 b1 b2 b3).getD t 0) 9 % val m))) := by kernel_rfl
theorem rfa_ok {args : List AV} {o : List Bool} {v : AV} (h : rfaS args = some (o, v)) (ho : Paid o) : PureCall Try.prog 36 args v := by
  unfold rfaS at h
  split at h
  · rename_i a b m
    cases h
    intro ρ N vs ha
    have hb := ha
    cases hb with
    | cons _ _ _ _ r1 hb => cases hb with
      | cons _ _ _ _ r2 hb =>
        obtain ⟨a0, a1, a2, a3, rfl, wa0, wa1, wa2, wa3⟩ := num_arg r1
        obtain ⟨b0, b1, b2, b3, rfl, wb0, wb1, wb2, wb3⟩ := num_arg r2
        obtain ⟨k1, k2, k3, k4, k5⟩ := add_chain wa0 wa1 wa2 wa3 wb0 wb1 wb2 wb3
        have e : sg (fun t => (addL9 a0 a1 a2 a3 b0 b1 b2 b3).getD t 0) 9 = val [a0, a1, a2, a3] + val [b0, b1, b2, b3] := by
          unfold addL9
          rw [sg9, k1, k2, val_limbs]
          unfold W4
          omega
        exact pure_of_res mixed noCount hf1_ok (by kernel_rfl) (rfa_eval a0 a1 a2 a3 b0 b1 b2 b3 m) (paid_cons (by kernel_rfl) (paid_cons (decide_eq_true k3) (paid_cons (decide_eq_true k4) (paid_cons (decide_eq_true k5) ho)))) (by rw [e]) (by kernel_rfl) ha
  · cases h
-- Mul
def rfmS : List AV → E AV
  | [.ints .u64 4 a, .ints .u64 4 b, .ints .u64 4 m] => some ([decide (0 < val m)], .ints .u64 4 (limbs (val a * val b % val m)))
  | _ => none
theorem rfm_eval (a0 a1 a2 a3 b0 b1 b2 b3 : Int) (m : List Int) : res (funcA Try.prog qAll hf1 100 40 [.ints .u64 4 [a0, a1, a2, a3], .ints .u64 4 [b0, b1, b2, b3], .ints .u64 4 m] []) =
    some (rep 32 true [decide (0 < val m)], .ints .u64 4 (limbs (sg (fun t => (mulL a0 a1 a2 a3 b0 b1 b2 b3).getD t 0) 9 % val m))) := by kernel_rfl
theorem rfm_ok {args : List AV} {o : List Bool} {v : AV} (h : rfmS args = some (o, v)) (ho : Paid o) : PureCall Try.prog 40 args v := by
  unfold rfmS at h
  split at h
  · rename_i a b m
    cases h
    intro ρ N vs ha
    have hb := ha
    cases hb with
    | cons _ _ _ _ r1 hb => cases hb with
      | cons _ _ _ _ r2 hb =>
        obtain ⟨a0, a1, a2, a3, rfl, wa0, wa1, wa2, wa3⟩ := num_arg r1
        obtain ⟨b0, b1, b2, b3, rfl, wb0, wb1, wb2, wb3⟩ := num_arg r2
        exact pure_of_res mixed noCount hf1_ok (by kernel_rfl) (rfm_eval a0 a1 a2 a3 b0 b1 b2 b3 m) (paid_rep rfl ho _) (by rw [mulL_spec wa0 wa1 wa2 wa3 wb0 wb1 wb2 wb3]) (by kernel_rfl) ha
  · cases h
-- less
def rflS : List AV → E AV
  | [.ints .u64 4 a, .ints .u64 4 b] => some ([], .ints .u64 4 (limbs (val a - val b)))
  | _ => none
theorem rfl_eval (a0 a1 a2 a3 b0 b1 b2 b3 : Int) : res (funcA Try.prog qAll hf1 100 61 [.ints .u64 4 [a0, a1, a2, a3], .ints .u64 4 [b0, b1, b2, b3]] []) =
    some ([decide ((0 : Int) ≤ 1), decide (bw a0 b0 0 ≤ 1), decide (bw a1 b1 (bw a0 b0 0) ≤ 1), decide (bw a2 b2 (bw a1 b1 (bw a0 b0 0)) ≤ 1)], .ints .u64 4 [df a0 b0 0, df a1 b1 (bw a0 b0 0), df a2 b2 (bw a1 b1 (bw a0 b0 0)), df a3 b3 (bw a2 b2 (bw a1 b1 (bw a0 b0 0)))]) := by kernel_rfl
theorem rfl_ok {args : List AV} {o : List Bool} {v : AV} (h : rflS args = some (o, v)) : PureCall Try.prog 61 args v := by
  unfold rflS at h
  split at h
  · rename_i a b
    cases h
    intro ρ N vs ha
    have hb := ha
    cases hb with
    | cons _ _ _ _ r1 hb => cases hb with
      | cons _ _ _ _ r2 hb =>
        obtain ⟨a0, a1, a2, a3, rfl, wa0, wa1, wa2, wa3⟩ := num_arg r1
        obtain ⟨b0, b1, b2, b3, rfl, wb0, wb1, wb2, wb3⟩ := num_arg r2
        obtain ⟨k1, k2, k3, k4, k5⟩ := sub_chain wa0 wa1 wa2 wa3 wb0 wb1 wb2 wb3
        exact pure_of_res mixed noCount hf1_ok (by kernel_rfl) (rfl_eval a0 a1 a2 a3 b0 b1 b2 b3) (paid_cons (by kernel_rfl) (paid_cons (decide_eq_true k3) (paid_cons (decide_eq_true k4) (paid_cons (decide_eq_true k5) Paid.nil)))) (by rw [k1]) (by kernel_rfl) ha
  · cases h
def hf2 : CallH := withC 61 rflS (withC 40 rfmS (withC 36 rfaS (withC 46 lowS hf1)))
theorem hf2_ok : HOk Try.prog hf2 := (((hf1_ok.withC fun _ _ _ h ho => low_ok h ho).withC fun _ _ _ h ho => rfa_ok h ho).withC fun _ _ _ h ho => rfm_ok h ho).withC fun _ _ _ h _ => rfl_ok h
-- Neg
def rfnS : List AV → E AV
  | [.ints .u64 4 a, .ints .u64 4 m] => some ([decide (0 < val m ∧ val m < W4)], .ints .u64 4 (limbs ((0 - val a) % val m)))
  | _ => none
def negV (a m : List Int) : List Int := match decide (limbs (val a % val m) = [0, 0, 0, 0]) with | true => limbs (val a % val m) | false => limbs (val m - val (limbs (val a % val m)))
theorem rfn_eval (a m : List Int) : (funcA Try.prog qAll hf2 100 57 [.ints .u64 4 a, .ints .u64 4 m] []).mix = some ([decide (0 < val m)], .ints .u64 4 (negV a m)) := by kernel_rfl
theorem rfn_ok {args : List AV} {o : List Bool} {v : AV} (h : rfnS args = some (o, v)) (ho : Paid o) : PureCall Try.prog 57 args v := by
  unfold rfnS at h
  split at h
  · rename_i a m
    cases h
    have hM := ho _ (List.mem_cons_self ..)
    rw [decide_eq_true_eq] at hM
    intro ρ N vs ha
    refine pure_of_mix mixed noCount hf2_ok (by kernel_rfl) (rfn_eval a m) (paid_cons (decide_eq_true hM.1) Paid.nil) ?_ ha
    congr 1
    unfold negV
    have h0 := Int.emod_nonneg (val a) (show val m ≠ 0 by omega)
    have h1 := Int.emod_lt_of_pos (val a) hM.1
    have hv := lv (x := val a) hM
    have e : (0 - val a) % val m = (0 - val a % val m) % val m := by rw [sm_r]
    rw [e]
    cases hd : decide (limbs (val a % val m) = [0, 0, 0, 0]) with
    | true =>
      rw [decide_eq_true_eq] at hd
      rw [hd] at hv
      have hz : val a % val m = 0 := by rw [← hv]; rfl
      simp only
      rw [hz]
      rfl
    | false =>
      rw [decide_eq_false_iff_not] at hd
      have hz : ¬ val a % val m = 0 := fun hz => hd (by rw [hz]; rfl)
      simp only
      rw [hv]
      congr 1
      have e5 : (val m - val a % val m) % val m = val m - val a % val m := Int.emod_eq_of_lt (by omega) (by omega)
      rw [show 0 - val a % val m = (val m - val a % val m) - val m by omega, Int.sub_emod_right, e5]
  · cases h
def hf3 : CallH := withC 57 rfnS hf2
theorem hf3_ok : HOk Try.prog hf3 := hf2_ok.withC fun _ _ _ h ho => rfn_ok h ho
-- Sub
def rfsS : List AV → E AV
  | [.ints .u64 4 a, .ints .u64 4 b, .ints .u64 4 m] => some ([decide (0 < val m ∧ val m < W4)], .ints .u64 4 (limbs ((val a - val b) % val m)))
  | _ => none
theorem rfs_eval (a b m : List Int) : res (funcA Try.prog qAll hf3 100 38 [.ints .u64 4 a, .ints .u64 4 b, .ints .u64 4 m] []) =
    some ([decide (0 < val m), decide (0 < val m ∧ val m < W4), decide (0 < val m)], .ints .u64 4 (limbs ((val (limbs (val a % val m)) + val (limbs ((0 - val b) % val m))) % val m))) := by kernel_rfl
theorem rfs_ok {args : List AV} {o : List Bool} {v : AV} (h : rfsS args = some (o, v)) (ho : Paid o) : PureCall Try.prog 38 args v := by
  unfold rfsS at h
  split at h
  · rename_i a b m
    cases h
    have hM := ho _ (List.mem_cons_self ..)
    rw [decide_eq_true_eq] at hM
    have e : (val (limbs (val a % val m)) + val (limbs ((0 - val b) % val m))) % val m = (val a - val b) % val m := by
      rw [lv hM, lv hM, ← Int.add_emod, show val a + (0 - val b) = val a - val b by omega]
    intro ρ N vs ha
    exact pure_of_res mixed noCount hf3_ok (by kernel_rfl) (rfs_eval a b m) (paid_cons (decide_eq_true hM.1) (paid_cons (decide_eq_true hM) (paid_cons (decide_eq_true hM.1) Paid.nil))) (by rw [e]) (by kernel_rfl) ha
  · cases h
def hf4 : CallH := withC 38 rfsS hf3
theorem hf4_ok : HOk Try.prog hf4 := hf3_ok.withC fun _ _ _ h ho => rfs_ok h ho
/-- Where the modulus may be, and where it may not. -/
def hfA : CallH := withC 32 soundS (withV 33 newG hf4)
theorem hfA_ok : HOk Try.prog hfA := (hf4_ok.withV fun _ _ _ _ h ho => newG_ok h ho).withC fun _ _ _ h _ => msound_ok h
def hfB : CallH := withC 32 soundS (withV 33 newB hf4)
theorem hfB_ok : HOk Try.prog hfB := (hf4_ok.withV fun _ _ _ _ h ho => newB_ok h ho).withC fun _ _ _ h _ => msound_ok h
end Go.Proofs.Ytdpaedcgbhlibaa
