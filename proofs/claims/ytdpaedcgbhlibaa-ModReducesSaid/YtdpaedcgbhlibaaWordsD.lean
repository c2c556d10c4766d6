/- What the reference's functions of layer 1 answer: digits, sums, differences, which is less. Own work. -/
import Derived.Test.YtdpaedcgbhlibaaWordsC
import Derived.Test.YtdpaedcgbhlibaaWordsM
namespace Go.Proofs.Ytdpaedcgbhlibaa
open Go.Ev Go.Wn
set_option maxRecDepth 100000

def digS : List AV → E AV
  | [.ints .u64 4 a] => some ([], .ints .i64 16 (digs a))
  | _ => none
theorem dig_eval (a b c d : Int) : res (funcA Try.prog qAll h0 100 29 [.ints .u64 4 [a, b, c, d]] []) =
    some ([], .ints .i64 16 [dg a 0, dg a 16, dg a 32, dg a 48, dg b 0, dg b 16, dg b 32, dg b 48, dg c 0, dg c 16, dg c 32, dg c 48, dg d 0, dg d 16, dg d 32, dg d 48]) := by kernel_rfl
theorem dig_ok {args : List AV} {o : List Bool} {v : AV} (h : digS args = some (o, v)) : PureCall Try.prog 29 args v := by
  unfold digS at h
  split at h
  · rename_i a
    cases h
    intro ρ N vs ha
    have hb := ha
    cases hb with
    | cons _ _ _ _ r1 hb =>
      obtain ⟨a0, a1, a2, a3, rfl, w0, w1, w2, w3⟩ := num_arg r1
      have d0 := dg_spec w0; have d1 := dg_spec w1; have d2 := dg_spec w2; have d3 := dg_spec w3
      exact pure_of_res mixed noCount h0_ok (by kernel_rfl) (dig_eval a0 a1 a2 a3) Paid.nil
        (by rw [d0.1, d0.2.1, d0.2.2.1, d0.2.2.2, d1.1, d1.2.1, d1.2.2.1, d1.2.2.2, d2.1, d2.2.1, d2.2.2.1, d2.2.2.2, d3.1, d3.2.1, d3.2.2.1, d3.2.2.2]; rfl) (by kernel_rfl) ha
  · cases h

def numS : List AV → E AV
  | [.ints .i64 16 l] => some ([allD l], .ints .u64 4 (numD l))
  | _ => none
theorem num_eval (x0 x1 x2 x3 x4 x5 x6 x7 x8 x9 xa xb xc xd xe xf : Int) : res (funcA Try.prog qAll h0 100 50 [.ints .i64 16 [x0, x1, x2, x3, x4, x5, x6, x7, x8, x9, xa, xb, xc, xd, xe, xf]] []) =
    some ([], .ints .u64 4 [w4 x0 x1 x2 x3, w4 x4 x5 x6 x7, w4 x8 x9 xa xb, w4 xc xd xe xf]) := by kernel_rfl
theorem num_ok {args : List AV} {o : List Bool} {v : AV} (h : numS args = some (o, v)) (ho : Paid o) : PureCall Try.prog 50 args v := by
  unfold numS at h
  split at h
  · rename_i l
    cases h
    have hD := allD_iff.1 (ho _ (List.mem_cons_self ..))
    intro ρ N vs ha
    have hb := ha
    cases hb with
    | cons _ _ _ _ r1 hb =>
      have hl : l.length = 16 := by cases r1 with | ints _ _ _ hn _ => exact hn
      obtain ⟨x0, x1, x2, x3, x4, x5, x6, x7, x8, x9, xa, xb, xc, xd, xe, xf, rfl⟩ := sixteen hl
      simp only [List.forall_mem_cons, List.not_mem_nil, false_implies, implies_true, and_true] at hD
      obtain ⟨k0, k1, k2, k3, k4, k5, k6, k7, k8, k9, ka, kb, kc, kd, ke, kf⟩ := hD
      exact pure_of_res mixed noCount h0_ok (by kernel_rfl) (num_eval x0 x1 x2 x3 x4 x5 x6 x7 x8 x9 xa xb xc xd xe xf) Paid.nil
        (by rw [w4_spec k0 k1 k2 k3, w4_spec k4 k5 k6 k7, w4_spec k8 k9 ka kb, w4_spec kc kd ke kf]; rfl) (by kernel_rfl) ha
  · cases h
def h3 : CallH := withC 50 numS (withC 29 digS h2)
theorem h3_ok : HOk Try.prog h3 := (h2_ok.withC fun _ _ _ h _ => dig_ok h).withC fun _ _ _ h ho => num_ok h ho

theorem radd_eval (a0 a1 a2 a3 b0 b1 b2 b3 : Int) : res (funcA Try.prog qAll h3 100 17 [.ints .u64 4 [a0, a1, a2, a3], .ints .u64 4 [b0, b1, b2, b3]] []) =
    some ([allD (addD (digs [a0, a1, a2, a3]) (digs [b0, b1, b2, b3]) 0).1],
      .tuple [.ints .u64 4 (numD (addD (digs [a0, a1, a2, a3]) (digs [b0, b1, b2, b3]) 0).1), .int true .u64 (IntKind.u64.wrap (addD (digs [a0, a1, a2, a3]) (digs [b0, b1, b2, b3]) 0).2)]) := by kernel_rfl
theorem radd_ok {args : List AV} {o : List Bool} {v : AV} (h : addS args = some (o, v)) : PureCall Try.prog 17 args v := by
  unfold addS at h
  split at h
  · rename_i a b
    cases h
    intro ρ N vs ha
    have hb := ha
    cases hb with
    | cons _ _ _ _ r1 hb => cases hb with
      | cons _ _ _ _ r2 hb =>
        obtain ⟨a0, a1, a2, a3, rfl, wa0, wa1, wa2, wa3⟩ := num_arg r1
        obtain ⟨b0, b1, b2, b3, rfl, wb0, wb1, wb2, wb3⟩ := num_arg r2
        obtain ⟨k1, k2, k3⟩ := ref_add wa0 wa1 wa2 wa3 wb0 wb1 wb2 wb3
        exact pure_of_res mixed noCount h3_ok (by kernel_rfl) (radd_eval a0 a1 a2 a3 b0 b1 b2 b3) (paid_cons k1 Paid.nil) (by rw [k2, k3]) (by kernel_rfl) ha
  · cases h
theorem rsub_eval (a0 a1 a2 a3 b0 b1 b2 b3 : Int) : res (funcA Try.prog qAll h3 100 19 [.ints .u64 4 [a0, a1, a2, a3], .ints .u64 4 [b0, b1, b2, b3]] []) =
    some ([allD (subD (digs [a0, a1, a2, a3]) (digs [b0, b1, b2, b3]) 0).1],
      .tuple [.ints .u64 4 (numD (subD (digs [a0, a1, a2, a3]) (digs [b0, b1, b2, b3]) 0).1), .int true .u64 (IntKind.u64.wrap (subD (digs [a0, a1, a2, a3]) (digs [b0, b1, b2, b3]) 0).2)]) := by kernel_rfl
theorem rsub_ok {args : List AV} {o : List Bool} {v : AV} (h : subS args = some (o, v)) : PureCall Try.prog 19 args v := by
  unfold subS at h
  split at h
  · rename_i a b
    cases h
    intro ρ N vs ha
    have hb := ha
    cases hb with
    | cons _ _ _ _ r1 hb => cases hb with
      | cons _ _ _ _ r2 hb =>
        obtain ⟨a0, a1, a2, a3, rfl, wa0, wa1, wa2, wa3⟩ := num_arg r1
        obtain ⟨b0, b1, b2, b3, rfl, wb0, wb1, wb2, wb3⟩ := num_arg r2
        obtain ⟨k1, k2, k3⟩ := ref_sub wa0 wa1 wa2 wa3 wb0 wb1 wb2 wb3
        exact pure_of_res mixed noCount h3_ok (by kernel_rfl) (rsub_eval a0 a1 a2 a3 b0 b1 b2 b3) (paid_cons k1 Paid.nil) (by rw [k2, k3]) (by kernel_rfl) ha
  · cases h
theorem rless_eval (a0 a1 a2 a3 b0 b1 b2 b3 : Int) : (funcA Try.prog qAll h3 100 21 [.ints .u64 4 [a0, a1, a2, a3], .ints .u64 4 [b0, b1, b2, b3]] []).mix = some ([], .bool true (lessE a3 b3 a2 b2 a1 b1 a0 b0)) := by kernel_rfl
theorem rless_ok {args : List AV} {o : List Bool} {v : AV} (h : lessS args = some (o, v)) : PureCall Try.prog 21 args v := by
  unfold lessS at h
  split at h
  · rename_i a b
    cases h
    intro ρ N vs ha
    have hb := ha
    cases hb with
    | cons _ _ _ _ r1 hb => cases hb with
      | cons _ _ _ _ r2 hb =>
        obtain ⟨a0, a1, a2, a3, rfl, wa0, wa1, wa2, wa3⟩ := num_arg r1
        obtain ⟨b0, b1, b2, b3, rfl, wb0, wb1, wb2, wb3⟩ := num_arg r2
        exact pure_of_mix mixed noCount h3_ok (by kernel_rfl) (rless_eval a0 a1 a2 a3 b0 b1 b2 b3) Paid.nil (by rw [lessE_spec wa0 wa1 wa2 wa3 wb0 wb1 wb2 wb3]) ha
  · cases h
def h4 : CallH := withC 21 lessS (withC 19 subS (withC 17 addS h3))
theorem h4_ok : HOk Try.prog h4 := ((h3_ok.withC fun _ _ _ h _ => radd_ok h).withC fun _ _ _ h _ => rsub_ok h).withC fun _ _ _ h _ => rless_ok h
end Go.Proofs.Ytdpaedcgbhlibaa
