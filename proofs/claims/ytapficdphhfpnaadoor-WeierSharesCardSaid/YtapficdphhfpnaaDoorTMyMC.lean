/- What the reference's functions of layer 1 answer: digits, sums, differences, which is less. Own work. -/
import Derived.Test.YtapficdphhfpnaaDoorTMyC
import Derived.Test.YtapficdphhfpnaaDoorTWordsQ
import Derived.Test.YtapficdphhfpnaaDoorTModM
import Derived.Test.YtapficdphhfpnaaDoorTEvView
set_option linter.unusedSimpArgs false
set_option linter.unusedVariables false
set_option linter.unusedSectionVars false
namespace Go.Proofs.YtapficdphhfpnaaDoor
open Go.Ev Go.Wn
set_option maxRecDepth 100000

def digS : List AV → E AV
  | [.ints .u64 4 a] => some ([], .ints .i64 16 (digs a))
  | _ => none
theorem dig_eval (a b c d : Int) : res (funcA Tryd.prog qAll h0 100 72 [.ints .u64 4 [a, b, c, d]] []) =
    some ([], .ints .i64 16 [dg a 0, dg a 16, dg a 32, dg a 48, dg b 0, dg b 16, dg b 32, dg b 48, dg c 0, dg c 16, dg c 32, dg c 48, dg d 0, dg d 16, dg d 32, dg d 48]) := by kernel_rfl
theorem dig_ok {args : List AV} {o : List Bool} {v : AV} (h : digS args = some (o, v)) : PureCall Tryd.prog 72 args v := by
  unfold digS at h
  split at h
  · rename_i a
    cases h
    intro ρ N vs ha
    have hb := ha
    cases hb with
    | cons _ _ _ _ r1 hb =>
      obtain ⟨a0, a1, a2, a3, rfl, w0, w1, w2, w3⟩ := num_arg r1
      have d0 := dg_spec w0; have d1 := dg_spec w1; have d2 := dg_spec w2; have d3 := dg_spec w3
      exact pure_of_res mixed noCount h0_ok (by kernel_rfl) (dig_eval a0 a1 a2 a3) Paid.nil
        (by rw [d0.1, d0.2.1, d0.2.2.1, d0.2.2.2, d1.1, d1.2.1, d1.2.2.1, d1.2.2.2, d2.1, d2.2.1, d2.2.2.1, d2.2.2.2, d3.1, d3.2.1, d3.2.2.1, d3.2.2.2]; rfl) (by kernel_rfl) ha
  · cases h

def numS : List AV → E AV
  | [.ints .i64 16 l] => some ([allD l], .ints .u64 4 (numD l))
  | _ => none
theorem num_eval (x0 x1 x2 x3 x4 x5 x6 x7 x8 x9 xa xb xc xd xe xf : Int) : res (funcA Tryd.prog qAll h0 100 53 [.ints .i64 16 [x0, x1, x2, x3, x4, x5, x6, x7, x8, x9, xa, xb, xc, xd, xe, xf]] []) =
    some ([], .ints .u64 4 [w4 x0 x1 x2 x3, w4 x4 x5 x6 x7, w4 x8 x9 xa xb, w4 xc xd xe xf]) := by kernel_rfl
theorem num_ok {args : List AV} {o : List Bool} {v : AV} (h : numS args = some (o, v)) (ho : Paid o) : PureCall Tryd.prog 53 args v := by
  unfold numS at h
  split at h
  · rename_i l
    cases h
    have hD := allD_iff.1 (ho _ (List.mem_cons_self ..))
    intro ρ N vs ha
    have hb := ha
    cases hb with
    | cons _ _ _ _ r1 hb =>
      have hl : l.length = 16 := by cases r1 with | ints _ _ _ hn _ => exact hn
      obtain ⟨x0, x1, x2, x3, x4, x5, x6, x7, x8, x9, xa, xb, xc, xd, xe, xf, rfl⟩ := sixteen hl
      simp only [List.forall_mem_cons, List.not_mem_nil, false_implies, implies_true, and_true] at hD
      obtain ⟨k0, k1, k2, k3, k4, k5, k6, k7, k8, k9, ka, kb, kc, kd, ke, kf⟩ := hD
      exact pure_of_res mixed noCount h0_ok (by kernel_rfl) (num_eval x0 x1 x2 x3 x4 x5 x6 x7 x8 x9 xa xb xc xd xe xf) Paid.nil
        (by rw [w4_spec k0 k1 k2 k3, w4_spec k4 k5 k6 k7, w4_spec k8 k9 ka kb, w4_spec kc kd ke kf]; rfl) (by kernel_rfl) ha
  · cases h
def h3 : CallH := withC 53 numS (withC 72 digS h2)
theorem h3_ok : HOk Tryd.prog h3 := (h2_ok.withC fun _ _ _ h _ => dig_ok h).withC fun _ _ _ h ho => num_ok h ho

theorem rsub_eval (a0 a1 a2 a3 b0 b1 b2 b3 : Int) : res (funcA Tryd.prog qAll h3 100 55 [.ints .u64 4 [a0, a1, a2, a3], .ints .u64 4 [b0, b1, b2, b3]] []) =
    some ([allD (subD (digs [a0, a1, a2, a3]) (digs [b0, b1, b2, b3]) 0).1],
      .tuple [.ints .u64 4 (numD (subD (digs [a0, a1, a2, a3]) (digs [b0, b1, b2, b3]) 0).1), .int true .u64 (IntKind.u64.wrap (subD (digs [a0, a1, a2, a3]) (digs [b0, b1, b2, b3]) 0).2)]) := by kernel_rfl
theorem rsub_ok {args : List AV} {o : List Bool} {v : AV} (h : subS args = some (o, v)) : PureCall Tryd.prog 55 args v := by
  unfold subS at h
  split at h
  · rename_i a b
    cases h
    intro ρ N vs ha
    have hb := ha
    cases hb with
    | cons _ _ _ _ r1 hb => cases hb with
      | cons _ _ _ _ r2 hb =>
        obtain ⟨a0, a1, a2, a3, rfl, wa0, wa1, wa2, wa3⟩ := num_arg r1
        obtain ⟨b0, b1, b2, b3, rfl, wb0, wb1, wb2, wb3⟩ := num_arg r2
        obtain ⟨k1, k2, k3⟩ := ref_sub wa0 wa1 wa2 wa3 wb0 wb1 wb2 wb3
        exact pure_of_res mixed noCount h3_ok (by kernel_rfl) (rsub_eval a0 a1 a2 a3 b0 b1 b2 b3) (paid_cons k1 Paid.nil) (by rw [k2, k3]) (by kernel_rfl) ha
  · cases h
theorem rless_eval (a0 a1 a2 a3 b0 b1 b2 b3 : Int) : (funcA Tryd.prog qAll h3 100 50 [.ints .u64 4 [a0, a1, a2, a3], .ints .u64 4 [b0, b1, b2, b3]] []).mix = some ([], .bool true (lessE a3 b3 a2 b2 a1 b1 a0 b0)) := by kernel_rfl
theorem rless_ok {args : List AV} {o : List Bool} {v : AV} (h : lessS args = some (o, v)) : PureCall Tryd.prog 50 args v := by
  unfold lessS at h
  split at h
  · rename_i a b
    cases h
    intro ρ N vs ha
    have hb := ha
    cases hb with
    | cons _ _ _ _ r1 hb => cases hb with
      | cons _ _ _ _ r2 hb =>
        obtain ⟨a0, a1, a2, a3, rfl, wa0, wa1, wa2, wa3⟩ := num_arg r1
        obtain ⟨b0, b1, b2, b3, rfl, wb0, wb1, wb2, wb3⟩ := num_arg r2
        exact pure_of_mix mixed noCount h3_ok (by kernel_rfl) (rless_eval a0 a1 a2 a3 b0 b1 b2 b3) Paid.nil (by rw [lessE_spec wa0 wa1 wa2 wa3 wb0 wb1 wb2 wb3]) ha
  · cases h
def h4 : CallH := withC 50 lessS (withC 55 subS h3)
theorem h4_ok : HOk Tryd.prog h4 := (h3_ok.withC fun _ _ _ h _ => rsub_ok h).withC fun _ _ _ h _ => rless_ok h
end Go.Proofs.YtapficdphhfpnaaDoor
namespace Go.Proofs.YtapficdphhfpnaaDoor
open Go.Ev Go.Wn
set_option maxRecDepth 100000

def pickL (x : Int) (a b : List Int) : List Int := if x % 2 = 1 then a else b
def pickS : List AV → E AV
  | [.int _ .u64 x, .ints .u64 4 a, .ints .u64 4 b] => some ([], .ints .u64 4 (pickL x a b))
  | _ => none
theorem pick_eval (s : Bool) (x a b c d e f g h : Int) : res (funcA Tryd.prog qAll h0 100 78 [.int s .u64 x, .ints .u64 4 [a, b, c, d], .ints .u64 4 [e, f, g, h]] []) =
    some ([], .ints .u64 4 [pickW x a e, pickW x b f, pickW x c g, pickW x d h]) := by kernel_rfl
theorem pick_ok {args : List AV} {o : List Bool} {v : AV} (h : pickS args = some (o, v)) : PureCall Tryd.prog 78 args v := by
  unfold pickS at h
  split at h
  · rename_i s x a b
    cases h
    intro ρ N vs ha
    have hb := ha
    cases hb with
    | cons _ _ _ _ r0 hb => cases hb with
      | cons _ _ _ _ r1 hb => cases hb with
        | cons _ _ _ _ r2 hb =>
          have wx : W x := by cases r0 with | int _ _ _ h => exact inR_W h
          obtain ⟨a0, a1, a2, a3, rfl, wa0, wa1, wa2, wa3⟩ := num_arg r1
          obtain ⟨b0, b1, b2, b3, rfl, wb0, wb1, wb2, wb3⟩ := num_arg r2
          exact pure_of_res mixed noCount h0_ok (by kernel_rfl) (pick_eval s x a0 a1 a2 a3 b0 b1 b2 b3) Paid.nil
            (by rw [pickW_spec wx wa0 wb0, pickW_spec wx wa1 wb1, pickW_spec wx wa2 wb2, pickW_spec wx wa3 wb3]; unfold pickL; split <;> rfl) (by kernel_rfl) ha
  · cases h

def bitC (i : Int) : Bool := match decide (i < 0) with | true => true | false => decide (i > 255)
def bitV (l : List Int) (i : Int) : Int := match bitC i with | true => 0 | false => bitP l i
def bitS : List AV → E AV
  | [.ints .u64 4 a, .int _ .i64 i] => some ([], .int true .u64 (bitV a i))
  | _ => none
theorem bit_eval (a b c d i : Int) : (funcA Tryd.prog qAll h0 100 61 [.ints .u64 4 [a, b, c, d], .int true .i64 i] []).mix =
    some ([!(!decide (i < 0)) || !decide (i < 0), decide (i < 0) || !decide (i < 0), bitC i || (decide (0 ≤ w64 (i.tdiv 64)) && decide (w64 (i.tdiv 64) < ((4 : Nat) : Int))), bitC i || decide (0 + (w64 (i.tdiv 64)).toNat * 1 + 1 ≤ 4), bitC i || !decide (i.tmod 64 < 0)],
      .int true .u64 (bitV [a, b, c, d] i)) := by kernel_rfl
theorem bit_owed (i : Int) : Paid [!(!decide (i < 0)) || !decide (i < 0), decide (i < 0) || !decide (i < 0), bitC i || (decide (0 ≤ w64 (i.tdiv 64)) && decide (w64 (i.tdiv 64) < ((4 : Nat) : Int))), bitC i || decide (0 + (w64 (i.tdiv 64)).toNat * 1 + 1 ≤ 4), bitC i || !decide (i.tmod 64 < 0)] := by
  refine paid_cons (by cases decide (i < 0) <;> rfl) (paid_cons (by cases decide (i < 0) <;> rfl) ?_)
  cases hc : bitC i with
  | true => exact paid_cons rfl (paid_cons rfl (paid_cons rfl Paid.nil))
  | false =>
    have hi : 0 ≤ i ∧ i ≤ 255 := by
      unfold bitC at hc
      by_cases h : i < 0
      · rw [decide_eq_true h] at hc; cases hc
      · rw [decide_eq_false h] at hc
        simp at hc
        omega
    have e1 : i.tdiv 64 = i / 64 := Int.tdiv_eq_ediv_of_nonneg hi.1
    have e2 : i.tmod 64 = i % 64 := Int.tmod_eq_emod_of_nonneg hi.1
    rw [e1, e2, w64_id (x := i / 64) (by omega)]
    refine paid_cons ?_ (paid_cons ?_ (paid_cons ?_ Paid.nil))
    · rw [decide_eq_true (by omega : 0 ≤ i / 64), decide_eq_true (by omega : i / 64 < ((4 : Nat) : Int))]; rfl
    · rw [decide_eq_true (by omega : 0 + (i / 64).toNat * 1 + 1 ≤ 4)]; rfl
    · rw [decide_eq_false (by omega : ¬ i % 64 < 0)]; rfl
theorem bit_ok {args : List AV} {o : List Bool} {v : AV} (h : bitS args = some (o, v)) : PureCall Tryd.prog 61 args v := by
  unfold bitS at h
  split at h
  · rename_i a s i
    cases h
    intro ρ N vs ha
    have hb := ha
    cases hb with
    | cons _ _ _ _ r1 hb => cases hb with
      | cons _ _ v2 _ r2 hb => cases hb with
        | nil =>
          obtain ⟨a0, a1, a2, a3, rfl, wa0, wa1, wa2, wa3⟩ := num_arg r1
          have r2' : Rep ρ N (.int true .i64 i) v2 := by cases r2 with | int _ _ _ h => exact .int true _ _ h
          exact pure_of_mix mixed noCount h0_ok (by kernel_rfl) (bit_eval a0 a1 a2 a3 i) (bit_owed i) rfl (.cons _ _ _ _ r1 (.cons _ _ _ _ r2' .nil))
  · cases h
def h5 : CallH := withC 61 bitS (withC 78 pickS h4)
theorem h5_ok : HOk Tryd.prog h5 := (h4_ok.withC fun _ _ _ h _ => pick_ok h).withC fun _ _ _ h _ => bit_ok h
end Go.Proofs.YtapficdphhfpnaaDoor
namespace Go.Wn
open Go.Ev
theorem iand_low {x : Int} (h : W x) : iand .u64 x 4294967295 = x % 4294967296 := by
  rw [iand_eq, BitVec.toNat_and]
  have h1 : (bv 4294967295).toNat = 2 ^ 32 - 1 := by decide
  rw [h1, Nat.and_two_pow_sub_one_eq_mod]
  have := bv_W h
  omega
theorem ishr32 {x : Int} : ishr .u64 x 32 = x / 4294967296 := by
  have := ishr_eq (k := .u64) (x := x) (r := 32) (by simp [IntKind.bits])
  simpa using this
def mulH (a b : Int) : Int :=
  IntKind.u64.wrap (IntKind.u64.wrap (IntKind.u64.wrap (ishr .u64 a 32 * ishr .u64 b 32) + ishr .u64 (IntKind.u64.wrap (IntKind.u64.wrap (ishr .u64 a 32 * iand .u64 b 4294967295) + ishr .u64 (IntKind.u64.wrap (iand .u64 a 4294967295 * iand .u64 b 4294967295)) 32)) 32) +
    ishr .u64 (IntKind.u64.wrap (iand .u64 (IntKind.u64.wrap (IntKind.u64.wrap (ishr .u64 a 32 * iand .u64 b 4294967295) + ishr .u64 (IntKind.u64.wrap (iand .u64 a 4294967295 * iand .u64 b 4294967295)) 32)) 4294967295 + IntKind.u64.wrap (iand .u64 a 4294967295 * ishr .u64 b 32))) 32)
theorem half_mul {x y : Int} (hx : 0 ≤ x ∧ x < 4294967296) (hy : 0 ≤ y ∧ y < 4294967296) : 0 ≤ x * y ∧ x * y ≤ 18446744065119617025 := by
  refine ⟨Int.mul_nonneg hx.1 hy.1, ?_⟩
  have h1 : x * y ≤ 4294967295 * y := Int.mul_le_mul_of_nonneg_right (by omega) hy.1
  omega
theorem mulH_eq {a b : Int} (ha : W a) (hb : W b) : mulH a b = a * b / 18446744073709551616 := by
  unfold mulH
  rw [iand_low ha, iand_low hb, ishr32 (x := a), ishr32 (x := b), ishr32, iand_low (wrap_W _), ishr32, ishr32]
  have e : a * b = (a / 4294967296) * (b / 4294967296) * 18446744073709551616 + ((a / 4294967296) * (b % 4294967296) + (a % 4294967296) * (b / 4294967296)) * 4294967296 + (a % 4294967296) * (b % 4294967296) := by
    have e1 : a = 4294967296 * (a / 4294967296) + a % 4294967296 := by omega
    have e2 : b = 4294967296 * (b / 4294967296) + b % 4294967296 := by omega
    generalize a / 4294967296 = a1 at *
    generalize a % 4294967296 = a0 at *
    generalize b / 4294967296 = b1 at *
    generalize b % 4294967296 = b0 at *
    rw [e1, e2]
    grind
  rw [e]
  unfold W at ha hb
  have h1 := half_mul (x := a / 4294967296) (y := b / 4294967296) (by omega) (by omega)
  have h2 := half_mul (x := a / 4294967296) (y := b % 4294967296) (by omega) (by omega)
  have h3 := half_mul (x := a % 4294967296) (y := b / 4294967296) (by omega) (by omega)
  have h4 := half_mul (x := a % 4294967296) (y := b % 4294967296) (by omega) (by omega)
  generalize a / 4294967296 * (b / 4294967296) = p at *
  generalize a / 4294967296 * (b % 4294967296) = q at *
  generalize a % 4294967296 * (b / 4294967296) = r at *
  generalize a % 4294967296 * (b % 4294967296) = s at *
  simp only [wrap_eq]
  omega
theorem prod_eq {a b c d : Int} (ha : W a) (hb : W b) (hc : W c) (hd : W d) :
    (a * b % 18446744073709551616 + c + 0) % 18446744073709551616 + d + 0 = (a * b % 18446744073709551616 + c + 0) % 18446744073709551616 + d ∧
    IntKind.u64.wrap (IntKind.u64.wrap (a * b / 18446744073709551616 + (a * b % 18446744073709551616 + c + 0) / 18446744073709551616) + ((a * b % 18446744073709551616 + c + 0) % 18446744073709551616 + d + 0) / 18446744073709551616) = pH a b c d ∧
    ((a * b % 18446744073709551616 + c + 0) % 18446744073709551616 + d + 0) % 18446744073709551616 = pL a b c d := by
  have h := mul_W ha hb
  unfold W pH pL at *
  generalize a * b = P at *
  simp only [wrap_eq]
  omega
end Go.Wn
namespace Go.Proofs.YtapficdphhfpnaaDoor
open Go.Ev Go.Wn
set_option maxRecDepth 100000
theorem int_arg {ρ : Nat → Loc3} {N : Nat → Prop} {s : Bool} {x : Int} {v : Value} (h : Rep ρ N (.int s .u64 x) v) : W x := by
  cases h with | int _ _ _ h => exact inR_W h

def mulS : List AV → E AV
  | [.int _ .u64 a, .int _ .u64 b] => some ([], .tuple [.int true .u64 (a * b / 18446744073709551616), .int true .u64 (a * b % 18446744073709551616)])
  | _ => none
theorem mul_eval (a b : Int) : res (funcA Tryd.prog qAll h0 100 66 [.int true .u64 a, .int true .u64 b] []) = some ([], .tuple [.int true .u64 (mulH a b), .int true .u64 (IntKind.u64.wrap (a * b))]) := by kernel_rfl
theorem remark {ρ : Nat → Loc3} {N : Nat → Prop} {s : Bool} {k : IntKind} {x : Int} {v : Value} (h : Rep ρ N (.int s k x) v) : Rep ρ N (.int true k x) v := by
  cases h with | int _ _ _ h => exact .int _ _ _ h
theorem mul_ok {args : List AV} {o : List Bool} {v : AV} (h : mulS args = some (o, v)) : PureCall Tryd.prog 66 args v := by
  unfold mulS at h
  split at h
  · rename_i s a s' b
    cases h
    intro ρ N vs ha
    cases ha with
    | cons _ _ _ _ r0 hb => cases hb with
      | cons _ _ _ _ r1 hb =>
        cases hb
        exact pure_of_res mixed noCount h0_ok (by kernel_rfl) (mul_eval a b) Paid.nil (by rw [mulH_eq (int_arg r0) (int_arg r1), wrap_eq]) (by kernel_rfl) (.cons _ _ _ _ (remark r0) (.cons _ _ _ _ (remark r1) .nil))
  · cases h
def hm1 : CallH := withC 66 mulS h5
theorem hm1_ok : HOk Tryd.prog hm1 := h5_ok.withC fun _ _ _ h _ => mul_ok h

def prdS : List AV → E AV
  | [.int _ .u64 a, .int _ .u64 b, .int _ .u64 c, .int _ .u64 d] => some ([], .tuple [.int true .u64 (pH a b c d), .int true .u64 (pL a b c d)])
  | _ => none
theorem prd_eval (a b c d : Int) : res (funcA Tryd.prog qAll hm1 100 85 [.int true .u64 a, .int true .u64 b, .int true .u64 c, .int true .u64 d] []) =
    some ([true, true], .tuple [.int true .u64 (IntKind.u64.wrap (IntKind.u64.wrap (a * b / 18446744073709551616 + (a * b % 18446744073709551616 + c + 0) / 18446744073709551616) + ((a * b % 18446744073709551616 + c + 0) % 18446744073709551616 + d + 0) / 18446744073709551616)),
      .int true .u64 (((a * b % 18446744073709551616 + c + 0) % 18446744073709551616 + d + 0) % 18446744073709551616)]) := by kernel_rfl
theorem prd_ok {args : List AV} {o : List Bool} {v : AV} (h : prdS args = some (o, v)) : PureCall Tryd.prog 85 args v := by
  unfold prdS at h
  split at h
  · rename_i s0 a s1 b s2 c s3 d
    cases h
    intro ρ N vs ha
    cases ha with
    | cons _ _ _ _ r0 hb => cases hb with
      | cons _ _ _ _ r1 hb => cases hb with
        | cons _ _ _ _ r2 hb => cases hb with
          | cons _ _ _ _ r3 hb =>
            cases hb
            obtain ⟨_, e1, e2⟩ := prod_eq (int_arg r0) (int_arg r1) (int_arg r2) (int_arg r3)
            exact pure_of_res mixed noCount hm1_ok (by kernel_rfl) (prd_eval a b c d) (paid_cons rfl (paid_cons rfl Paid.nil)) (by rw [e1, e2]) (by kernel_rfl) (.cons _ _ _ _ (remark r0) (.cons _ _ _ _ (remark r1) (.cons _ _ _ _ (remark r2) (.cons _ _ _ _ (remark r3) .nil))))
  · cases h
def hm2 : CallH := withC 85 prdS hm1
theorem hm2_ok : HOk Tryd.prog hm2 := hm1_ok.withC fun _ _ _ h _ => prd_ok h
end Go.Proofs.YtapficdphhfpnaaDoor
