/- What the program's functions of layer 2 answer, part by part: products of words, one turn of Montgomery's way. Own work. -/
import Derived.Test.YthddlnldjbijmaaDoorSModM
import Derived.Test.YthddlnldjbijmaaDoorSMyP
import Derived.Test.YthddlnldjbijmaaDoorSEvView
set_option linter.unusedSimpArgs false
set_option linter.unusedVariables false
set_option linter.unusedSectionVars false
namespace Go.Wn
open Go.Ev
theorem iand_low {x : Int} (h : W x) : iand .u64 x 4294967295 = x % 4294967296 := by
  rw [iand_eq, BitVec.toNat_and]
  have h1 : (bv 4294967295).toNat = 2 ^ 32 - 1 := by decide
  rw [h1, Nat.and_two_pow_sub_one_eq_mod]
  have := bv_W h
  omega
theorem ishr32 {x : Int} : ishr .u64 x 32 = x / 4294967296 := by
  have := ishr_eq (k := .u64) (x := x) (r := 32) (by simp [IntKind.bits])
  simpa using this
def mulH (a b : Int) : Int :=
  IntKind.u64.wrap (IntKind.u64.wrap (IntKind.u64.wrap (ishr .u64 a 32 * ishr .u64 b 32) + ishr .u64 (IntKind.u64.wrap (IntKind.u64.wrap (ishr .u64 a 32 * iand .u64 b 4294967295) + ishr .u64 (IntKind.u64.wrap (iand .u64 a 4294967295 * iand .u64 b 4294967295)) 32)) 32) +
    ishr .u64 (IntKind.u64.wrap (iand .u64 (IntKind.u64.wrap (IntKind.u64.wrap (ishr .u64 a 32 * iand .u64 b 4294967295) + ishr .u64 (IntKind.u64.wrap (iand .u64 a 4294967295 * iand .u64 b 4294967295)) 32)) 4294967295 + IntKind.u64.wrap (iand .u64 a 4294967295 * ishr .u64 b 32))) 32)
theorem half_mul {x y : Int} (hx : 0 ≤ x ∧ x < 4294967296) (hy : 0 ≤ y ∧ y < 4294967296) : 0 ≤ x * y ∧ x * y ≤ 18446744065119617025 := by
  refine ⟨Int.mul_nonneg hx.1 hy.1, ?_⟩
  have h1 : x * y ≤ 4294967295 * y := Int.mul_le_mul_of_nonneg_right (by omega) hy.1
  omega
theorem mulH_eq {a b : Int} (ha : W a) (hb : W b) : mulH a b = a * b / 18446744073709551616 := by
  unfold mulH
  rw [iand_low ha, iand_low hb, ishr32 (x := a), ishr32 (x := b), ishr32, iand_low (wrap_W _), ishr32, ishr32]
  have e : a * b = (a / 4294967296) * (b / 4294967296) * 18446744073709551616 + ((a / 4294967296) * (b % 4294967296) + (a % 4294967296) * (b / 4294967296)) * 4294967296 + (a % 4294967296) * (b % 4294967296) := by
    have e1 : a = 4294967296 * (a / 4294967296) + a % 4294967296 := by omega
    have e2 : b = 4294967296 * (b / 4294967296) + b % 4294967296 := by omega
    generalize a / 4294967296 = a1 at *
    generalize a % 4294967296 = a0 at *
    generalize b / 4294967296 = b1 at *
    generalize b % 4294967296 = b0 at *
    rw [e1, e2]
    grind
  rw [e]
  unfold W at ha hb
  have h1 := half_mul (x := a / 4294967296) (y := b / 4294967296) (by omega) (by omega)
  have h2 := half_mul (x := a / 4294967296) (y := b % 4294967296) (by omega) (by omega)
  have h3 := half_mul (x := a % 4294967296) (y := b / 4294967296) (by omega) (by omega)
  have h4 := half_mul (x := a % 4294967296) (y := b % 4294967296) (by omega) (by omega)
  generalize a / 4294967296 * (b / 4294967296) = p at *
  generalize a / 4294967296 * (b % 4294967296) = q at *
  generalize a % 4294967296 * (b / 4294967296) = r at *
  generalize a % 4294967296 * (b % 4294967296) = s at *
  simp only [wrap_eq]
  omega
theorem prod_eq {a b c d : Int} (ha : W a) (hb : W b) (hc : W c) (hd : W d) :
    (a * b % 18446744073709551616 + c + 0) % 18446744073709551616 + d + 0 = (a * b % 18446744073709551616 + c + 0) % 18446744073709551616 + d ∧
    IntKind.u64.wrap (IntKind.u64.wrap (a * b / 18446744073709551616 + (a * b % 18446744073709551616 + c + 0) / 18446744073709551616) + ((a * b % 18446744073709551616 + c + 0) % 18446744073709551616 + d + 0) / 18446744073709551616) = pH a b c d ∧
    ((a * b % 18446744073709551616 + c + 0) % 18446744073709551616 + d + 0) % 18446744073709551616 = pL a b c d := by
  have h := mul_W ha hb
  unfold W pH pL at *
  generalize a * b = P at *
  simp only [wrap_eq]
  omega
end Go.Wn
namespace Go.Proofs.YthddlnldjbijmaaDoor
open Go.Ev Go.Wn
set_option maxRecDepth 100000
theorem int_arg {ρ : Nat → Loc3} {N : Nat → Prop} {s : Bool} {x : Int} {v : Value} (h : Rep ρ N (.int s .u64 x) v) : W x := by
  cases h with | int _ _ _ h => exact inR_W h

def mulS : List AV → E AV
  | [.int _ .u64 a, .int _ .u64 b] => some ([], .tuple [.int true .u64 (a * b / 18446744073709551616), .int true .u64 (a * b % 18446744073709551616)])
  | _ => none
theorem mul_eval (a b : Int) : res (funcA Tryd.prog qAll h0 100 58 [.int true .u64 a, .int true .u64 b] []) = some ([], .tuple [.int true .u64 (mulH a b), .int true .u64 (IntKind.u64.wrap (a * b))]) := by kernel_rfl
theorem remark {ρ : Nat → Loc3} {N : Nat → Prop} {s : Bool} {k : IntKind} {x : Int} {v : Value} (h : Rep ρ N (.int s k x) v) : Rep ρ N (.int true k x) v := by
  cases h with | int _ _ _ h => exact .int _ _ _ h
theorem mul_ok {args : List AV} {o : List Bool} {v : AV} (h : mulS args = some (o, v)) : PureCall Tryd.prog 58 args v := by
  unfold mulS at h
  split at h
  · rename_i s a s' b
    cases h
    intro ρ N vs ha
    cases ha with
    | cons _ _ _ _ r0 hb => cases hb with
      | cons _ _ _ _ r1 hb =>
        cases hb
        exact pure_of_res mixed noCount h0_ok (by kernel_rfl) (mul_eval a b) Paid.nil (by rw [mulH_eq (int_arg r0) (int_arg r1), wrap_eq]) (by kernel_rfl) (.cons _ _ _ _ (remark r0) (.cons _ _ _ _ (remark r1) .nil))
  · cases h
def hm1 : CallH := withC 58 mulS h5
theorem hm1_ok : HOk Tryd.prog hm1 := h5_ok.withC fun _ _ _ h _ => mul_ok h

def prdS : List AV → E AV
  | [.int _ .u64 a, .int _ .u64 b, .int _ .u64 c, .int _ .u64 d] => some ([], .tuple [.int true .u64 (pH a b c d), .int true .u64 (pL a b c d)])
  | _ => none
theorem prd_eval (a b c d : Int) : res (funcA Tryd.prog qAll hm1 100 64 [.int true .u64 a, .int true .u64 b, .int true .u64 c, .int true .u64 d] []) =
    some ([true, true], .tuple [.int true .u64 (IntKind.u64.wrap (IntKind.u64.wrap (a * b / 18446744073709551616 + (a * b % 18446744073709551616 + c + 0) / 18446744073709551616) + ((a * b % 18446744073709551616 + c + 0) % 18446744073709551616 + d + 0) / 18446744073709551616)),
      .int true .u64 (((a * b % 18446744073709551616 + c + 0) % 18446744073709551616 + d + 0) % 18446744073709551616)]) := by kernel_rfl
theorem prd_ok {args : List AV} {o : List Bool} {v : AV} (h : prdS args = some (o, v)) : PureCall Tryd.prog 64 args v := by
  unfold prdS at h
  split at h
  · rename_i s0 a s1 b s2 c s3 d
    cases h
    intro ρ N vs ha
    cases ha with
    | cons _ _ _ _ r0 hb => cases hb with
      | cons _ _ _ _ r1 hb => cases hb with
        | cons _ _ _ _ r2 hb => cases hb with
          | cons _ _ _ _ r3 hb =>
            cases hb
            obtain ⟨_, e1, e2⟩ := prod_eq (int_arg r0) (int_arg r1) (int_arg r2) (int_arg r3)
            exact pure_of_res mixed noCount hm1_ok (by kernel_rfl) (prd_eval a b c d) (paid_cons rfl (paid_cons rfl Paid.nil)) (by rw [e1, e2]) (by kernel_rfl) (.cons _ _ _ _ (remark r0) (.cons _ _ _ _ (remark r1) (.cons _ _ _ _ (remark r2) (.cons _ _ _ _ (remark r3) .nil))))
  · cases h
def hm2 : CallH := withC 64 prdS hm1
theorem hm2_ok : HOk Tryd.prog hm2 := hm1_ok.withC fun _ _ _ h _ => prd_ok h
end Go.Proofs.YthddlnldjbijmaaDoor
