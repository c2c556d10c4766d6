/- A time's bytes read: contracts for bytes that may be a time's. Own work. -/
import Derived.Test.YtjhjhhibfojpiaaTDtF
set_option linter.unusedSimpArgs false
set_option linter.unusedVariables false
set_option linter.unusedSectionVars false
namespace Go.Proofs.Ytjhjhhibfojpiaa
open Go.Ev Go.De Go.Dt
set_option maxRecDepth 100000
set_option linter.unusedSimpArgs false
set_option linter.unusedVariables false
set_option linter.unusedSectionVars false
variable [Tab]
/-- What a time's numbers come to. -/
def tmV (b : Bool) (Y M D H I S : Nat) : AV := match b with
  | true => .tuple [.int true .u64 (secs Y M D H I S : Int), .bool false true]
  | false => .tuple [.int false .u64 0, .bool false false]
theorem there_range {Y M D H I S : Nat} (h : there Y M D H I S = true) : 1970 ≤ Y ∧ 1 ≤ M ∧ M ≤ 12 ∧ 1 ≤ D ∧ D ≤ 31 ∧ H < 24 ∧ I < 60 ∧ S < 60 := by
  unfold there at h
  simp only [Bool.and_eq_true, decide_eq_true_eq] at h
  have := (lenM_range Y M).2
  omega
theorem tw_99 {a b : Int} (ha : isD a = true) (hb : isD b = true) : tw a b ≤ 99 := (mvX_eq ha hb).2
def ti24tD (tag a0 a1 a2 a3 a4 a5 a6 a7 a8 a9 a10 a11 a12 a13 a14 : Int) : List Bool := [(!(!decide (([a14] : List Int) = (90 :: [])))), decide (((digN [a0, a1, a2, a3, a4, a5, a6, a7, a8, a9, a10, a11, a12, a13] 14) : Bool) = (true)), (tag == 24), (tag == 24), (tag == 24), (tag == 24), decide (((digN [a0, a1, a2, a3, a4, a5, a6, a7, a8, a9, a10, a11, a12, a13] 14) : Bool) = (true)), decide ((0 : Int) ≤ ((((100 * (tw a0 a1)) + (tw a2 a3)) : Nat) : Int)), decide ((0 : Int) ≤ (((tw a4 a5) : Nat) : Int)), decide ((0 : Int) ≤ (((tw a6 a7) : Nat) : Int)), decide ((0 : Int) ≤ (((tw a8 a9) : Nat) : Int)), decide ((0 : Int) ≤ (((tw a10 a11) : Nat) : Int)), decide ((0 : Int) ≤ (((tw a12 a13) : Nat) : Int)), (!(!(there (Int.toNat ((((100 * (tw a0 a1)) + (tw a2 a3)) : Nat) : Int)) (Int.toNat (((tw a4 a5) : Nat) : Int)) (Int.toNat (((tw a6 a7) : Nat) : Int)) (Int.toNat (((tw a8 a9) : Nat) : Int)) (Int.toNat (((tw a10 a11) : Nat) : Int)) (Int.toNat (((tw a12 a13) : Nat) : Int))))), decide ((1970 : Int) ≤ ((((100 * (tw a0 a1)) + (tw a2 a3)) : Nat) : Int)), decide ((((((100 * (tw a0 a1)) + (tw a2 a3)) : Nat) : Int) : Int) ≤ 9999), decide ((1 : Int) ≤ (((tw a4 a5) : Nat) : Int)), decide (((((tw a4 a5) : Nat) : Int) : Int) ≤ 12), decide ((1 : Int) ≤ (((tw a6 a7) : Nat) : Int)), decide (((((tw a6 a7) : Nat) : Int) : Int) ≤ 31), decide ((0 : Int) ≤ (((tw a8 a9) : Nat) : Int)), decide (((((tw a8 a9) : Nat) : Int) : Int) < 24), decide ((0 : Int) ≤ (((tw a10 a11) : Nat) : Int)), decide (((((tw a10 a11) : Nat) : Int) : Int) < 60), decide ((0 : Int) ≤ (((tw a12 a13) : Nat) : Int)), decide (((((tw a12 a13) : Nat) : Int) : Int) < 60)]
theorem ti24t_eval (tag a0 a1 a2 a3 a4 a5 a6 a7 a8 a9 a10 a11 a12 a13 a14 : Int) : res ((funcA Try.prog qR (dH (alH qA true true [] (hmo (hth (hd2 n0)))) 7) 200 13 (cArgs 0 [.pl (.int true .u8 tag), .buf false .u8 15 [a0, a1, a2, a3, a4, a5, a6, a7, a8, a9, a10, a11, a12, a13, a14]]) (cMem [.pl (.int true .u8 tag), .buf false .u8 15 [a0, a1, a2, a3, a4, a5, a6, a7, a8, a9, a10, a11, a12, a13, a14]])).go [false]) = some (ti24tD tag a0 a1 a2 a3 a4 a5 a6 a7 a8 a9 a10 a11 a12 a13 a14, tmV true (100 * tw a0 a1 + tw a2 a3) (tw a4 a5) (tw a6 a7) (tw a8 a9) (tw a10 a11) (tw a12 a13)) := by kernel_rfl
theorem ti24t_paid {tag a0 a1 a2 a3 a4 a5 a6 a7 a8 a9 a10 a11 a12 a13 a14 : Int} (ht : tag = 24) (hz : a14 = 90) (hd : digs [a0, a1, a2, a3, a4, a5, a6, a7, a8, a9, a10, a11, a12, a13] = true) (hth : there (100 * tw a0 a1 + tw a2 a3) (tw a4 a5) (tw a6 a7) (tw a8 a9) (tw a10 a11) (tw a12 a13) = true) : Paid (ti24tD tag a0 a1 a2 a3 a4 a5 a6 a7 a8 a9 a10 a11 a12 a13 a14) := by
  subst ht hz
  have hd1 : digN [a0, a1, a2, a3, a4, a5, a6, a7, a8, a9, a10, a11, a12, a13] 14 = true := hd
  have hd2 : digN [a0, a1, a2, a3, a4, a5, a6, a7, a8, a9, a10, a11, a12, a13] 14 = true := hd
  have hdl := List.all_eq_true.1 hd
  have t0 := tw_99 (hdl a0 (by simp)) (hdl a1 (by simp))
  have t1 := tw_99 (hdl a2 (by simp)) (hdl a3 (by simp))
  have t2 := tw_99 (hdl a4 (by simp)) (hdl a5 (by simp))
  have t3 := tw_99 (hdl a6 (by simp)) (hdl a7 (by simp))
  have t4 := tw_99 (hdl a8 (by simp)) (hdl a9 (by simp))
  have t5 := tw_99 (hdl a10 (by simp)) (hdl a11 (by simp))
  have t6 := tw_99 (hdl a12 (by simp)) (hdl a13 (by simp))
  unfold ti24tD
  simp only [Int.toNat_natCast, hth, hd1, hd2]
  have hR := there_range hth
  have z19 : tw 49 57 = 19 := rfl
  have z20 : tw 50 48 = 20 := rfl
  refine paid_cons ?_ (paid_cons ?_ (paid_cons ?_ (paid_cons ?_ (paid_cons ?_ (paid_cons ?_ (paid_cons ?_ (paid_cons ?_ (paid_cons ?_ (paid_cons ?_ (paid_cons ?_ (paid_cons ?_ (paid_cons ?_ (paid_cons ?_ (paid_cons ?_ (paid_cons ?_ (paid_cons ?_ (paid_cons ?_ (paid_cons ?_ (paid_cons ?_ (paid_cons ?_ (paid_cons ?_ (paid_cons ?_ (paid_cons ?_ (paid_cons ?_ (paid_cons ?_ (fun _ h => by cases h))))))))))))))))))))))))))
  all_goals first | rfl | ((try simp only [Bool.and_eq_true, Bool.or_eq_true, Bool.not_eq_true', Bool.not_true, Bool.not_false, Bool.not_eq_eq_eq_not, decide_eq_true_eq, decide_eq_false_iff_not, beq_iff_eq, beq_eq_false_iff_ne, bne_iff_ne, bne_eq_false_iff_eq, ne_eq, Bool.or_eq_false_iff, Bool.and_eq_false_imp, Bool.and_true, Bool.true_and, Bool.or_false, Bool.false_or, Bool.or_true, Bool.true_or, Bool.and_false, Bool.false_and, and_true, true_and, not_true_eq_false, not_false_eq_true, List.cons.injEq]) <;> omega)
def ti24fD (tag a0 a1 a2 a3 a4 a5 a6 a7 a8 a9 a10 a11 a12 a13 a14 : Int) : List Bool := [(!(!decide (([a14] : List Int) = (90 :: [])))), decide (((digN [a0, a1, a2, a3, a4, a5, a6, a7, a8, a9, a10, a11, a12, a13] 14) : Bool) = (true)), (tag == 24), (tag == 24), (tag == 24), (tag == 24), decide (((digN [a0, a1, a2, a3, a4, a5, a6, a7, a8, a9, a10, a11, a12, a13] 14) : Bool) = (true)), decide ((0 : Int) ≤ ((((100 * (tw a0 a1)) + (tw a2 a3)) : Nat) : Int)), decide ((0 : Int) ≤ (((tw a4 a5) : Nat) : Int)), decide ((0 : Int) ≤ (((tw a6 a7) : Nat) : Int)), decide ((0 : Int) ≤ (((tw a8 a9) : Nat) : Int)), decide ((0 : Int) ≤ (((tw a10 a11) : Nat) : Int)), decide ((0 : Int) ≤ (((tw a12 a13) : Nat) : Int)), (!(there (Int.toNat ((((100 * (tw a0 a1)) + (tw a2 a3)) : Nat) : Int)) (Int.toNat (((tw a4 a5) : Nat) : Int)) (Int.toNat (((tw a6 a7) : Nat) : Int)) (Int.toNat (((tw a8 a9) : Nat) : Int)) (Int.toNat (((tw a10 a11) : Nat) : Int)) (Int.toNat (((tw a12 a13) : Nat) : Int))))]
theorem ti24f_eval (tag a0 a1 a2 a3 a4 a5 a6 a7 a8 a9 a10 a11 a12 a13 a14 : Int) : res ((funcA Try.prog qR (dH (alH qA true true [] (hmo (hth (hd2 n0)))) 7) 200 13 (cArgs 0 [.pl (.int true .u8 tag), .buf false .u8 15 [a0, a1, a2, a3, a4, a5, a6, a7, a8, a9, a10, a11, a12, a13, a14]]) (cMem [.pl (.int true .u8 tag), .buf false .u8 15 [a0, a1, a2, a3, a4, a5, a6, a7, a8, a9, a10, a11, a12, a13, a14]])).go [true]) = some (ti24fD tag a0 a1 a2 a3 a4 a5 a6 a7 a8 a9 a10 a11 a12 a13 a14, tmV false (100 * tw a0 a1 + tw a2 a3) (tw a4 a5) (tw a6 a7) (tw a8 a9) (tw a10 a11) (tw a12 a13)) := by kernel_rfl
theorem ti24f_paid {tag a0 a1 a2 a3 a4 a5 a6 a7 a8 a9 a10 a11 a12 a13 a14 : Int} (ht : tag = 24) (hz : a14 = 90) (hd : digs [a0, a1, a2, a3, a4, a5, a6, a7, a8, a9, a10, a11, a12, a13] = true) (hth : there (100 * tw a0 a1 + tw a2 a3) (tw a4 a5) (tw a6 a7) (tw a8 a9) (tw a10 a11) (tw a12 a13) = false) : Paid (ti24fD tag a0 a1 a2 a3 a4 a5 a6 a7 a8 a9 a10 a11 a12 a13 a14) := by
  subst ht hz
  have hd1 : digN [a0, a1, a2, a3, a4, a5, a6, a7, a8, a9, a10, a11, a12, a13] 14 = true := hd
  have hd2 : digN [a0, a1, a2, a3, a4, a5, a6, a7, a8, a9, a10, a11, a12, a13] 14 = true := hd
  have hdl := List.all_eq_true.1 hd
  have t0 := tw_99 (hdl a0 (by simp)) (hdl a1 (by simp))
  have t1 := tw_99 (hdl a2 (by simp)) (hdl a3 (by simp))
  have t2 := tw_99 (hdl a4 (by simp)) (hdl a5 (by simp))
  have t3 := tw_99 (hdl a6 (by simp)) (hdl a7 (by simp))
  have t4 := tw_99 (hdl a8 (by simp)) (hdl a9 (by simp))
  have t5 := tw_99 (hdl a10 (by simp)) (hdl a11 (by simp))
  have t6 := tw_99 (hdl a12 (by simp)) (hdl a13 (by simp))
  unfold ti24fD
  simp only [Int.toNat_natCast, hth, hd1, hd2]
  have z19 : tw 49 57 = 19 := rfl
  have z20 : tw 50 48 = 20 := rfl
  refine paid_cons ?_ (paid_cons ?_ (paid_cons ?_ (paid_cons ?_ (paid_cons ?_ (paid_cons ?_ (paid_cons ?_ (paid_cons ?_ (paid_cons ?_ (paid_cons ?_ (paid_cons ?_ (paid_cons ?_ (paid_cons ?_ (paid_cons ?_ (fun _ h => by cases h))))))))))))))
  all_goals first | rfl | ((try simp only [Bool.and_eq_true, Bool.or_eq_true, Bool.not_eq_true', Bool.not_true, Bool.not_false, Bool.not_eq_eq_eq_not, decide_eq_true_eq, decide_eq_false_iff_not, beq_iff_eq, beq_eq_false_iff_ne, bne_iff_ne, bne_eq_false_iff_eq, ne_eq, Bool.or_eq_false_iff, Bool.and_eq_false_imp, Bool.and_true, Bool.true_and, Bool.or_false, Bool.false_or, Bool.or_true, Bool.true_or, Bool.and_false, Bool.false_and, and_true, true_and, not_true_eq_false, not_false_eq_true, List.cons.injEq]) <;> omega)
def ti19tD (tag a0 a1 a2 a3 a4 a5 a6 a7 a8 a9 a10 a11 a12 : Int) : List Bool := [(!(!decide (([a12] : List Int) = (90 :: [])))), decide (((digN [a0, a1, a2, a3, a4, a5, a6, a7, a8, a9, a10, a11] 12) : Bool) = (true)), (!(tag == 24)), (!(tag == 24)), (!(tag == 24)), (!(tag == 24)), (tag == 23), (tag == 23), (tag == 23), (tag == 23), decide ((a0 : Int) ≥ 53), decide (((digN [49, 57, a0, a1, a2, a3, a4, a5, a6, a7, a8, a9, a10, a11] 14) : Bool) = (true)), decide ((0 : Int) ≤ ((((100 * (tw (49 : Int) (57 : Int))) + (tw (a0 : Int) (a1 : Int))) : Nat) : Int)), decide ((0 : Int) ≤ (((tw (a2 : Int) (a3 : Int)) : Nat) : Int)), decide ((0 : Int) ≤ (((tw (a4 : Int) (a5 : Int)) : Nat) : Int)), decide ((0 : Int) ≤ (((tw (a6 : Int) (a7 : Int)) : Nat) : Int)), decide ((0 : Int) ≤ (((tw (a8 : Int) (a9 : Int)) : Nat) : Int)), decide ((0 : Int) ≤ (((tw (a10 : Int) (a11 : Int)) : Nat) : Int)), (!(!(there (Int.toNat ((((100 * (tw (49 : Int) (57 : Int))) + (tw (a0 : Int) (a1 : Int))) : Nat) : Int)) (Int.toNat (((tw (a2 : Int) (a3 : Int)) : Nat) : Int)) (Int.toNat (((tw (a4 : Int) (a5 : Int)) : Nat) : Int)) (Int.toNat (((tw (a6 : Int) (a7 : Int)) : Nat) : Int)) (Int.toNat (((tw (a8 : Int) (a9 : Int)) : Nat) : Int)) (Int.toNat (((tw (a10 : Int) (a11 : Int)) : Nat) : Int))))), decide ((1970 : Int) ≤ ((((100 * (tw (49 : Int) (57 : Int))) + (tw (a0 : Int) (a1 : Int))) : Nat) : Int)), decide ((((((100 * (tw (49 : Int) (57 : Int))) + (tw (a0 : Int) (a1 : Int))) : Nat) : Int) : Int) ≤ 9999), decide ((1 : Int) ≤ (((tw (a2 : Int) (a3 : Int)) : Nat) : Int)), decide (((((tw (a2 : Int) (a3 : Int)) : Nat) : Int) : Int) ≤ 12), decide ((1 : Int) ≤ (((tw (a4 : Int) (a5 : Int)) : Nat) : Int)), decide (((((tw (a4 : Int) (a5 : Int)) : Nat) : Int) : Int) ≤ 31), decide ((0 : Int) ≤ (((tw (a6 : Int) (a7 : Int)) : Nat) : Int)), decide (((((tw (a6 : Int) (a7 : Int)) : Nat) : Int) : Int) < 24), decide ((0 : Int) ≤ (((tw (a8 : Int) (a9 : Int)) : Nat) : Int)), decide (((((tw (a8 : Int) (a9 : Int)) : Nat) : Int) : Int) < 60), decide ((0 : Int) ≤ (((tw (a10 : Int) (a11 : Int)) : Nat) : Int)), decide (((((tw (a10 : Int) (a11 : Int)) : Nat) : Int) : Int) < 60)]
theorem ti19t_eval (tag a0 a1 a2 a3 a4 a5 a6 a7 a8 a9 a10 a11 a12 : Int) : res ((funcA Try.prog qR (dH (alH (qX [25, 26, 27] [28]) true true [true] (hmo (hth (hd2 n0)))) 7) 200 13 (cArgs 0 [.pl (.int true .u8 tag), .buf false .u8 13 [a0, a1, a2, a3, a4, a5, a6, a7, a8, a9, a10, a11, a12]]) (cMem [.pl (.int true .u8 tag), .buf false .u8 13 [a0, a1, a2, a3, a4, a5, a6, a7, a8, a9, a10, a11, a12]])).go [false]) = some (ti19tD tag a0 a1 a2 a3 a4 a5 a6 a7 a8 a9 a10 a11 a12, tmV true (100 * tw 49 57 + tw a0 a1) (tw a2 a3) (tw a4 a5) (tw a6 a7) (tw a8 a9) (tw a10 a11)) := by kernel_rfl
theorem ti19t_paid {tag a0 a1 a2 a3 a4 a5 a6 a7 a8 a9 a10 a11 a12 : Int} (ht : tag = 23) (hz : a12 = 90) (hd : digs [a0, a1, a2, a3, a4, a5, a6, a7, a8, a9, a10, a11] = true) (hj : a0 ≥ 53) (hth : there (100 * tw 49 57 + tw a0 a1) (tw a2 a3) (tw a4 a5) (tw a6 a7) (tw a8 a9) (tw a10 a11) = true) : Paid (ti19tD tag a0 a1 a2 a3 a4 a5 a6 a7 a8 a9 a10 a11 a12) := by
  subst ht hz
  have hd1 : digN [a0, a1, a2, a3, a4, a5, a6, a7, a8, a9, a10, a11] 12 = true := hd
  have hd2 : digN [49, 57, a0, a1, a2, a3, a4, a5, a6, a7, a8, a9, a10, a11] 14 = true := hd
  have hdl := List.all_eq_true.1 hd
  have t0 := tw_99 (hdl a0 (by simp)) (hdl a1 (by simp))
  have t1 := tw_99 (hdl a0 (by simp)) (hdl a1 (by simp))
  have t2 := tw_99 (hdl a2 (by simp)) (hdl a3 (by simp))
  have t3 := tw_99 (hdl a4 (by simp)) (hdl a5 (by simp))
  have t4 := tw_99 (hdl a6 (by simp)) (hdl a7 (by simp))
  have t5 := tw_99 (hdl a8 (by simp)) (hdl a9 (by simp))
  have t6 := tw_99 (hdl a10 (by simp)) (hdl a11 (by simp))
  unfold ti19tD
  simp only [Int.toNat_natCast, hth, hd1, hd2]
  have hR := there_range hth
  have z19 : tw 49 57 = 19 := rfl
  have z20 : tw 50 48 = 20 := rfl
  refine paid_cons ?_ (paid_cons ?_ (paid_cons ?_ (paid_cons ?_ (paid_cons ?_ (paid_cons ?_ (paid_cons ?_ (paid_cons ?_ (paid_cons ?_ (paid_cons ?_ (paid_cons ?_ (paid_cons ?_ (paid_cons ?_ (paid_cons ?_ (paid_cons ?_ (paid_cons ?_ (paid_cons ?_ (paid_cons ?_ (paid_cons ?_ (paid_cons ?_ (paid_cons ?_ (paid_cons ?_ (paid_cons ?_ (paid_cons ?_ (paid_cons ?_ (paid_cons ?_ (paid_cons ?_ (paid_cons ?_ (paid_cons ?_ (paid_cons ?_ (paid_cons ?_ (fun _ h => by cases h)))))))))))))))))))))))))))))))
  all_goals first | rfl | ((try simp only [Bool.and_eq_true, Bool.or_eq_true, Bool.not_eq_true', Bool.not_true, Bool.not_false, Bool.not_eq_eq_eq_not, decide_eq_true_eq, decide_eq_false_iff_not, beq_iff_eq, beq_eq_false_iff_ne, bne_iff_ne, bne_eq_false_iff_eq, ne_eq, Bool.or_eq_false_iff, Bool.and_eq_false_imp, Bool.and_true, Bool.true_and, Bool.or_false, Bool.false_or, Bool.or_true, Bool.true_or, Bool.and_false, Bool.false_and, and_true, true_and, not_true_eq_false, not_false_eq_true, List.cons.injEq]) <;> omega)
def ti19fD (tag a0 a1 a2 a3 a4 a5 a6 a7 a8 a9 a10 a11 a12 : Int) : List Bool := [(!(!decide (([a12] : List Int) = (90 :: [])))), decide (((digN [a0, a1, a2, a3, a4, a5, a6, a7, a8, a9, a10, a11] 12) : Bool) = (true)), (!(tag == 24)), (!(tag == 24)), (!(tag == 24)), (!(tag == 24)), (tag == 23), (tag == 23), (tag == 23), (tag == 23), decide ((a0 : Int) ≥ 53), decide (((digN [49, 57, a0, a1, a2, a3, a4, a5, a6, a7, a8, a9, a10, a11] 14) : Bool) = (true)), decide ((0 : Int) ≤ ((((100 * (tw (49 : Int) (57 : Int))) + (tw (a0 : Int) (a1 : Int))) : Nat) : Int)), decide ((0 : Int) ≤ (((tw (a2 : Int) (a3 : Int)) : Nat) : Int)), decide ((0 : Int) ≤ (((tw (a4 : Int) (a5 : Int)) : Nat) : Int)), decide ((0 : Int) ≤ (((tw (a6 : Int) (a7 : Int)) : Nat) : Int)), decide ((0 : Int) ≤ (((tw (a8 : Int) (a9 : Int)) : Nat) : Int)), decide ((0 : Int) ≤ (((tw (a10 : Int) (a11 : Int)) : Nat) : Int)), (!(there (Int.toNat ((((100 * (tw (49 : Int) (57 : Int))) + (tw (a0 : Int) (a1 : Int))) : Nat) : Int)) (Int.toNat (((tw (a2 : Int) (a3 : Int)) : Nat) : Int)) (Int.toNat (((tw (a4 : Int) (a5 : Int)) : Nat) : Int)) (Int.toNat (((tw (a6 : Int) (a7 : Int)) : Nat) : Int)) (Int.toNat (((tw (a8 : Int) (a9 : Int)) : Nat) : Int)) (Int.toNat (((tw (a10 : Int) (a11 : Int)) : Nat) : Int))))]
theorem ti19f_eval (tag a0 a1 a2 a3 a4 a5 a6 a7 a8 a9 a10 a11 a12 : Int) : res ((funcA Try.prog qR (dH (alH (qX [25, 26, 27] [28]) true true [true] (hmo (hth (hd2 n0)))) 7) 200 13 (cArgs 0 [.pl (.int true .u8 tag), .buf false .u8 13 [a0, a1, a2, a3, a4, a5, a6, a7, a8, a9, a10, a11, a12]]) (cMem [.pl (.int true .u8 tag), .buf false .u8 13 [a0, a1, a2, a3, a4, a5, a6, a7, a8, a9, a10, a11, a12]])).go [true]) = some (ti19fD tag a0 a1 a2 a3 a4 a5 a6 a7 a8 a9 a10 a11 a12, tmV false (100 * tw 49 57 + tw a0 a1) (tw a2 a3) (tw a4 a5) (tw a6 a7) (tw a8 a9) (tw a10 a11)) := by kernel_rfl
theorem ti19f_paid {tag a0 a1 a2 a3 a4 a5 a6 a7 a8 a9 a10 a11 a12 : Int} (ht : tag = 23) (hz : a12 = 90) (hd : digs [a0, a1, a2, a3, a4, a5, a6, a7, a8, a9, a10, a11] = true) (hj : a0 ≥ 53) (hth : there (100 * tw 49 57 + tw a0 a1) (tw a2 a3) (tw a4 a5) (tw a6 a7) (tw a8 a9) (tw a10 a11) = false) : Paid (ti19fD tag a0 a1 a2 a3 a4 a5 a6 a7 a8 a9 a10 a11 a12) := by
  subst ht hz
  have hd1 : digN [a0, a1, a2, a3, a4, a5, a6, a7, a8, a9, a10, a11] 12 = true := hd
  have hd2 : digN [49, 57, a0, a1, a2, a3, a4, a5, a6, a7, a8, a9, a10, a11] 14 = true := hd
  have hdl := List.all_eq_true.1 hd
  have t0 := tw_99 (hdl a0 (by simp)) (hdl a1 (by simp))
  have t1 := tw_99 (hdl a0 (by simp)) (hdl a1 (by simp))
  have t2 := tw_99 (hdl a2 (by simp)) (hdl a3 (by simp))
  have t3 := tw_99 (hdl a4 (by simp)) (hdl a5 (by simp))
  have t4 := tw_99 (hdl a6 (by simp)) (hdl a7 (by simp))
  have t5 := tw_99 (hdl a8 (by simp)) (hdl a9 (by simp))
  have t6 := tw_99 (hdl a10 (by simp)) (hdl a11 (by simp))
  unfold ti19fD
  simp only [Int.toNat_natCast, hth, hd1, hd2]
  have z19 : tw 49 57 = 19 := rfl
  have z20 : tw 50 48 = 20 := rfl
  refine paid_cons ?_ (paid_cons ?_ (paid_cons ?_ (paid_cons ?_ (paid_cons ?_ (paid_cons ?_ (paid_cons ?_ (paid_cons ?_ (paid_cons ?_ (paid_cons ?_ (paid_cons ?_ (paid_cons ?_ (paid_cons ?_ (paid_cons ?_ (paid_cons ?_ (paid_cons ?_ (paid_cons ?_ (paid_cons ?_ (paid_cons ?_ (fun _ h => by cases h)))))))))))))))))))
  all_goals first | rfl | ((try simp only [Bool.and_eq_true, Bool.or_eq_true, Bool.not_eq_true', Bool.not_true, Bool.not_false, Bool.not_eq_eq_eq_not, decide_eq_true_eq, decide_eq_false_iff_not, beq_iff_eq, beq_eq_false_iff_ne, bne_iff_ne, bne_eq_false_iff_eq, ne_eq, Bool.or_eq_false_iff, Bool.and_eq_false_imp, Bool.and_true, Bool.true_and, Bool.or_false, Bool.false_or, Bool.or_true, Bool.true_or, Bool.and_false, Bool.false_and, and_true, true_and, not_true_eq_false, not_false_eq_true, List.cons.injEq]) <;> omega)
def ti20tD (tag a0 a1 a2 a3 a4 a5 a6 a7 a8 a9 a10 a11 a12 : Int) : List Bool := [(!(!decide (([a12] : List Int) = (90 :: [])))), decide (((digN [a0, a1, a2, a3, a4, a5, a6, a7, a8, a9, a10, a11] 12) : Bool) = (true)), (!(tag == 24)), (!(tag == 24)), (!(tag == 24)), (!(tag == 24)), (tag == 23), (tag == 23), (tag == 23), (tag == 23), (!decide ((a0 : Int) ≥ 53)), (tag == 23), (tag == 23), (tag == 23), (tag == 23), decide (((digN [50, 48, a0, a1, a2, a3, a4, a5, a6, a7, a8, a9, a10, a11] 14) : Bool) = (true)), decide ((0 : Int) ≤ ((((100 * (tw (50 : Int) (48 : Int))) + (tw (a0 : Int) (a1 : Int))) : Nat) : Int)), decide ((0 : Int) ≤ (((tw (a2 : Int) (a3 : Int)) : Nat) : Int)), decide ((0 : Int) ≤ (((tw (a4 : Int) (a5 : Int)) : Nat) : Int)), decide ((0 : Int) ≤ (((tw (a6 : Int) (a7 : Int)) : Nat) : Int)), decide ((0 : Int) ≤ (((tw (a8 : Int) (a9 : Int)) : Nat) : Int)), decide ((0 : Int) ≤ (((tw (a10 : Int) (a11 : Int)) : Nat) : Int)), (!(!(there (Int.toNat ((((100 * (tw (50 : Int) (48 : Int))) + (tw (a0 : Int) (a1 : Int))) : Nat) : Int)) (Int.toNat (((tw (a2 : Int) (a3 : Int)) : Nat) : Int)) (Int.toNat (((tw (a4 : Int) (a5 : Int)) : Nat) : Int)) (Int.toNat (((tw (a6 : Int) (a7 : Int)) : Nat) : Int)) (Int.toNat (((tw (a8 : Int) (a9 : Int)) : Nat) : Int)) (Int.toNat (((tw (a10 : Int) (a11 : Int)) : Nat) : Int))))), decide ((1970 : Int) ≤ ((((100 * (tw (50 : Int) (48 : Int))) + (tw (a0 : Int) (a1 : Int))) : Nat) : Int)), decide ((((((100 * (tw (50 : Int) (48 : Int))) + (tw (a0 : Int) (a1 : Int))) : Nat) : Int) : Int) ≤ 9999), decide ((1 : Int) ≤ (((tw (a2 : Int) (a3 : Int)) : Nat) : Int)), decide (((((tw (a2 : Int) (a3 : Int)) : Nat) : Int) : Int) ≤ 12), decide ((1 : Int) ≤ (((tw (a4 : Int) (a5 : Int)) : Nat) : Int)), decide (((((tw (a4 : Int) (a5 : Int)) : Nat) : Int) : Int) ≤ 31), decide ((0 : Int) ≤ (((tw (a6 : Int) (a7 : Int)) : Nat) : Int)), decide (((((tw (a6 : Int) (a7 : Int)) : Nat) : Int) : Int) < 24), decide ((0 : Int) ≤ (((tw (a8 : Int) (a9 : Int)) : Nat) : Int)), decide (((((tw (a8 : Int) (a9 : Int)) : Nat) : Int) : Int) < 60), decide ((0 : Int) ≤ (((tw (a10 : Int) (a11 : Int)) : Nat) : Int)), decide (((((tw (a10 : Int) (a11 : Int)) : Nat) : Int) : Int) < 60)]
theorem ti20t_eval (tag a0 a1 a2 a3 a4 a5 a6 a7 a8 a9 a10 a11 a12 : Int) : res ((funcA Try.prog qR (dH (alH (qX [25, 26, 27] [28]) true true [false] (hmo (hth (hd2 n0)))) 7) 200 13 (cArgs 0 [.pl (.int true .u8 tag), .buf false .u8 13 [a0, a1, a2, a3, a4, a5, a6, a7, a8, a9, a10, a11, a12]]) (cMem [.pl (.int true .u8 tag), .buf false .u8 13 [a0, a1, a2, a3, a4, a5, a6, a7, a8, a9, a10, a11, a12]])).go [false]) = some (ti20tD tag a0 a1 a2 a3 a4 a5 a6 a7 a8 a9 a10 a11 a12, tmV true (100 * tw 50 48 + tw a0 a1) (tw a2 a3) (tw a4 a5) (tw a6 a7) (tw a8 a9) (tw a10 a11)) := by kernel_rfl
theorem ti20t_paid {tag a0 a1 a2 a3 a4 a5 a6 a7 a8 a9 a10 a11 a12 : Int} (ht : tag = 23) (hz : a12 = 90) (hd : digs [a0, a1, a2, a3, a4, a5, a6, a7, a8, a9, a10, a11] = true) (hj : ¬ a0 ≥ 53) (hth : there (100 * tw 50 48 + tw a0 a1) (tw a2 a3) (tw a4 a5) (tw a6 a7) (tw a8 a9) (tw a10 a11) = true) : Paid (ti20tD tag a0 a1 a2 a3 a4 a5 a6 a7 a8 a9 a10 a11 a12) := by
  subst ht hz
  have hd1 : digN [a0, a1, a2, a3, a4, a5, a6, a7, a8, a9, a10, a11] 12 = true := hd
  have hd2 : digN [50, 48, a0, a1, a2, a3, a4, a5, a6, a7, a8, a9, a10, a11] 14 = true := hd
  have hdl := List.all_eq_true.1 hd
  have t0 := tw_99 (hdl a0 (by simp)) (hdl a1 (by simp))
  have t1 := tw_99 (hdl a0 (by simp)) (hdl a1 (by simp))
  have t2 := tw_99 (hdl a2 (by simp)) (hdl a3 (by simp))
  have t3 := tw_99 (hdl a4 (by simp)) (hdl a5 (by simp))
  have t4 := tw_99 (hdl a6 (by simp)) (hdl a7 (by simp))
  have t5 := tw_99 (hdl a8 (by simp)) (hdl a9 (by simp))
  have t6 := tw_99 (hdl a10 (by simp)) (hdl a11 (by simp))
  unfold ti20tD
  simp only [Int.toNat_natCast, hth, hd1, hd2]
  have hR := there_range hth
  have z19 : tw 49 57 = 19 := rfl
  have z20 : tw 50 48 = 20 := rfl
  refine paid_cons ?_ (paid_cons ?_ (paid_cons ?_ (paid_cons ?_ (paid_cons ?_ (paid_cons ?_ (paid_cons ?_ (paid_cons ?_ (paid_cons ?_ (paid_cons ?_ (paid_cons ?_ (paid_cons ?_ (paid_cons ?_ (paid_cons ?_ (paid_cons ?_ (paid_cons ?_ (paid_cons ?_ (paid_cons ?_ (paid_cons ?_ (paid_cons ?_ (paid_cons ?_ (paid_cons ?_ (paid_cons ?_ (paid_cons ?_ (paid_cons ?_ (paid_cons ?_ (paid_cons ?_ (paid_cons ?_ (paid_cons ?_ (paid_cons ?_ (paid_cons ?_ (paid_cons ?_ (paid_cons ?_ (paid_cons ?_ (paid_cons ?_ (fun _ h => by cases h)))))))))))))))))))))))))))))))))))
  all_goals first | rfl | ((try simp only [Bool.and_eq_true, Bool.or_eq_true, Bool.not_eq_true', Bool.not_true, Bool.not_false, Bool.not_eq_eq_eq_not, decide_eq_true_eq, decide_eq_false_iff_not, beq_iff_eq, beq_eq_false_iff_ne, bne_iff_ne, bne_eq_false_iff_eq, ne_eq, Bool.or_eq_false_iff, Bool.and_eq_false_imp, Bool.and_true, Bool.true_and, Bool.or_false, Bool.false_or, Bool.or_true, Bool.true_or, Bool.and_false, Bool.false_and, and_true, true_and, not_true_eq_false, not_false_eq_true, List.cons.injEq]) <;> omega)
def ti20fD (tag a0 a1 a2 a3 a4 a5 a6 a7 a8 a9 a10 a11 a12 : Int) : List Bool := [(!(!decide (([a12] : List Int) = (90 :: [])))), decide (((digN [a0, a1, a2, a3, a4, a5, a6, a7, a8, a9, a10, a11] 12) : Bool) = (true)), (!(tag == 24)), (!(tag == 24)), (!(tag == 24)), (!(tag == 24)), (tag == 23), (tag == 23), (tag == 23), (tag == 23), (!decide ((a0 : Int) ≥ 53)), (tag == 23), (tag == 23), (tag == 23), (tag == 23), decide (((digN [50, 48, a0, a1, a2, a3, a4, a5, a6, a7, a8, a9, a10, a11] 14) : Bool) = (true)), decide ((0 : Int) ≤ ((((100 * (tw (50 : Int) (48 : Int))) + (tw (a0 : Int) (a1 : Int))) : Nat) : Int)), decide ((0 : Int) ≤ (((tw (a2 : Int) (a3 : Int)) : Nat) : Int)), decide ((0 : Int) ≤ (((tw (a4 : Int) (a5 : Int)) : Nat) : Int)), decide ((0 : Int) ≤ (((tw (a6 : Int) (a7 : Int)) : Nat) : Int)), decide ((0 : Int) ≤ (((tw (a8 : Int) (a9 : Int)) : Nat) : Int)), decide ((0 : Int) ≤ (((tw (a10 : Int) (a11 : Int)) : Nat) : Int)), (!(there (Int.toNat ((((100 * (tw (50 : Int) (48 : Int))) + (tw (a0 : Int) (a1 : Int))) : Nat) : Int)) (Int.toNat (((tw (a2 : Int) (a3 : Int)) : Nat) : Int)) (Int.toNat (((tw (a4 : Int) (a5 : Int)) : Nat) : Int)) (Int.toNat (((tw (a6 : Int) (a7 : Int)) : Nat) : Int)) (Int.toNat (((tw (a8 : Int) (a9 : Int)) : Nat) : Int)) (Int.toNat (((tw (a10 : Int) (a11 : Int)) : Nat) : Int))))]
theorem ti20f_eval (tag a0 a1 a2 a3 a4 a5 a6 a7 a8 a9 a10 a11 a12 : Int) : res ((funcA Try.prog qR (dH (alH (qX [25, 26, 27] [28]) true true [false] (hmo (hth (hd2 n0)))) 7) 200 13 (cArgs 0 [.pl (.int true .u8 tag), .buf false .u8 13 [a0, a1, a2, a3, a4, a5, a6, a7, a8, a9, a10, a11, a12]]) (cMem [.pl (.int true .u8 tag), .buf false .u8 13 [a0, a1, a2, a3, a4, a5, a6, a7, a8, a9, a10, a11, a12]])).go [true]) = some (ti20fD tag a0 a1 a2 a3 a4 a5 a6 a7 a8 a9 a10 a11 a12, tmV false (100 * tw 50 48 + tw a0 a1) (tw a2 a3) (tw a4 a5) (tw a6 a7) (tw a8 a9) (tw a10 a11)) := by kernel_rfl
theorem ti20f_paid {tag a0 a1 a2 a3 a4 a5 a6 a7 a8 a9 a10 a11 a12 : Int} (ht : tag = 23) (hz : a12 = 90) (hd : digs [a0, a1, a2, a3, a4, a5, a6, a7, a8, a9, a10, a11] = true) (hj : ¬ a0 ≥ 53) (hth : there (100 * tw 50 48 + tw a0 a1) (tw a2 a3) (tw a4 a5) (tw a6 a7) (tw a8 a9) (tw a10 a11) = false) : Paid (ti20fD tag a0 a1 a2 a3 a4 a5 a6 a7 a8 a9 a10 a11 a12) := by
  subst ht hz
  have hd1 : digN [a0, a1, a2, a3, a4, a5, a6, a7, a8, a9, a10, a11] 12 = true := hd
  have hd2 : digN [50, 48, a0, a1, a2, a3, a4, a5, a6, a7, a8, a9, a10, a11] 14 = true := hd
  have hdl := List.all_eq_true.1 hd
  have t0 := tw_99 (hdl a0 (by simp)) (hdl a1 (by simp))
  have t1 := tw_99 (hdl a0 (by simp)) (hdl a1 (by simp))
  have t2 := tw_99 (hdl a2 (by simp)) (hdl a3 (by simp))
  have t3 := tw_99 (hdl a4 (by simp)) (hdl a5 (by simp))
  have t4 := tw_99 (hdl a6 (by simp)) (hdl a7 (by simp))
  have t5 := tw_99 (hdl a8 (by simp)) (hdl a9 (by simp))
  have t6 := tw_99 (hdl a10 (by simp)) (hdl a11 (by simp))
  unfold ti20fD
  simp only [Int.toNat_natCast, hth, hd1, hd2]
  have z19 : tw 49 57 = 19 := rfl
  have z20 : tw 50 48 = 20 := rfl
  refine paid_cons ?_ (paid_cons ?_ (paid_cons ?_ (paid_cons ?_ (paid_cons ?_ (paid_cons ?_ (paid_cons ?_ (paid_cons ?_ (paid_cons ?_ (paid_cons ?_ (paid_cons ?_ (paid_cons ?_ (paid_cons ?_ (paid_cons ?_ (paid_cons ?_ (paid_cons ?_ (paid_cons ?_ (paid_cons ?_ (paid_cons ?_ (paid_cons ?_ (paid_cons ?_ (paid_cons ?_ (paid_cons ?_ (fun _ h => by cases h)))))))))))))))))))))))
  all_goals first | rfl | ((try simp only [Bool.and_eq_true, Bool.or_eq_true, Bool.not_eq_true', Bool.not_true, Bool.not_false, Bool.not_eq_eq_eq_not, decide_eq_true_eq, decide_eq_false_iff_not, beq_iff_eq, beq_eq_false_iff_ne, bne_iff_ne, bne_eq_false_iff_eq, ne_eq, Bool.or_eq_false_iff, Bool.and_eq_false_imp, Bool.and_true, Bool.true_and, Bool.or_false, Bool.false_or, Bool.or_true, Bool.true_or, Bool.and_false, Bool.false_and, and_true, true_and, not_true_eq_false, not_false_eq_true, List.cons.injEq]) <;> omega)
def tm24S (b : Bool) : List V → E (AV × Mem)
  | [.pl (.int true .u8 tag), .buf false .u8 15 [a0, a1, a2, a3, a4, a5, a6, a7, a8, a9, a10, a11, a12, a13, a14]] => some ([decide (tag = 24), decide (a14 = 90), decide (digs [a0, a1, a2, a3, a4, a5, a6, a7, a8, a9, a10, a11, a12, a13] = true), decide (there (100 * tw a0 a1 + tw a2 a3) (tw a4 a5) (tw a6 a7) (tw a8 a9) (tw a10 a11) (tw a12 a13) = b)], (tmV b (100 * tw a0 a1 + tw a2 a3) (tw a4 a5) (tw a6 a7) (tw a8 a9) (tw a10 a11) (tw a12 a13), []))
  | _ => none
theorem tm24S_ok (b : Bool) {xs : List V} {o : List Bool} {v : AV} {bs : Mem} (h : tm24S b xs = some (o, (v, bs))) (ho : Paid o) : ViewCall Try.prog 13 xs v bs := by
  unfold tm24S at h
  split at h
  · rename_i tag a0 a1 a2 a3 a4 a5 a6 a7 a8 a9 a10 a11 a12 a13 a14
    cases h
    have o1 := of_decide_eq_true (ho _ (List.mem_cons_self ..))
    have o2 := of_decide_eq_true (ho _ (List.mem_cons_of_mem _ (List.mem_cons_self ..)))
    have o3 := of_decide_eq_true (ho _ (List.mem_cons_of_mem _ (List.mem_cons_of_mem _ (List.mem_cons_self ..))))
    have o4 := of_decide_eq_true (ho _ (List.mem_cons_of_mem _ (List.mem_cons_of_mem _ (List.mem_cons_of_mem _ (List.mem_cons_self ..)))))
    cases b with
    | true => exact @view_of_go _ _ _ _ mixed noCount (dH_ok (alH_ok (hmo_ok (hth_ok (hd2_ok n0_ok))) _ _ _ _) 7) _ _ _ _ _ _ [false] (ti24t_eval tag a0 a1 a2 a3 a4 a5 a6 a7 a8 a9 a10 a11 a12 a13 a14) (ti24t_paid o1 o2 o3 o4) rfl rfl
    | false => exact @view_of_go _ _ _ _ mixed noCount (dH_ok (alH_ok (hmo_ok (hth_ok (hd2_ok n0_ok))) _ _ _ _) 7) _ _ _ _ _ _ [true] (ti24f_eval tag a0 a1 a2 a3 a4 a5 a6 a7 a8 a9 a10 a11 a12 a13 a14) (ti24f_paid o1 o2 o3 o4) rfl rfl
  · cases h
def tm19S (b : Bool) : List V → E (AV × Mem)
  | [.pl (.int true .u8 tag), .buf false .u8 13 [a0, a1, a2, a3, a4, a5, a6, a7, a8, a9, a10, a11, a12]] => some ([decide (tag = 23), decide (a12 = 90), decide (digs [a0, a1, a2, a3, a4, a5, a6, a7, a8, a9, a10, a11] = true), decide (a0 ≥ 53), decide (there (100 * tw 49 57 + tw a0 a1) (tw a2 a3) (tw a4 a5) (tw a6 a7) (tw a8 a9) (tw a10 a11) = b)], (tmV b (100 * tw 49 57 + tw a0 a1) (tw a2 a3) (tw a4 a5) (tw a6 a7) (tw a8 a9) (tw a10 a11), []))
  | _ => none
theorem tm19S_ok (b : Bool) {xs : List V} {o : List Bool} {v : AV} {bs : Mem} (h : tm19S b xs = some (o, (v, bs))) (ho : Paid o) : ViewCall Try.prog 13 xs v bs := by
  unfold tm19S at h
  split at h
  · rename_i tag a0 a1 a2 a3 a4 a5 a6 a7 a8 a9 a10 a11 a12
    cases h
    have o1 := of_decide_eq_true (ho _ (List.mem_cons_self ..))
    have o2 := of_decide_eq_true (ho _ (List.mem_cons_of_mem _ (List.mem_cons_self ..)))
    have o3 := of_decide_eq_true (ho _ (List.mem_cons_of_mem _ (List.mem_cons_of_mem _ (List.mem_cons_self ..))))
    have o4 := of_decide_eq_true (ho _ (List.mem_cons_of_mem _ (List.mem_cons_of_mem _ (List.mem_cons_of_mem _ (List.mem_cons_self ..)))))
    have o5 := of_decide_eq_true (ho _ (List.mem_cons_of_mem _ (List.mem_cons_of_mem _ (List.mem_cons_of_mem _ (List.mem_cons_of_mem _ (List.mem_cons_self ..))))))
    cases b with
    | true => exact @view_of_go _ _ _ _ mixed noCount (dH_ok (alH_ok (hmo_ok (hth_ok (hd2_ok n0_ok))) _ _ _ _) 7) _ _ _ _ _ _ [false] (ti19t_eval tag a0 a1 a2 a3 a4 a5 a6 a7 a8 a9 a10 a11 a12) (ti19t_paid o1 o2 o3 o4 o5) rfl rfl
    | false => exact @view_of_go _ _ _ _ mixed noCount (dH_ok (alH_ok (hmo_ok (hth_ok (hd2_ok n0_ok))) _ _ _ _) 7) _ _ _ _ _ _ [true] (ti19f_eval tag a0 a1 a2 a3 a4 a5 a6 a7 a8 a9 a10 a11 a12) (ti19f_paid o1 o2 o3 o4 o5) rfl rfl
  · cases h
def tm20S (b : Bool) : List V → E (AV × Mem)
  | [.pl (.int true .u8 tag), .buf false .u8 13 [a0, a1, a2, a3, a4, a5, a6, a7, a8, a9, a10, a11, a12]] => some ([decide (tag = 23), decide (a12 = 90), decide (digs [a0, a1, a2, a3, a4, a5, a6, a7, a8, a9, a10, a11] = true), decide (¬ a0 ≥ 53), decide (there (100 * tw 50 48 + tw a0 a1) (tw a2 a3) (tw a4 a5) (tw a6 a7) (tw a8 a9) (tw a10 a11) = b)], (tmV b (100 * tw 50 48 + tw a0 a1) (tw a2 a3) (tw a4 a5) (tw a6 a7) (tw a8 a9) (tw a10 a11), []))
  | _ => none
theorem tm20S_ok (b : Bool) {xs : List V} {o : List Bool} {v : AV} {bs : Mem} (h : tm20S b xs = some (o, (v, bs))) (ho : Paid o) : ViewCall Try.prog 13 xs v bs := by
  unfold tm20S at h
  split at h
  · rename_i tag a0 a1 a2 a3 a4 a5 a6 a7 a8 a9 a10 a11 a12
    cases h
    have o1 := of_decide_eq_true (ho _ (List.mem_cons_self ..))
    have o2 := of_decide_eq_true (ho _ (List.mem_cons_of_mem _ (List.mem_cons_self ..)))
    have o3 := of_decide_eq_true (ho _ (List.mem_cons_of_mem _ (List.mem_cons_of_mem _ (List.mem_cons_self ..))))
    have o4 := of_decide_eq_true (ho _ (List.mem_cons_of_mem _ (List.mem_cons_of_mem _ (List.mem_cons_of_mem _ (List.mem_cons_self ..)))))
    have o5 := of_decide_eq_true (ho _ (List.mem_cons_of_mem _ (List.mem_cons_of_mem _ (List.mem_cons_of_mem _ (List.mem_cons_of_mem _ (List.mem_cons_self ..))))))
    cases b with
    | true => exact @view_of_go _ _ _ _ mixed noCount (dH_ok (alH_ok (hmo_ok (hth_ok (hd2_ok n0_ok))) _ _ _ _) 7) _ _ _ _ _ _ [false] (ti20t_eval tag a0 a1 a2 a3 a4 a5 a6 a7 a8 a9 a10 a11 a12) (ti20t_paid o1 o2 o3 o4 o5) rfl rfl
    | false => exact @view_of_go _ _ _ _ mixed noCount (dH_ok (alH_ok (hmo_ok (hth_ok (hd2_ok n0_ok))) _ _ _ _) 7) _ _ _ _ _ _ [true] (ti20f_eval tag a0 a1 a2 a3 a4 a5 a6 a7 a8 a9 a10 a11 a12) (ti20f_paid o1 o2 o3 o4 o5) rfl rfl
  · cases h
noncomputable def htm (j : Nat) (b : Bool) (X : CallH) : CallH := match j with
  | 24 => withV 13 (tm24S b) X
  | 19 => withV 13 (tm19S b) X
  | _ => withV 13 (tm20S b) X
theorem htm_ok {X : CallH} (h : HOk Try.prog X) (j : Nat) (b : Bool) : HOk Try.prog (htm j b X) := by
  unfold htm
  split
  · exact h.withV fun _ _ _ _ h ho => tm24S_ok b h ho
  · exact h.withV fun _ _ _ _ h ho => tm19S_ok b h ho
  · exact h.withV fun _ _ _ _ h ho => tm20S_ok b h ho
end Go.Proofs.Ytjhjhhibfojpiaa
