/- Bytes that are no time's, read: a contract. Own work. -/
import Derived.Test.YtjhjhhibfojpiaaTDtG
set_option linter.unusedSimpArgs false
set_option linter.unusedVariables false
set_option linter.unusedSectionVars false
namespace Go.Proofs.Ytjhjhhibfojpiaa
open Go.Ev Go.De Go.Dt
set_option maxRecDepth 100000
set_option linter.unusedSimpArgs false
set_option linter.unusedVariables false
set_option linter.unusedSectionVars false
variable [Tab]
theorem lastL {n : Nat} {l : List Int} (h : l.length = n) (h1 : 1 ≤ n) : List.take (n - (n - 1)) (List.drop (0 + (n - 1) * 1) l) = [l.getD (n - 1) 0] := by
  rw [show n - (n - 1) = 1 by omega, show 0 + (n - 1) * 1 = n - 1 by omega, List.drop_eq_getElem_cons (by omega : n - 1 < l.length), List.take_succ_cons, List.take_zero, getD_get (by omega : n - 1 < l.length)]
theorem digL (n : Nat) (l : List Int) : digN (List.take (n - 1 - 0) (List.drop 0 l)) (n - 1 - 0) = digN l (n - 1) := by
  unfold digN
  rw [List.drop_zero, Nat.sub_zero, List.take_take, Nat.min_self]
def tx1D (tag : Int) (n : Nat) (l : List Int) : List Bool := [decide ((n : Nat) < 9223372036854775808), decide ((((n : Nat) : Int) : Int) ≥ 1), decide ((((n : Nat) : Int) : Int) ≥ 1), decide ((((n : Nat) : Int) : Int) ≥ 1), decide ((n : Nat) < 9223372036854775808), decide ((((n : Nat) : Int) : Int) ≥ 1), decide ((((n : Nat) : Int) : Int) ≥ 1), decide ((((n : Nat) : Int) : Int) ≥ 1), decide ((((n : Nat) : Int) : Int) ≥ 1), (decide ((0 : Int) ≤ (IntKind.wrap .i64 (((n : Nat) : Int) - 1))) && decide (((IntKind.wrap .i64 (((n : Nat) : Int) - 1)) : Int) ≤ ((n : Nat) : Int))), decide ((((n : Nat) : Int) : Int) ≥ 1), decide ((((n : Nat) : Int) : Int) ≥ 1), decide ((((0 + ((Int.toNat (IntKind.wrap .i64 (((n : Nat) : Int) - 1))) * 1)) + (n - (Int.toNat (IntKind.wrap .i64 (((n : Nat) : Int) - 1))))) : Nat) ≤ n), decide ((((n : Nat) : Int) : Int) ≥ 1), (!decide (((List.take (n - (Int.toNat (IntKind.wrap .i64 (((n : Nat) : Int) - 1)))) (List.drop (0 + ((Int.toNat (IntKind.wrap .i64 (((n : Nat) : Int) - 1))) * 1)) l)) : List Int) = (90 :: [])))]
theorem tx1_eval (tag : Int) (n : Nat) (l : List Int) : res ((funcA Try.prog qR (dH (alH qA false false [true] n0) 7) 200 13 (cArgs 0 [.pl (.int true .u8 tag), .buf true .u8 n l]) (cMem [.pl (.int true .u8 tag), .buf true .u8 n l])).go [true]) = some (tx1D tag n l, .tuple [.int false .u64 0, .bool false false]) := by kernel_rfl
theorem tx1_paid {tag : Int} {n : Nat} {l : List Int} (hl : l.length = n) (h1 : 1 ≤ n) (hn : n ≤ 1000000000) (h : l.getD (n - 1) 0 ≠ 90) : Paid (tx1D tag n l) := by
  have w : IntKind.wrap .i64 ((n : Int) - 1) = ((n - 1 : Nat) : Int) := by rw [wrap64]; omega
  have e1 := lastL hl h1
  have e2 := digL n l
  unfold tx1D
  simp only [w, Int.toNat_natCast, e1, e2]
  generalize hx : l.getD (n - 1) 0 = x at *
  generalize hy : digN l (n - 1) = y at *
  clear e1 e2 hx hy
  skip
  refine paid_cons ?_ (paid_cons ?_ (paid_cons ?_ (paid_cons ?_ (paid_cons ?_ (paid_cons ?_ (paid_cons ?_ (paid_cons ?_ (paid_cons ?_ (paid_cons ?_ (paid_cons ?_ (paid_cons ?_ (paid_cons ?_ (paid_cons ?_ (paid_cons ?_ (fun _ h => by cases h)))))))))))))))
  all_goals first | rfl | ((try simp only [Bool.and_eq_true, Bool.or_eq_true, Bool.not_eq_true', Bool.not_true, Bool.not_false, Bool.not_eq_eq_eq_not, decide_eq_true_eq, decide_eq_false_iff_not, beq_iff_eq, beq_eq_false_iff_ne, bne_iff_ne, bne_eq_false_iff_eq, ne_eq, Bool.or_eq_false_iff, Bool.and_eq_false_imp, Bool.and_true, Bool.true_and, Bool.or_false, Bool.false_or, Bool.or_true, Bool.true_or, Bool.and_false, Bool.false_and, and_true, true_and, not_true_eq_false, not_false_eq_true, List.cons.injEq]) <;> omega)
def tx2D (tag : Int) (n : Nat) (l : List Int) : List Bool := [decide ((n : Nat) < 9223372036854775808), decide ((((n : Nat) : Int) : Int) ≥ 1), decide ((((n : Nat) : Int) : Int) ≥ 1), decide ((((n : Nat) : Int) : Int) ≥ 1), decide ((n : Nat) < 9223372036854775808), decide ((((n : Nat) : Int) : Int) ≥ 1), decide ((((n : Nat) : Int) : Int) ≥ 1), decide ((((n : Nat) : Int) : Int) ≥ 1), decide ((((n : Nat) : Int) : Int) ≥ 1), (decide ((0 : Int) ≤ (IntKind.wrap .i64 (((n : Nat) : Int) - 1))) && decide (((IntKind.wrap .i64 (((n : Nat) : Int) - 1)) : Int) ≤ ((n : Nat) : Int))), decide ((((n : Nat) : Int) : Int) ≥ 1), decide ((((n : Nat) : Int) : Int) ≥ 1), decide ((((0 + ((Int.toNat (IntKind.wrap .i64 (((n : Nat) : Int) - 1))) * 1)) + (n - (Int.toNat (IntKind.wrap .i64 (((n : Nat) : Int) - 1))))) : Nat) ≤ n), decide ((((n : Nat) : Int) : Int) ≥ 1), (!(!decide (((List.take (n - (Int.toNat (IntKind.wrap .i64 (((n : Nat) : Int) - 1)))) (List.drop (0 + ((Int.toNat (IntKind.wrap .i64 (((n : Nat) : Int) - 1))) * 1)) l)) : List Int) = (90 :: [])))), decide ((n : Nat) < 9223372036854775808), (decide ((0 : Int) ≤ (IntKind.wrap .i64 (((n : Nat) : Int) - 1))) && decide (((IntKind.wrap .i64 (((n : Nat) : Int) - 1)) : Int) ≤ ((n : Nat) : Int))), decide (((0 + ((Int.toNat (IntKind.wrap .i64 (((n : Nat) : Int) - 1))) - 0)) : Nat) ≤ n), decide ((((Int.toNat (IntKind.wrap .i64 (((n : Nat) : Int) - 1))) - 0) : Nat) < 1000000000000), decide (((digN (List.take ((Int.toNat (IntKind.wrap .i64 (((n : Nat) : Int) - 1))) - 0) (List.drop 0 l)) ((Int.toNat (IntKind.wrap .i64 (((n : Nat) : Int) - 1))) - 0)) : Bool) = (false))]
theorem tx2_eval (tag : Int) (n : Nat) (l : List Int) : res ((funcA Try.prog qR (dH (alH qA true false [true] n0) 7) 200 13 (cArgs 0 [.pl (.int true .u8 tag), .buf true .u8 n l]) (cMem [.pl (.int true .u8 tag), .buf true .u8 n l])).go [true]) = some (tx2D tag n l, .tuple [.int false .u64 0, .bool false false]) := by kernel_rfl
theorem tx2_paid {tag : Int} {n : Nat} {l : List Int} (hl : l.length = n) (h1 : 1 ≤ n) (hn : n ≤ 1000000000) (h : l.getD (n - 1) 0 = 90 ∧ digN l (n - 1) = false) : Paid (tx2D tag n l) := by
  have w : IntKind.wrap .i64 ((n : Int) - 1) = ((n - 1 : Nat) : Int) := by rw [wrap64]; omega
  have e1 := lastL hl h1
  have e2 := digL n l
  unfold tx2D
  simp only [w, Int.toNat_natCast, e1, e2]
  generalize hx : l.getD (n - 1) 0 = x at *
  generalize hy : digN l (n - 1) = y at *
  clear e1 e2 hx hy
  obtain ⟨g1, g2⟩ := h
  subst g1 g2
  refine paid_cons ?_ (paid_cons ?_ (paid_cons ?_ (paid_cons ?_ (paid_cons ?_ (paid_cons ?_ (paid_cons ?_ (paid_cons ?_ (paid_cons ?_ (paid_cons ?_ (paid_cons ?_ (paid_cons ?_ (paid_cons ?_ (paid_cons ?_ (paid_cons ?_ (paid_cons ?_ (paid_cons ?_ (paid_cons ?_ (paid_cons ?_ (paid_cons ?_ (fun _ h => by cases h))))))))))))))))))))
  all_goals first | rfl | ((try simp only [Bool.and_eq_true, Bool.or_eq_true, Bool.not_eq_true', Bool.not_true, Bool.not_false, Bool.not_eq_eq_eq_not, decide_eq_true_eq, decide_eq_false_iff_not, beq_iff_eq, beq_eq_false_iff_ne, bne_iff_ne, bne_eq_false_iff_eq, ne_eq, Bool.or_eq_false_iff, Bool.and_eq_false_imp, Bool.and_true, Bool.true_and, Bool.or_false, Bool.false_or, Bool.or_true, Bool.true_or, Bool.and_false, Bool.false_and, and_true, true_and, not_true_eq_false, not_false_eq_true, List.cons.injEq]) <;> omega)
def tx3D (tag : Int) (n : Nat) (l : List Int) : List Bool := [decide ((n : Nat) < 9223372036854775808), decide ((((n : Nat) : Int) : Int) ≥ 1), decide ((((n : Nat) : Int) : Int) ≥ 1), decide ((((n : Nat) : Int) : Int) ≥ 1), decide ((n : Nat) < 9223372036854775808), decide ((((n : Nat) : Int) : Int) ≥ 1), decide ((((n : Nat) : Int) : Int) ≥ 1), decide ((((n : Nat) : Int) : Int) ≥ 1), decide ((((n : Nat) : Int) : Int) ≥ 1), (decide ((0 : Int) ≤ (IntKind.wrap .i64 (((n : Nat) : Int) - 1))) && decide (((IntKind.wrap .i64 (((n : Nat) : Int) - 1)) : Int) ≤ ((n : Nat) : Int))), decide ((((n : Nat) : Int) : Int) ≥ 1), decide ((((n : Nat) : Int) : Int) ≥ 1), decide ((((0 + ((Int.toNat (IntKind.wrap .i64 (((n : Nat) : Int) - 1))) * 1)) + (n - (Int.toNat (IntKind.wrap .i64 (((n : Nat) : Int) - 1))))) : Nat) ≤ n), decide ((((n : Nat) : Int) : Int) ≥ 1), (!(!decide (((List.take (n - (Int.toNat (IntKind.wrap .i64 (((n : Nat) : Int) - 1)))) (List.drop (0 + ((Int.toNat (IntKind.wrap .i64 (((n : Nat) : Int) - 1))) * 1)) l)) : List Int) = (90 :: [])))), decide ((n : Nat) < 9223372036854775808), (decide ((0 : Int) ≤ (IntKind.wrap .i64 (((n : Nat) : Int) - 1))) && decide (((IntKind.wrap .i64 (((n : Nat) : Int) - 1)) : Int) ≤ ((n : Nat) : Int))), decide (((0 + ((Int.toNat (IntKind.wrap .i64 (((n : Nat) : Int) - 1))) - 0)) : Nat) ≤ n), decide ((((Int.toNat (IntKind.wrap .i64 (((n : Nat) : Int) - 1))) - 0) : Nat) < 1000000000000), decide (((digN (List.take ((Int.toNat (IntKind.wrap .i64 (((n : Nat) : Int) - 1))) - 0) (List.drop 0 l)) ((Int.toNat (IntKind.wrap .i64 (((n : Nat) : Int) - 1))) - 0)) : Bool) = (true)), (tag == 24), (tag == 24), decide ((((Int.toNat (IntKind.wrap .i64 (((n : Nat) : Int) - 1))) - 0) : Nat) < 9223372036854775808), (tag == 24), (tag == 24), (!(((((Int.toNat (IntKind.wrap .i64 (((n : Nat) : Int) - 1))) - 0) : Nat) : Int) == 14)), (!(tag == 23)), (!(tag == 23)), (!(tag == 23)), (!(tag == 23)), (!(tag == 23)), (!(tag == 23)), (!(tag == 23)), (!(tag == 23))]
theorem tx3_eval (tag : Int) (n : Nat) (l : List Int) : res ((funcA Try.prog qR (dH (alH (qX [34, 35, 36, 39, 40, 41, 42, 52, 53, 54] [37, 43, 55]) true true [false] n0) 7) 200 13 (cArgs 0 [.pl (.int true .u8 tag), .buf true .u8 n l]) (cMem [.pl (.int true .u8 tag), .buf true .u8 n l])).go [true]) = some (tx3D tag n l, .tuple [.int false .u64 0, .bool false false]) := by kernel_rfl
theorem tx3_paid {tag : Int} {n : Nat} {l : List Int} (hl : l.length = n) (h1 : 1 ≤ n) (hn : n ≤ 1000000000) (h : l.getD (n - 1) 0 = 90 ∧ digN l (n - 1) = true ∧ tag = 24 ∧ n ≠ 15) : Paid (tx3D tag n l) := by
  have w : IntKind.wrap .i64 ((n : Int) - 1) = ((n - 1 : Nat) : Int) := by rw [wrap64]; omega
  have e1 := lastL hl h1
  have e2 := digL n l
  unfold tx3D
  simp only [w, Int.toNat_natCast, e1, e2]
  generalize hx : l.getD (n - 1) 0 = x at *
  generalize hy : digN l (n - 1) = y at *
  clear e1 e2 hx hy
  obtain ⟨g1, g2, g3, g4⟩ := h
  subst g1 g2
  refine paid_cons ?_ (paid_cons ?_ (paid_cons ?_ (paid_cons ?_ (paid_cons ?_ (paid_cons ?_ (paid_cons ?_ (paid_cons ?_ (paid_cons ?_ (paid_cons ?_ (paid_cons ?_ (paid_cons ?_ (paid_cons ?_ (paid_cons ?_ (paid_cons ?_ (paid_cons ?_ (paid_cons ?_ (paid_cons ?_ (paid_cons ?_ (paid_cons ?_ (paid_cons ?_ (paid_cons ?_ (paid_cons ?_ (paid_cons ?_ (paid_cons ?_ (paid_cons ?_ (paid_cons ?_ (paid_cons ?_ (paid_cons ?_ (paid_cons ?_ (paid_cons ?_ (paid_cons ?_ (paid_cons ?_ (paid_cons ?_ (fun _ h => by cases h))))))))))))))))))))))))))))))))))
  all_goals first | rfl | ((try simp only [Bool.and_eq_true, Bool.or_eq_true, Bool.not_eq_true', Bool.not_true, Bool.not_false, Bool.not_eq_eq_eq_not, decide_eq_true_eq, decide_eq_false_iff_not, beq_iff_eq, beq_eq_false_iff_ne, bne_iff_ne, bne_eq_false_iff_eq, ne_eq, Bool.or_eq_false_iff, Bool.and_eq_false_imp, Bool.and_true, Bool.true_and, Bool.or_false, Bool.false_or, Bool.or_true, Bool.true_or, Bool.and_false, Bool.false_and, and_true, true_and, not_true_eq_false, not_false_eq_true, List.cons.injEq]) <;> omega)
def tx4D (tag : Int) (n : Nat) (l : List Int) : List Bool := [decide ((n : Nat) < 9223372036854775808), decide ((((n : Nat) : Int) : Int) ≥ 1), decide ((((n : Nat) : Int) : Int) ≥ 1), decide ((((n : Nat) : Int) : Int) ≥ 1), decide ((n : Nat) < 9223372036854775808), decide ((((n : Nat) : Int) : Int) ≥ 1), decide ((((n : Nat) : Int) : Int) ≥ 1), decide ((((n : Nat) : Int) : Int) ≥ 1), decide ((((n : Nat) : Int) : Int) ≥ 1), (decide ((0 : Int) ≤ (IntKind.wrap .i64 (((n : Nat) : Int) - 1))) && decide (((IntKind.wrap .i64 (((n : Nat) : Int) - 1)) : Int) ≤ ((n : Nat) : Int))), decide ((((n : Nat) : Int) : Int) ≥ 1), decide ((((n : Nat) : Int) : Int) ≥ 1), decide ((((0 + ((Int.toNat (IntKind.wrap .i64 (((n : Nat) : Int) - 1))) * 1)) + (n - (Int.toNat (IntKind.wrap .i64 (((n : Nat) : Int) - 1))))) : Nat) ≤ n), decide ((((n : Nat) : Int) : Int) ≥ 1), (!(!decide (((List.take (n - (Int.toNat (IntKind.wrap .i64 (((n : Nat) : Int) - 1)))) (List.drop (0 + ((Int.toNat (IntKind.wrap .i64 (((n : Nat) : Int) - 1))) * 1)) l)) : List Int) = (90 :: [])))), decide ((n : Nat) < 9223372036854775808), (decide ((0 : Int) ≤ (IntKind.wrap .i64 (((n : Nat) : Int) - 1))) && decide (((IntKind.wrap .i64 (((n : Nat) : Int) - 1)) : Int) ≤ ((n : Nat) : Int))), decide (((0 + ((Int.toNat (IntKind.wrap .i64 (((n : Nat) : Int) - 1))) - 0)) : Nat) ≤ n), decide ((((Int.toNat (IntKind.wrap .i64 (((n : Nat) : Int) - 1))) - 0) : Nat) < 1000000000000), decide (((digN (List.take ((Int.toNat (IntKind.wrap .i64 (((n : Nat) : Int) - 1))) - 0) (List.drop 0 l)) ((Int.toNat (IntKind.wrap .i64 (((n : Nat) : Int) - 1))) - 0)) : Bool) = (true)), (!(tag == 24)), (!(tag == 24)), (!(tag == 24)), (!(tag == 24)), (tag == 23), (tag == 23), decide ((((Int.toNat (IntKind.wrap .i64 (((n : Nat) : Int) - 1))) - 0) : Nat) < 9223372036854775808), (tag == 23), (tag == 23), (!(((((Int.toNat (IntKind.wrap .i64 (((n : Nat) : Int) - 1))) - 0) : Nat) : Int) == 12)), (!(((((Int.toNat (IntKind.wrap .i64 (((n : Nat) : Int) - 1))) - 0) : Nat) : Int) == 12)), (!(((((Int.toNat (IntKind.wrap .i64 (((n : Nat) : Int) - 1))) - 0) : Nat) : Int) == 12)), (!(((((Int.toNat (IntKind.wrap .i64 (((n : Nat) : Int) - 1))) - 0) : Nat) : Int) == 12)), (!(((((Int.toNat (IntKind.wrap .i64 (((n : Nat) : Int) - 1))) - 0) : Nat) : Int) == 12)), (tag == 23), (tag == 23), decide ((((Int.toNat (IntKind.wrap .i64 (((n : Nat) : Int) - 1))) - 0) : Nat) < 9223372036854775808), (tag == 23), (tag == 23), (!(((((Int.toNat (IntKind.wrap .i64 (((n : Nat) : Int) - 1))) - 0) : Nat) : Int) == 12))]
theorem tx4_eval (tag : Int) (n : Nat) (l : List Int) : res ((funcA Try.prog qR (dH (alH (qX [25, 26, 27, 39, 40, 41, 42] [28, 43]) true true [false] n0) 7) 200 13 (cArgs 0 [.pl (.int true .u8 tag), .buf true .u8 n l]) (cMem [.pl (.int true .u8 tag), .buf true .u8 n l])).go [true]) = some (tx4D tag n l, .tuple [.int false .u64 0, .bool false false]) := by kernel_rfl
theorem tx4_paid {tag : Int} {n : Nat} {l : List Int} (hl : l.length = n) (h1 : 1 ≤ n) (hn : n ≤ 1000000000) (h : l.getD (n - 1) 0 = 90 ∧ digN l (n - 1) = true ∧ tag = 23 ∧ n ≠ 13) : Paid (tx4D tag n l) := by
  have w : IntKind.wrap .i64 ((n : Int) - 1) = ((n - 1 : Nat) : Int) := by rw [wrap64]; omega
  have e1 := lastL hl h1
  have e2 := digL n l
  unfold tx4D
  simp only [w, Int.toNat_natCast, e1, e2]
  generalize hx : l.getD (n - 1) 0 = x at *
  generalize hy : digN l (n - 1) = y at *
  clear e1 e2 hx hy
  obtain ⟨g1, g2, g3, g4⟩ := h
  subst g1 g2
  refine paid_cons ?_ (paid_cons ?_ (paid_cons ?_ (paid_cons ?_ (paid_cons ?_ (paid_cons ?_ (paid_cons ?_ (paid_cons ?_ (paid_cons ?_ (paid_cons ?_ (paid_cons ?_ (paid_cons ?_ (paid_cons ?_ (paid_cons ?_ (paid_cons ?_ (paid_cons ?_ (paid_cons ?_ (paid_cons ?_ (paid_cons ?_ (paid_cons ?_ (paid_cons ?_ (paid_cons ?_ (paid_cons ?_ (paid_cons ?_ (paid_cons ?_ (paid_cons ?_ (paid_cons ?_ (paid_cons ?_ (paid_cons ?_ (paid_cons ?_ (paid_cons ?_ (paid_cons ?_ (paid_cons ?_ (paid_cons ?_ (paid_cons ?_ (paid_cons ?_ (paid_cons ?_ (paid_cons ?_ (paid_cons ?_ (paid_cons ?_ (fun _ h => by cases h))))))))))))))))))))))))))))))))))))))))
  all_goals first | rfl | ((try simp only [Bool.and_eq_true, Bool.or_eq_true, Bool.not_eq_true', Bool.not_true, Bool.not_false, Bool.not_eq_eq_eq_not, decide_eq_true_eq, decide_eq_false_iff_not, beq_iff_eq, beq_eq_false_iff_ne, bne_iff_ne, bne_eq_false_iff_eq, ne_eq, Bool.or_eq_false_iff, Bool.and_eq_false_imp, Bool.and_true, Bool.true_and, Bool.or_false, Bool.false_or, Bool.or_true, Bool.true_or, Bool.and_false, Bool.false_and, and_true, true_and, not_true_eq_false, not_false_eq_true, List.cons.injEq]) <;> omega)
def tx5D (tag : Int) (n : Nat) (l : List Int) : List Bool := [decide ((n : Nat) < 9223372036854775808), decide ((((n : Nat) : Int) : Int) ≥ 1), decide ((((n : Nat) : Int) : Int) ≥ 1), decide ((((n : Nat) : Int) : Int) ≥ 1), decide ((n : Nat) < 9223372036854775808), decide ((((n : Nat) : Int) : Int) ≥ 1), decide ((((n : Nat) : Int) : Int) ≥ 1), decide ((((n : Nat) : Int) : Int) ≥ 1), decide ((((n : Nat) : Int) : Int) ≥ 1), (decide ((0 : Int) ≤ (IntKind.wrap .i64 (((n : Nat) : Int) - 1))) && decide (((IntKind.wrap .i64 (((n : Nat) : Int) - 1)) : Int) ≤ ((n : Nat) : Int))), decide ((((n : Nat) : Int) : Int) ≥ 1), decide ((((n : Nat) : Int) : Int) ≥ 1), decide ((((0 + ((Int.toNat (IntKind.wrap .i64 (((n : Nat) : Int) - 1))) * 1)) + (n - (Int.toNat (IntKind.wrap .i64 (((n : Nat) : Int) - 1))))) : Nat) ≤ n), decide ((((n : Nat) : Int) : Int) ≥ 1), (!(!decide (((List.take (n - (Int.toNat (IntKind.wrap .i64 (((n : Nat) : Int) - 1)))) (List.drop (0 + ((Int.toNat (IntKind.wrap .i64 (((n : Nat) : Int) - 1))) * 1)) l)) : List Int) = (90 :: [])))), decide ((n : Nat) < 9223372036854775808), (decide ((0 : Int) ≤ (IntKind.wrap .i64 (((n : Nat) : Int) - 1))) && decide (((IntKind.wrap .i64 (((n : Nat) : Int) - 1)) : Int) ≤ ((n : Nat) : Int))), decide (((0 + ((Int.toNat (IntKind.wrap .i64 (((n : Nat) : Int) - 1))) - 0)) : Nat) ≤ n), decide ((((Int.toNat (IntKind.wrap .i64 (((n : Nat) : Int) - 1))) - 0) : Nat) < 1000000000000), decide (((digN (List.take ((Int.toNat (IntKind.wrap .i64 (((n : Nat) : Int) - 1))) - 0) (List.drop 0 l)) ((Int.toNat (IntKind.wrap .i64 (((n : Nat) : Int) - 1))) - 0)) : Bool) = (true)), (!(tag == 24)), (!(tag == 24)), (!(tag == 24)), (!(tag == 24)), (!(tag == 23)), (!(tag == 23)), (!(tag == 23)), (!(tag == 23)), (!(tag == 23)), (!(tag == 23)), (!(tag == 23)), (!(tag == 23))]
theorem tx5_eval (tag : Int) (n : Nat) (l : List Int) : res ((funcA Try.prog qR (dH (alH (qX [25, 26, 27, 34, 35, 36, 39, 40, 41, 42, 52, 53, 54] [28, 37, 43, 55]) true true [] n0) 7) 200 13 (cArgs 0 [.pl (.int true .u8 tag), .buf true .u8 n l]) (cMem [.pl (.int true .u8 tag), .buf true .u8 n l])).go [true]) = some (tx5D tag n l, .tuple [.int false .u64 0, .bool false false]) := by kernel_rfl
theorem tx5_paid {tag : Int} {n : Nat} {l : List Int} (hl : l.length = n) (h1 : 1 ≤ n) (hn : n ≤ 1000000000) (h : l.getD (n - 1) 0 = 90 ∧ digN l (n - 1) = true ∧ tag ≠ 24 ∧ tag ≠ 23) : Paid (tx5D tag n l) := by
  have w : IntKind.wrap .i64 ((n : Int) - 1) = ((n - 1 : Nat) : Int) := by rw [wrap64]; omega
  have e1 := lastL hl h1
  have e2 := digL n l
  unfold tx5D
  simp only [w, Int.toNat_natCast, e1, e2]
  generalize hx : l.getD (n - 1) 0 = x at *
  generalize hy : digN l (n - 1) = y at *
  clear e1 e2 hx hy
  obtain ⟨g1, g2, g3, g4⟩ := h
  subst g1 g2
  refine paid_cons ?_ (paid_cons ?_ (paid_cons ?_ (paid_cons ?_ (paid_cons ?_ (paid_cons ?_ (paid_cons ?_ (paid_cons ?_ (paid_cons ?_ (paid_cons ?_ (paid_cons ?_ (paid_cons ?_ (paid_cons ?_ (paid_cons ?_ (paid_cons ?_ (paid_cons ?_ (paid_cons ?_ (paid_cons ?_ (paid_cons ?_ (paid_cons ?_ (paid_cons ?_ (paid_cons ?_ (paid_cons ?_ (paid_cons ?_ (paid_cons ?_ (paid_cons ?_ (paid_cons ?_ (paid_cons ?_ (paid_cons ?_ (paid_cons ?_ (paid_cons ?_ (paid_cons ?_ (fun _ h => by cases h))))))))))))))))))))))))))))))))
  all_goals first | rfl | ((try simp only [Bool.and_eq_true, Bool.or_eq_true, Bool.not_eq_true', Bool.not_true, Bool.not_false, Bool.not_eq_eq_eq_not, decide_eq_true_eq, decide_eq_false_iff_not, beq_iff_eq, beq_eq_false_iff_ne, bne_iff_ne, bne_eq_false_iff_eq, ne_eq, Bool.or_eq_false_iff, Bool.and_eq_false_imp, Bool.and_true, Bool.true_and, Bool.or_false, Bool.false_or, Bool.or_true, Bool.true_or, Bool.and_false, Bool.false_and, and_true, true_and, not_true_eq_false, not_false_eq_true, List.cons.injEq]) <;> omega)
theorem txn_eval (tag : Int) : res ((funcA Try.prog qR (dH n0 7) 200 13 (cArgs 0 [.pl (.int true .u8 tag), .pl .nilslice]) (cMem [.pl (.int true .u8 tag), .pl .nilslice])).go []) = some ([], .tuple [.int false .u64 0, .bool false false]) := by kernel_rfl
theorem txe_eval (tag : Int) : res ((funcA Try.prog qR (dH n0 7) 200 13 (cArgs 0 [.pl (.int true .u8 tag), .empty]) (cMem [.pl (.int true .u8 tag), .empty])).go []) = some ([], .tuple [.int false .u64 0, .bool false false]) := by kernel_rfl
/-- Bytes that are no time's. -/
def badT (tag : Int) (n : Nat) (l : List Int) : Bool := !(decide (l.getD (n - 1) 0 = 90) && digN l (n - 1) && (decide (tag = 24 ∧ n = 15) || decide (tag = 23 ∧ n = 13)))
def txS : List V → E (AV × Mem)
  | [.pl (.int true .u8 tag), .buf true .u8 n l] => some ([decide (1 ≤ n), decide (n ≤ 1000000000), badT tag n l], (.tuple [.int false .u64 0, .bool false false], []))
  | [.pl (.int true .u8 tag), .pl .nilslice] => some ([], (.tuple [.int false .u64 0, .bool false false], []))
  | [.pl (.int true .u8 tag), .empty] => some ([], (.tuple [.int false .u64 0, .bool false false], []))
  | _ => none
theorem txS_ok {xs : List V} {o : List Bool} {v : AV} {bs : Mem} (h : txS xs = some (o, (v, bs))) (ho : Paid o) : ViewCall Try.prog 13 xs v bs := by
  unfold txS at h
  split at h
  · rename_i tag n l
    cases h
    have o1 := of_decide_eq_true (ho _ (List.mem_cons_self ..))
    have o2 := of_decide_eq_true (ho _ (List.mem_cons_of_mem _ (List.mem_cons_self ..)))
    have o3 := ho _ (List.mem_cons_of_mem _ (List.mem_cons_of_mem _ (List.mem_cons_self ..)))
    intro ρ vs w0 ha hi
    obtain ⟨cs2, t2, lo2, hi2, c1, c2, c3, c4, c5⟩ := (hi.sim.blk 1 _ rfl).ex
    have hl : l.length = n := c5.1 _ rfl
    by_cases hz : l.getD (n - 1) 0 = 90
    · cases hd : digN l (n - 1) with
      | false => exact (view_of_go mixed noCount (dH_ok (alH_ok n0_ok _ _ _ _) 7) [true] (tx2_eval tag n l) (tx2_paid hl o1 o2 ⟨hz, hd⟩) rfl rfl) ha hi
      | true =>
        by_cases h24 : tag = 24
        · have hn : n ≠ 15 := fun e => by
            unfold badT at o3
            rw [hd, decide_eq_true hz, decide_eq_true ⟨h24, e⟩] at o3
            cases o3
          exact (view_of_go mixed noCount (dH_ok (alH_ok n0_ok _ _ _ _) 7) [true] (tx3_eval tag n l) (tx3_paid hl o1 o2 ⟨hz, hd, h24, hn⟩) rfl rfl) ha hi
        by_cases h23 : tag = 23
        · have hn : n ≠ 13 := fun e => by
            unfold badT at o3
            have e9 : (decide (tag = 24 ∧ n = 15) || decide (tag = 23 ∧ n = 13)) = true := by rw [Bool.or_eq_true]; exact Or.inr (decide_eq_true ⟨h23, e⟩)
            rw [hd, decide_eq_true hz, e9] at o3
            cases o3
          exact (view_of_go mixed noCount (dH_ok (alH_ok n0_ok _ _ _ _) 7) [true] (tx4_eval tag n l) (tx4_paid hl o1 o2 ⟨hz, hd, h23, hn⟩) rfl rfl) ha hi
        · exact (view_of_go mixed noCount (dH_ok (alH_ok n0_ok _ _ _ _) 7) [true] (tx5_eval tag n l) (tx5_paid hl o1 o2 ⟨hz, hd, h24, h23⟩) rfl rfl) ha hi
    · exact (view_of_go mixed noCount (dH_ok (alH_ok n0_ok _ _ _ _) 7) [true] (tx1_eval tag n l) (tx1_paid hl o1 o2 hz) rfl rfl) ha hi
  · cases h
    exact @view_of_go _ _ _ _ mixed noCount (dH_ok n0_ok 7) _ _ _ _ _ _ [] (txn_eval _) (fun _ h => by cases h) rfl rfl
  · cases h
    exact @view_of_go _ _ _ _ mixed noCount (dH_ok n0_ok 7) _ _ _ _ _ _ [] (txe_eval _) (fun _ h => by cases h) rfl rfl
  · cases h
noncomputable def htx (X : CallH) : CallH := withV 13 txS X
theorem htx_ok {X : CallH} (h : HOk Try.prog X) : HOk Try.prog (htx X) := h.withV fun _ _ _ _ h ho => txS_ok h ho
end Go.Proofs.Ytjhjhhibfojpiaa
