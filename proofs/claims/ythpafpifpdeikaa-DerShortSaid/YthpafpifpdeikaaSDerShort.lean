/- An element that is got is, put again, just the bytes that were got: for all bytes the law answers true. No condition. -/
import Derived.Test.YthpafpifpdeikaaSDeF
import Derived.Test.YthpafpifpdeikaaSAesL
set_option linter.unusedSimpArgs false
set_option linter.unusedVariables false
set_option linter.unusedSectionVars false
namespace Go.Proofs.Ythpafpifpdeikaa
open Go.Ev Go.De
open Go.ChangeShapes Go.WideShapes Go.ChangeAt Go.RowKit
set_option maxRecDepth 100000
set_option linter.unusedSimpArgs false
set_option linter.unusedVariables false
def dsD1 (N : Nat) (l : List Int) : List Bool := [decide ((N : Nat) < 9223372036854775808), (!decide ((((N : Nat) : Int) : Int) > 5000)), decide (((0 + N) : Nat) ≤ N), (gd 1 N (List.take N (List.drop 0 l))), decide ((N : Nat) ≤ 1000000000), decide (((N - (2 + (nOf 1 (List.take N (List.drop 0 l))))) : Nat) < 9223372036854775808), decide ((N : Nat) < 9223372036854775808), decide (((((N - (2 + (nOf 1 (List.take N (List.drop 0 l))))) : Nat) : Int) : Int) ≤ ((N : Nat) : Int)), decide (((((N - (2 + (nOf 1 (List.take N (List.drop 0 l))))) : Nat) : Int) : Int) ≤ ((N : Nat) : Int)), decide (((((N - (2 + (nOf 1 (List.take N (List.drop 0 l))))) : Nat) : Int) : Int) ≤ ((N : Nat) : Int)), decide (((((N - (2 + (nOf 1 (List.take N (List.drop 0 l))))) : Nat) : Int) : Int) ≤ ((N : Nat) : Int)), decide (((nOf 1 (List.take N (List.drop 0 l))) : Nat) < 9223372036854775808), (!decide (((((nOf 1 (List.take N (List.drop 0 l))) : Nat) : Int) : Int) > 65535)), decide (((nOf 1 (List.take N (List.drop 0 l))) : Nat) < 9223372036854775808), decide (((IntKind.wrap .i64 (0 + (((nOf 1 (List.take N (List.drop 0 l))) : Nat) : Int))) : Int) < 128), decide (((0 + (nOf 1 (List.take N (List.drop 0 l)))) : Nat) ≤ (List.length (gIn 1 (List.take N (List.drop 0 l))))), decide (((2 + (nOf 1 (List.take N (List.drop 0 l)))) : Nat) ≤ 1000000000), decide (((((N - (2 + (nOf 1 (List.take N (List.drop 0 l))))) : Nat) : Int) : Int) ≤ ((N : Nat) : Int)), decide (((0 + (2 + (nOf 1 (List.take N (List.drop 0 l))))) : Nat) ≤ (List.length ((((List.getD (List.take N (List.drop 0 l)) 0 0) :: []) ++ ((IntKind.wrap .u8 (IntKind.wrap .i64 (0 + (((nOf 1 (List.take N (List.drop 0 l))) : Nat) : Int)))) :: [])) ++ (List.take (nOf 1 (List.take N (List.drop 0 l))) (List.drop 0 (gIn 1 (List.take N (List.drop 0 l)))))))), decide (((((N - (2 + (nOf 1 (List.take N (List.drop 0 l))))) : Nat) : Int) : Int) ≤ ((N : Nat) : Int)), decide (((((N - (2 + (nOf 1 (List.take N (List.drop 0 l))))) : Nat) : Int) : Int) ≤ ((N : Nat) : Int)), decide (((((N - (2 + (nOf 1 (List.take N (List.drop 0 l))))) : Nat) : Int) : Int) ≤ ((N : Nat) : Int)), decide ((N : Nat) < 9223372036854775808), decide (((((N - (2 + (nOf 1 (List.take N (List.drop 0 l))))) : Nat) : Int) : Int) ≤ ((N : Nat) : Int)), decide (((((N - (2 + (nOf 1 (List.take N (List.drop 0 l))))) : Nat) : Int) : Int) ≤ ((N : Nat) : Int)), decide (((N - (2 + (nOf 1 (List.take N (List.drop 0 l))))) : Nat) < 9223372036854775808), decide (((((N - (2 + (nOf 1 (List.take N (List.drop 0 l))))) : Nat) : Int) : Int) ≤ ((N : Nat) : Int)), decide (((((N - (2 + (nOf 1 (List.take N (List.drop 0 l))))) : Nat) : Int) : Int) ≤ ((N : Nat) : Int)), (decide ((0 : Int) ≤ (IntKind.wrap .i64 (((N : Nat) : Int) - (((N - (2 + (nOf 1 (List.take N (List.drop 0 l))))) : Nat) : Int)))) && decide (((IntKind.wrap .i64 (((N : Nat) : Int) - (((N - (2 + (nOf 1 (List.take N (List.drop 0 l))))) : Nat) : Int))) : Int) ≤ ((N : Nat) : Int))), decide (((((N - (2 + (nOf 1 (List.take N (List.drop 0 l))))) : Nat) : Int) : Int) ≤ ((N : Nat) : Int)), decide (((0 + ((Int.toNat (IntKind.wrap .i64 (((N : Nat) : Int) - (((N - (2 + (nOf 1 (List.take N (List.drop 0 l))))) : Nat) : Int)))) - 0)) : Nat) ≤ N), decide (((((N - (2 + (nOf 1 (List.take N (List.drop 0 l))))) : Nat) : Int) : Int) ≤ ((N : Nat) : Int)), decide (((((N - (2 + (nOf 1 (List.take N (List.drop 0 l))))) : Nat) : Int) : Int) ≤ ((N : Nat) : Int))]
def dsV1 (N : Nat) (l : List Int) : Bool := decide (((List.take (2 + (nOf 1 (List.take N (List.drop 0 l)))) (List.drop 0 ((((List.getD (List.take N (List.drop 0 l)) 0 0) :: []) ++ ((IntKind.wrap .u8 (IntKind.wrap .i64 (0 + (((nOf 1 (List.take N (List.drop 0 l))) : Nat) : Int)))) :: [])) ++ (List.take (nOf 1 (List.take N (List.drop 0 l))) (List.drop 0 (gIn 1 (List.take N (List.drop 0 l)))))))) : List Int) = (List.take ((Int.toNat (IntKind.wrap .i64 (((N : Nat) : Int) - (((N - (2 + (nOf 1 (List.take N (List.drop 0 l))))) : Nat) : Int)))) - 0) (List.drop 0 l)))
theorem ds1_eval (N : Nat) (l : List Int) : res ((funcL Try.prog qA (dA (hS (gGet 1 (putH 1 [false] n0))) 7) (fun _ _ => none) 100 9 (cArgs 0 [.buf true .u8 N l]) (cMem [.buf true .u8 N l])).go [false]) = some (dsD1 N l, .bool true (dsV1 N l)) := by kernel_rfl
theorem ds1_paid {N : Nat} {l : List Int} (hl : l.length = N) (hr : ∀ x ∈ l, inR .u8 x = true) (hN : N ≤ 5000) (hg : gd 1 N l = true) : Paid (dsD1 N l) ∧ dsV1 N l = true := by
  have b0 := u8_at hr 0
  have b1 := u8_at hr 1
  have b2 := u8_at hr 2
  have b3 := u8_at hr 3
  have htk : List.take N l = l := List.take_of_length_le (by omega)
  have hg' := hg
  simp only [gd, frm, Bool.and_eq_true, Bool.or_eq_true, Bool.not_eq_true', Bool.not_true, Bool.not_false, Bool.not_eq_eq_eq_not, decide_eq_true_eq, decide_eq_false_iff_not, beq_iff_eq, beq_eq_false_iff_ne, bne_iff_ne, bne_eq_false_iff_eq, ne_eq, Bool.or_eq_false_iff, Bool.and_eq_false_imp, Bool.and_true, Bool.true_and, Bool.or_false, Bool.false_or, Bool.or_true, Bool.true_or, Bool.and_false, Bool.false_and, and_true, true_and, not_true_eq_false, not_false_eq_true] at hg'
  have q1 : (gIn 1 l).length = nOf 1 l := by simp only [gIn, List.length_take, List.length_drop]; omega
  have w0 : IntKind.wrap .i64 (0 + (nOf 1 l : Int)) = (nOf 1 l : Int) := by rw [Go.De.wrap64]; omega
  have w1 : IntKind.wrap .i64 ((N : Int) - ((N - (2 + nOf 1 l) : Nat) : Int)) = ((2 + nOf 1 l : Nat) : Int) := by rw [Go.De.wrap64]; omega
  have r1 : List.take (nOf 1 l) (gIn 1 l) = List.take (nOf 1 l) (List.drop 2 l) := by simp only [gIn, List.take_take, Nat.min_self]
  have en : nOf 1 l = (l.getD 1 0).toNat := rfl
  refine ⟨?_, ?_⟩
  · unfold dsD1
    simp only [List.drop_zero, htk, w0, w1, Int.toNat_natCast, q1, Nat.sub_zero, r1, List.length_append, List.length_cons, List.length_nil, List.length_take, List.length_drop]
    refine paid_cons ?_ (paid_cons ?_ (paid_cons ?_ (paid_cons ?_ (paid_cons ?_ (paid_cons ?_ (paid_cons ?_ (paid_cons ?_ (paid_cons ?_ (paid_cons ?_ (paid_cons ?_ (paid_cons ?_ (paid_cons ?_ (paid_cons ?_ (paid_cons ?_ (paid_cons ?_ (paid_cons ?_ (paid_cons ?_ (paid_cons ?_ (paid_cons ?_ (paid_cons ?_ (paid_cons ?_ (paid_cons ?_ (paid_cons ?_ (paid_cons ?_ (paid_cons ?_ (paid_cons ?_ (paid_cons ?_ (paid_cons ?_ (paid_cons ?_ (paid_cons ?_ (paid_cons ?_ (paid_cons ?_ (fun _ h => by cases h)))))))))))))))))))))))))))))))))
    all_goals first | exact hg | ((try simp only [Bool.and_eq_true, Bool.or_eq_true, Bool.not_eq_true', Bool.not_true, Bool.not_false, Bool.not_eq_eq_eq_not, decide_eq_true_eq, decide_eq_false_iff_not, beq_iff_eq, beq_eq_false_iff_ne, bne_iff_ne, bne_eq_false_iff_eq, ne_eq, Bool.or_eq_false_iff, Bool.and_eq_false_imp, Bool.and_true, Bool.true_and, Bool.or_false, Bool.false_or, Bool.or_true, Bool.true_or, Bool.and_false, Bool.false_and, and_true, true_and, not_true_eq_false, not_false_eq_true]) <;> omega)
  · unfold dsV1
    simp only [List.drop_zero, htk, w0, w1, Int.toNat_natCast, Nat.sub_zero, r1]
    rw [take2 l (nOf 1 l) (by omega)]
    apply decide_eq_true
    rw [List.take_of_length_le (by simp only [List.length_append, List.length_cons, List.length_nil, List.length_take, List.length_drop]; omega)]
    simp only [List.cons_append, List.nil_append, wrapB, ishr8, List.cons.injEq, true_and, and_true]
    omega
def dsD2 (N : Nat) (l : List Int) : List Bool := [decide ((N : Nat) < 9223372036854775808), (!decide ((((N : Nat) : Int) : Int) > 5000)), decide (((0 + N) : Nat) ≤ N), (gd 2 N (List.take N (List.drop 0 l))), decide ((N : Nat) ≤ 1000000000), decide (((N - (3 + (nOf 2 (List.take N (List.drop 0 l))))) : Nat) < 9223372036854775808), decide ((N : Nat) < 9223372036854775808), decide (((((N - (3 + (nOf 2 (List.take N (List.drop 0 l))))) : Nat) : Int) : Int) ≤ ((N : Nat) : Int)), decide (((((N - (3 + (nOf 2 (List.take N (List.drop 0 l))))) : Nat) : Int) : Int) ≤ ((N : Nat) : Int)), decide (((((N - (3 + (nOf 2 (List.take N (List.drop 0 l))))) : Nat) : Int) : Int) ≤ ((N : Nat) : Int)), decide (((((N - (3 + (nOf 2 (List.take N (List.drop 0 l))))) : Nat) : Int) : Int) ≤ ((N : Nat) : Int)), decide (((nOf 2 (List.take N (List.drop 0 l))) : Nat) < 9223372036854775808), (!decide (((((nOf 2 (List.take N (List.drop 0 l))) : Nat) : Int) : Int) > 65535)), decide (((nOf 2 (List.take N (List.drop 0 l))) : Nat) < 9223372036854775808), (!decide (((IntKind.wrap .i64 (0 + (((nOf 2 (List.take N (List.drop 0 l))) : Nat) : Int))) : Int) < 128)), decide (((IntKind.wrap .i64 (0 + (((nOf 2 (List.take N (List.drop 0 l))) : Nat) : Int))) : Int) < 256), decide (((0 + (nOf 2 (List.take N (List.drop 0 l)))) : Nat) ≤ (List.length (gIn 2 (List.take N (List.drop 0 l))))), decide (((3 + (nOf 2 (List.take N (List.drop 0 l)))) : Nat) ≤ 1000000000), decide (((((N - (3 + (nOf 2 (List.take N (List.drop 0 l))))) : Nat) : Int) : Int) ≤ ((N : Nat) : Int)), decide (((0 + (3 + (nOf 2 (List.take N (List.drop 0 l))))) : Nat) ≤ (List.length ((((List.getD (List.take N (List.drop 0 l)) 0 0) :: []) ++ (129 :: ((IntKind.wrap .u8 (IntKind.wrap .i64 (0 + (((nOf 2 (List.take N (List.drop 0 l))) : Nat) : Int)))) :: []))) ++ (List.take (nOf 2 (List.take N (List.drop 0 l))) (List.drop 0 (gIn 2 (List.take N (List.drop 0 l)))))))), decide (((((N - (3 + (nOf 2 (List.take N (List.drop 0 l))))) : Nat) : Int) : Int) ≤ ((N : Nat) : Int)), decide (((((N - (3 + (nOf 2 (List.take N (List.drop 0 l))))) : Nat) : Int) : Int) ≤ ((N : Nat) : Int)), decide (((((N - (3 + (nOf 2 (List.take N (List.drop 0 l))))) : Nat) : Int) : Int) ≤ ((N : Nat) : Int)), decide ((N : Nat) < 9223372036854775808), decide (((((N - (3 + (nOf 2 (List.take N (List.drop 0 l))))) : Nat) : Int) : Int) ≤ ((N : Nat) : Int)), decide (((((N - (3 + (nOf 2 (List.take N (List.drop 0 l))))) : Nat) : Int) : Int) ≤ ((N : Nat) : Int)), decide (((N - (3 + (nOf 2 (List.take N (List.drop 0 l))))) : Nat) < 9223372036854775808), decide (((((N - (3 + (nOf 2 (List.take N (List.drop 0 l))))) : Nat) : Int) : Int) ≤ ((N : Nat) : Int)), decide (((((N - (3 + (nOf 2 (List.take N (List.drop 0 l))))) : Nat) : Int) : Int) ≤ ((N : Nat) : Int)), (decide ((0 : Int) ≤ (IntKind.wrap .i64 (((N : Nat) : Int) - (((N - (3 + (nOf 2 (List.take N (List.drop 0 l))))) : Nat) : Int)))) && decide (((IntKind.wrap .i64 (((N : Nat) : Int) - (((N - (3 + (nOf 2 (List.take N (List.drop 0 l))))) : Nat) : Int))) : Int) ≤ ((N : Nat) : Int))), decide (((((N - (3 + (nOf 2 (List.take N (List.drop 0 l))))) : Nat) : Int) : Int) ≤ ((N : Nat) : Int)), decide (((0 + ((Int.toNat (IntKind.wrap .i64 (((N : Nat) : Int) - (((N - (3 + (nOf 2 (List.take N (List.drop 0 l))))) : Nat) : Int)))) - 0)) : Nat) ≤ N), decide (((((N - (3 + (nOf 2 (List.take N (List.drop 0 l))))) : Nat) : Int) : Int) ≤ ((N : Nat) : Int)), decide (((((N - (3 + (nOf 2 (List.take N (List.drop 0 l))))) : Nat) : Int) : Int) ≤ ((N : Nat) : Int))]
def dsV2 (N : Nat) (l : List Int) : Bool := decide (((List.take (3 + (nOf 2 (List.take N (List.drop 0 l)))) (List.drop 0 ((((List.getD (List.take N (List.drop 0 l)) 0 0) :: []) ++ (129 :: ((IntKind.wrap .u8 (IntKind.wrap .i64 (0 + (((nOf 2 (List.take N (List.drop 0 l))) : Nat) : Int)))) :: []))) ++ (List.take (nOf 2 (List.take N (List.drop 0 l))) (List.drop 0 (gIn 2 (List.take N (List.drop 0 l)))))))) : List Int) = (List.take ((Int.toNat (IntKind.wrap .i64 (((N : Nat) : Int) - (((N - (3 + (nOf 2 (List.take N (List.drop 0 l))))) : Nat) : Int)))) - 0) (List.drop 0 l)))
theorem ds2_eval (N : Nat) (l : List Int) : res ((funcL Try.prog qA (dA (hS (gGet 2 (putH 2 [false] n0))) 7) (fun _ _ => none) 100 9 (cArgs 0 [.buf true .u8 N l]) (cMem [.buf true .u8 N l])).go [false]) = some (dsD2 N l, .bool true (dsV2 N l)) := by kernel_rfl
theorem ds2_paid {N : Nat} {l : List Int} (hl : l.length = N) (hr : ∀ x ∈ l, inR .u8 x = true) (hN : N ≤ 5000) (hg : gd 2 N l = true) : Paid (dsD2 N l) ∧ dsV2 N l = true := by
  have b0 := u8_at hr 0
  have b1 := u8_at hr 1
  have b2 := u8_at hr 2
  have b3 := u8_at hr 3
  have htk : List.take N l = l := List.take_of_length_le (by omega)
  have hg' := hg
  simp only [gd, frm, Bool.and_eq_true, Bool.or_eq_true, Bool.not_eq_true', Bool.not_true, Bool.not_false, Bool.not_eq_eq_eq_not, decide_eq_true_eq, decide_eq_false_iff_not, beq_iff_eq, beq_eq_false_iff_ne, bne_iff_ne, bne_eq_false_iff_eq, ne_eq, Bool.or_eq_false_iff, Bool.and_eq_false_imp, Bool.and_true, Bool.true_and, Bool.or_false, Bool.false_or, Bool.or_true, Bool.true_or, Bool.and_false, Bool.false_and, and_true, true_and, not_true_eq_false, not_false_eq_true] at hg'
  have q1 : (gIn 2 l).length = nOf 2 l := by simp only [gIn, List.length_take, List.length_drop]; omega
  have w0 : IntKind.wrap .i64 (0 + (nOf 2 l : Int)) = (nOf 2 l : Int) := by rw [Go.De.wrap64]; omega
  have w1 : IntKind.wrap .i64 ((N : Int) - ((N - (3 + nOf 2 l) : Nat) : Int)) = ((3 + nOf 2 l : Nat) : Int) := by rw [Go.De.wrap64]; omega
  have r1 : List.take (nOf 2 l) (gIn 2 l) = List.take (nOf 2 l) (List.drop 3 l) := by simp only [gIn, List.take_take, Nat.min_self]
  have en : nOf 2 l = (l.getD 2 0).toNat := rfl
  refine ⟨?_, ?_⟩
  · unfold dsD2
    simp only [List.drop_zero, htk, w0, w1, Int.toNat_natCast, q1, Nat.sub_zero, r1, List.length_append, List.length_cons, List.length_nil, List.length_take, List.length_drop]
    refine paid_cons ?_ (paid_cons ?_ (paid_cons ?_ (paid_cons ?_ (paid_cons ?_ (paid_cons ?_ (paid_cons ?_ (paid_cons ?_ (paid_cons ?_ (paid_cons ?_ (paid_cons ?_ (paid_cons ?_ (paid_cons ?_ (paid_cons ?_ (paid_cons ?_ (paid_cons ?_ (paid_cons ?_ (paid_cons ?_ (paid_cons ?_ (paid_cons ?_ (paid_cons ?_ (paid_cons ?_ (paid_cons ?_ (paid_cons ?_ (paid_cons ?_ (paid_cons ?_ (paid_cons ?_ (paid_cons ?_ (paid_cons ?_ (paid_cons ?_ (paid_cons ?_ (paid_cons ?_ (paid_cons ?_ (paid_cons ?_ (fun _ h => by cases h))))))))))))))))))))))))))))))))))
    all_goals first | exact hg | ((try simp only [Bool.and_eq_true, Bool.or_eq_true, Bool.not_eq_true', Bool.not_true, Bool.not_false, Bool.not_eq_eq_eq_not, decide_eq_true_eq, decide_eq_false_iff_not, beq_iff_eq, beq_eq_false_iff_ne, bne_iff_ne, bne_eq_false_iff_eq, ne_eq, Bool.or_eq_false_iff, Bool.and_eq_false_imp, Bool.and_true, Bool.true_and, Bool.or_false, Bool.false_or, Bool.or_true, Bool.true_or, Bool.and_false, Bool.false_and, and_true, true_and, not_true_eq_false, not_false_eq_true]) <;> omega)
  · unfold dsV2
    simp only [List.drop_zero, htk, w0, w1, Int.toNat_natCast, Nat.sub_zero, r1]
    rw [take3 l (nOf 2 l) (by omega)]
    apply decide_eq_true
    rw [List.take_of_length_le (by simp only [List.length_append, List.length_cons, List.length_nil, List.length_take, List.length_drop]; omega)]
    simp only [List.cons_append, List.nil_append, wrapB, ishr8, List.cons.injEq, true_and, and_true]
    omega
def dsD3 (N : Nat) (l : List Int) : List Bool := [decide ((N : Nat) < 9223372036854775808), (!decide ((((N : Nat) : Int) : Int) > 5000)), decide (((0 + N) : Nat) ≤ N), (gd 3 N (List.take N (List.drop 0 l))), decide ((N : Nat) ≤ 1000000000), decide (((N - (4 + (nOf 3 (List.take N (List.drop 0 l))))) : Nat) < 9223372036854775808), decide ((N : Nat) < 9223372036854775808), decide (((((N - (4 + (nOf 3 (List.take N (List.drop 0 l))))) : Nat) : Int) : Int) ≤ ((N : Nat) : Int)), decide (((((N - (4 + (nOf 3 (List.take N (List.drop 0 l))))) : Nat) : Int) : Int) ≤ ((N : Nat) : Int)), decide (((((N - (4 + (nOf 3 (List.take N (List.drop 0 l))))) : Nat) : Int) : Int) ≤ ((N : Nat) : Int)), decide (((((N - (4 + (nOf 3 (List.take N (List.drop 0 l))))) : Nat) : Int) : Int) ≤ ((N : Nat) : Int)), decide (((nOf 3 (List.take N (List.drop 0 l))) : Nat) < 9223372036854775808), (!decide (((((nOf 3 (List.take N (List.drop 0 l))) : Nat) : Int) : Int) > 65535)), decide (((nOf 3 (List.take N (List.drop 0 l))) : Nat) < 9223372036854775808), (!decide (((IntKind.wrap .i64 (0 + (((nOf 3 (List.take N (List.drop 0 l))) : Nat) : Int))) : Int) < 128)), (!decide (((IntKind.wrap .i64 (0 + (((nOf 3 (List.take N (List.drop 0 l))) : Nat) : Int))) : Int) < 256)), decide (((0 + (nOf 3 (List.take N (List.drop 0 l)))) : Nat) ≤ (List.length (gIn 3 (List.take N (List.drop 0 l))))), decide (((4 + (nOf 3 (List.take N (List.drop 0 l)))) : Nat) ≤ 1000000000), decide (((((N - (4 + (nOf 3 (List.take N (List.drop 0 l))))) : Nat) : Int) : Int) ≤ ((N : Nat) : Int)), decide (((0 + (4 + (nOf 3 (List.take N (List.drop 0 l))))) : Nat) ≤ (List.length ((((List.getD (List.take N (List.drop 0 l)) 0 0) :: []) ++ (130 :: ((IntKind.wrap .u8 (ishr .i64 (IntKind.wrap .i64 (0 + (((nOf 3 (List.take N (List.drop 0 l))) : Nat) : Int))) 8)) :: ((IntKind.wrap .u8 (IntKind.wrap .i64 (0 + (((nOf 3 (List.take N (List.drop 0 l))) : Nat) : Int)))) :: [])))) ++ (List.take (nOf 3 (List.take N (List.drop 0 l))) (List.drop 0 (gIn 3 (List.take N (List.drop 0 l)))))))), decide (((((N - (4 + (nOf 3 (List.take N (List.drop 0 l))))) : Nat) : Int) : Int) ≤ ((N : Nat) : Int)), decide (((((N - (4 + (nOf 3 (List.take N (List.drop 0 l))))) : Nat) : Int) : Int) ≤ ((N : Nat) : Int)), decide (((((N - (4 + (nOf 3 (List.take N (List.drop 0 l))))) : Nat) : Int) : Int) ≤ ((N : Nat) : Int)), decide ((N : Nat) < 9223372036854775808), decide (((((N - (4 + (nOf 3 (List.take N (List.drop 0 l))))) : Nat) : Int) : Int) ≤ ((N : Nat) : Int)), decide (((((N - (4 + (nOf 3 (List.take N (List.drop 0 l))))) : Nat) : Int) : Int) ≤ ((N : Nat) : Int)), decide (((N - (4 + (nOf 3 (List.take N (List.drop 0 l))))) : Nat) < 9223372036854775808), decide (((((N - (4 + (nOf 3 (List.take N (List.drop 0 l))))) : Nat) : Int) : Int) ≤ ((N : Nat) : Int)), decide (((((N - (4 + (nOf 3 (List.take N (List.drop 0 l))))) : Nat) : Int) : Int) ≤ ((N : Nat) : Int)), (decide ((0 : Int) ≤ (IntKind.wrap .i64 (((N : Nat) : Int) - (((N - (4 + (nOf 3 (List.take N (List.drop 0 l))))) : Nat) : Int)))) && decide (((IntKind.wrap .i64 (((N : Nat) : Int) - (((N - (4 + (nOf 3 (List.take N (List.drop 0 l))))) : Nat) : Int))) : Int) ≤ ((N : Nat) : Int))), decide (((((N - (4 + (nOf 3 (List.take N (List.drop 0 l))))) : Nat) : Int) : Int) ≤ ((N : Nat) : Int)), decide (((0 + ((Int.toNat (IntKind.wrap .i64 (((N : Nat) : Int) - (((N - (4 + (nOf 3 (List.take N (List.drop 0 l))))) : Nat) : Int)))) - 0)) : Nat) ≤ N), decide (((((N - (4 + (nOf 3 (List.take N (List.drop 0 l))))) : Nat) : Int) : Int) ≤ ((N : Nat) : Int)), decide (((((N - (4 + (nOf 3 (List.take N (List.drop 0 l))))) : Nat) : Int) : Int) ≤ ((N : Nat) : Int))]
def dsV3 (N : Nat) (l : List Int) : Bool := decide (((List.take (4 + (nOf 3 (List.take N (List.drop 0 l)))) (List.drop 0 ((((List.getD (List.take N (List.drop 0 l)) 0 0) :: []) ++ (130 :: ((IntKind.wrap .u8 (ishr .i64 (IntKind.wrap .i64 (0 + (((nOf 3 (List.take N (List.drop 0 l))) : Nat) : Int))) 8)) :: ((IntKind.wrap .u8 (IntKind.wrap .i64 (0 + (((nOf 3 (List.take N (List.drop 0 l))) : Nat) : Int)))) :: [])))) ++ (List.take (nOf 3 (List.take N (List.drop 0 l))) (List.drop 0 (gIn 3 (List.take N (List.drop 0 l)))))))) : List Int) = (List.take ((Int.toNat (IntKind.wrap .i64 (((N : Nat) : Int) - (((N - (4 + (nOf 3 (List.take N (List.drop 0 l))))) : Nat) : Int)))) - 0) (List.drop 0 l)))
theorem ds3_eval (N : Nat) (l : List Int) : res ((funcL Try.prog qA (dA (hS (gGet 3 (putH 3 [false] n0))) 7) (fun _ _ => none) 100 9 (cArgs 0 [.buf true .u8 N l]) (cMem [.buf true .u8 N l])).go [false]) = some (dsD3 N l, .bool true (dsV3 N l)) := by kernel_rfl
theorem ds3_paid {N : Nat} {l : List Int} (hl : l.length = N) (hr : ∀ x ∈ l, inR .u8 x = true) (hN : N ≤ 5000) (hg : gd 3 N l = true) : Paid (dsD3 N l) ∧ dsV3 N l = true := by
  have b0 := u8_at hr 0
  have b1 := u8_at hr 1
  have b2 := u8_at hr 2
  have b3 := u8_at hr 3
  have htk : List.take N l = l := List.take_of_length_le (by omega)
  have hg' := hg
  simp only [gd, frm, Bool.and_eq_true, Bool.or_eq_true, Bool.not_eq_true', Bool.not_true, Bool.not_false, Bool.not_eq_eq_eq_not, decide_eq_true_eq, decide_eq_false_iff_not, beq_iff_eq, beq_eq_false_iff_ne, bne_iff_ne, bne_eq_false_iff_eq, ne_eq, Bool.or_eq_false_iff, Bool.and_eq_false_imp, Bool.and_true, Bool.true_and, Bool.or_false, Bool.false_or, Bool.or_true, Bool.true_or, Bool.and_false, Bool.false_and, and_true, true_and, not_true_eq_false, not_false_eq_true] at hg'
  have q1 : (gIn 3 l).length = nOf 3 l := by simp only [gIn, List.length_take, List.length_drop]; omega
  have w0 : IntKind.wrap .i64 (0 + (nOf 3 l : Int)) = (nOf 3 l : Int) := by rw [Go.De.wrap64]; omega
  have w1 : IntKind.wrap .i64 ((N : Int) - ((N - (4 + nOf 3 l) : Nat) : Int)) = ((4 + nOf 3 l : Nat) : Int) := by rw [Go.De.wrap64]; omega
  have r1 : List.take (nOf 3 l) (gIn 3 l) = List.take (nOf 3 l) (List.drop 4 l) := by simp only [gIn, List.take_take, Nat.min_self]
  have en : nOf 3 l = ((l.getD 2 0 * 256 + l.getD 3 0)).toNat := rfl
  refine ⟨?_, ?_⟩
  · unfold dsD3
    simp only [List.drop_zero, htk, w0, w1, Int.toNat_natCast, q1, Nat.sub_zero, r1, List.length_append, List.length_cons, List.length_nil, List.length_take, List.length_drop]
    refine paid_cons ?_ (paid_cons ?_ (paid_cons ?_ (paid_cons ?_ (paid_cons ?_ (paid_cons ?_ (paid_cons ?_ (paid_cons ?_ (paid_cons ?_ (paid_cons ?_ (paid_cons ?_ (paid_cons ?_ (paid_cons ?_ (paid_cons ?_ (paid_cons ?_ (paid_cons ?_ (paid_cons ?_ (paid_cons ?_ (paid_cons ?_ (paid_cons ?_ (paid_cons ?_ (paid_cons ?_ (paid_cons ?_ (paid_cons ?_ (paid_cons ?_ (paid_cons ?_ (paid_cons ?_ (paid_cons ?_ (paid_cons ?_ (paid_cons ?_ (paid_cons ?_ (paid_cons ?_ (paid_cons ?_ (paid_cons ?_ (fun _ h => by cases h))))))))))))))))))))))))))))))))))
    all_goals first | exact hg | ((try simp only [Bool.and_eq_true, Bool.or_eq_true, Bool.not_eq_true', Bool.not_true, Bool.not_false, Bool.not_eq_eq_eq_not, decide_eq_true_eq, decide_eq_false_iff_not, beq_iff_eq, beq_eq_false_iff_ne, bne_iff_ne, bne_eq_false_iff_eq, ne_eq, Bool.or_eq_false_iff, Bool.and_eq_false_imp, Bool.and_true, Bool.true_and, Bool.or_false, Bool.false_or, Bool.or_true, Bool.true_or, Bool.and_false, Bool.false_and, and_true, true_and, not_true_eq_false, not_false_eq_true]) <;> omega)
  · unfold dsV3
    simp only [List.drop_zero, htk, w0, w1, Int.toNat_natCast, Nat.sub_zero, r1]
    rw [take4 l (nOf 3 l) (by omega)]
    apply decide_eq_true
    rw [List.take_of_length_le (by simp only [List.length_append, List.length_cons, List.length_nil, List.length_take, List.length_drop]; omega)]
    simp only [List.cons_append, List.nil_append, wrapB, ishr8, List.cons.injEq, true_and, and_true]
    omega
theorem dsx_eval (N : Nat) (l : List Int) : res ((funcL Try.prog qA (dA (hS (gGetX n0)) 7) (fun _ _ => none) 100 9 (cArgs 0 [.buf true .u8 N l]) (cMem [.buf true .u8 N l])).go [false]) = some ([decide ((N : Nat) < 9223372036854775808), (!decide ((((N : Nat) : Int) : Int) > 5000)), decide (((0 + N) : Nat) ≤ N), (bad N (List.take N (List.drop 0 l))), decide ((1 : Nat) ≤ N), decide ((N : Nat) ≤ 1000000000)], .bool false true) := by kernel_rfl
theorem dsl_eval (N : Nat) (l : List Int) : res ((funcL Try.prog qA (dA (hS (n0)) 7) (fun _ _ => none) 100 9 (cArgs 0 [.buf true .u8 N l]) (cMem [.buf true .u8 N l])).go [true]) = some ([decide ((N : Nat) < 9223372036854775808), decide ((((N : Nat) : Int) : Int) > 5000)], .bool false true) := by kernel_rfl
theorem dsn_eval : res ((funcL Try.prog qA (dA (hS (dH n0 7)) 7) (fun _ _ => none) 100 9 (cArgs 0 [.pl .nilslice]) (cMem [.pl .nilslice])).go []) = some ([], .bool false true) := by kernel_rfl
theorem dse_eval : res ((funcL Try.prog qA (dA (hS (dH n0 7)) 7) (fun _ _ => none) 100 9 (cArgs 0 [.empty]) (cMem [.empty])).go []) = some ([], .bool false true) := by kernel_rfl
theorem derShort_calls {W0 : World} {v : Value} (r : Nums W0 .u8 reachBytes v) (W : World) (hW : W0 = W := by rfl) : Calls Try.prog 9 #[v] W (fun e w' => e = .returned (.bool true) ∧ Below W.heap.size W w') := by
  subst hW
  rcases VOk.bytes (W := W0) 0 r with g | g | ⟨N, l, h1, hm, hl, hr, g⟩
  · exact law_of_goP (xs := [.pl .nilslice]) (vs := [v]) (avs := [v]) mixed (dA_ok (hS_ok (dH_ok n0_ok 7)) 7) (fun _ _ _ _ => LOkN.none) [] dsn_eval (fun p hp => by cases hp) rfl (.cons _ _ _ _ _ g (.nil _)) (fun _ _ hr => hr) rfl
  · exact law_of_goP (xs := [.empty]) (vs := [v]) (avs := [v]) mixed (dA_ok (hS_ok (dH_ok n0_ok 7)) 7) (fun _ _ _ _ => LOkN.none) [] dse_eval (fun p hp => by cases hp) rfl (.cons _ _ _ _ _ g (.nil _)) (fun _ _ hr => hr) rfl
  · have go : ∀ {X : CallH} (hX : HOk Try.prog X) {ds o : List Bool} {s b : Bool}, res ((funcL Try.prog qA (dA (hS (X)) 7) (fun _ _ => none) 100 9 (cArgs 0 [.buf true .u8 N l]) (cMem [.buf true .u8 N l])).go ds) = some (o, .bool s b) → Paid o → b = true → Calls Try.prog 9 #[v] W0 (fun e w' => e = .returned (.bool true) ∧ Below W0.heap.size W0 w') := fun hX _ _ _ _ ev po hb =>
        law_of_goP (xs := [.buf true .u8 N l]) (vs := [v]) (avs := [v]) mixed (dA_ok (hS_ok hX) 7) (fun _ _ _ _ => LOkN.none) _ ev po hb (.cons _ _ _ _ _ g (.nil _)) (fun _ _ hr => hr) rfl
    have hb63 : N < 9223372036854775808 := by
      have : (reachBytes : Nat) < 9223372036854775808 := by decide
      omega
    by_cases hN : N ≤ 5000
    · by_cases g1 : gd 1 N l = true
      · exact go (gGet_ok (putH_ok n0_ok 1 _) (by omega)) (ds1_eval N l) (ds1_paid hl hr hN g1).1 (ds1_paid hl hr hN g1).2
      by_cases g2 : gd 2 N l = true
      · exact go (gGet_ok (putH_ok n0_ok 2 _) (by omega)) (ds2_eval N l) (ds2_paid hl hr hN g2).1 (ds2_paid hl hr hN g2).2
      by_cases g3 : gd 3 N l = true
      · exact go (gGet_ok (putH_ok n0_ok 3 _) (by omega)) (ds3_eval N l) (ds3_paid hl hr hN g3).1 (ds3_paid hl hr hN g3).2
      have hb : bad N l = true := by
        rw [Bool.not_eq_true] at g1 g2 g3
        unfold bad
        rw [g1, g2, g3]; rfl
      have htk : List.take N l = l := List.take_of_length_le (by omega)
      refine go (gGetX_ok n0_ok) (dsx_eval N l) ?_ rfl
      simp only [List.drop_zero, htk]
      refine paid_cons ?_ (paid_cons ?_ (paid_cons ?_ (paid_cons ?_ (paid_cons ?_ (paid_cons ?_ (fun _ h => by cases h))))))
      all_goals first | exact hb | ((try simp only [Bool.and_eq_true, Bool.or_eq_true, Bool.not_eq_true', Bool.not_true, Bool.not_false, Bool.not_eq_eq_eq_not, decide_eq_true_eq, decide_eq_false_iff_not, beq_iff_eq, beq_eq_false_iff_ne, bne_iff_ne, bne_eq_false_iff_eq, ne_eq, Bool.or_eq_false_iff, Bool.and_eq_false_imp, Bool.and_true, Bool.true_and, Bool.or_false, Bool.false_or, Bool.or_true, Bool.true_or, Bool.and_false, Bool.false_and, and_true, true_and, not_true_eq_false, not_false_eq_true]) <;> omega)
    · exact go n0_ok (dsl_eval N l) (paid_cons (decide_eq_true hb63) (paid_cons (decide_eq_true (by omega)) fun _ h => by cases h)) rfl

theorem derShort_lifted (os : Os) (started : os.Started) (H : Type) (enc : TypeId × Value → H) :
    ReturnsInHanded {} Try.checked os 9 .any (Rows.derShortSpec.pre6 enc Try.prog Try.f9 Rows.derShortRow.domain false) (Rows.derShortSpec.post enc Try.prog Try.f9 false true false false) := by
  refine returnsInHanded_of_change_sized (C := Try.checked) own started (by kernel_rfl) Try.func9
    (ChangeSpec.witness6 (enc := enc) (C := Try.checked) false ⟨#[], #[.slice none 0 0], []⟩ 8 (by kernel_rfl) (by kernel_rfl) (by kernel_rfl) (by kernel_rfl)) ?_
  intro W base args ds gs before hval0 hW hcnd hsz0 _
  have hval : ∀ (j : Nat) t v, Try.f9.params[j]? = some t → args[j]? = some v → Value.okWide Try.prog W .any base t v := hval0
  have hW' := hW
  obtain ⟨p, q, hA0, hV, rfl, hfz, hnd⟩ := hW
  have hA : DataW.TrodAll enc Try.prog W 0 (fun _ => true) true Try.f9.params.toList args.toList ds p := hA0
  have hsz := hsz0
  rw [Try.params9] at hA hval
  have hsz : (DataW.weightsEach Try.prog (Try.f9.params.toList ++ Rows.derShortSpec.plain.varTypes Try.prog) (ds ++ gs)).all (· ≤ reachBytes) = true := hsz0
  rw [Try.params9] at hsz
  obtain ⟨v0, d0, hargs, rfl, g0⟩ := trodAll_one hA
  have hargs' : args = #[v0] := by simpa using hargs
  subst hargs'
  obtain ⟨rfl, rfl⟩ := trodVars_none hV
  have hv0 := nums_sized Try.underlying24 Try.underlying5 (by kernel_rfl) (by kernel_rfl) (hval 0 _ v0 rfl rfl) g0 (arg_sized hsz (j := 0) (t := 24) rfl rfl)
  refine (derShort_calls hv0 W).mono fun e W' ⟨he, hb⟩ => ?_
  exact ⟨_, he, post_of_law laidOut (by rw [Try.params9]; decide +kernel) hW' rfl rfl Try.underlying4 rfl rfl rfl hb⟩

theorem derShort_holds : Rows.DerShortSaid :=
  OpenClaim.holds_of_wide 9 Try.f9 rfl rfl rfl rfl rfl rfl rfl ⟨rfl, rfl, rfl, rfl, rfl⟩ rfl rfl rfl rfl rfl (by kernel_rfl) Try.func9 (by kernel_rfl)
    (of_decide_eq_true (by kernel_rfl)) (by unfold Func.isWrapper; first | (rw [if_pos (by decide +kernel)]; kernel_rfl) | (rw [if_neg (by decide +kernel)]; exact ⟨rfl, rfl⟩))
    (fun os started H enc _ => derShort_lifted os started H enc)
end Go.Proofs.Ythpafpifpdeikaa
