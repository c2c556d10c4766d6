/- Elements of many parts: the law's loop. Own work. -/
import Derived.Test.YthpafpifpdeikaaUEvRenx
import Derived.Test.YthpafpifpdeikaaUEvRetL
set_option linter.unusedSimpArgs false
set_option linter.unusedVariables false
set_option linter.unusedSectionVars false
namespace Go.Ev
variable [RowTab]
instance tabL : Tab := tabR fun _ => none
end Go.Ev
namespace Go.Proofs.Ythpafpifpdeikaa
open Go.Ev Go.De
set_option maxRecDepth 100000
set_option linter.unusedSimpArgs false
set_option linter.unusedVariables false
variable [RowTab]
/-- A row's bytes; all up to one; how long they are, and how many. -/
def rowL (i : Nat) : List Int := match rowX i with
  | .buf _ _ _ l => l
  | _ => []
def catR : Nat → List Int
  | 0 => []
  | j + 1 => catR j ++ rowL j
def sumR : Nat → Nat
  | 0 => 0
  | j + 1 => sumR j + (1 + (rowL j).length)
theorem catR_len : ∀ j, (catR j).length ≤ sumR j
  | 0 => Nat.le_refl _
  | j + 1 => by
    have := catR_len j
    unfold catR sumR
    rw [List.length_append]
    omega
structure lpP where
  tag : Int
  len : Nat
  cap : Nat
  n : Int
  len2 : Int
  i : Int
  e : Bool
  c : List Int
  r : Nat → Value
def lpTs : List Nat := [0, 1, 4, 5, 6, 11, 12, 13]
def lpA (s : lpP) : AV := match s.e with
  | true => .nilslice
  | false => .slice true 2 0 s.c.length none 1
def lpV (s : lpP) : List AV := [.int true .u8 s.tag, .slice true 1 0 s.len none 1, .bool false false, lpA s, .int true .i64 s.n, .slice true 1 0 s.len none 1, .int true .i64 s.len2, .int true .i64 s.i]
def lpM (s : lpP) : Mem := match s.e with
  | true => [none, some ⟨false, .rows RowTab.cnt RowTab.r⟩]
  | false => [none, some ⟨false, .rows RowTab.cnt RowTab.r⟩, some ⟨true, .ints .u8 none s.c⟩]
def lptnoD (s : lpP) (k : Nat) : List Bool := [decide (((lpP.i s) : Int) < (lpP.len2 s)), (decide ((0 : Int) ≤ (lpP.i s)) && decide (((lpP.i s) : Int) < (((lpP.len s) : Nat) : Int))), decide (((0 + ((Int.toNat (lpP.i s)) * 1)) : Nat) = k), (!decide (((IntKind.wrap .i64 ((lpP.n s) + 1)) : Int) > 200000))]
theorem lptno_eval (s : lpP) (k : Nat) : seesL lpTs ((codeX Try.prog qA n0 (fun _ _ => none) 100 (lp (blk 0 (bodyOf Try.prog 3))) ⟨tmOf (ups (fun _ => .top) (zipU lpTs (lpV (⟨s.tag, s.len, s.cap, s.n, s.len2, s.i, true, s.c, s.r⟩ : lpP)))) 37, (lpM (⟨s.tag, s.len, s.cap, s.n, s.len2, s.i, true, s.c, s.r⟩ : lpP)).set 1 (some ⟨false, .one RowTab.cnt RowTab.r k (cArg (lpM (⟨s.tag, s.len, s.cap, s.n, s.len2, s.i, true, s.c, s.r⟩ : lpP)).length (.pl .nilslice))⟩) ++ [cBlk (.pl .nilslice)]⟩).go [true, false]) = some (lptnoD s k, 0, [.int true .u8 s.tag, .slice true 1 0 s.len none 1, .bool false false, .nilslice, .int true .i64 (IntKind.wrap .i64 (s.n + IntKind.wrap .i64 (1 + 0))), .slice true 1 0 s.len none 1, .int true .i64 s.len2, .int true .i64 (IntKind.wrap .i64 (s.i + 1))], 37, [none, some ⟨false, .one RowTab.cnt RowTab.r k .nilslice⟩, none]) := by kernel_rfl
theorem lptno_paid {s : lpP} {k : Nat} (hl : s.len2 = (s.len : Int)) (hc : s.len ≤ RowTab.cnt) (hL : s.len < 1000000000000000) (hk : s.i = (k : Int)) (hkl : k < s.len) {n : Nat} (hn : s.n = (n : Int)) (hn2 : n ≤ 200000) (hcl : s.c.length ≤ n) (hw : n + (1 + 0) ≤ 200000) : Paid (lptnoD s k) := by
  have w1 : IntKind.wrap .i64 (1 + ((0 : Nat) : Int)) = ((1 + 0 : Nat) : Int) := by rw [wrap64]; omega
  have w2 : IntKind.wrap .i64 ((n : Int) + ((1 + 0 : Nat) : Int)) = ((n + (1 + 0) : Nat) : Int) := by rw [wrap64]; omega
  have w0 : IntKind.wrap .i64 ((n : Int) + 1) = ((n + (1 + 0) : Nat) : Int) := by rw [wrap64]; omega
  unfold lptnoD
  simp only [hk, hn, w1, w0, w2, hl]
  refine paid_cons ?_ (paid_cons ?_ (paid_cons ?_ (paid_cons ?_ (fun _ h => by cases h))))
  all_goals (try simp only [Bool.and_eq_true, Bool.or_eq_true, Bool.not_eq_true', Bool.not_true, Bool.not_false, Bool.not_eq_eq_eq_not, decide_eq_true_eq, decide_eq_false_iff_not, beq_iff_eq, beq_eq_false_iff_ne, bne_iff_ne, bne_eq_false_iff_eq, ne_eq, Bool.or_eq_false_iff, Bool.and_eq_false_imp, Bool.and_true, Bool.true_and, Bool.or_false, Bool.false_or, Bool.or_true, Bool.true_or, Bool.and_false, Bool.false_and, and_true, true_and, not_true_eq_false, not_false_eq_true, List.length_take, List.length_drop, List.drop_zero]) <;> omega
def lptnrD (s : lpP) (k : Nat) : List Bool := [decide (((lpP.i s) : Int) < (lpP.len2 s)), (decide ((0 : Int) ≤ (lpP.i s)) && decide (((lpP.i s) : Int) < (((lpP.len s) : Nat) : Int))), decide (((0 + ((Int.toNat (lpP.i s)) * 1)) : Nat) = k), decide (((IntKind.wrap .i64 ((lpP.n s) + 1)) : Int) > 200000)]
theorem lptnr_eval (s : lpP) (k : Nat) : seesL lpTs ((codeX Try.prog qA n0 (fun _ _ => none) 100 (lp (blk 0 (bodyOf Try.prog 3))) ⟨tmOf (ups (fun _ => .top) (zipU lpTs (lpV (⟨s.tag, s.len, s.cap, s.n, s.len2, s.i, true, s.c, s.r⟩ : lpP)))) 37, (lpM (⟨s.tag, s.len, s.cap, s.n, s.len2, s.i, true, s.c, s.r⟩ : lpP)).set 1 (some ⟨false, .one RowTab.cnt RowTab.r k (cArg (lpM (⟨s.tag, s.len, s.cap, s.n, s.len2, s.i, true, s.c, s.r⟩ : lpP)).length (.pl .nilslice))⟩) ++ [cBlk (.pl .nilslice)]⟩).go [true, true]) = some (lptnrD s k, 1, [.int true .u8 s.tag, .slice true 1 0 s.len none 1, .bool false true, .nilslice, .int true .i64 (IntKind.wrap .i64 (s.n + IntKind.wrap .i64 (1 + 0))), .slice true 1 0 s.len none 1, .int true .i64 s.len2, .int true .i64 s.i], 37, [none, some ⟨false, .one RowTab.cnt RowTab.r k .nilslice⟩, none]) := by kernel_rfl
theorem lptnr_paid {s : lpP} {k : Nat} (hl : s.len2 = (s.len : Int)) (hc : s.len ≤ RowTab.cnt) (hL : s.len < 1000000000000000) (hk : s.i = (k : Int)) (hkl : k < s.len) {n : Nat} (hn : s.n = (n : Int)) (hn2 : n ≤ 200000) (hcl : s.c.length ≤ n) (hw : n + (1 + 0) > 200000) : Paid (lptnrD s k) := by
  have w1 : IntKind.wrap .i64 (1 + ((0 : Nat) : Int)) = ((1 + 0 : Nat) : Int) := by rw [wrap64]; omega
  have w2 : IntKind.wrap .i64 ((n : Int) + ((1 + 0 : Nat) : Int)) = ((n + (1 + 0) : Nat) : Int) := by rw [wrap64]; omega
  have w0 : IntKind.wrap .i64 ((n : Int) + 1) = ((n + (1 + 0) : Nat) : Int) := by rw [wrap64]; omega
  unfold lptnrD
  simp only [hk, hn, w1, w0, w2, hl]
  refine paid_cons ?_ (paid_cons ?_ (paid_cons ?_ (paid_cons ?_ (fun _ h => by cases h))))
  all_goals (try simp only [Bool.and_eq_true, Bool.or_eq_true, Bool.not_eq_true', Bool.not_true, Bool.not_false, Bool.not_eq_eq_eq_not, decide_eq_true_eq, decide_eq_false_iff_not, beq_iff_eq, beq_eq_false_iff_ne, bne_iff_ne, bne_eq_false_iff_eq, ne_eq, Bool.or_eq_false_iff, Bool.and_eq_false_imp, Bool.and_true, Bool.true_and, Bool.or_false, Bool.false_or, Bool.or_true, Bool.true_or, Bool.and_false, Bool.false_and, and_true, true_and, not_true_eq_false, not_false_eq_true, List.length_take, List.length_drop, List.drop_zero]) <;> omega
def lpteoD (s : lpP) (k : Nat) : List Bool := [decide (((lpP.i s) : Int) < (lpP.len2 s)), (decide ((0 : Int) ≤ (lpP.i s)) && decide (((lpP.i s) : Int) < (((lpP.len s) : Nat) : Int))), decide (((0 + ((Int.toNat (lpP.i s)) * 1)) : Nat) = k), (!decide (((IntKind.wrap .i64 ((lpP.n s) + 1)) : Int) > 200000))]
theorem lpteo_eval (s : lpP) (k : Nat) : seesL lpTs ((codeX Try.prog qA n0 (fun _ _ => none) 100 (lp (blk 0 (bodyOf Try.prog 3))) ⟨tmOf (ups (fun _ => .top) (zipU lpTs (lpV (⟨s.tag, s.len, s.cap, s.n, s.len2, s.i, true, s.c, s.r⟩ : lpP)))) 37, (lpM (⟨s.tag, s.len, s.cap, s.n, s.len2, s.i, true, s.c, s.r⟩ : lpP)).set 1 (some ⟨false, .one RowTab.cnt RowTab.r k (cArg (lpM (⟨s.tag, s.len, s.cap, s.n, s.len2, s.i, true, s.c, s.r⟩ : lpP)).length .empty)⟩) ++ [cBlk .empty]⟩).go [true, false]) = some (lpteoD s k, 0, [.int true .u8 s.tag, .slice true 1 0 s.len none 1, .bool false false, .nilslice, .int true .i64 (IntKind.wrap .i64 (s.n + IntKind.wrap .i64 (1 + ((0 : Nat) : Int)))), .slice true 1 0 s.len none 1, .int true .i64 s.len2, .int true .i64 (IntKind.wrap .i64 (s.i + 1))], 37, [none, some ⟨false, .one RowTab.cnt RowTab.r k (.slice false 2 0 0 none 1)⟩, none]) := by kernel_rfl
theorem lpteo_paid {s : lpP} {k : Nat} (hl : s.len2 = (s.len : Int)) (hc : s.len ≤ RowTab.cnt) (hL : s.len < 1000000000000000) (hk : s.i = (k : Int)) (hkl : k < s.len) {n : Nat} (hn : s.n = (n : Int)) (hn2 : n ≤ 200000) (hcl : s.c.length ≤ n) (hw : n + (1 + 0) ≤ 200000) : Paid (lpteoD s k) := by
  have w1 : IntKind.wrap .i64 (1 + ((0 : Nat) : Int)) = ((1 + 0 : Nat) : Int) := by rw [wrap64]; omega
  have w2 : IntKind.wrap .i64 ((n : Int) + ((1 + 0 : Nat) : Int)) = ((n + (1 + 0) : Nat) : Int) := by rw [wrap64]; omega
  have w0 : IntKind.wrap .i64 ((n : Int) + 1) = ((n + (1 + 0) : Nat) : Int) := by rw [wrap64]; omega
  unfold lpteoD
  simp only [hk, hn, w1, w0, w2, hl]
  refine paid_cons ?_ (paid_cons ?_ (paid_cons ?_ (paid_cons ?_ (fun _ h => by cases h))))
  all_goals (try simp only [Bool.and_eq_true, Bool.or_eq_true, Bool.not_eq_true', Bool.not_true, Bool.not_false, Bool.not_eq_eq_eq_not, decide_eq_true_eq, decide_eq_false_iff_not, beq_iff_eq, beq_eq_false_iff_ne, bne_iff_ne, bne_eq_false_iff_eq, ne_eq, Bool.or_eq_false_iff, Bool.and_eq_false_imp, Bool.and_true, Bool.true_and, Bool.or_false, Bool.false_or, Bool.or_true, Bool.true_or, Bool.and_false, Bool.false_and, and_true, true_and, not_true_eq_false, not_false_eq_true, List.length_take, List.length_drop, List.drop_zero]) <;> omega
def lpterD (s : lpP) (k : Nat) : List Bool := [decide (((lpP.i s) : Int) < (lpP.len2 s)), (decide ((0 : Int) ≤ (lpP.i s)) && decide (((lpP.i s) : Int) < (((lpP.len s) : Nat) : Int))), decide (((0 + ((Int.toNat (lpP.i s)) * 1)) : Nat) = k), decide (((IntKind.wrap .i64 ((lpP.n s) + 1)) : Int) > 200000)]
theorem lpter_eval (s : lpP) (k : Nat) : seesL lpTs ((codeX Try.prog qA n0 (fun _ _ => none) 100 (lp (blk 0 (bodyOf Try.prog 3))) ⟨tmOf (ups (fun _ => .top) (zipU lpTs (lpV (⟨s.tag, s.len, s.cap, s.n, s.len2, s.i, true, s.c, s.r⟩ : lpP)))) 37, (lpM (⟨s.tag, s.len, s.cap, s.n, s.len2, s.i, true, s.c, s.r⟩ : lpP)).set 1 (some ⟨false, .one RowTab.cnt RowTab.r k (cArg (lpM (⟨s.tag, s.len, s.cap, s.n, s.len2, s.i, true, s.c, s.r⟩ : lpP)).length .empty)⟩) ++ [cBlk .empty]⟩).go [true, true]) = some (lpterD s k, 1, [.int true .u8 s.tag, .slice true 1 0 s.len none 1, .bool false true, .nilslice, .int true .i64 (IntKind.wrap .i64 (s.n + IntKind.wrap .i64 (1 + ((0 : Nat) : Int)))), .slice true 1 0 s.len none 1, .int true .i64 s.len2, .int true .i64 s.i], 37, [none, some ⟨false, .one RowTab.cnt RowTab.r k (.slice false 2 0 0 none 1)⟩, none]) := by kernel_rfl
theorem lpter_paid {s : lpP} {k : Nat} (hl : s.len2 = (s.len : Int)) (hc : s.len ≤ RowTab.cnt) (hL : s.len < 1000000000000000) (hk : s.i = (k : Int)) (hkl : k < s.len) {n : Nat} (hn : s.n = (n : Int)) (hn2 : n ≤ 200000) (hcl : s.c.length ≤ n) (hw : n + (1 + 0) > 200000) : Paid (lpterD s k) := by
  have w1 : IntKind.wrap .i64 (1 + ((0 : Nat) : Int)) = ((1 + 0 : Nat) : Int) := by rw [wrap64]; omega
  have w2 : IntKind.wrap .i64 ((n : Int) + ((1 + 0 : Nat) : Int)) = ((n + (1 + 0) : Nat) : Int) := by rw [wrap64]; omega
  have w0 : IntKind.wrap .i64 ((n : Int) + 1) = ((n + (1 + 0) : Nat) : Int) := by rw [wrap64]; omega
  unfold lpterD
  simp only [hk, hn, w1, w0, w2, hl]
  refine paid_cons ?_ (paid_cons ?_ (paid_cons ?_ (paid_cons ?_ (fun _ h => by cases h))))
  all_goals (try simp only [Bool.and_eq_true, Bool.or_eq_true, Bool.not_eq_true', Bool.not_true, Bool.not_false, Bool.not_eq_eq_eq_not, decide_eq_true_eq, decide_eq_false_iff_not, beq_iff_eq, beq_eq_false_iff_ne, bne_iff_ne, bne_eq_false_iff_eq, ne_eq, Bool.or_eq_false_iff, Bool.and_eq_false_imp, Bool.and_true, Bool.true_and, Bool.or_false, Bool.false_or, Bool.or_true, Bool.true_or, Bool.and_false, Bool.false_and, and_true, true_and, not_true_eq_false, not_false_eq_true, List.length_take, List.length_drop, List.drop_zero]) <;> omega
def lptboD (s : lpP) (k : Nat) (m : Nat) (l : List Int) : List Bool := [decide (((lpP.i s) : Int) < (lpP.len2 s)), (decide ((0 : Int) ≤ (lpP.i s)) && decide (((lpP.i s) : Int) < (((lpP.len s) : Nat) : Int))), decide (((0 + ((Int.toNat (lpP.i s)) * 1)) : Nat) = k), decide ((m : Nat) < 9223372036854775808), (!decide (((IntKind.wrap .i64 ((lpP.n s) + (IntKind.wrap .i64 (1 + ((m : Nat) : Int))))) : Int) > 200000)), decide (((0 + m) : Nat) ≤ m), (decide ((1 : Nat) ≤ m) && decide ((m : Nat) ≤ 1000000000))]
theorem lptbo_eval (s : lpP) (k : Nat) (m : Nat) (l : List Int) : seesL lpTs ((codeX Try.prog qA n0 (fun _ _ => none) 100 (lp (blk 0 (bodyOf Try.prog 3))) ⟨tmOf (ups (fun _ => .top) (zipU lpTs (lpV (⟨s.tag, s.len, s.cap, s.n, s.len2, s.i, true, s.c, s.r⟩ : lpP)))) 37, (lpM (⟨s.tag, s.len, s.cap, s.n, s.len2, s.i, true, s.c, s.r⟩ : lpP)).set 1 (some ⟨false, .one RowTab.cnt RowTab.r k (cArg (lpM (⟨s.tag, s.len, s.cap, s.n, s.len2, s.i, true, s.c, s.r⟩ : lpP)).length (.buf true .u8 m l))⟩) ++ [cBlk (.buf true .u8 m l)]⟩).go [true, false]) = some (lptboD s k m l, 0, [.int true .u8 s.tag, .slice true 1 0 s.len none 1, .bool false false, .slice true 3 0 m none 1, .int true .i64 (IntKind.wrap .i64 (s.n + IntKind.wrap .i64 (1 + ((m : Nat) : Int)))), .slice true 1 0 s.len none 1, .int true .i64 s.len2, .int true .i64 (IntKind.wrap .i64 (s.i + 1))], 37, [none, some ⟨false, .one RowTab.cnt RowTab.r k (.slice true 2 0 m none 1)⟩, some ⟨false, .ints .u8 (some m) l⟩, some ⟨true, .ints .u8 none (List.take m (List.drop 0 l))⟩]) := by kernel_rfl
theorem lptbo_paid {s : lpP} {k : Nat} {m : Nat} {l : List Int} (hm : l.length = m) (hm1 : 1 ≤ m) (hl : s.len2 = (s.len : Int)) (hc : s.len ≤ RowTab.cnt) (hL : s.len < 1000000000000000) (hk : s.i = (k : Int)) (hkl : k < s.len) {n : Nat} (hn : s.n = (n : Int)) (hn2 : n ≤ 200000) (hcl : s.c.length ≤ n) (hw : n + (1 + m) ≤ 200000) (hmM : m ≤ 9000000000000000) : Paid (lptboD s k m l) := by
  have w1 : IntKind.wrap .i64 (1 + ((m : Nat) : Int)) = ((1 + m : Nat) : Int) := by rw [wrap64]; omega
  have w2 : IntKind.wrap .i64 ((n : Int) + ((1 + m : Nat) : Int)) = ((n + (1 + m) : Nat) : Int) := by rw [wrap64]; omega
  skip
  unfold lptboD
  simp only [hk, hn, w1, w2, hl]
  refine paid_cons ?_ (paid_cons ?_ (paid_cons ?_ (paid_cons ?_ (paid_cons ?_ (paid_cons ?_ (paid_cons ?_ (fun _ h => by cases h)))))))
  all_goals (try simp only [Bool.and_eq_true, Bool.or_eq_true, Bool.not_eq_true', Bool.not_true, Bool.not_false, Bool.not_eq_eq_eq_not, decide_eq_true_eq, decide_eq_false_iff_not, beq_iff_eq, beq_eq_false_iff_ne, bne_iff_ne, bne_eq_false_iff_eq, ne_eq, Bool.or_eq_false_iff, Bool.and_eq_false_imp, Bool.and_true, Bool.true_and, Bool.or_false, Bool.false_or, Bool.or_true, Bool.true_or, Bool.and_false, Bool.false_and, and_true, true_and, not_true_eq_false, not_false_eq_true, List.length_take, List.length_drop, List.drop_zero]) <;> omega
def lptbrD (s : lpP) (k : Nat) (m : Nat) (l : List Int) : List Bool := [decide (((lpP.i s) : Int) < (lpP.len2 s)), (decide ((0 : Int) ≤ (lpP.i s)) && decide (((lpP.i s) : Int) < (((lpP.len s) : Nat) : Int))), decide (((0 + ((Int.toNat (lpP.i s)) * 1)) : Nat) = k), decide ((m : Nat) < 9223372036854775808), decide (((IntKind.wrap .i64 ((lpP.n s) + (IntKind.wrap .i64 (1 + ((m : Nat) : Int))))) : Int) > 200000)]
theorem lptbr_eval (s : lpP) (k : Nat) (m : Nat) (l : List Int) : seesL lpTs ((codeX Try.prog qA n0 (fun _ _ => none) 100 (lp (blk 0 (bodyOf Try.prog 3))) ⟨tmOf (ups (fun _ => .top) (zipU lpTs (lpV (⟨s.tag, s.len, s.cap, s.n, s.len2, s.i, true, s.c, s.r⟩ : lpP)))) 37, (lpM (⟨s.tag, s.len, s.cap, s.n, s.len2, s.i, true, s.c, s.r⟩ : lpP)).set 1 (some ⟨false, .one RowTab.cnt RowTab.r k (cArg (lpM (⟨s.tag, s.len, s.cap, s.n, s.len2, s.i, true, s.c, s.r⟩ : lpP)).length (.buf true .u8 m l))⟩) ++ [cBlk (.buf true .u8 m l)]⟩).go [true, true]) = some (lptbrD s k m l, 1, [.int true .u8 s.tag, .slice true 1 0 s.len none 1, .bool false true, .nilslice, .int true .i64 (IntKind.wrap .i64 (s.n + IntKind.wrap .i64 (1 + ((m : Nat) : Int)))), .slice true 1 0 s.len none 1, .int true .i64 s.len2, .int true .i64 s.i], 37, [none, some ⟨false, .one RowTab.cnt RowTab.r k (.slice true 2 0 m none 1)⟩, some ⟨false, .ints .u8 (some m) l⟩]) := by kernel_rfl
theorem lptbr_paid {s : lpP} {k : Nat} {m : Nat} {l : List Int} (hm : l.length = m) (hm1 : 1 ≤ m) (hl : s.len2 = (s.len : Int)) (hc : s.len ≤ RowTab.cnt) (hL : s.len < 1000000000000000) (hk : s.i = (k : Int)) (hkl : k < s.len) {n : Nat} (hn : s.n = (n : Int)) (hn2 : n ≤ 200000) (hcl : s.c.length ≤ n) (hw : n + (1 + m) > 200000) (hmM : m ≤ 9000000000000000) : Paid (lptbrD s k m l) := by
  have w1 : IntKind.wrap .i64 (1 + ((m : Nat) : Int)) = ((1 + m : Nat) : Int) := by rw [wrap64]; omega
  have w2 : IntKind.wrap .i64 ((n : Int) + ((1 + m : Nat) : Int)) = ((n + (1 + m) : Nat) : Int) := by rw [wrap64]; omega
  skip
  unfold lptbrD
  simp only [hk, hn, w1, w2, hl]
  refine paid_cons ?_ (paid_cons ?_ (paid_cons ?_ (paid_cons ?_ (paid_cons ?_ (fun _ h => by cases h)))))
  all_goals (try simp only [Bool.and_eq_true, Bool.or_eq_true, Bool.not_eq_true', Bool.not_true, Bool.not_false, Bool.not_eq_eq_eq_not, decide_eq_true_eq, decide_eq_false_iff_not, beq_iff_eq, beq_eq_false_iff_ne, bne_iff_ne, bne_eq_false_iff_eq, ne_eq, Bool.or_eq_false_iff, Bool.and_eq_false_imp, Bool.and_true, Bool.true_and, Bool.or_false, Bool.false_or, Bool.or_true, Bool.true_or, Bool.and_false, Bool.false_and, and_true, true_and, not_true_eq_false, not_false_eq_true, List.length_take, List.length_drop, List.drop_zero]) <;> omega
def lpfnoD (s : lpP) (k : Nat) : List Bool := [decide (((lpP.i s) : Int) < (lpP.len2 s)), (decide ((0 : Int) ≤ (lpP.i s)) && decide (((lpP.i s) : Int) < (((lpP.len s) : Nat) : Int))), decide (((0 + ((Int.toNat (lpP.i s)) * 1)) : Nat) = k), (!decide (((IntKind.wrap .i64 ((lpP.n s) + 1)) : Int) > 200000)), decide (((0 + (List.length (lpP.c s))) : Nat) ≤ (List.length (lpP.c s))), decide ((((List.length (lpP.c s)) + 0) : Nat) ≤ 1000000000)]
theorem lpfno_eval (s : lpP) (k : Nat) : seesL lpTs ((codeX Try.prog qA n0 (fun _ _ => none) 100 (lp (blk 0 (bodyOf Try.prog 3))) ⟨tmOf (ups (fun _ => .top) (zipU lpTs (lpV (⟨s.tag, s.len, s.cap, s.n, s.len2, s.i, false, s.c, s.r⟩ : lpP)))) 37, (lpM (⟨s.tag, s.len, s.cap, s.n, s.len2, s.i, false, s.c, s.r⟩ : lpP)).set 1 (some ⟨false, .one RowTab.cnt RowTab.r k (cArg (lpM (⟨s.tag, s.len, s.cap, s.n, s.len2, s.i, false, s.c, s.r⟩ : lpP)).length (.pl .nilslice))⟩) ++ [cBlk (.pl .nilslice)]⟩).go [true, false]) = some (lpfnoD s k, 0, [.int true .u8 s.tag, .slice true 1 0 s.len none 1, .bool false false, .slice true 4 0 (s.c.length + 0) none 1, .int true .i64 (IntKind.wrap .i64 (s.n + IntKind.wrap .i64 (1 + 0))), .slice true 1 0 s.len none 1, .int true .i64 s.len2, .int true .i64 (IntKind.wrap .i64 (s.i + 1))], 37, [none, some ⟨false, .one RowTab.cnt RowTab.r k .nilslice⟩, none, none, some ⟨true, .ints .u8 none (List.take s.c.length (List.drop 0 s.c) ++ [])⟩]) := by kernel_rfl
theorem lpfno_paid {s : lpP} {k : Nat} (hl : s.len2 = (s.len : Int)) (hc : s.len ≤ RowTab.cnt) (hL : s.len < 1000000000000000) (hk : s.i = (k : Int)) (hkl : k < s.len) {n : Nat} (hn : s.n = (n : Int)) (hn2 : n ≤ 200000) (hcl : s.c.length ≤ n) (hw : n + (1 + 0) ≤ 200000) : Paid (lpfnoD s k) := by
  have w1 : IntKind.wrap .i64 (1 + ((0 : Nat) : Int)) = ((1 + 0 : Nat) : Int) := by rw [wrap64]; omega
  have w2 : IntKind.wrap .i64 ((n : Int) + ((1 + 0 : Nat) : Int)) = ((n + (1 + 0) : Nat) : Int) := by rw [wrap64]; omega
  have w0 : IntKind.wrap .i64 ((n : Int) + 1) = ((n + (1 + 0) : Nat) : Int) := by rw [wrap64]; omega
  unfold lpfnoD
  simp only [hk, hn, w1, w0, w2, hl]
  refine paid_cons ?_ (paid_cons ?_ (paid_cons ?_ (paid_cons ?_ (paid_cons ?_ (paid_cons ?_ (fun _ h => by cases h))))))
  all_goals (try simp only [Bool.and_eq_true, Bool.or_eq_true, Bool.not_eq_true', Bool.not_true, Bool.not_false, Bool.not_eq_eq_eq_not, decide_eq_true_eq, decide_eq_false_iff_not, beq_iff_eq, beq_eq_false_iff_ne, bne_iff_ne, bne_eq_false_iff_eq, ne_eq, Bool.or_eq_false_iff, Bool.and_eq_false_imp, Bool.and_true, Bool.true_and, Bool.or_false, Bool.false_or, Bool.or_true, Bool.true_or, Bool.and_false, Bool.false_and, and_true, true_and, not_true_eq_false, not_false_eq_true, List.length_take, List.length_drop, List.drop_zero]) <;> omega
def lpfnrD (s : lpP) (k : Nat) : List Bool := [decide (((lpP.i s) : Int) < (lpP.len2 s)), (decide ((0 : Int) ≤ (lpP.i s)) && decide (((lpP.i s) : Int) < (((lpP.len s) : Nat) : Int))), decide (((0 + ((Int.toNat (lpP.i s)) * 1)) : Nat) = k), decide (((IntKind.wrap .i64 ((lpP.n s) + 1)) : Int) > 200000)]
theorem lpfnr_eval (s : lpP) (k : Nat) : seesL lpTs ((codeX Try.prog qA n0 (fun _ _ => none) 100 (lp (blk 0 (bodyOf Try.prog 3))) ⟨tmOf (ups (fun _ => .top) (zipU lpTs (lpV (⟨s.tag, s.len, s.cap, s.n, s.len2, s.i, false, s.c, s.r⟩ : lpP)))) 37, (lpM (⟨s.tag, s.len, s.cap, s.n, s.len2, s.i, false, s.c, s.r⟩ : lpP)).set 1 (some ⟨false, .one RowTab.cnt RowTab.r k (cArg (lpM (⟨s.tag, s.len, s.cap, s.n, s.len2, s.i, false, s.c, s.r⟩ : lpP)).length (.pl .nilslice))⟩) ++ [cBlk (.pl .nilslice)]⟩).go [true, true]) = some (lpfnrD s k, 1, [.int true .u8 s.tag, .slice true 1 0 s.len none 1, .bool false true, .slice true 2 0 s.c.length none 1, .int true .i64 (IntKind.wrap .i64 (s.n + IntKind.wrap .i64 (1 + 0))), .slice true 1 0 s.len none 1, .int true .i64 s.len2, .int true .i64 s.i], 37, [none, some ⟨false, .one RowTab.cnt RowTab.r k .nilslice⟩, some ⟨true, .ints .u8 none s.c⟩, none]) := by kernel_rfl
theorem lpfnr_paid {s : lpP} {k : Nat} (hl : s.len2 = (s.len : Int)) (hc : s.len ≤ RowTab.cnt) (hL : s.len < 1000000000000000) (hk : s.i = (k : Int)) (hkl : k < s.len) {n : Nat} (hn : s.n = (n : Int)) (hn2 : n ≤ 200000) (hcl : s.c.length ≤ n) (hw : n + (1 + 0) > 200000) : Paid (lpfnrD s k) := by
  have w1 : IntKind.wrap .i64 (1 + ((0 : Nat) : Int)) = ((1 + 0 : Nat) : Int) := by rw [wrap64]; omega
  have w2 : IntKind.wrap .i64 ((n : Int) + ((1 + 0 : Nat) : Int)) = ((n + (1 + 0) : Nat) : Int) := by rw [wrap64]; omega
  have w0 : IntKind.wrap .i64 ((n : Int) + 1) = ((n + (1 + 0) : Nat) : Int) := by rw [wrap64]; omega
  unfold lpfnrD
  simp only [hk, hn, w1, w0, w2, hl]
  refine paid_cons ?_ (paid_cons ?_ (paid_cons ?_ (paid_cons ?_ (fun _ h => by cases h))))
  all_goals (try simp only [Bool.and_eq_true, Bool.or_eq_true, Bool.not_eq_true', Bool.not_true, Bool.not_false, Bool.not_eq_eq_eq_not, decide_eq_true_eq, decide_eq_false_iff_not, beq_iff_eq, beq_eq_false_iff_ne, bne_iff_ne, bne_eq_false_iff_eq, ne_eq, Bool.or_eq_false_iff, Bool.and_eq_false_imp, Bool.and_true, Bool.true_and, Bool.or_false, Bool.false_or, Bool.or_true, Bool.true_or, Bool.and_false, Bool.false_and, and_true, true_and, not_true_eq_false, not_false_eq_true, List.length_take, List.length_drop, List.drop_zero]) <;> omega
def lpfeoD (s : lpP) (k : Nat) : List Bool := [decide (((lpP.i s) : Int) < (lpP.len2 s)), (decide ((0 : Int) ≤ (lpP.i s)) && decide (((lpP.i s) : Int) < (((lpP.len s) : Nat) : Int))), decide (((0 + ((Int.toNat (lpP.i s)) * 1)) : Nat) = k), (!decide (((IntKind.wrap .i64 ((lpP.n s) + 1)) : Int) > 200000)), decide (((0 + (List.length (lpP.c s))) : Nat) ≤ (List.length (lpP.c s))), decide ((((List.length (lpP.c s)) + 0) : Nat) ≤ 1000000000)]
theorem lpfeo_eval (s : lpP) (k : Nat) : seesL lpTs ((codeX Try.prog qA n0 (fun _ _ => none) 100 (lp (blk 0 (bodyOf Try.prog 3))) ⟨tmOf (ups (fun _ => .top) (zipU lpTs (lpV (⟨s.tag, s.len, s.cap, s.n, s.len2, s.i, false, s.c, s.r⟩ : lpP)))) 37, (lpM (⟨s.tag, s.len, s.cap, s.n, s.len2, s.i, false, s.c, s.r⟩ : lpP)).set 1 (some ⟨false, .one RowTab.cnt RowTab.r k (cArg (lpM (⟨s.tag, s.len, s.cap, s.n, s.len2, s.i, false, s.c, s.r⟩ : lpP)).length .empty)⟩) ++ [cBlk .empty]⟩).go [true, false]) = some (lpfeoD s k, 0, [.int true .u8 s.tag, .slice true 1 0 s.len none 1, .bool false false, .slice true 4 0 (s.c.length + 0) none 1, .int true .i64 (IntKind.wrap .i64 (s.n + IntKind.wrap .i64 (1 + ((0 : Nat) : Int)))), .slice true 1 0 s.len none 1, .int true .i64 s.len2, .int true .i64 (IntKind.wrap .i64 (s.i + 1))], 37, [none, some ⟨false, .one RowTab.cnt RowTab.r k (.slice false 3 0 0 none 1)⟩, none, none, some ⟨true, .ints .u8 none (List.take s.c.length (List.drop 0 s.c) ++ [])⟩]) := by kernel_rfl
theorem lpfeo_paid {s : lpP} {k : Nat} (hl : s.len2 = (s.len : Int)) (hc : s.len ≤ RowTab.cnt) (hL : s.len < 1000000000000000) (hk : s.i = (k : Int)) (hkl : k < s.len) {n : Nat} (hn : s.n = (n : Int)) (hn2 : n ≤ 200000) (hcl : s.c.length ≤ n) (hw : n + (1 + 0) ≤ 200000) : Paid (lpfeoD s k) := by
  have w1 : IntKind.wrap .i64 (1 + ((0 : Nat) : Int)) = ((1 + 0 : Nat) : Int) := by rw [wrap64]; omega
  have w2 : IntKind.wrap .i64 ((n : Int) + ((1 + 0 : Nat) : Int)) = ((n + (1 + 0) : Nat) : Int) := by rw [wrap64]; omega
  have w0 : IntKind.wrap .i64 ((n : Int) + 1) = ((n + (1 + 0) : Nat) : Int) := by rw [wrap64]; omega
  unfold lpfeoD
  simp only [hk, hn, w1, w0, w2, hl]
  refine paid_cons ?_ (paid_cons ?_ (paid_cons ?_ (paid_cons ?_ (paid_cons ?_ (paid_cons ?_ (fun _ h => by cases h))))))
  all_goals (try simp only [Bool.and_eq_true, Bool.or_eq_true, Bool.not_eq_true', Bool.not_true, Bool.not_false, Bool.not_eq_eq_eq_not, decide_eq_true_eq, decide_eq_false_iff_not, beq_iff_eq, beq_eq_false_iff_ne, bne_iff_ne, bne_eq_false_iff_eq, ne_eq, Bool.or_eq_false_iff, Bool.and_eq_false_imp, Bool.and_true, Bool.true_and, Bool.or_false, Bool.false_or, Bool.or_true, Bool.true_or, Bool.and_false, Bool.false_and, and_true, true_and, not_true_eq_false, not_false_eq_true, List.length_take, List.length_drop, List.drop_zero]) <;> omega
def lpferD (s : lpP) (k : Nat) : List Bool := [decide (((lpP.i s) : Int) < (lpP.len2 s)), (decide ((0 : Int) ≤ (lpP.i s)) && decide (((lpP.i s) : Int) < (((lpP.len s) : Nat) : Int))), decide (((0 + ((Int.toNat (lpP.i s)) * 1)) : Nat) = k), decide (((IntKind.wrap .i64 ((lpP.n s) + 1)) : Int) > 200000)]
theorem lpfer_eval (s : lpP) (k : Nat) : seesL lpTs ((codeX Try.prog qA n0 (fun _ _ => none) 100 (lp (blk 0 (bodyOf Try.prog 3))) ⟨tmOf (ups (fun _ => .top) (zipU lpTs (lpV (⟨s.tag, s.len, s.cap, s.n, s.len2, s.i, false, s.c, s.r⟩ : lpP)))) 37, (lpM (⟨s.tag, s.len, s.cap, s.n, s.len2, s.i, false, s.c, s.r⟩ : lpP)).set 1 (some ⟨false, .one RowTab.cnt RowTab.r k (cArg (lpM (⟨s.tag, s.len, s.cap, s.n, s.len2, s.i, false, s.c, s.r⟩ : lpP)).length .empty)⟩) ++ [cBlk .empty]⟩).go [true, true]) = some (lpferD s k, 1, [.int true .u8 s.tag, .slice true 1 0 s.len none 1, .bool false true, .slice true 2 0 s.c.length none 1, .int true .i64 (IntKind.wrap .i64 (s.n + IntKind.wrap .i64 (1 + ((0 : Nat) : Int)))), .slice true 1 0 s.len none 1, .int true .i64 s.len2, .int true .i64 s.i], 37, [none, some ⟨false, .one RowTab.cnt RowTab.r k (.slice false 3 0 0 none 1)⟩, some ⟨true, .ints .u8 none s.c⟩, none]) := by kernel_rfl
theorem lpfer_paid {s : lpP} {k : Nat} (hl : s.len2 = (s.len : Int)) (hc : s.len ≤ RowTab.cnt) (hL : s.len < 1000000000000000) (hk : s.i = (k : Int)) (hkl : k < s.len) {n : Nat} (hn : s.n = (n : Int)) (hn2 : n ≤ 200000) (hcl : s.c.length ≤ n) (hw : n + (1 + 0) > 200000) : Paid (lpferD s k) := by
  have w1 : IntKind.wrap .i64 (1 + ((0 : Nat) : Int)) = ((1 + 0 : Nat) : Int) := by rw [wrap64]; omega
  have w2 : IntKind.wrap .i64 ((n : Int) + ((1 + 0 : Nat) : Int)) = ((n + (1 + 0) : Nat) : Int) := by rw [wrap64]; omega
  have w0 : IntKind.wrap .i64 ((n : Int) + 1) = ((n + (1 + 0) : Nat) : Int) := by rw [wrap64]; omega
  unfold lpferD
  simp only [hk, hn, w1, w0, w2, hl]
  refine paid_cons ?_ (paid_cons ?_ (paid_cons ?_ (paid_cons ?_ (fun _ h => by cases h))))
  all_goals (try simp only [Bool.and_eq_true, Bool.or_eq_true, Bool.not_eq_true', Bool.not_true, Bool.not_false, Bool.not_eq_eq_eq_not, decide_eq_true_eq, decide_eq_false_iff_not, beq_iff_eq, beq_eq_false_iff_ne, bne_iff_ne, bne_eq_false_iff_eq, ne_eq, Bool.or_eq_false_iff, Bool.and_eq_false_imp, Bool.and_true, Bool.true_and, Bool.or_false, Bool.false_or, Bool.or_true, Bool.true_or, Bool.and_false, Bool.false_and, and_true, true_and, not_true_eq_false, not_false_eq_true, List.length_take, List.length_drop, List.drop_zero]) <;> omega
def lpfboD (s : lpP) (k : Nat) (m : Nat) (l : List Int) : List Bool := [decide (((lpP.i s) : Int) < (lpP.len2 s)), (decide ((0 : Int) ≤ (lpP.i s)) && decide (((lpP.i s) : Int) < (((lpP.len s) : Nat) : Int))), decide (((0 + ((Int.toNat (lpP.i s)) * 1)) : Nat) = k), decide ((m : Nat) < 9223372036854775808), (!decide (((IntKind.wrap .i64 ((lpP.n s) + (IntKind.wrap .i64 (1 + ((m : Nat) : Int))))) : Int) > 200000)), decide (((0 + m) : Nat) ≤ m), decide (((0 + (List.length (lpP.c s))) : Nat) ≤ (List.length (lpP.c s))), decide ((((List.length (lpP.c s)) + m) : Nat) ≤ 1000000000)]
theorem lpfbo_eval (s : lpP) (k : Nat) (m : Nat) (l : List Int) : seesL lpTs ((codeX Try.prog qA n0 (fun _ _ => none) 100 (lp (blk 0 (bodyOf Try.prog 3))) ⟨tmOf (ups (fun _ => .top) (zipU lpTs (lpV (⟨s.tag, s.len, s.cap, s.n, s.len2, s.i, false, s.c, s.r⟩ : lpP)))) 37, (lpM (⟨s.tag, s.len, s.cap, s.n, s.len2, s.i, false, s.c, s.r⟩ : lpP)).set 1 (some ⟨false, .one RowTab.cnt RowTab.r k (cArg (lpM (⟨s.tag, s.len, s.cap, s.n, s.len2, s.i, false, s.c, s.r⟩ : lpP)).length (.buf true .u8 m l))⟩) ++ [cBlk (.buf true .u8 m l)]⟩).go [true, false]) = some (lpfboD s k m l, 0, [.int true .u8 s.tag, .slice true 1 0 s.len none 1, .bool false false, .slice true 4 0 (s.c.length + m) none 1, .int true .i64 (IntKind.wrap .i64 (s.n + IntKind.wrap .i64 (1 + ((m : Nat) : Int)))), .slice true 1 0 s.len none 1, .int true .i64 s.len2, .int true .i64 (IntKind.wrap .i64 (s.i + 1))], 37, [none, some ⟨false, .one RowTab.cnt RowTab.r k (.slice true 3 0 m none 1)⟩, none, some ⟨false, .ints .u8 (some m) l⟩, some ⟨true, .ints .u8 none (List.take s.c.length (List.drop 0 s.c) ++ List.take m (List.drop 0 l))⟩]) := by kernel_rfl
theorem lpfbo_paid {s : lpP} {k : Nat} {m : Nat} {l : List Int} (hm : l.length = m) (hm1 : 1 ≤ m) (hl : s.len2 = (s.len : Int)) (hc : s.len ≤ RowTab.cnt) (hL : s.len < 1000000000000000) (hk : s.i = (k : Int)) (hkl : k < s.len) {n : Nat} (hn : s.n = (n : Int)) (hn2 : n ≤ 200000) (hcl : s.c.length ≤ n) (hw : n + (1 + m) ≤ 200000) (hmM : m ≤ 9000000000000000) : Paid (lpfboD s k m l) := by
  have w1 : IntKind.wrap .i64 (1 + ((m : Nat) : Int)) = ((1 + m : Nat) : Int) := by rw [wrap64]; omega
  have w2 : IntKind.wrap .i64 ((n : Int) + ((1 + m : Nat) : Int)) = ((n + (1 + m) : Nat) : Int) := by rw [wrap64]; omega
  skip
  unfold lpfboD
  simp only [hk, hn, w1, w2, hl]
  refine paid_cons ?_ (paid_cons ?_ (paid_cons ?_ (paid_cons ?_ (paid_cons ?_ (paid_cons ?_ (paid_cons ?_ (paid_cons ?_ (fun _ h => by cases h))))))))
  all_goals (try simp only [Bool.and_eq_true, Bool.or_eq_true, Bool.not_eq_true', Bool.not_true, Bool.not_false, Bool.not_eq_eq_eq_not, decide_eq_true_eq, decide_eq_false_iff_not, beq_iff_eq, beq_eq_false_iff_ne, bne_iff_ne, bne_eq_false_iff_eq, ne_eq, Bool.or_eq_false_iff, Bool.and_eq_false_imp, Bool.and_true, Bool.true_and, Bool.or_false, Bool.false_or, Bool.or_true, Bool.true_or, Bool.and_false, Bool.false_and, and_true, true_and, not_true_eq_false, not_false_eq_true, List.length_take, List.length_drop, List.drop_zero]) <;> omega
def lpfbrD (s : lpP) (k : Nat) (m : Nat) (l : List Int) : List Bool := [decide (((lpP.i s) : Int) < (lpP.len2 s)), (decide ((0 : Int) ≤ (lpP.i s)) && decide (((lpP.i s) : Int) < (((lpP.len s) : Nat) : Int))), decide (((0 + ((Int.toNat (lpP.i s)) * 1)) : Nat) = k), decide ((m : Nat) < 9223372036854775808), decide (((IntKind.wrap .i64 ((lpP.n s) + (IntKind.wrap .i64 (1 + ((m : Nat) : Int))))) : Int) > 200000)]
theorem lpfbr_eval (s : lpP) (k : Nat) (m : Nat) (l : List Int) : seesL lpTs ((codeX Try.prog qA n0 (fun _ _ => none) 100 (lp (blk 0 (bodyOf Try.prog 3))) ⟨tmOf (ups (fun _ => .top) (zipU lpTs (lpV (⟨s.tag, s.len, s.cap, s.n, s.len2, s.i, false, s.c, s.r⟩ : lpP)))) 37, (lpM (⟨s.tag, s.len, s.cap, s.n, s.len2, s.i, false, s.c, s.r⟩ : lpP)).set 1 (some ⟨false, .one RowTab.cnt RowTab.r k (cArg (lpM (⟨s.tag, s.len, s.cap, s.n, s.len2, s.i, false, s.c, s.r⟩ : lpP)).length (.buf true .u8 m l))⟩) ++ [cBlk (.buf true .u8 m l)]⟩).go [true, true]) = some (lpfbrD s k m l, 1, [.int true .u8 s.tag, .slice true 1 0 s.len none 1, .bool false true, .slice true 2 0 s.c.length none 1, .int true .i64 (IntKind.wrap .i64 (s.n + IntKind.wrap .i64 (1 + ((m : Nat) : Int)))), .slice true 1 0 s.len none 1, .int true .i64 s.len2, .int true .i64 s.i], 37, [none, some ⟨false, .one RowTab.cnt RowTab.r k (.slice true 3 0 m none 1)⟩, some ⟨true, .ints .u8 none s.c⟩, some ⟨false, .ints .u8 (some m) l⟩]) := by kernel_rfl
theorem lpfbr_paid {s : lpP} {k : Nat} {m : Nat} {l : List Int} (hm : l.length = m) (hm1 : 1 ≤ m) (hl : s.len2 = (s.len : Int)) (hc : s.len ≤ RowTab.cnt) (hL : s.len < 1000000000000000) (hk : s.i = (k : Int)) (hkl : k < s.len) {n : Nat} (hn : s.n = (n : Int)) (hn2 : n ≤ 200000) (hcl : s.c.length ≤ n) (hw : n + (1 + m) > 200000) (hmM : m ≤ 9000000000000000) : Paid (lpfbrD s k m l) := by
  have w1 : IntKind.wrap .i64 (1 + ((m : Nat) : Int)) = ((1 + m : Nat) : Int) := by rw [wrap64]; omega
  have w2 : IntKind.wrap .i64 ((n : Int) + ((1 + m : Nat) : Int)) = ((n + (1 + m) : Nat) : Int) := by rw [wrap64]; omega
  skip
  unfold lpfbrD
  simp only [hk, hn, w1, w2, hl]
  refine paid_cons ?_ (paid_cons ?_ (paid_cons ?_ (paid_cons ?_ (paid_cons ?_ (fun _ h => by cases h)))))
  all_goals (try simp only [Bool.and_eq_true, Bool.or_eq_true, Bool.not_eq_true', Bool.not_true, Bool.not_false, Bool.not_eq_eq_eq_not, decide_eq_true_eq, decide_eq_false_iff_not, beq_iff_eq, beq_eq_false_iff_ne, bne_iff_ne, bne_eq_false_iff_eq, ne_eq, Bool.or_eq_false_iff, Bool.and_eq_false_imp, Bool.and_true, Bool.true_and, Bool.or_false, Bool.false_or, Bool.or_true, Bool.true_or, Bool.and_false, Bool.false_and, and_true, true_and, not_true_eq_false, not_false_eq_true, List.length_take, List.length_drop, List.drop_zero]) <;> omega
theorem lptx_eval (s : lpP) : seesL lpTs ((codeX Try.prog qA n0 (fun _ _ => none) 100 (lp (blk 0 (bodyOf Try.prog 3))) ⟨tmOf (ups (fun _ => .top) (zipU lpTs (lpV (⟨s.tag, s.len, s.cap, s.n, s.len2, s.i, true, s.c, s.r⟩ : lpP)))) 37, lpM (⟨s.tag, s.len, s.cap, s.n, s.len2, s.i, true, s.c, s.r⟩ : lpP)⟩).go [false]) = some ([(!decide (((lpP.i s) : Int) < (lpP.len2 s)))], 2, lpV (⟨s.tag, s.len, s.cap, s.n, s.len2, s.i, true, s.c, s.r⟩ : lpP), 37, lpM (⟨s.tag, s.len, s.cap, s.n, s.len2, s.i, true, s.c, s.r⟩ : lpP)) := by kernel_rfl
theorem lpfx_eval (s : lpP) : seesL lpTs ((codeX Try.prog qA n0 (fun _ _ => none) 100 (lp (blk 0 (bodyOf Try.prog 3))) ⟨tmOf (ups (fun _ => .top) (zipU lpTs (lpV (⟨s.tag, s.len, s.cap, s.n, s.len2, s.i, false, s.c, s.r⟩ : lpP)))) 37, lpM (⟨s.tag, s.len, s.cap, s.n, s.len2, s.i, false, s.c, s.r⟩ : lpP)⟩).go [false]) = some ([(!decide (((lpP.i s) : Int) < (lpP.len2 s)))], 2, lpV (⟨s.tag, s.len, s.cap, s.n, s.len2, s.i, false, s.c, s.r⟩ : lpP), 37, lpM (⟨s.tag, s.len, s.cap, s.n, s.len2, s.i, false, s.c, s.r⟩ : lpP)) := by kernel_rfl
end Go.Proofs.Ythpafpifpdeikaa
