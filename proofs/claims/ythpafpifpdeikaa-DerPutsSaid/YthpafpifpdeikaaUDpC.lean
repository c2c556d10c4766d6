/- Elements of many parts: Put's two loops. Own work. -/
import Derived.Test.YthpafpifpdeikaaUDpB
set_option linter.unusedSimpArgs false
set_option linter.unusedVariables false
set_option linter.unusedSectionVars false
namespace Go.Proofs.Ythpafpifpdeikaa
open Go.Ev Go.De
set_option maxRecDepth 100000
set_option linter.unusedSimpArgs false
set_option linter.unusedVariables false
variable [RowTab]
theorem catR_mono : ∀ {j k : Nat}, j ≤ k → (catR j).length ≤ (catR k).length
  | j, 0, h => by cases Nat.le_zero.1 h; exact Nat.le_refl _
  | j, k + 1, h => by
    by_cases e : j = k + 1
    · subst e; exact Nat.le_refl _
    · have := catR_mono (j := j) (k := k) (by omega)
      show (catR j).length ≤ (catR k ++ rowL k).length
      rw [List.length_append]
      omega
structure q1P where
  tag : Int
  len : Nat
  cap : Nat
  n : Int
  len2 : Int
  i : Int
  r : Nat → Value
def q1Ts : List Nat := [0, 1, 4, 5, 11, 12, 13]
def q1V (s : q1P) : List AV := [.int true .u8 s.tag, .slice true 1 0 s.len none 1, .nilslice, .int true .i64 s.n, .slice true 1 0 s.len none 1, .int true .i64 s.len2, .int true .i64 s.i]
def q1M (s : q1P) : Mem := [none, some ⟨false, .rows RowTab.cnt RowTab.r⟩]
structure q2P where
  len : Nat
  cap : Nat
  len2 : Int
  i : Int
  c : List Int
  r : Nat → Value
def q2Ts : List Nat := [8, 32, 33, 34]
def q2V (s : q2P) : List AV := [.slice true 2 0 s.c.length none 1, .slice true 1 0 s.len none 1, .int true .i64 s.len2, .int true .i64 s.i]
def q2M (s : q2P) : Mem := [none, some ⟨false, .rows RowTab.cnt RowTab.r⟩, some ⟨true, .ints .u8 none s.c⟩]
def q1noD (s : q1P) (k : Nat) : List Bool := [decide (((q1P.i s) : Int) < (q1P.len2 s)), (decide ((0 : Int) ≤ (q1P.i s)) && decide (((q1P.i s) : Int) < (((q1P.len s) : Nat) : Int))), decide (((0 + ((Int.toNat (q1P.i s)) * 1)) : Nat) = k), (!decide ((0 : Int) > (IntKind.wrap .i64 (65535 - (q1P.n s)))))]
theorem q1no_eval (s : q1P) (k : Nat) : seesL q1Ts ((codeX Try.prog qA n0 (fun _ _ => none) 100 (lp (blk 0 (bodyOf Try.prog 12))) ⟨tmOf (ups (fun _ => .top) (zipU q1Ts (q1V s))) 43, (q1M s).set 1 (some ⟨false, .one RowTab.cnt RowTab.r k (cArg (q1M s).length (.pl .nilslice))⟩) ++ [cBlk (.pl .nilslice)]⟩).go [true, false]) = some (q1noD s k, 0, [.int true .u8 s.tag, .slice true 1 0 s.len none 1, .nilslice, .int true .i64 (IntKind.wrap .i64 (s.n + 0)), .slice true 1 0 s.len none 1, .int true .i64 s.len2, .int true .i64 (IntKind.wrap .i64 (s.i + 1))], 43, [none, some ⟨false, .one RowTab.cnt RowTab.r k .nilslice⟩, none]) := by kernel_rfl
theorem q1no_paid {s : q1P} {k : Nat} (hl : s.len2 = (s.len : Int)) (hL : s.len < 1000000000000000) (hk : s.i = (k : Int)) (hkl : k < s.len) {n : Nat} (hn : s.n = (n : Int)) (hn2 : n ≤ 65535) (hw : n + 0 ≤ 65535) : Paid (q1noD s k) := by
  have w1 : IntKind.wrap .i64 (65535 - (n : Int)) = 65535 - (n : Int) := by rw [wrap64]; omega
  unfold q1noD
  simp only [hk, hn, w1, hl]
  refine paid_cons ?_ (paid_cons ?_ (paid_cons ?_ (paid_cons ?_ (fun _ h => by cases h))))
  all_goals (try simp only [Bool.and_eq_true, Bool.or_eq_true, Bool.not_eq_true', Bool.not_true, Bool.not_false, Bool.not_eq_eq_eq_not, decide_eq_true_eq, decide_eq_false_iff_not, beq_iff_eq, beq_eq_false_iff_ne, bne_iff_ne, bne_eq_false_iff_eq, ne_eq, Bool.or_eq_false_iff, Bool.and_eq_false_imp, Bool.and_true, Bool.true_and, Bool.or_false, Bool.false_or, Bool.or_true, Bool.true_or, Bool.and_false, Bool.false_and, and_true, true_and, not_true_eq_false, not_false_eq_true]) <;> omega
def q1eoD (s : q1P) (k : Nat) : List Bool := [decide (((q1P.i s) : Int) < (q1P.len2 s)), (decide ((0 : Int) ≤ (q1P.i s)) && decide (((q1P.i s) : Int) < (((q1P.len s) : Nat) : Int))), decide (((0 + ((Int.toNat (q1P.i s)) * 1)) : Nat) = k), (!decide ((0 : Int) > (IntKind.wrap .i64 (65535 - (q1P.n s)))))]
theorem q1eo_eval (s : q1P) (k : Nat) : seesL q1Ts ((codeX Try.prog qA n0 (fun _ _ => none) 100 (lp (blk 0 (bodyOf Try.prog 12))) ⟨tmOf (ups (fun _ => .top) (zipU q1Ts (q1V s))) 43, (q1M s).set 1 (some ⟨false, .one RowTab.cnt RowTab.r k (cArg (q1M s).length .empty)⟩) ++ [cBlk .empty]⟩).go [true, false]) = some (q1eoD s k, 0, [.int true .u8 s.tag, .slice true 1 0 s.len none 1, .nilslice, .int true .i64 (IntKind.wrap .i64 (s.n + ((0 : Nat) : Int))), .slice true 1 0 s.len none 1, .int true .i64 s.len2, .int true .i64 (IntKind.wrap .i64 (s.i + 1))], 43, [none, some ⟨false, .one RowTab.cnt RowTab.r k (.slice false 2 0 0 none 1)⟩, none]) := by kernel_rfl
theorem q1eo_paid {s : q1P} {k : Nat} (hl : s.len2 = (s.len : Int)) (hL : s.len < 1000000000000000) (hk : s.i = (k : Int)) (hkl : k < s.len) {n : Nat} (hn : s.n = (n : Int)) (hn2 : n ≤ 65535) (hw : n + 0 ≤ 65535) : Paid (q1eoD s k) := by
  have w1 : IntKind.wrap .i64 (65535 - (n : Int)) = 65535 - (n : Int) := by rw [wrap64]; omega
  unfold q1eoD
  simp only [hk, hn, w1, hl]
  refine paid_cons ?_ (paid_cons ?_ (paid_cons ?_ (paid_cons ?_ (fun _ h => by cases h))))
  all_goals (try simp only [Bool.and_eq_true, Bool.or_eq_true, Bool.not_eq_true', Bool.not_true, Bool.not_false, Bool.not_eq_eq_eq_not, decide_eq_true_eq, decide_eq_false_iff_not, beq_iff_eq, beq_eq_false_iff_ne, bne_iff_ne, bne_eq_false_iff_eq, ne_eq, Bool.or_eq_false_iff, Bool.and_eq_false_imp, Bool.and_true, Bool.true_and, Bool.or_false, Bool.false_or, Bool.or_true, Bool.true_or, Bool.and_false, Bool.false_and, and_true, true_and, not_true_eq_false, not_false_eq_true]) <;> omega
def q1boD (s : q1P) (k : Nat) (m : Nat) (l : List Int) : List Bool := [decide (((q1P.i s) : Int) < (q1P.len2 s)), (decide ((0 : Int) ≤ (q1P.i s)) && decide (((q1P.i s) : Int) < (((q1P.len s) : Nat) : Int))), decide (((0 + ((Int.toNat (q1P.i s)) * 1)) : Nat) = k), decide ((m : Nat) < 9223372036854775808), (!decide ((((m : Nat) : Int) : Int) > (IntKind.wrap .i64 (65535 - (q1P.n s))))), decide ((m : Nat) < 9223372036854775808)]
theorem q1bo_eval (s : q1P) (k : Nat) (m : Nat) (l : List Int) : seesL q1Ts ((codeX Try.prog qA n0 (fun _ _ => none) 100 (lp (blk 0 (bodyOf Try.prog 12))) ⟨tmOf (ups (fun _ => .top) (zipU q1Ts (q1V s))) 43, (q1M s).set 1 (some ⟨false, .one RowTab.cnt RowTab.r k (cArg (q1M s).length (.buf true .u8 m l))⟩) ++ [cBlk (.buf true .u8 m l)]⟩).go [true, false]) = some (q1boD s k m l, 0, [.int true .u8 s.tag, .slice true 1 0 s.len none 1, .nilslice, .int true .i64 (IntKind.wrap .i64 (s.n + ((m : Nat) : Int))), .slice true 1 0 s.len none 1, .int true .i64 s.len2, .int true .i64 (IntKind.wrap .i64 (s.i + 1))], 43, [none, some ⟨false, .one RowTab.cnt RowTab.r k (.slice true 2 0 m none 1)⟩, some ⟨false, .ints .u8 (some m) l⟩]) := by kernel_rfl
theorem q1bo_paid {s : q1P} {k : Nat} {m : Nat} {l : List Int} (hl : s.len2 = (s.len : Int)) (hL : s.len < 1000000000000000) (hk : s.i = (k : Int)) (hkl : k < s.len) {n : Nat} (hn : s.n = (n : Int)) (hn2 : n ≤ 65535) (hw : n + m ≤ 65535) (hmM : m ≤ 9000000000000000) : Paid (q1boD s k m l) := by
  have w1 : IntKind.wrap .i64 (65535 - (n : Int)) = 65535 - (n : Int) := by rw [wrap64]; omega
  unfold q1boD
  simp only [hk, hn, w1, hl]
  refine paid_cons ?_ (paid_cons ?_ (paid_cons ?_ (paid_cons ?_ (paid_cons ?_ (paid_cons ?_ (fun _ h => by cases h))))))
  all_goals (try simp only [Bool.and_eq_true, Bool.or_eq_true, Bool.not_eq_true', Bool.not_true, Bool.not_false, Bool.not_eq_eq_eq_not, decide_eq_true_eq, decide_eq_false_iff_not, beq_iff_eq, beq_eq_false_iff_ne, bne_iff_ne, bne_eq_false_iff_eq, ne_eq, Bool.or_eq_false_iff, Bool.and_eq_false_imp, Bool.and_true, Bool.true_and, Bool.or_false, Bool.false_or, Bool.or_true, Bool.true_or, Bool.and_false, Bool.false_and, and_true, true_and, not_true_eq_false, not_false_eq_true]) <;> omega
def q1brD (s : q1P) (k : Nat) (m : Nat) (l : List Int) : List Bool := [decide (((q1P.i s) : Int) < (q1P.len2 s)), (decide ((0 : Int) ≤ (q1P.i s)) && decide (((q1P.i s) : Int) < (((q1P.len s) : Nat) : Int))), decide (((0 + ((Int.toNat (q1P.i s)) * 1)) : Nat) = k), decide ((m : Nat) < 9223372036854775808), decide ((((m : Nat) : Int) : Int) > (IntKind.wrap .i64 (65535 - (q1P.n s))))]
theorem q1br_eval (s : q1P) (k : Nat) (m : Nat) (l : List Int) : seesL q1Ts ((codeX Try.prog qA n0 (fun _ _ => none) 100 (lp (blk 0 (bodyOf Try.prog 12))) ⟨tmOf (ups (fun _ => .top) (zipU q1Ts (q1V s))) 43, (q1M s).set 1 (some ⟨false, .one RowTab.cnt RowTab.r k (cArg (q1M s).length (.buf true .u8 m l))⟩) ++ [cBlk (.buf true .u8 m l)]⟩).go [true, true]) = some (q1brD s k m l, 1, [.int true .u8 s.tag, .slice true 1 0 s.len none 1, .nilslice, .int true .i64 s.n, .slice true 1 0 s.len none 1, .int true .i64 s.len2, .int true .i64 s.i], 43, [none, some ⟨false, .one RowTab.cnt RowTab.r k (.slice true 2 0 m none 1)⟩, some ⟨false, .ints .u8 (some m) l⟩]) := by kernel_rfl
theorem q1br_paid {s : q1P} {k : Nat} {m : Nat} {l : List Int} (hl : s.len2 = (s.len : Int)) (hL : s.len < 1000000000000000) (hk : s.i = (k : Int)) (hkl : k < s.len) {n : Nat} (hn : s.n = (n : Int)) (hn2 : n ≤ 65535) (hw : n + m > 65535) (hmM : m ≤ 9000000000000000) : Paid (q1brD s k m l) := by
  have w1 : IntKind.wrap .i64 (65535 - (n : Int)) = 65535 - (n : Int) := by rw [wrap64]; omega
  unfold q1brD
  simp only [hk, hn, w1, hl]
  refine paid_cons ?_ (paid_cons ?_ (paid_cons ?_ (paid_cons ?_ (paid_cons ?_ (fun _ h => by cases h)))))
  all_goals (try simp only [Bool.and_eq_true, Bool.or_eq_true, Bool.not_eq_true', Bool.not_true, Bool.not_false, Bool.not_eq_eq_eq_not, decide_eq_true_eq, decide_eq_false_iff_not, beq_iff_eq, beq_eq_false_iff_ne, bne_iff_ne, bne_eq_false_iff_eq, ne_eq, Bool.or_eq_false_iff, Bool.and_eq_false_imp, Bool.and_true, Bool.true_and, Bool.or_false, Bool.false_or, Bool.or_true, Bool.true_or, Bool.and_false, Bool.false_and, and_true, true_and, not_true_eq_false, not_false_eq_true]) <;> omega
theorem q1x_eval (s : q1P) : seesL q1Ts ((codeX Try.prog qA n0 (fun _ _ => none) 100 (lp (blk 0 (bodyOf Try.prog 12))) ⟨tmOf (ups (fun _ => .top) (zipU q1Ts (q1V s))) 43, q1M s⟩).go [false]) = some ([(!decide (((q1P.i s) : Int) < (q1P.len2 s)))], 2, q1V s, 43, q1M s) := by kernel_rfl
def q2noD (s : q2P) (k : Nat) : List Bool := [decide (((q2P.i s) : Int) < (q2P.len2 s)), (decide ((0 : Int) ≤ (q2P.i s)) && decide (((q2P.i s) : Int) < (((q2P.len s) : Nat) : Int))), decide (((0 + ((Int.toNat (q2P.i s)) * 1)) : Nat) = k), decide (((0 + (List.length (q2P.c s))) : Nat) ≤ (List.length (q2P.c s))), decide ((((List.length (q2P.c s)) + 0) : Nat) ≤ 1000000000)]
theorem q2no_eval (s : q2P) (k : Nat) : seesL q2Ts ((codeX Try.prog qA n0 (fun _ _ => none) 100 (lp (blk 2 (bodyOf Try.prog 12))) ⟨tmOf (ups (fun _ => .top) (zipU q2Ts (q2V s))) 43, (q2M s).set 1 (some ⟨false, .one RowTab.cnt RowTab.r k (cArg (q2M s).length (.pl .nilslice))⟩) ++ [cBlk (.pl .nilslice)]⟩).go [true]) = some (q2noD s k, 0, [.slice true 4 0 (s.c.length + 0) none 1, .slice true 1 0 s.len none 1, .int true .i64 s.len2, .int true .i64 (IntKind.wrap .i64 (s.i + 1))], 43, [none, some ⟨false, .one RowTab.cnt RowTab.r k .nilslice⟩, none, none, some ⟨true, .ints .u8 none (List.take s.c.length (List.drop 0 s.c) ++ [])⟩]) := by kernel_rfl
theorem q2no_paid {s : q2P} {k : Nat} (hl : s.len2 = (s.len : Int)) (hL : s.len < 1000000000000000) (hk : s.i = (k : Int)) (hkl : k < s.len) (hc : s.c.length + 0 ≤ 100000) : Paid (q2noD s k) := by
  unfold q2noD
  simp only [hk, hl]
  refine paid_cons ?_ (paid_cons ?_ (paid_cons ?_ (paid_cons ?_ (paid_cons ?_ (fun _ h => by cases h)))))
  all_goals (try simp only [Bool.and_eq_true, Bool.or_eq_true, Bool.not_eq_true', Bool.not_true, Bool.not_false, Bool.not_eq_eq_eq_not, decide_eq_true_eq, decide_eq_false_iff_not, beq_iff_eq, beq_eq_false_iff_ne, bne_iff_ne, bne_eq_false_iff_eq, ne_eq, Bool.or_eq_false_iff, Bool.and_eq_false_imp, Bool.and_true, Bool.true_and, Bool.or_false, Bool.false_or, Bool.or_true, Bool.true_or, Bool.and_false, Bool.false_and, and_true, true_and, not_true_eq_false, not_false_eq_true]) <;> omega
def q2eoD (s : q2P) (k : Nat) : List Bool := [decide (((q2P.i s) : Int) < (q2P.len2 s)), (decide ((0 : Int) ≤ (q2P.i s)) && decide (((q2P.i s) : Int) < (((q2P.len s) : Nat) : Int))), decide (((0 + ((Int.toNat (q2P.i s)) * 1)) : Nat) = k), decide (((0 + (List.length (q2P.c s))) : Nat) ≤ (List.length (q2P.c s))), decide ((((List.length (q2P.c s)) + 0) : Nat) ≤ 1000000000)]
theorem q2eo_eval (s : q2P) (k : Nat) : seesL q2Ts ((codeX Try.prog qA n0 (fun _ _ => none) 100 (lp (blk 2 (bodyOf Try.prog 12))) ⟨tmOf (ups (fun _ => .top) (zipU q2Ts (q2V s))) 43, (q2M s).set 1 (some ⟨false, .one RowTab.cnt RowTab.r k (cArg (q2M s).length .empty)⟩) ++ [cBlk .empty]⟩).go [true]) = some (q2eoD s k, 0, [.slice true 4 0 (s.c.length + 0) none 1, .slice true 1 0 s.len none 1, .int true .i64 s.len2, .int true .i64 (IntKind.wrap .i64 (s.i + 1))], 43, [none, some ⟨false, .one RowTab.cnt RowTab.r k (.slice false 3 0 0 none 1)⟩, none, none, some ⟨true, .ints .u8 none (List.take s.c.length (List.drop 0 s.c) ++ [])⟩]) := by kernel_rfl
theorem q2eo_paid {s : q2P} {k : Nat} (hl : s.len2 = (s.len : Int)) (hL : s.len < 1000000000000000) (hk : s.i = (k : Int)) (hkl : k < s.len) (hc : s.c.length + 0 ≤ 100000) : Paid (q2eoD s k) := by
  unfold q2eoD
  simp only [hk, hl]
  refine paid_cons ?_ (paid_cons ?_ (paid_cons ?_ (paid_cons ?_ (paid_cons ?_ (fun _ h => by cases h)))))
  all_goals (try simp only [Bool.and_eq_true, Bool.or_eq_true, Bool.not_eq_true', Bool.not_true, Bool.not_false, Bool.not_eq_eq_eq_not, decide_eq_true_eq, decide_eq_false_iff_not, beq_iff_eq, beq_eq_false_iff_ne, bne_iff_ne, bne_eq_false_iff_eq, ne_eq, Bool.or_eq_false_iff, Bool.and_eq_false_imp, Bool.and_true, Bool.true_and, Bool.or_false, Bool.false_or, Bool.or_true, Bool.true_or, Bool.and_false, Bool.false_and, and_true, true_and, not_true_eq_false, not_false_eq_true]) <;> omega
def q2boD (s : q2P) (k : Nat) (m : Nat) (l : List Int) : List Bool := [decide (((q2P.i s) : Int) < (q2P.len2 s)), (decide ((0 : Int) ≤ (q2P.i s)) && decide (((q2P.i s) : Int) < (((q2P.len s) : Nat) : Int))), decide (((0 + ((Int.toNat (q2P.i s)) * 1)) : Nat) = k), decide (((0 + m) : Nat) ≤ m), decide (((0 + (List.length (q2P.c s))) : Nat) ≤ (List.length (q2P.c s))), decide ((((List.length (q2P.c s)) + m) : Nat) ≤ 1000000000)]
theorem q2bo_eval (s : q2P) (k : Nat) (m : Nat) (l : List Int) : seesL q2Ts ((codeX Try.prog qA n0 (fun _ _ => none) 100 (lp (blk 2 (bodyOf Try.prog 12))) ⟨tmOf (ups (fun _ => .top) (zipU q2Ts (q2V s))) 43, (q2M s).set 1 (some ⟨false, .one RowTab.cnt RowTab.r k (cArg (q2M s).length (.buf true .u8 m l))⟩) ++ [cBlk (.buf true .u8 m l)]⟩).go [true]) = some (q2boD s k m l, 0, [.slice true 4 0 (s.c.length + m) none 1, .slice true 1 0 s.len none 1, .int true .i64 s.len2, .int true .i64 (IntKind.wrap .i64 (s.i + 1))], 43, [none, some ⟨false, .one RowTab.cnt RowTab.r k (.slice true 3 0 m none 1)⟩, none, some ⟨false, .ints .u8 (some m) l⟩, some ⟨true, .ints .u8 none (List.take s.c.length (List.drop 0 s.c) ++ List.take m (List.drop 0 l))⟩]) := by kernel_rfl
theorem q2bo_paid {s : q2P} {k : Nat} {m : Nat} {l : List Int} (hl : s.len2 = (s.len : Int)) (hL : s.len < 1000000000000000) (hk : s.i = (k : Int)) (hkl : k < s.len) (hc : s.c.length + m ≤ 100000) : Paid (q2boD s k m l) := by
  unfold q2boD
  simp only [hk, hl]
  refine paid_cons ?_ (paid_cons ?_ (paid_cons ?_ (paid_cons ?_ (paid_cons ?_ (paid_cons ?_ (fun _ h => by cases h))))))
  all_goals (try simp only [Bool.and_eq_true, Bool.or_eq_true, Bool.not_eq_true', Bool.not_true, Bool.not_false, Bool.not_eq_eq_eq_not, decide_eq_true_eq, decide_eq_false_iff_not, beq_iff_eq, beq_eq_false_iff_ne, bne_iff_ne, bne_eq_false_iff_eq, ne_eq, Bool.or_eq_false_iff, Bool.and_eq_false_imp, Bool.and_true, Bool.true_and, Bool.or_false, Bool.false_or, Bool.or_true, Bool.true_or, Bool.and_false, Bool.false_and, and_true, true_and, not_true_eq_false, not_false_eq_true]) <;> omega
theorem q2x_eval (s : q2P) : seesL q2Ts ((codeX Try.prog qA n0 (fun _ _ => none) 100 (lp (blk 2 (bodyOf Try.prog 12))) ⟨tmOf (ups (fun _ => .top) (zipU q2Ts (q2V s))) 43, q2M s⟩).go [false]) = some ([(!decide (((q2P.i s) : Int) < (q2P.len2 s)))], 4, q2V s, 43, q2M s) := by kernel_rfl
def q1E (s : q1P) (j : Nat) : q1P := ⟨s.tag, s.len, s.cap, ((catR j).length : Int), s.len2, (j : Int), s.r⟩
def q2E (s : q2P) (j : Nat) : q2P := ⟨s.len, s.cap, s.len2, (j : Int), s.c ++ catR j, s.r⟩
open Classical in
noncomputable def q1O (w : Bool) (s : q1P) : List Bool := [decide (s.cap = RowTab.cnt), decide (s.r = RowTab.r), decide (s.len ≤ RowTab.cnt), decide (s.len < 1000000000000000), decide (s.len2 = (s.len : Int)), decide (s.n = 0), decide (s.i = 0), decide (decide (65535 < (catR s.len).length) = w)]
open Classical in
noncomputable def q2O (s : q2P) (L : Nat) : List Bool := [decide (s.cap = RowTab.cnt), decide (s.r = RowTab.r), decide (s.len ≤ RowTab.cnt), decide (s.len < 1000000000000000), decide (s.len2 = (s.len : Int)), decide (s.c.length = L), decide (s.i = 0), decide (s.c.length + (catR s.len).length ≤ 100000)]
def q1Fin (w : Bool) (s : q1P) : Bool × List (Nat × AV) × Mem := match w with
  | true => (true, [(4, .nilslice)], [none, some ⟨false, .rows RowTab.cnt RowTab.r⟩])
  | false => (false, [(0, .int true .u8 s.tag), (1, .slice true 1 0 s.len none 1), (5, .int true .i64 ((catR s.len).length : Int))], [none, some ⟨false, .rows RowTab.cnt RowTab.r⟩])
def q2Fin (s : q2P) : Bool × List (Nat × AV) × Mem := (false, [(8, .slice true 2 0 (s.c ++ catR s.len).length none 1)], [none, some ⟨false, .rows RowTab.cnt RowTab.r⟩, some ⟨true, .ints .u8 none (s.c ++ catR s.len)⟩])
def q1Pat : List AV → Mem → Option (q1P × Nat)
  | [.int _ .u8 tag, .slice _ 1 0 len none 1, .nilslice, .int _ .i64 n, .slice _ 1 0 len2 none 1, .int _ .i64 k, .int _ .i64 i], none :: some ⟨false, .rows cap r⟩ :: _ => some (⟨tag, len, cap, n, k, i, r⟩, len2)
  | _, _ => none
def q2Pat : List AV → Mem → Option (q2P × Nat)
  | [.slice _ 4 0 L none 1, .slice _ 1 0 len none 1, .int _ .i64 k, .int _ .i64 i], [_, some ⟨false, .rows cap r⟩, _, _, some ⟨true, .ints .u8 _ c⟩] => some (⟨len, cap, k, i, c, r⟩, L)
  | _, _ => none
noncomputable def q1Λ (w : Bool) (Λ : LoopX) : LoopX := famXH 0 43 q1Ts q1Pat (fun p => decide (p.2 = p.1.len) :: q1O w p.1) (fun p => q1Fin w p.1) Λ
noncomputable def q2Λ (Λ : LoopX) : LoopX := famXH 2 43 q2Ts q2Pat (fun p => q2O p.1 p.2) (fun p => q2Fin p.1) Λ
theorem q1_go {s : q1P} {m : Mem} {tag n len2 i : Int} {b1 b2 b3 b4 b5 b6 : Bool} {j : Nat} (hm1 : m[1]? = some (some ⟨false, .rows RowTab.cnt RowTab.r⟩)) (ht : tag = s.tag) (hn : n = ((catR j).length : Int)) (hk : len2 = s.len2) (hi : i = (j : Int)) :
    Goes 2 (oneR 2 2) q1Ts [.int b1 .u8 tag, .slice b2 1 0 s.len none 1, .nilslice, .int b3 .i64 n, .slice b4 1 0 s.len none 1, .int b5 .i64 len2, .int b6 .i64 i] m (zipU q1Ts (q1V (q1E s j))) (q1M (q1E s j)) := by
  subst ht hn hk hi
  refine Goes.zip ?_ ?_ (by rfl) (oneR_fix _ _) (show 2 ≤ 2 by decide) rfl (by rfl)
  · exact .cons (.int b1 true .u8 s.tag) (.cons (.slice b2 true 1 0 s.len none none 1 (Or.inl rfl)) (.cons (.refl _) (.cons (.int b3 true .i64 _) (.cons (.slice b4 true 1 0 s.len none none 1 (Or.inl rfl)) (.cons (.int b5 true .i64 _) (.cons (.int b6 true .i64 _) .nil))))))
  · exact ⟨⟨_, hm1, .refl _⟩, trivial⟩
theorem q2_go {s : q2P} {m : Mem} {len2 i : Int} {b1 b2 b3 b4 : Bool} {j nb L : Nat} {c : List Int} {sz : Option Nat} (hnb : 2 ≤ nb) (hm1 : m[1]? = some (some ⟨false, .rows RowTab.cnt RowTab.r⟩)) (hmb : m[nb]? = some (some ⟨true, .ints .u8 sz c⟩)) (hlc : LeC (.ints .u8 sz c) (.ints .u8 none c)) (hc : c = s.c ++ catR j) (hL : L = (s.c ++ catR j).length) (hk : len2 = s.len2) (hi : i = (j : Int)) :
    Goes 2 (oneR 2 nb) q2Ts [.slice b1 nb 0 L none 1, .slice b2 1 0 s.len none 1, .int b3 .i64 len2, .int b4 .i64 i] m (zipU q2Ts (q2V (q2E s j))) (q2M (q2E s j)) := by
  subst hc hL hk hi
  have e2 : oneR 2 nb 2 = nb := rfl
  refine Goes.zip ?_ ?_ (oneR_inj hnb) (oneR_fix _ _) (show 2 ≤ 3 by decide) rfl (by rfl)
  · exact .cons (.slice b1 true nb 0 _ none none 1 (Or.inl rfl)) (.cons (.slice b2 true 1 0 s.len none none 1 (Or.inl rfl)) (.cons (.int b3 true .i64 _) (.cons (.int b4 true .i64 _) .nil)))
  · exact ⟨⟨_, hm1, .refl _⟩, ⟨_, by rw [e2]; exact hmb, hlc⟩, trivial⟩
theorem q1_lok (w : Bool) {Λ : LoopX} (hΛ : LOkX 2 Try.prog (bodyOf Try.prog 12) Λ) : LOkX 2 Try.prog (bodyOf Try.prog 12) (q1Λ w Λ) := by
  refine famXL_ok (σ := q1P × Nat) (n := 100) (fun p => q1V p.1) (fun p => q1M p.1) (fun s s1 => s.1.len ≤ RowTab.cnt ∧ s.1.len < 1000000000000000 ∧ s.1.len2 = (s.1.len : Int) ∧ decide (65535 < (catR s.1.len).length) = w ∧ ∃ j : Nat, j ≤ s.1.len ∧ (catR j).length ≤ 65535 ∧ s1 = (q1E s.1 j, s.2)) (fun s => s.1.len - s.1.i.toNat) 1 RowTab.cnt (fun _ h => h) (fun _ h => h) (Nat.le_refl _) (fun s => rfl) mixed hΛ (by kernel_rfl) (by kernel_rfl) (fun avs m s h ho => ?_) (fun s s1 hJ => ?_)
  · unfold q1Pat at h
    split at h
    · rename_i b1 tag b2 len b3 n b4 len2 b5 k b6 i cap r rest
      cases h
      have o1 := of_decide_eq_true (ho _ (List.mem_cons_self ..))
      have o2 := of_decide_eq_true (ho _ (List.mem_cons_of_mem _ (List.mem_cons_self ..)))
      have o3 := @of_decide_eq_true _ (Classical.propDecidable _) (ho _ (List.mem_cons_of_mem _ (List.mem_cons_of_mem _ (List.mem_cons_self ..))))
      have o4 := of_decide_eq_true (ho _ (List.mem_cons_of_mem _ (List.mem_cons_of_mem _ (List.mem_cons_of_mem _ (List.mem_cons_self ..)))))
      have o5 := of_decide_eq_true (ho _ (List.mem_cons_of_mem _ (List.mem_cons_of_mem _ (List.mem_cons_of_mem _ (List.mem_cons_of_mem _ (List.mem_cons_self ..))))))
      have o6 := of_decide_eq_true (ho _ (List.mem_cons_of_mem _ (List.mem_cons_of_mem _ (List.mem_cons_of_mem _ (List.mem_cons_of_mem _ (List.mem_cons_of_mem _ (List.mem_cons_self ..)))))))
      have o7 := of_decide_eq_true (ho _ (List.mem_cons_of_mem _ (List.mem_cons_of_mem _ (List.mem_cons_of_mem _ (List.mem_cons_of_mem _ (List.mem_cons_of_mem _ (List.mem_cons_of_mem _ (List.mem_cons_self ..))))))))
      have o8 := of_decide_eq_true (ho _ (List.mem_cons_of_mem _ (List.mem_cons_of_mem _ (List.mem_cons_of_mem _ (List.mem_cons_of_mem _ (List.mem_cons_of_mem _ (List.mem_cons_of_mem _ (List.mem_cons_of_mem _ (List.mem_cons_self ..)))))))))
      have o9 := of_decide_eq_true (ho _ (List.mem_cons_of_mem _ (List.mem_cons_of_mem _ (List.mem_cons_of_mem _ (List.mem_cons_of_mem _ (List.mem_cons_of_mem _ (List.mem_cons_of_mem _ (List.mem_cons_of_mem _ (List.mem_cons_of_mem _ (List.mem_cons_self ..))))))))))
      simp only at o1 o2 o3 o4 o5 o6 o7 o8 o9
      subst o1
      subst o2 o3 o7 o8
      exact ⟨(_, _), oneR 2 2, q1_go (s := ⟨tag, len2, RowTab.cnt, 0, k, 0, RowTab.r⟩) (j := 0) rfl rfl rfl rfl rfl, o4, o5, o6, o9, 0, Nat.zero_le _, Nat.zero_le _, rfl⟩
    · cases h
  · obtain ⟨hc, hL, hk2, hw, j, hj, hsj, rfl⟩ := hJ
    obtain ⟨s, L0⟩ := s
    simp only at hc hL hk2 hw hj
    refine ⟨qA, n0, fun _ _ => none, n0_ok, LOkX.none, ?_⟩
    by_cases hlt : j < s.len
    · refine Or.inr ⟨j, Nat.lt_of_lt_of_le hlt hc, fun hsh => ?_⟩
      have hmu : (q1E s (j + 1)).len - (q1E s (j + 1)).i.toNat < (q1E s j).len - (q1E s j).i.toNat := by show s.len - ((j + 1 : Nat) : Int).toNat < s.len - ((j : Nat) : Int).toNat; omega
      have hi1 : IntKind.wrap .i64 (((j : Nat) : Int) + 1) = ((j + 1 : Nat) : Int) := by rw [wrap64]; omega
      have hmono := catR_mono (show j + 1 ≤ s.len from hlt)
      have hcl : (catR (j + 1)).length = (catR j).length + (rowL j).length := by show (catR j ++ rowL j).length = _; rw [List.length_append]
      have hrb : (reachBytes : Nat) = 140737488351232 := rfl
      have hJ2 : (catR (j + 1)).length ≤ 65535 → s.len ≤ RowTab.cnt ∧ s.len < 1000000000000000 ∧ s.len2 = (s.len : Int) ∧ decide (65535 < (catR s.len).length) = w ∧ ∃ i : Nat, i ≤ s.len ∧ (catR i).length ≤ 65535 ∧ ((q1E s (j + 1), L0) : q1P × Nat) = (q1E s i, L0) := fun h => ⟨hc, hL, hk2, hw, j + 1, hlt, h, rfl⟩
      rcases hsh with hx | hx | ⟨m, l, hx, h1, h2, hlm, _⟩
      · rw [hx]
        have hln : (rowL j).length = 0 := by rw [rowL_nil hx]; rfl
        have hst : IntKind.wrap .i64 (((catR j).length : Int) + ((0 : Nat) : Int)) = ((catR (j + 1)).length : Int) := by rw [wrap64]; omega
        exact Or.inl ⟨[true, false], _, _, _, _, (q1E s (j + 1), L0), oneR 2 2, q1no_eval (q1E s j) j, q1no_paid hk2 hL rfl hlt rfl hsj (by omega), rfl, q1_go (s := s) (b1 := true) (b2 := true) (b3 := true) (b4 := true) (b5 := true) (b6 := true) rfl rfl (by rw [show (0 : Int) = ((0 : Nat) : Int) from rfl]; exact hst) rfl hi1, hJ2 (by omega), hmu⟩
      · rw [hx]
        have hln : (rowL j).length = 0 := by rw [rowL_empty hx]; rfl
        have hst : IntKind.wrap .i64 (((catR j).length : Int) + ((0 : Nat) : Int)) = ((catR (j + 1)).length : Int) := by rw [wrap64]; omega
        exact Or.inl ⟨[true, false], _, _, _, _, (q1E s (j + 1), L0), oneR 2 2, q1eo_eval (q1E s j) j, q1eo_paid hk2 hL rfl hlt rfl hsj (by omega), rfl, q1_go (s := s) (b1 := true) (b2 := true) (b3 := true) (b4 := true) (b5 := true) (b6 := true) rfl rfl hst rfl hi1, hJ2 (by omega), hmu⟩
      · rw [hx]
        have hln : (rowL j).length = m := by rw [rowL_buf hx]; exact hlm
        have hst : IntKind.wrap .i64 (((catR j).length : Int) + ((m : Nat) : Int)) = ((catR (j + 1)).length : Int) := by rw [wrap64]; omega
        by_cases hover : (catR (j + 1)).length ≤ 65535
        · exact Or.inl ⟨[true, false], _, _, _, _, (q1E s (j + 1), L0), oneR 2 2, q1bo_eval (q1E s j) j m l, q1bo_paid hk2 hL rfl hlt rfl hsj (by omega) (by omega), rfl, q1_go (s := s) (b1 := true) (b2 := true) (b3 := true) (b4 := true) (b5 := true) (b6 := true) rfl rfl hst rfl hi1, hJ2 (by omega), hmu⟩
        · cases w with
          | false => exact absurd (of_decide_eq_false hw) (by omega)
          | true =>
            refine Or.inr ⟨[true, true], _, _, _, _, oneR 2 2, q1br_eval (q1E s j) j m l, q1br_paid hk2 hL rfl hlt rfl hsj (by omega) (by omega), rfl, ?_⟩
            refine ⟨fun p hp => ?_, ⟨⟨_, rfl, .refl _⟩, trivial⟩, (by rfl), oneR_fix _ _, (show 2 ≤ 2 by decide), rfl, (by rfl)⟩
            simp only [q1Fin, List.mem_cons, List.not_mem_nil, or_false] at hp
            subst hp
            exact ⟨_, List.mem_cons_of_mem _ (List.mem_cons_of_mem _ (List.mem_cons_self ..)), .refl _⟩
    · have ej : j = s.len := by omega
      subst ej
      refine Or.inl ?_
      cases w with
      | true => exact absurd (of_decide_eq_true hw) (by omega)
      | false =>
        refine RoundX.out (q1x_eval (q1E s s.len)) rfl (oneR 2 2) (paid_cons (by simp only [Bool.not_eq_true', decide_eq_false_iff_not]; show ¬ ((s.len : Nat) : Int) < s.len2; omega) fun _ h => by cases h) ?_
        have hg := q1_go (s := s) (j := s.len) (m := q1M (q1E s s.len)) (b1 := true) (b2 := true) (b3 := true) (b4 := true) (b5 := true) (b6 := true) rfl rfl rfl rfl rfl
        refine ⟨fun p hp => hg.slots p ?_, hg.pulls, hg.inj, hg.fix, hg.le, hg.bm, (by rfl)⟩
        simp only [q1Fin, List.mem_cons, List.not_mem_nil, or_false] at hp
        rcases hp with rfl | rfl | rfl <;> simp [zipU, q1Ts, q1V, q1E]
theorem q2_lok {Λ : LoopX} (hΛ : LOkX 2 Try.prog (bodyOf Try.prog 12) Λ) : LOkX 2 Try.prog (bodyOf Try.prog 12) (q2Λ Λ) := by
  refine famXL_ok (σ := q2P × Nat) (n := 100) (fun p => q2V p.1) (fun p => q2M p.1) (fun s s1 => s.1.len ≤ RowTab.cnt ∧ s.1.len < 1000000000000000 ∧ s.1.len2 = (s.1.len : Int) ∧ s.1.c.length + (catR s.1.len).length ≤ 100000 ∧ ∃ j : Nat, j ≤ s.1.len ∧ s1 = (q2E s.1 j, s.2)) (fun s => s.1.len - s.1.i.toNat) 1 RowTab.cnt (fun _ h => h) (fun _ h => h) (Nat.le_refl _) (fun s => rfl) mixed hΛ (by kernel_rfl) (by kernel_rfl) (fun avs m s h ho => ?_) (fun s s1 hJ => ?_)
  · unfold q2Pat at h
    split at h
    · rename_i b1 L b2 len b3 k b4 i x0 cap r x2 x3 sz c
      cases h
      have o1 := of_decide_eq_true (ho _ (List.mem_cons_self ..))
      have o2 := @of_decide_eq_true _ (Classical.propDecidable _) (ho _ (List.mem_cons_of_mem _ (List.mem_cons_self ..)))
      have o3 := of_decide_eq_true (ho _ (List.mem_cons_of_mem _ (List.mem_cons_of_mem _ (List.mem_cons_self ..))))
      have o4 := of_decide_eq_true (ho _ (List.mem_cons_of_mem _ (List.mem_cons_of_mem _ (List.mem_cons_of_mem _ (List.mem_cons_self ..)))))
      have o5 := of_decide_eq_true (ho _ (List.mem_cons_of_mem _ (List.mem_cons_of_mem _ (List.mem_cons_of_mem _ (List.mem_cons_of_mem _ (List.mem_cons_self ..))))))
      have o6 := of_decide_eq_true (ho _ (List.mem_cons_of_mem _ (List.mem_cons_of_mem _ (List.mem_cons_of_mem _ (List.mem_cons_of_mem _ (List.mem_cons_of_mem _ (List.mem_cons_self ..)))))))
      have o7 := of_decide_eq_true (ho _ (List.mem_cons_of_mem _ (List.mem_cons_of_mem _ (List.mem_cons_of_mem _ (List.mem_cons_of_mem _ (List.mem_cons_of_mem _ (List.mem_cons_of_mem _ (List.mem_cons_self ..))))))))
      have o8 := of_decide_eq_true (ho _ (List.mem_cons_of_mem _ (List.mem_cons_of_mem _ (List.mem_cons_of_mem _ (List.mem_cons_of_mem _ (List.mem_cons_of_mem _ (List.mem_cons_of_mem _ (List.mem_cons_of_mem _ (List.mem_cons_self ..)))))))))
      simp only at o1 o2 o3 o4 o5 o6 o7 o8
      subst o1 o2 o6 o7
      refine ⟨(q2E ⟨len, RowTab.cnt, k, 0, c, RowTab.r⟩ 0, c.length), oneR 2 4, q2_go (s := ⟨len, RowTab.cnt, k, 0, c, RowTab.r⟩) (j := 0) (nb := 4) (by decide) rfl rfl ?_ (List.append_nil _).symm (by show c.length = (c ++ []).length; rw [List.append_nil]) rfl rfl, o3, o4, o5, o8, 0, Nat.zero_le _, rfl⟩
      cases sz with
      | none => exact .refl _
      | some z => exact .free _ _ _
    · cases h
  · obtain ⟨hc, hL, hk2, hw, j, hj, rfl⟩ := hJ
    obtain ⟨s, L0⟩ := s
    simp only at hc hL hk2 hw hj
    refine ⟨qA, n0, fun _ _ => none, n0_ok, LOkX.none, ?_⟩
    by_cases hlt : j < s.len
    · refine Or.inr ⟨j, Nat.lt_of_lt_of_le hlt hc, fun hsh => ?_⟩
      have hmu : (q2E s (j + 1)).len - (q2E s (j + 1)).i.toNat < (q2E s j).len - (q2E s j).i.toNat := by show s.len - ((j + 1 : Nat) : Int).toNat < s.len - ((j : Nat) : Int).toNat; omega
      have hi1 : IntKind.wrap .i64 (((j : Nat) : Int) + 1) = ((j + 1 : Nat) : Int) := by rw [wrap64]; omega
      have hmono := catR_mono (show j + 1 ≤ s.len from hlt)
      have hcl : (catR (j + 1)).length = (catR j).length + (rowL j).length := by show (catR j ++ rowL j).length = _; rw [List.length_append]
      have hcat0 : catR (j + 1) = catR j ++ rowL j := rfl
      have hcc : (q2E s j).c.length = s.c.length + (catR j).length := by show (s.c ++ catR j).length = _; rw [List.length_append]
      have hrb : (reachBytes : Nat) = 140737488351232 := rfl
      have hJ2 : s.len ≤ RowTab.cnt ∧ s.len < 1000000000000000 ∧ s.len2 = (s.len : Int) ∧ s.c.length + (catR s.len).length ≤ 100000 ∧ ∃ i : Nat, i ≤ s.len ∧ ((q2E s (j + 1), L0) : q2P × Nat) = (q2E s i, L0) := ⟨hc, hL, hk2, hw, j + 1, hlt, rfl⟩
      rcases hsh with hx | hx | ⟨m, l, hx, h1, h2, hlm, _⟩
      · rw [hx]
        have hr := rowL_nil hx
        have hln : (rowL j).length = 0 := by rw [hr]; rfl
        have hcat : s.c ++ catR (j + 1) = s.c ++ catR j ++ [] := by rw [hcat0, hr, List.append_assoc]
        have hc2 : List.take (q2E s j).c.length (List.drop 0 (q2E s j).c) ++ [] = s.c ++ catR (j + 1) := by rw [hcat, List.drop_zero, List.take_of_length_le (Nat.le_refl _)]; rfl
        have hL2 : (q2E s j).c.length + 0 = (s.c ++ catR (j + 1)).length := by rw [hcc, List.length_append]; omega
        exact Or.inl ⟨[true], _, _, _, _, (q2E s (j + 1), L0), oneR 2 4, q2no_eval (q2E s j) j, q2no_paid hk2 hL rfl hlt (by omega), rfl, q2_go (s := s) (nb := 4) (b1 := true) (b2 := true) (b3 := true) (b4 := true) (by decide) rfl rfl (.refl _) hc2 hL2 rfl hi1, hJ2, hmu⟩
      · rw [hx]
        have hr := rowL_empty hx
        have hln : (rowL j).length = 0 := by rw [hr]; rfl
        have hcat : s.c ++ catR (j + 1) = s.c ++ catR j ++ [] := by rw [hcat0, hr, List.append_assoc]
        have hc2 : List.take (q2E s j).c.length (List.drop 0 (q2E s j).c) ++ [] = s.c ++ catR (j + 1) := by rw [hcat, List.drop_zero, List.take_of_length_le (Nat.le_refl _)]; rfl
        have hL2 : (q2E s j).c.length + 0 = (s.c ++ catR (j + 1)).length := by rw [hcc, List.length_append]; omega
        exact Or.inl ⟨[true], _, _, _, _, (q2E s (j + 1), L0), oneR 2 4, q2eo_eval (q2E s j) j, q2eo_paid hk2 hL rfl hlt (by omega), rfl, q2_go (s := s) (nb := 4) (b1 := true) (b2 := true) (b3 := true) (b4 := true) (by decide) rfl rfl (.refl _) hc2 hL2 rfl hi1, hJ2, hmu⟩
      · rw [hx]
        have hr := rowL_buf hx
        have hln : (rowL j).length = m := by rw [hr]; exact hlm
        have hcat : s.c ++ catR (j + 1) = s.c ++ catR j ++ l := by rw [hcat0, hr, List.append_assoc]
        have hc2 : List.take (q2E s j).c.length (List.drop 0 (q2E s j).c) ++ List.take m (List.drop 0 l) = s.c ++ catR (j + 1) := by rw [hcat, List.drop_zero, List.take_of_length_le (Nat.le_refl _), List.drop_zero, List.take_of_length_le (by omega)]; rfl
        have hL2 : (q2E s j).c.length + m = (s.c ++ catR (j + 1)).length := by rw [hcc, List.length_append]; omega
        exact Or.inl ⟨[true], _, _, _, _, (q2E s (j + 1), L0), oneR 2 4, q2bo_eval (q2E s j) j m l, q2bo_paid hk2 hL rfl hlt (by omega), rfl, q2_go (s := s) (nb := 4) (b1 := true) (b2 := true) (b3 := true) (b4 := true) (by decide) rfl rfl (.refl _) hc2 hL2 rfl hi1, hJ2, hmu⟩
    · have ej : j = s.len := by omega
      subst ej
      refine Or.inl ?_
      refine RoundX.out (q2x_eval (q2E s s.len)) rfl (oneR 2 2) (paid_cons (by simp only [Bool.not_eq_true', decide_eq_false_iff_not]; show ¬ ((s.len : Nat) : Int) < s.len2; omega) fun _ h => by cases h) ?_
      have hg := q2_go (s := s) (j := s.len) (nb := 2) (m := q2M (q2E s s.len)) (b1 := true) (b2 := true) (b3 := true) (b4 := true) (by decide) rfl rfl (.refl _) rfl rfl rfl rfl
      refine ⟨fun p hp => hg.slots p ?_, hg.pulls, hg.inj, hg.fix, hg.le, hg.bm, (by rfl)⟩
      simp only [q2Fin, List.mem_cons, List.not_mem_nil, or_false] at hp
      subst hp
      simp [zipU, q2Ts, q2V, q2E]
end Go.Proofs.Ythpafpifpdeikaa
