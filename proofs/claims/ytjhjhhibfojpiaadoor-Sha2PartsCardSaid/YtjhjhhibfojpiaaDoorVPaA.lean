/- Hashes of what is written in pieces: the law's first loop, how much it is. Own work. -/
import Derived.Test.YtjhjhhibfojpiaaDoorVShaM
import Derived.Test.YtjhjhhibfojpiaaDoorVPaK
set_option linter.unusedSimpArgs false
set_option linter.unusedVariables false
set_option linter.unusedSectionVars false
namespace Go.Proofs.YtjhjhhibfojpiaaDoor
open Go.Ev Go.Sh
open Go.Rw (wrap64)
set_option maxRecDepth 100000
set_option linter.unusedSimpArgs false
set_option linter.unusedVariables false
variable [RowTab]
noncomputable def n0 : CallH := fun _ _ _ => none
theorem n0_ok : HOk Tryd.prog n0 := HOk.none
structure pnP where
  kb : Bool
  K : Int
  len : Nat
  cap : Nat
  n : Int
  len2 : Int
  i : Int
  r : Nat → Value
def pnTs : List Nat := [0, 1, 4, 5, 14, 15, 16]
def pnV (s : pnP) : List AV := [.int s.kb .i64 s.K, .slice true 1 0 s.len none 1, .bool false false, .int true .i64 s.n, .slice true 1 0 s.len none 1, .int true .i64 s.len2, .int true .i64 s.i]
def pnM (s : pnP) : Mem := [none, some ⟨false, .rows RowTab.cnt RowTab.r⟩]
def pnnoD (s : pnP) (k : Nat) : List Bool := [decide (((pnP.i s) : Int) < (pnP.len2 s)), (decide ((0 : Int) ≤ (pnP.i s)) && decide (((pnP.i s) : Int) < (((pnP.len s) : Nat) : Int))), decide (((0 + ((Int.toNat (pnP.i s)) * 1)) : Nat) = k), (!decide (((IntKind.wrap .i64 ((pnP.n s) + 1)) : Int) > 3000))]
theorem pnno_eval (s : pnP) (k : Nat) : seesL pnTs ((codeX Tryd.prog qS n0 (fun _ _ => none) 100 (lp (blk 0 (bodyOf Tryd.prog 3))) ⟨tmOf (ups (fun _ => .top) (zipU pnTs (pnV s))) 61, (pnM s).set 1 (some ⟨false, .one RowTab.cnt RowTab.r k (cArg (pnM s).length (.pl .nilslice))⟩) ++ [cBlk (.pl .nilslice)]⟩).go [true, false]) = some (pnnoD s k, 0, [.int s.kb .i64 s.K, .slice true 1 0 s.len none 1, .bool false false, .int true .i64 (IntKind.wrap .i64 (s.n + IntKind.wrap .i64 (1 + 0))), .slice true 1 0 s.len none 1, .int true .i64 s.len2, .int true .i64 (IntKind.wrap .i64 (s.i + 1))], 61, [none, some ⟨false, .one RowTab.cnt RowTab.r k .nilslice⟩, none]) := by kernel_rfl
theorem pnno_paid {s : pnP} {k : Nat} (hl : s.len2 = (s.len : Int)) (hL : s.len < 1000000000000000) (hk : s.i = (k : Int)) (hkl : k < s.len) {n : Nat} (hn : s.n = (n : Int)) (hn2 : n ≤ 3000) (hw : n + (1 + 0) ≤ 3000) : Paid (pnnoD s k) := by
  have w1 : IntKind.wrap .i64 (1 + ((0 : Nat) : Int)) = ((1 + 0 : Nat) : Int) := by rw [wrap64]; omega
  have w2 : IntKind.wrap .i64 ((n : Int) + ((1 + 0 : Nat) : Int)) = ((n + (1 + 0) : Nat) : Int) := by rw [wrap64]; omega
  have w0 : IntKind.wrap .i64 ((n : Int) + 1) = ((n + (1 + 0) : Nat) : Int) := by rw [wrap64]; omega
  unfold pnnoD
  simp only [hk, hn, w1, w0, w2, hl]
  refine paid_cons ?_ (paid_cons ?_ (paid_cons ?_ (paid_cons ?_ (fun _ h => by cases h))))
  all_goals (try simp only [Bool.and_eq_true, Bool.or_eq_true, Bool.not_eq_true', Bool.not_true, Bool.not_false, Bool.not_eq_eq_eq_not, decide_eq_true_eq, decide_eq_false_iff_not, beq_iff_eq, beq_eq_false_iff_ne, bne_iff_ne, bne_eq_false_iff_eq, ne_eq, Bool.or_eq_false_iff, Bool.and_eq_false_imp, Bool.and_true, Bool.true_and, Bool.or_false, Bool.false_or, Bool.or_true, Bool.true_or, Bool.and_false, Bool.false_and, and_true, true_and, not_true_eq_false, not_false_eq_true]) <;> omega
def pnnrD (s : pnP) (k : Nat) : List Bool := [decide (((pnP.i s) : Int) < (pnP.len2 s)), (decide ((0 : Int) ≤ (pnP.i s)) && decide (((pnP.i s) : Int) < (((pnP.len s) : Nat) : Int))), decide (((0 + ((Int.toNat (pnP.i s)) * 1)) : Nat) = k), decide (((IntKind.wrap .i64 ((pnP.n s) + 1)) : Int) > 3000)]
theorem pnnr_eval (s : pnP) (k : Nat) : seesL pnTs ((codeX Tryd.prog qS n0 (fun _ _ => none) 100 (lp (blk 0 (bodyOf Tryd.prog 3))) ⟨tmOf (ups (fun _ => .top) (zipU pnTs (pnV s))) 61, (pnM s).set 1 (some ⟨false, .one RowTab.cnt RowTab.r k (cArg (pnM s).length (.pl .nilslice))⟩) ++ [cBlk (.pl .nilslice)]⟩).go [true, true]) = some (pnnrD s k, 1, [.int s.kb .i64 s.K, .slice true 1 0 s.len none 1, .bool false true, .int true .i64 (IntKind.wrap .i64 (s.n + IntKind.wrap .i64 (1 + 0))), .slice true 1 0 s.len none 1, .int true .i64 s.len2, .int true .i64 s.i], 61, [none, some ⟨false, .one RowTab.cnt RowTab.r k .nilslice⟩, none]) := by kernel_rfl
theorem pnnr_paid {s : pnP} {k : Nat} (hl : s.len2 = (s.len : Int)) (hL : s.len < 1000000000000000) (hk : s.i = (k : Int)) (hkl : k < s.len) {n : Nat} (hn : s.n = (n : Int)) (hn2 : n ≤ 3000) (hw : n + (1 + 0) > 3000) : Paid (pnnrD s k) := by
  have w1 : IntKind.wrap .i64 (1 + ((0 : Nat) : Int)) = ((1 + 0 : Nat) : Int) := by rw [wrap64]; omega
  have w2 : IntKind.wrap .i64 ((n : Int) + ((1 + 0 : Nat) : Int)) = ((n + (1 + 0) : Nat) : Int) := by rw [wrap64]; omega
  have w0 : IntKind.wrap .i64 ((n : Int) + 1) = ((n + (1 + 0) : Nat) : Int) := by rw [wrap64]; omega
  unfold pnnrD
  simp only [hk, hn, w1, w0, w2, hl]
  refine paid_cons ?_ (paid_cons ?_ (paid_cons ?_ (paid_cons ?_ (fun _ h => by cases h))))
  all_goals (try simp only [Bool.and_eq_true, Bool.or_eq_true, Bool.not_eq_true', Bool.not_true, Bool.not_false, Bool.not_eq_eq_eq_not, decide_eq_true_eq, decide_eq_false_iff_not, beq_iff_eq, beq_eq_false_iff_ne, bne_iff_ne, bne_eq_false_iff_eq, ne_eq, Bool.or_eq_false_iff, Bool.and_eq_false_imp, Bool.and_true, Bool.true_and, Bool.or_false, Bool.false_or, Bool.or_true, Bool.true_or, Bool.and_false, Bool.false_and, and_true, true_and, not_true_eq_false, not_false_eq_true]) <;> omega
def pneoD (s : pnP) (k : Nat) : List Bool := [decide (((pnP.i s) : Int) < (pnP.len2 s)), (decide ((0 : Int) ≤ (pnP.i s)) && decide (((pnP.i s) : Int) < (((pnP.len s) : Nat) : Int))), decide (((0 + ((Int.toNat (pnP.i s)) * 1)) : Nat) = k), (!decide (((IntKind.wrap .i64 ((pnP.n s) + 1)) : Int) > 3000))]
theorem pneo_eval (s : pnP) (k : Nat) : seesL pnTs ((codeX Tryd.prog qS n0 (fun _ _ => none) 100 (lp (blk 0 (bodyOf Tryd.prog 3))) ⟨tmOf (ups (fun _ => .top) (zipU pnTs (pnV s))) 61, (pnM s).set 1 (some ⟨false, .one RowTab.cnt RowTab.r k (cArg (pnM s).length .empty)⟩) ++ [cBlk .empty]⟩).go [true, false]) = some (pneoD s k, 0, [.int s.kb .i64 s.K, .slice true 1 0 s.len none 1, .bool false false, .int true .i64 (IntKind.wrap .i64 (s.n + IntKind.wrap .i64 (1 + ((0 : Nat) : Int)))), .slice true 1 0 s.len none 1, .int true .i64 s.len2, .int true .i64 (IntKind.wrap .i64 (s.i + 1))], 61, [none, some ⟨false, .one RowTab.cnt RowTab.r k (.slice false 2 0 0 none 1)⟩, none]) := by kernel_rfl
theorem pneo_paid {s : pnP} {k : Nat} (hl : s.len2 = (s.len : Int)) (hL : s.len < 1000000000000000) (hk : s.i = (k : Int)) (hkl : k < s.len) {n : Nat} (hn : s.n = (n : Int)) (hn2 : n ≤ 3000) (hw : n + (1 + 0) ≤ 3000) : Paid (pneoD s k) := by
  have w1 : IntKind.wrap .i64 (1 + ((0 : Nat) : Int)) = ((1 + 0 : Nat) : Int) := by rw [wrap64]; omega
  have w2 : IntKind.wrap .i64 ((n : Int) + ((1 + 0 : Nat) : Int)) = ((n + (1 + 0) : Nat) : Int) := by rw [wrap64]; omega
  have w0 : IntKind.wrap .i64 ((n : Int) + 1) = ((n + (1 + 0) : Nat) : Int) := by rw [wrap64]; omega
  unfold pneoD
  simp only [hk, hn, w1, w0, w2, hl]
  refine paid_cons ?_ (paid_cons ?_ (paid_cons ?_ (paid_cons ?_ (fun _ h => by cases h))))
  all_goals (try simp only [Bool.and_eq_true, Bool.or_eq_true, Bool.not_eq_true', Bool.not_true, Bool.not_false, Bool.not_eq_eq_eq_not, decide_eq_true_eq, decide_eq_false_iff_not, beq_iff_eq, beq_eq_false_iff_ne, bne_iff_ne, bne_eq_false_iff_eq, ne_eq, Bool.or_eq_false_iff, Bool.and_eq_false_imp, Bool.and_true, Bool.true_and, Bool.or_false, Bool.false_or, Bool.or_true, Bool.true_or, Bool.and_false, Bool.false_and, and_true, true_and, not_true_eq_false, not_false_eq_true]) <;> omega
def pnerD (s : pnP) (k : Nat) : List Bool := [decide (((pnP.i s) : Int) < (pnP.len2 s)), (decide ((0 : Int) ≤ (pnP.i s)) && decide (((pnP.i s) : Int) < (((pnP.len s) : Nat) : Int))), decide (((0 + ((Int.toNat (pnP.i s)) * 1)) : Nat) = k), decide (((IntKind.wrap .i64 ((pnP.n s) + 1)) : Int) > 3000)]
theorem pner_eval (s : pnP) (k : Nat) : seesL pnTs ((codeX Tryd.prog qS n0 (fun _ _ => none) 100 (lp (blk 0 (bodyOf Tryd.prog 3))) ⟨tmOf (ups (fun _ => .top) (zipU pnTs (pnV s))) 61, (pnM s).set 1 (some ⟨false, .one RowTab.cnt RowTab.r k (cArg (pnM s).length .empty)⟩) ++ [cBlk .empty]⟩).go [true, true]) = some (pnerD s k, 1, [.int s.kb .i64 s.K, .slice true 1 0 s.len none 1, .bool false true, .int true .i64 (IntKind.wrap .i64 (s.n + IntKind.wrap .i64 (1 + ((0 : Nat) : Int)))), .slice true 1 0 s.len none 1, .int true .i64 s.len2, .int true .i64 s.i], 61, [none, some ⟨false, .one RowTab.cnt RowTab.r k (.slice false 2 0 0 none 1)⟩, none]) := by kernel_rfl
theorem pner_paid {s : pnP} {k : Nat} (hl : s.len2 = (s.len : Int)) (hL : s.len < 1000000000000000) (hk : s.i = (k : Int)) (hkl : k < s.len) {n : Nat} (hn : s.n = (n : Int)) (hn2 : n ≤ 3000) (hw : n + (1 + 0) > 3000) : Paid (pnerD s k) := by
  have w1 : IntKind.wrap .i64 (1 + ((0 : Nat) : Int)) = ((1 + 0 : Nat) : Int) := by rw [wrap64]; omega
  have w2 : IntKind.wrap .i64 ((n : Int) + ((1 + 0 : Nat) : Int)) = ((n + (1 + 0) : Nat) : Int) := by rw [wrap64]; omega
  have w0 : IntKind.wrap .i64 ((n : Int) + 1) = ((n + (1 + 0) : Nat) : Int) := by rw [wrap64]; omega
  unfold pnerD
  simp only [hk, hn, w1, w0, w2, hl]
  refine paid_cons ?_ (paid_cons ?_ (paid_cons ?_ (paid_cons ?_ (fun _ h => by cases h))))
  all_goals (try simp only [Bool.and_eq_true, Bool.or_eq_true, Bool.not_eq_true', Bool.not_true, Bool.not_false, Bool.not_eq_eq_eq_not, decide_eq_true_eq, decide_eq_false_iff_not, beq_iff_eq, beq_eq_false_iff_ne, bne_iff_ne, bne_eq_false_iff_eq, ne_eq, Bool.or_eq_false_iff, Bool.and_eq_false_imp, Bool.and_true, Bool.true_and, Bool.or_false, Bool.false_or, Bool.or_true, Bool.true_or, Bool.and_false, Bool.false_and, and_true, true_and, not_true_eq_false, not_false_eq_true]) <;> omega
def pnboD (s : pnP) (k : Nat) (m : Nat) (l : List Int) : List Bool := [decide (((pnP.i s) : Int) < (pnP.len2 s)), (decide ((0 : Int) ≤ (pnP.i s)) && decide (((pnP.i s) : Int) < (((pnP.len s) : Nat) : Int))), decide (((0 + ((Int.toNat (pnP.i s)) * 1)) : Nat) = k), decide ((m : Nat) < 9223372036854775808), (!decide (((IntKind.wrap .i64 ((pnP.n s) + (IntKind.wrap .i64 (1 + ((m : Nat) : Int))))) : Int) > 3000))]
theorem pnbo_eval (s : pnP) (k : Nat) (m : Nat) (l : List Int) : seesL pnTs ((codeX Tryd.prog qS n0 (fun _ _ => none) 100 (lp (blk 0 (bodyOf Tryd.prog 3))) ⟨tmOf (ups (fun _ => .top) (zipU pnTs (pnV s))) 61, (pnM s).set 1 (some ⟨false, .one RowTab.cnt RowTab.r k (cArg (pnM s).length (.buf true .u8 m l))⟩) ++ [cBlk (.buf true .u8 m l)]⟩).go [true, false]) = some (pnboD s k m l, 0, [.int s.kb .i64 s.K, .slice true 1 0 s.len none 1, .bool false false, .int true .i64 (IntKind.wrap .i64 (s.n + IntKind.wrap .i64 (1 + ((m : Nat) : Int)))), .slice true 1 0 s.len none 1, .int true .i64 s.len2, .int true .i64 (IntKind.wrap .i64 (s.i + 1))], 61, [none, some ⟨false, .one RowTab.cnt RowTab.r k (.slice true 2 0 m none 1)⟩, some ⟨false, .ints .u8 (some m) l⟩]) := by kernel_rfl
theorem pnbo_paid {s : pnP} {k : Nat} {m : Nat} {l : List Int} (hm : l.length = m) (hm1 : 1 ≤ m) (hl : s.len2 = (s.len : Int)) (hL : s.len < 1000000000000000) (hk : s.i = (k : Int)) (hkl : k < s.len) {n : Nat} (hn : s.n = (n : Int)) (hn2 : n ≤ 3000) (hw : n + (1 + m) ≤ 3000) (hmM : m ≤ 9000000000000000) : Paid (pnboD s k m l) := by
  have w1 : IntKind.wrap .i64 (1 + ((m : Nat) : Int)) = ((1 + m : Nat) : Int) := by rw [wrap64]; omega
  have w2 : IntKind.wrap .i64 ((n : Int) + ((1 + m : Nat) : Int)) = ((n + (1 + m) : Nat) : Int) := by rw [wrap64]; omega
  have w0 : IntKind.wrap .i64 ((n : Int) + 1) = ((n + (1 + 0) : Nat) : Int) := by rw [wrap64]; omega
  unfold pnboD
  simp only [hk, hn, w1, w0, w2, hl]
  refine paid_cons ?_ (paid_cons ?_ (paid_cons ?_ (paid_cons ?_ (paid_cons ?_ (fun _ h => by cases h)))))
  all_goals (try simp only [Bool.and_eq_true, Bool.or_eq_true, Bool.not_eq_true', Bool.not_true, Bool.not_false, Bool.not_eq_eq_eq_not, decide_eq_true_eq, decide_eq_false_iff_not, beq_iff_eq, beq_eq_false_iff_ne, bne_iff_ne, bne_eq_false_iff_eq, ne_eq, Bool.or_eq_false_iff, Bool.and_eq_false_imp, Bool.and_true, Bool.true_and, Bool.or_false, Bool.false_or, Bool.or_true, Bool.true_or, Bool.and_false, Bool.false_and, and_true, true_and, not_true_eq_false, not_false_eq_true]) <;> omega
def pnbrD (s : pnP) (k : Nat) (m : Nat) (l : List Int) : List Bool := [decide (((pnP.i s) : Int) < (pnP.len2 s)), (decide ((0 : Int) ≤ (pnP.i s)) && decide (((pnP.i s) : Int) < (((pnP.len s) : Nat) : Int))), decide (((0 + ((Int.toNat (pnP.i s)) * 1)) : Nat) = k), decide ((m : Nat) < 9223372036854775808), decide (((IntKind.wrap .i64 ((pnP.n s) + (IntKind.wrap .i64 (1 + ((m : Nat) : Int))))) : Int) > 3000)]
theorem pnbr_eval (s : pnP) (k : Nat) (m : Nat) (l : List Int) : seesL pnTs ((codeX Tryd.prog qS n0 (fun _ _ => none) 100 (lp (blk 0 (bodyOf Tryd.prog 3))) ⟨tmOf (ups (fun _ => .top) (zipU pnTs (pnV s))) 61, (pnM s).set 1 (some ⟨false, .one RowTab.cnt RowTab.r k (cArg (pnM s).length (.buf true .u8 m l))⟩) ++ [cBlk (.buf true .u8 m l)]⟩).go [true, true]) = some (pnbrD s k m l, 1, [.int s.kb .i64 s.K, .slice true 1 0 s.len none 1, .bool false true, .int true .i64 (IntKind.wrap .i64 (s.n + IntKind.wrap .i64 (1 + ((m : Nat) : Int)))), .slice true 1 0 s.len none 1, .int true .i64 s.len2, .int true .i64 s.i], 61, [none, some ⟨false, .one RowTab.cnt RowTab.r k (.slice true 2 0 m none 1)⟩, some ⟨false, .ints .u8 (some m) l⟩]) := by kernel_rfl
theorem pnbr_paid {s : pnP} {k : Nat} {m : Nat} {l : List Int} (hm : l.length = m) (hm1 : 1 ≤ m) (hl : s.len2 = (s.len : Int)) (hL : s.len < 1000000000000000) (hk : s.i = (k : Int)) (hkl : k < s.len) {n : Nat} (hn : s.n = (n : Int)) (hn2 : n ≤ 3000) (hw : n + (1 + m) > 3000) (hmM : m ≤ 9000000000000000) : Paid (pnbrD s k m l) := by
  have w1 : IntKind.wrap .i64 (1 + ((m : Nat) : Int)) = ((1 + m : Nat) : Int) := by rw [wrap64]; omega
  have w2 : IntKind.wrap .i64 ((n : Int) + ((1 + m : Nat) : Int)) = ((n + (1 + m) : Nat) : Int) := by rw [wrap64]; omega
  have w0 : IntKind.wrap .i64 ((n : Int) + 1) = ((n + (1 + 0) : Nat) : Int) := by rw [wrap64]; omega
  unfold pnbrD
  simp only [hk, hn, w1, w0, w2, hl]
  refine paid_cons ?_ (paid_cons ?_ (paid_cons ?_ (paid_cons ?_ (paid_cons ?_ (fun _ h => by cases h)))))
  all_goals (try simp only [Bool.and_eq_true, Bool.or_eq_true, Bool.not_eq_true', Bool.not_true, Bool.not_false, Bool.not_eq_eq_eq_not, decide_eq_true_eq, decide_eq_false_iff_not, beq_iff_eq, beq_eq_false_iff_ne, bne_iff_ne, bne_eq_false_iff_eq, ne_eq, Bool.or_eq_false_iff, Bool.and_eq_false_imp, Bool.and_true, Bool.true_and, Bool.or_false, Bool.false_or, Bool.or_true, Bool.true_or, Bool.and_false, Bool.false_and, and_true, true_and, not_true_eq_false, not_false_eq_true]) <;> omega
theorem pnx_eval (s : pnP) : seesL pnTs ((codeX Tryd.prog qS n0 (fun _ _ => none) 100 (lp (blk 0 (bodyOf Tryd.prog 3))) ⟨tmOf (ups (fun _ => .top) (zipU pnTs (pnV s))) 61, pnM s⟩).go [false]) = some ([(!decide (((pnP.i s) : Int) < (pnP.len2 s)))], 2, pnV s, 61, pnM s) := by kernel_rfl
def pnE (s : pnP) (j : Nat) : pnP := ⟨s.kb, s.K, s.len, s.cap, (sumR j : Int), s.len2, (j : Int), s.r⟩
open Classical in
noncomputable def pnO (w : Bool) (s : pnP) : List Bool := [decide (s.cap = RowTab.cnt), decide (s.r = RowTab.r), decide (s.len ≤ RowTab.cnt), decide (s.len < 1000000000000000), decide (s.len2 = (s.len : Int)), decide (s.n = 0), decide (s.i = 0), decide (decide (3000 < sumR s.len) = w)]
def pnFin (w : Bool) (s : pnP) : Bool × List (Nat × AV) × Mem := match w with
  | true => (true, [(4, .bool false true)], [none, some ⟨false, .rows RowTab.cnt RowTab.r⟩])
  | false => (false, [(0, .int s.kb .i64 s.K), (1, .slice true 1 0 s.len none 1)], [none, some ⟨false, .rows RowTab.cnt RowTab.r⟩])
def pnPat : List AV → Mem → Option (pnP × Nat)
  | [.int kb .i64 K, .slice _ 1 0 len none 1, .bool false false, .int _ .i64 n, .slice _ 1 0 len2 none 1, .int _ .i64 k, .int _ .i64 i], none :: some ⟨false, .rows cap r⟩ :: _ => some (⟨kb, K, len, cap, n, k, i, r⟩, len2)
  | _, _ => none
noncomputable def pnΛ (w : Bool) (Λ : LoopX) : LoopX := famXH 0 61 pnTs pnPat (fun p => decide (p.2 = p.1.len) :: pnO w p.1) (fun p => pnFin w p.1) Λ
theorem pn_go {s : pnP} {m : Mem} {n len2 i : Int} {b2 b3 b4 b5 b6 : Bool} {j : Nat} (hm1 : m[1]? = some (some ⟨false, .rows RowTab.cnt RowTab.r⟩)) (hn : n = (sumR j : Int)) (hk : len2 = s.len2) (hi : i = (j : Int)) :
    Goes 2 (oneR 2 2) pnTs [.int s.kb .i64 s.K, .slice b2 1 0 s.len none 1, .bool false false, .int b3 .i64 n, .slice b4 1 0 s.len none 1, .int b5 .i64 len2, .int b6 .i64 i] m (zipU pnTs (pnV (pnE s j))) (pnM (pnE s j)) := by
  subst hn hk hi
  refine Goes.zip ?_ ?_ (by rfl) (oneR_fix _ _) (show 2 ≤ 2 by decide) rfl (by rfl)
  · exact .cons (.refl _) (.cons (.slice b2 true 1 0 s.len none none 1 (Or.inl rfl)) (.cons (.refl _) (.cons (.int b3 true .i64 _) (.cons (.slice b4 true 1 0 s.len none none 1 (Or.inl rfl)) (.cons (.int b5 true .i64 _) (.cons (.int b6 true .i64 _) .nil))))))
  · exact ⟨⟨_, hm1, .refl _⟩, trivial⟩
theorem pn_goR {m : Mem} {a0 a1 a3 a4 a5 a6 : AV} (hm1 : m[1]? = some (some ⟨false, .rows RowTab.cnt RowTab.r⟩)) (s : pnP) :
    Goes 2 (oneR 2 2) pnTs [a0, a1, .bool false true, a3, a4, a5, a6] m (pnFin true s).2.1 (pnFin true s).2.2 := by
  refine ⟨fun p hp => ?_, ⟨⟨_, hm1, .refl _⟩, trivial⟩, (by rfl), oneR_fix _ _, (show 2 ≤ 2 by decide), rfl, (by rfl)⟩
  simp only [pnFin, List.mem_cons, List.not_mem_nil, or_false] at hp
  subst hp
  exact ⟨_, List.mem_cons_of_mem _ (List.mem_cons_of_mem _ (List.mem_cons_self ..)), .refl _⟩
theorem sum_step {j n : Nat} (h : (rowL j).length = n) (h2 : sumR j ≤ 3000) (hn : n ≤ 9000000000000000) : IntKind.wrap .i64 ((sumR j : Int) + IntKind.wrap .i64 (1 + ((n : Nat) : Int))) = (sumR (j + 1) : Int) := by
  have : sumR (j + 1) = sumR j + (1 + n) := by rw [← h]; rfl
  rw [wrap64, wrap64]
  omega
theorem pn_lok (w : Bool) {Λ : LoopX} (hΛ : LOkX 2 Tryd.prog (bodyOf Tryd.prog 3) Λ) : LOkX 2 Tryd.prog (bodyOf Tryd.prog 3) (pnΛ w Λ) := by
  refine famXL_ok (σ := pnP × Nat) (n := 100) (fun p => pnV p.1) (fun p => pnM p.1) (fun s s1 => s.1.len ≤ RowTab.cnt ∧ s.1.len < 1000000000000000 ∧ s.1.len2 = (s.1.len : Int) ∧ decide (3000 < sumR s.1.len) = w ∧ ∃ j : Nat, j ≤ s.1.len ∧ sumR j ≤ 3000 ∧ s1 = (pnE s.1 j, s.2)) (fun s => s.1.len - s.1.i.toNat) 1 RowTab.cnt (fun _ h => h) (fun _ h => h) (Nat.le_refl _) (fun s => rfl) mixed hΛ (by kernel_rfl) (by kernel_rfl) (fun avs m s h ho => ?_) (fun s s1 hJ => ?_)
  · unfold pnPat at h
    split at h
    · rename_i kb K b2 len b3 n b4 len2 b5 k b6 i cap r rest
      cases h
      have o0 := of_decide_eq_true (ho _ (List.mem_cons_self ..))
      have o1 := of_decide_eq_true (ho _ (List.mem_cons_of_mem _ (List.mem_cons_self ..)))
      have o2 := @of_decide_eq_true _ (Classical.propDecidable _) (ho _ (List.mem_cons_of_mem _ (List.mem_cons_of_mem _ (List.mem_cons_self ..))))
      have o3 := of_decide_eq_true (ho _ (List.mem_cons_of_mem _ (List.mem_cons_of_mem _ (List.mem_cons_of_mem _ (List.mem_cons_self ..)))))
      have o4 := of_decide_eq_true (ho _ (List.mem_cons_of_mem _ (List.mem_cons_of_mem _ (List.mem_cons_of_mem _ (List.mem_cons_of_mem _ (List.mem_cons_self ..))))))
      have o5 := of_decide_eq_true (ho _ (List.mem_cons_of_mem _ (List.mem_cons_of_mem _ (List.mem_cons_of_mem _ (List.mem_cons_of_mem _ (List.mem_cons_of_mem _ (List.mem_cons_self ..)))))))
      have o6 := of_decide_eq_true (ho _ (List.mem_cons_of_mem _ (List.mem_cons_of_mem _ (List.mem_cons_of_mem _ (List.mem_cons_of_mem _ (List.mem_cons_of_mem _ (List.mem_cons_of_mem _ (List.mem_cons_self ..))))))))
      have o7 := of_decide_eq_true (ho _ (List.mem_cons_of_mem _ (List.mem_cons_of_mem _ (List.mem_cons_of_mem _ (List.mem_cons_of_mem _ (List.mem_cons_of_mem _ (List.mem_cons_of_mem _ (List.mem_cons_of_mem _ (List.mem_cons_self ..)))))))))
      have o8 := of_decide_eq_true (ho _ (List.mem_cons_of_mem _ (List.mem_cons_of_mem _ (List.mem_cons_of_mem _ (List.mem_cons_of_mem _ (List.mem_cons_of_mem _ (List.mem_cons_of_mem _ (List.mem_cons_of_mem _ (List.mem_cons_of_mem _ (List.mem_cons_self ..))))))))))
      simp only at o0 o1 o2 o3 o4 o5 o6 o7 o8
      subst o0
      subst o1 o2 o6 o7
      exact ⟨(_, _), oneR 2 2, pn_go (s := ⟨kb, K, len2, RowTab.cnt, 0, k, 0, RowTab.r⟩) (j := 0) rfl rfl rfl rfl, o3, o4, o5, o8, 0, Nat.zero_le _, Nat.zero_le _, rfl⟩
    · cases h
  · obtain ⟨hc, hL, hk2, hw, j, hj, hsj, rfl⟩ := hJ
    obtain ⟨s, L0⟩ := s
    simp only at hc hL hk2 hw hj
    refine ⟨qS, n0, fun _ _ => none, n0_ok, LOkX.none, ?_⟩
    by_cases hlt : j < s.len
    · refine Or.inr ⟨j, Nat.lt_of_lt_of_le hlt hc, fun hsh => ?_⟩
      have hmu : (pnE s (j + 1)).len - (pnE s (j + 1)).i.toNat < (pnE s j).len - (pnE s j).i.toNat := by show s.len - ((j + 1 : Nat) : Int).toNat < s.len - ((j : Nat) : Int).toNat; omega
      have hi1 : IntKind.wrap .i64 (((j : Nat) : Int) + 1) = ((j + 1 : Nat) : Int) := by rw [wrap64]; omega
      have hmono := sumR_mono (show j + 1 ≤ s.len from hlt)
      have hs1 : sumR (j + 1) = sumR j + (1 + (rowL j).length) := rfl
      have hrb : (reachBytes : Nat) = 140737488351232 := rfl
      rcases hsh with hx | hx | ⟨m, l, hx, h1, h2, hlm, _⟩
      · rw [hx]
        have hr := rowL_nil hx
        have hln : (rowL j).length = 0 := by rw [hr]; rfl
        have hst := sum_step hln hsj (by omega)
        by_cases hover : sumR (j + 1) ≤ 3000
        · exact Or.inl ⟨[true, false], _, _, _, _, (pnE s (j + 1), L0), oneR 2 2, pnno_eval (pnE s j) j, pnno_paid hk2 hL rfl hlt rfl hsj (by omega), rfl, pn_go rfl (by rw [show (1 : Int) + 0 = 1 + ((0 : Nat) : Int) from rfl]; exact hst) rfl hi1, ⟨hc, hL, hk2, hw, j + 1, hlt, hover, rfl⟩, hmu⟩
        · have hw' : w = true := by rw [← hw]; exact decide_eq_true (by omega)
          subst hw'
          exact Or.inr ⟨[true, true], _, _, _, _, oneR 2 2, pnnr_eval (pnE s j) j, pnnr_paid hk2 hL rfl hlt rfl hsj (by omega), rfl, pn_goR rfl s⟩
      · rw [hx]
        have hr := rowL_empty hx
        have hln : (rowL j).length = 0 := by rw [hr]; rfl
        have hst := sum_step hln hsj (by omega)
        by_cases hover : sumR (j + 1) ≤ 3000
        · exact Or.inl ⟨[true, false], _, _, _, _, (pnE s (j + 1), L0), oneR 2 2, pneo_eval (pnE s j) j, pneo_paid hk2 hL rfl hlt rfl hsj (by omega), rfl, pn_go rfl hst rfl hi1, ⟨hc, hL, hk2, hw, j + 1, hlt, hover, rfl⟩, hmu⟩
        · have hw' : w = true := by rw [← hw]; exact decide_eq_true (by omega)
          subst hw'
          exact Or.inr ⟨[true, true], _, _, _, _, oneR 2 2, pner_eval (pnE s j) j, pner_paid hk2 hL rfl hlt rfl hsj (by omega), rfl, pn_goR rfl s⟩
      · rw [hx]
        have hr := rowL_buf hx
        have hln : (rowL j).length = m := by rw [hr]; exact hlm
        have hst := sum_step hln hsj (by omega)
        by_cases hover : sumR (j + 1) ≤ 3000
        · exact Or.inl ⟨[true, false], _, _, _, _, (pnE s (j + 1), L0), oneR 2 2, pnbo_eval (pnE s j) j m l, pnbo_paid hlm h1 hk2 hL rfl hlt rfl hsj (by omega) (by omega), rfl, pn_go rfl hst rfl hi1, ⟨hc, hL, hk2, hw, j + 1, hlt, hover, rfl⟩, hmu⟩
        · have hw' : w = true := by rw [← hw]; exact decide_eq_true (by omega)
          subst hw'
          exact Or.inr ⟨[true, true], _, _, _, _, oneR 2 2, pnbr_eval (pnE s j) j m l, pnbr_paid hlm h1 hk2 hL rfl hlt rfl hsj (by omega) (by omega), rfl, pn_goR rfl s⟩
    · have ej : j = s.len := by omega
      subst ej
      refine Or.inl ?_
      have hw' : w = false := by rw [← hw]; exact decide_eq_false (by omega)
      subst hw'
      refine RoundX.out (pnx_eval (pnE s s.len)) rfl (oneR 2 2) (paid_cons (by simp only [Bool.not_eq_true', decide_eq_false_iff_not]; show ¬ ((s.len : Nat) : Int) < s.len2; omega) fun _ h => by cases h) ?_
      have hg := pn_go (s := s) (j := s.len) (m := pnM (pnE s s.len)) (b2 := true) (b3 := true) (b4 := true) (b5 := true) (b6 := true) rfl rfl rfl rfl
      refine ⟨fun p hp => hg.slots p ?_, hg.pulls, hg.inj, hg.fix, hg.le, hg.bm, (by rfl)⟩
      simp only [pnFin, List.mem_cons, List.not_mem_nil, or_false] at hp
      rcases hp with rfl | rfl <;> simp [zipU, pnTs, pnV, pnE]
end Go.Proofs.YtjhjhhibfojpiaaDoor
