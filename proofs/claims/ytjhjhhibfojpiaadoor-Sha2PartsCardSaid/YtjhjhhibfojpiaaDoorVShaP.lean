/- The reference's block: its loops. Own work. -/
import Derived.Test.YtjhjhhibfojpiaaDoorVShaO
set_option linter.unusedSimpArgs false
set_option linter.unusedVariables false
set_option linter.unusedSectionVars false
namespace Go.Proofs.YtjhjhhibfojpiaaDoor
variable [Go.Ev.RowTab]
open Go.Ev Go.Sh
set_option maxRecDepth 100000
structure RbS where
  h : List Int
  l : List Int
  n : Nat
  m : Nat
  x : List Int
  i : Int
/-- The reference's turns, four times three. -/
def turn32 : List Int := [7, 18, -3, 17, 19, -10, 2, 13, 22, 6, 11, 25]
def turn64 : List Int := [1, 8, -7, 19, 61, -6, 28, 34, 39, 14, 18, 41]
def rbTs : List Nat := [1, 2, 3, 6, 7, 8, 9, 10, 11]
def rbV (w N : Int) (s : RbS) : List AV := [.slice true 1 0 s.m none 1, .int false .i64 w, .ptr false 3 0, .ptr false 4 0, .ptr false 5 0, .int false .i64 N, .ptr false 6 0, .ptr false 7 0, .int true .i64 s.i]
def rbM (t : List Int) (s : RbS) : Mem := [none, some ⟨false, .ints .u8 (some s.n) s.l⟩, none, some ⟨true, .ints .u64 (some 8) s.h⟩, some ⟨true, .ints .u64 (some 8) [0, 0, 0, 0, 0, 0, 0, 0]⟩, some ⟨true, .ints .u64 (some 80) cubeL⟩, some ⟨true, .ints .i64 (some 12) t⟩, some ⟨true, .ints .u64 (some 80) s.x⟩]
noncomputable def hR2 : CallH := deep Tryd.prog qS hr2 100 3
theorem hR2_ok : HOk Tryd.prog hR2 := hr2_ok.deep mixed noCount 100 3
/- a round of the later words -/
def rbJ (i d : Int) : Nat := (IntKind.i64.wrap (i - d)).toNat
def rbRaw32 (s : RbS) : Int := IntKind.u64.wrap (IntKind.u64.wrap (IntKind.u64.wrap (s.x.getD (0 + rbJ s.i 16 * 1) 0 + threeR 32 7 18 (-3) (s.x.getD (0 + rbJ s.i 15 * 1) 0)) + s.x.getD (0 + rbJ s.i 7 * 1) 0) + threeR 32 17 19 (-10) (s.x.getD (0 + rbJ s.i 2 * 1) 0))
def rbD32 (s : RbS) : List Bool := [decide (s.i < 64), !decide (s.i < 16), decide (0 ≤ IntKind.i64.wrap (s.i - 16)) && decide (IntKind.i64.wrap (s.i - 16) < ((80 : Nat) : Int)), decide (0 + rbJ s.i 16 * 1 + 1 ≤ 80), decide (0 ≤ IntKind.i64.wrap (s.i - 15)) && decide (IntKind.i64.wrap (s.i - 15) < ((80 : Nat) : Int)), decide (0 + rbJ s.i 15 * 1 + 1 ≤ 80), decide (0 ≤ s.x.getD (0 + rbJ s.i 15 * 1) 0 ∧ s.x.getD (0 + rbJ s.i 15 * 1) 0 < 4294967296), true, true, true, decide (0 ≤ IntKind.i64.wrap (s.i - 7)) && decide (IntKind.i64.wrap (s.i - 7) < ((80 : Nat) : Int)), decide (0 + rbJ s.i 7 * 1 + 1 ≤ 80), decide (0 ≤ IntKind.i64.wrap (s.i - 2)) && decide (IntKind.i64.wrap (s.i - 2) < ((80 : Nat) : Int)), decide (0 + rbJ s.i 2 * 1 + 1 ≤ 80), decide (0 ≤ s.x.getD (0 + rbJ s.i 2 * 1) 0 ∧ s.x.getD (0 + rbJ s.i 2 * 1) 0 < 4294967296), true, true, true, decide (0 ≤ rbRaw32 s), decide (0 ≤ s.i) && decide (s.i < ((80 : Nat) : Int)), decide (0 + s.i.toNat * 1 + 1 ≤ 80)]
theorem rb32_t2 (x : Nat → AV) (s : RbS) : seesL rbTs ((codeL Tryd.prog qS hR2 (fun _ _ => none) 100 (lp (blk 0 (bodyOf Tryd.prog 33))) ⟨tmOf (ups x (zipU rbTs (rbV 32 64 s))) 230, rbM turn32 s⟩).go [true, false]) = some (rbD32 s, 0, rbV 32 64 { s with i := IntKind.i64.wrap (s.i + 1) }, 230, rbM turn32 { s with x := s.x.set (0 + s.i.toNat * 1) (rbRaw32 s % 2 ^ 32) }) := by kernel_rfl
theorem rb32_f (x : Nat → AV) (s : RbS) : seesL rbTs ((codeL Tryd.prog qS hR2 (fun _ _ => none) 100 (lp (blk 0 (bodyOf Tryd.prog 33))) ⟨tmOf (ups x (zipU rbTs (rbV 32 64 s))) 230, rbM turn32 s⟩).go [false]) = some ([!decide (s.i < 64)], 2, rbV 32 64 s, 230, rbM turn32 s) := by kernel_rfl
def rbRaw64 (s : RbS) : Int := IntKind.u64.wrap (IntKind.u64.wrap (IntKind.u64.wrap (s.x.getD (0 + rbJ s.i 16 * 1) 0 + threeR 64 1 8 (-7) (s.x.getD (0 + rbJ s.i 15 * 1) 0)) + s.x.getD (0 + rbJ s.i 7 * 1) 0) + threeR 64 19 61 (-6) (s.x.getD (0 + rbJ s.i 2 * 1) 0))
def rbD64 (s : RbS) : List Bool := [decide (s.i < 80), !decide (s.i < 16), decide (0 ≤ IntKind.i64.wrap (s.i - 16)) && decide (IntKind.i64.wrap (s.i - 16) < ((80 : Nat) : Int)), decide (0 + rbJ s.i 16 * 1 + 1 ≤ 80), decide (0 ≤ IntKind.i64.wrap (s.i - 15)) && decide (IntKind.i64.wrap (s.i - 15) < ((80 : Nat) : Int)), decide (0 + rbJ s.i 15 * 1 + 1 ≤ 80), decide (0 ≤ s.x.getD (0 + rbJ s.i 15 * 1) 0 ∧ s.x.getD (0 + rbJ s.i 15 * 1) 0 < 18446744073709551616), true, true, true, decide (0 ≤ IntKind.i64.wrap (s.i - 7)) && decide (IntKind.i64.wrap (s.i - 7) < ((80 : Nat) : Int)), decide (0 + rbJ s.i 7 * 1 + 1 ≤ 80), decide (0 ≤ IntKind.i64.wrap (s.i - 2)) && decide (IntKind.i64.wrap (s.i - 2) < ((80 : Nat) : Int)), decide (0 + rbJ s.i 2 * 1 + 1 ≤ 80), decide (0 ≤ s.x.getD (0 + rbJ s.i 2 * 1) 0 ∧ s.x.getD (0 + rbJ s.i 2 * 1) 0 < 18446744073709551616), true, true, true, decide (0 ≤ s.i) && decide (s.i < ((80 : Nat) : Int)), decide (0 + s.i.toNat * 1 + 1 ≤ 80)]
theorem rb64_t2 (x : Nat → AV) (s : RbS) : seesL rbTs ((codeL Tryd.prog qS hR2 (fun _ _ => none) 100 (lp (blk 0 (bodyOf Tryd.prog 33))) ⟨tmOf (ups x (zipU rbTs (rbV 64 80 s))) 230, rbM turn64 s⟩).go [true, false]) = some (rbD64 s, 0, rbV 64 80 { s with i := IntKind.i64.wrap (s.i + 1) }, 230, rbM turn64 { s with x := s.x.set (0 + s.i.toNat * 1) (rbRaw64 s) }) := by kernel_rfl
theorem rb64_f (x : Nat → AV) (s : RbS) : seesL rbTs ((codeL Tryd.prog qS hR2 (fun _ _ => none) 100 (lp (blk 0 (bodyOf Tryd.prog 33))) ⟨tmOf (ups x (zipU rbTs (rbV 64 80 s))) 230, rbM turn64 s⟩).go [false]) = some ([!decide (s.i < 80)], 2, rbV 64 80 s, 230, rbM turn64 s) := by kernel_rfl
/- a round of the first words: the bytes one by one -/
def rbK32 (s : RbS) (k : Int) : Int := IntKind.i64.wrap (IntKind.i64.wrap (IntKind.i64.wrap (Int.tdiv 32 8) * s.i) + k)
def rbX32 (s : RbS) : Nat → List Int
  | 0 => s.x
  | k + 1 => (rbX32 s k).set (0 + s.i.toNat * 1) (IntKind.u64.wrap (IntKind.u64.wrap ((rbX32 s k).getD (0 + s.i.toNat * 1) 0 * 256) + IntKind.u64.wrap (s.l.getD (0 + (rbK32 s k).toNat * 1) 0)))
def rbO32 (s : RbS) : Nat → List Bool
  | 0 => []
  | k + 1 => rbO32 s k ++ [decide (0 ≤ s.i) && decide (s.i < ((80 : Nat) : Int)), decide (0 + s.i.toNat * 1 + 1 ≤ 80), decide (0 ≤ rbK32 s k) && decide (rbK32 s k < ((s.m : Nat) : Int)), decide (0 + (rbK32 s k).toNat * 1 + 1 ≤ s.n), decide (0 ≤ s.i) && decide (s.i < ((80 : Nat) : Int)), decide (0 + s.i.toNat * 1 + 1 ≤ 80)]
theorem rb32_t1 (x : Nat → AV) (s : RbS) : seesL rbTs ((codeL Tryd.prog qS hR2 (fun _ _ => none) 100 (lp (blk 0 (bodyOf Tryd.prog 33))) ⟨tmOf (ups x (zipU rbTs (rbV 32 64 s))) 230, rbM turn32 s⟩).go [true, true]) = some ([decide (s.i < 64), decide (s.i < 16)] ++ rbO32 s 4, 0, rbV 32 64 { s with i := IntKind.i64.wrap (s.i + 1) }, 230, rbM turn32 { s with x := rbX32 s 4 }) := by kernel_rfl
/- a round of the first words: the bytes one by one -/
def rbK64 (s : RbS) (k : Int) : Int := IntKind.i64.wrap (IntKind.i64.wrap (IntKind.i64.wrap (Int.tdiv 64 8) * s.i) + k)
def rbX64 (s : RbS) : Nat → List Int
  | 0 => s.x
  | k + 1 => (rbX64 s k).set (0 + s.i.toNat * 1) (IntKind.u64.wrap (IntKind.u64.wrap ((rbX64 s k).getD (0 + s.i.toNat * 1) 0 * 256) + IntKind.u64.wrap (s.l.getD (0 + (rbK64 s k).toNat * 1) 0)))
def rbO64 (s : RbS) : Nat → List Bool
  | 0 => []
  | k + 1 => rbO64 s k ++ [decide (0 ≤ s.i) && decide (s.i < ((80 : Nat) : Int)), decide (0 + s.i.toNat * 1 + 1 ≤ 80), decide (0 ≤ rbK64 s k) && decide (rbK64 s k < ((s.m : Nat) : Int)), decide (0 + (rbK64 s k).toNat * 1 + 1 ≤ s.n), decide (0 ≤ s.i) && decide (s.i < ((80 : Nat) : Int)), decide (0 + s.i.toNat * 1 + 1 ≤ 80)]
theorem rb64_t1 (x : Nat → AV) (s : RbS) : seesL rbTs ((codeL Tryd.prog qS hR2 (fun _ _ => none) 100 (lp (blk 0 (bodyOf Tryd.prog 33))) ⟨tmOf (ups x (zipU rbTs (rbV 64 80 s))) 230, rbM turn64 s⟩).go [true, true]) = some ([decide (s.i < 80), decide (s.i < 16)] ++ rbO64 s 8, 0, rbV 64 80 { s with i := IntKind.i64.wrap (s.i + 1) }, 230, rbM turn64 { s with x := rbX64 s 8 }) := by kernel_rfl
/- the rounds -/
structure RcS where
  h : List Int
  l : List Int
  n : Nat
  x : List Int
  v : List Int
  i : Int
def rcTs : List Nat := [2, 3, 6, 7, 8, 9, 10, 13, 14]
def rcV (w N : Int) (s : RcS) : List AV := [.int false .i64 w, .ptr false 3 0, .ptr false 4 0, .ptr false 5 0, .int false .i64 N, .ptr false 6 0, .ptr false 7 0, .ptr false 8 0, .int true .i64 s.i]
def rcM (t : List Int) (s : RcS) : Mem := [none, some ⟨false, .ints .u8 (some s.n) s.l⟩, none, some ⟨true, .ints .u64 (some 8) s.h⟩, some ⟨true, .ints .u64 (some 8) [0, 0, 0, 0, 0, 0, 0, 0]⟩, some ⟨true, .ints .u64 (some 80) cubeL⟩, some ⟨true, .ints .i64 (some 12) t⟩, some ⟨true, .ints .u64 (some 80) s.x⟩, some ⟨true, .ints .u64 (some 8) s.v⟩]
def rcP32 (s : RcS) (_ _ _ _ e f g h : Int) : Int := IntKind.u64.wrap (IntKind.u64.wrap (IntKind.u64.wrap (IntKind.u64.wrap (h + threeR 32 6 11 25 e) + ior .u64 (iand .u64 e f) (iand .u64 (ixor .u64 18446744073709551615 e) g)) + ishr .u64 (cubeL.getD (0 + s.i.toNat * 1) 0) 32) + s.x.getD (0 + s.i.toNat * 1) 0)
def rcQ32 (a b c : Int) : Int := IntKind.u64.wrap (threeR 32 2 13 22 a + ior .u64 (ior .u64 (iand .u64 a b) (iand .u64 a c)) (iand .u64 b c))
theorem rc32_t (x : Nat → AV) (s : RcS) (a b c d e f g h : Int) : seesL rcTs ((codeL Tryd.prog qS hR2 (fun _ _ => none) 100 (lp (blk 4 (bodyOf Tryd.prog 33))) ⟨tmOf (ups x (zipU rcTs (rcV 32 64 { s with v := [a, b, c, d, e, f, g, h] }))) 230, rcM turn32 { s with v := [a, b, c, d, e, f, g, h] }⟩).go [true]) = some ([decide (s.i < 64), decide (0 ≤ s.i) && decide (s.i < ((80 : Nat) : Int)), decide (0 + s.i.toNat * 1 + 1 ≤ 80), decide (0 ≤ e ∧ e < 4294967296), true, true, true, decide (0 ≤ s.i) && decide (s.i < ((80 : Nat) : Int)), decide (0 + s.i.toNat * 1 + 1 ≤ 80), decide (0 ≤ rcP32 s a b c d e f g h), decide (0 ≤ a ∧ a < 4294967296), true, true, true, decide (0 ≤ rcQ32 a b c), decide (0 ≤ IntKind.u64.wrap (rcP32 s a b c d e f g h % 2 ^ 32 + rcQ32 a b c % 2 ^ 32)), decide (0 ≤ IntKind.u64.wrap (d + rcP32 s a b c d e f g h % 2 ^ 32))], 0, rcV 32 64 { s with i := IntKind.i64.wrap (s.i + 1) }, 230, rcM turn32 { s with v := [IntKind.u64.wrap (rcP32 s a b c d e f g h % 2 ^ 32 + rcQ32 a b c % 2 ^ 32) % 2 ^ 32, a, b, c, IntKind.u64.wrap (d + rcP32 s a b c d e f g h % 2 ^ 32) % 2 ^ 32, e, f, g] }) := by kernel_rfl
theorem rc32_f (x : Nat → AV) (s : RcS) : seesL rcTs ((codeL Tryd.prog qS hR2 (fun _ _ => none) 100 (lp (blk 4 (bodyOf Tryd.prog 33))) ⟨tmOf (ups x (zipU rcTs (rcV 32 64 s))) 230, rcM turn32 s⟩).go [false]) = some ([!decide (s.i < 64)], 6, rcV 32 64 s, 230, rcM turn32 s) := by kernel_rfl
def rcP64 (s : RcS) (_ _ _ _ e f g h : Int) : Int := IntKind.u64.wrap (IntKind.u64.wrap (IntKind.u64.wrap (IntKind.u64.wrap (h + threeR 64 14 18 41 e) + ior .u64 (iand .u64 e f) (iand .u64 (ixor .u64 18446744073709551615 e) g)) + cubeL.getD (0 + s.i.toNat * 1) 0) + s.x.getD (0 + s.i.toNat * 1) 0)
def rcQ64 (a b c : Int) : Int := IntKind.u64.wrap (threeR 64 28 34 39 a + ior .u64 (ior .u64 (iand .u64 a b) (iand .u64 a c)) (iand .u64 b c))
theorem rc64_t (x : Nat → AV) (s : RcS) (a b c d e f g h : Int) : seesL rcTs ((codeL Tryd.prog qS hR2 (fun _ _ => none) 100 (lp (blk 4 (bodyOf Tryd.prog 33))) ⟨tmOf (ups x (zipU rcTs (rcV 64 80 { s with v := [a, b, c, d, e, f, g, h] }))) 230, rcM turn64 { s with v := [a, b, c, d, e, f, g, h] }⟩).go [true]) = some ([decide (s.i < 80), decide (0 ≤ s.i) && decide (s.i < ((80 : Nat) : Int)), decide (0 + s.i.toNat * 1 + 1 ≤ 80), decide (0 ≤ e ∧ e < 18446744073709551616), true, true, true, decide (0 ≤ s.i) && decide (s.i < ((80 : Nat) : Int)), decide (0 + s.i.toNat * 1 + 1 ≤ 80), decide (0 ≤ a ∧ a < 18446744073709551616), true, true, true], 0, rcV 64 80 { s with i := IntKind.i64.wrap (s.i + 1) }, 230, rcM turn64 { s with v := [IntKind.u64.wrap (rcP64 s a b c d e f g h + rcQ64 a b c), a, b, c, IntKind.u64.wrap (d + rcP64 s a b c d e f g h), e, f, g] }) := by kernel_rfl
theorem rc64_f (x : Nat → AV) (s : RcS) : seesL rcTs ((codeL Tryd.prog qS hR2 (fun _ _ => none) 100 (lp (blk 4 (bodyOf Tryd.prog 33))) ⟨tmOf (ups x (zipU rcTs (rcV 64 80 s))) 230, rcM turn64 s⟩).go [false]) = some ([!decide (s.i < 80)], 6, rcV 64 80 s, 230, rcM turn64 s) := by kernel_rfl
end Go.Proofs.YtjhjhhibfojpiaaDoor
