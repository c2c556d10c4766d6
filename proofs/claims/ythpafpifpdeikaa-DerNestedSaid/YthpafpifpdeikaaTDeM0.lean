/- Layer 12's numbers: what bytes and masks come to. Own work. -/
import Derived.Test.YthpafpifpdeikaaTEvFam
set_option linter.unusedSimpArgs false
set_option linter.unusedVariables false
set_option linter.unusedSectionVars false
namespace Go.De
open Go.Ev
theorem wrap64 (x : Int) : IntKind.wrap .i64 x = (x + 9223372036854775808) % 18446744073709551616 - 9223372036854775808 := by
  unfold IntKind.wrap; simp [IntKind.bits, IntKind.signed]; omega
def all31 : Bool := (List.range 256).all fun x => decide (iand .u8 (x : Int) 31 = (x : Int) % 32)
theorem all31_ok : all31 = true := by kernel_rfl
theorem iand31 {x : Int} (h : 0 ≤ x ∧ x ≤ 255) : iand .u8 x 31 = x % 32 := by
  have := List.all_eq_true.1 all31_ok x.toNat (List.mem_range.2 (by omega))
  have e : ((x.toNat : Nat) : Int) = x := by omega
  rw [decide_eq_true_eq, e] at this
  exact this
def all88 : Bool := (List.range 256).all fun x => (List.range 256).all fun y => decide (ior .i64 (ishl .i64 (x : Int) 8) (y : Int) = (x : Int) * 256 + (y : Int))
theorem all88_ok : all88 = true := by kernel_rfl
theorem ior88 {x y : Int} (h : 0 ≤ x ∧ x ≤ 255) (h2 : 0 ≤ y ∧ y ≤ 255) : ior .i64 (ishl .i64 x 8) y = x * 256 + y := by
  have := List.all_eq_true.1 (List.all_eq_true.1 all88_ok x.toNat (List.mem_range.2 (by omega))) y.toNat (List.mem_range.2 (by omega))
  have e : ((x.toNat : Nat) : Int) = x := by omega
  have e2 : ((y.toNat : Nat) : Int) = y := by omega
  rw [decide_eq_true_eq, e, e2] at this
  exact this
end Go.De
