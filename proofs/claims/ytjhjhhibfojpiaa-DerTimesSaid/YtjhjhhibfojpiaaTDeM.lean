/- Layer 12's numbers: what bytes and masks come to. Own work. -/
import Derived.Test.YtjhjhhibfojpiaaTEvFam
set_option linter.unusedSimpArgs false
set_option linter.unusedVariables false
set_option linter.unusedSectionVars false
namespace Go.De
open Go.Ev
theorem wrap64 (x : Int) : IntKind.wrap .i64 x = (x + 9223372036854775808) % 18446744073709551616 - 9223372036854775808 := by
  unfold IntKind.wrap; simp [IntKind.bits, IntKind.signed]; omega
end Go.De
namespace Go.De
open Go.Ev
/-- A length's form: it and the tag before it take 1 + j bytes. -/
def frm (j N : Nat) (l : List Int) : Bool := match j with
  | 1 => decide (2 ≤ N) && decide (l.getD 1 0 < 128)
  | 2 => decide (3 ≤ N) && (l.getD 1 0 == 129) && decide (l.getD 2 0 ≥ 128)
  | _ => decide (4 ≤ N) && (l.getD 1 0 == 130) && (l.getD 2 0 != 0)
/-- How many bytes it says. -/
def nOf (j : Nat) (l : List Int) : Nat := match j with
  | 1 => (l.getD 1 0).toNat
  | 2 => (l.getD 2 0).toNat
  | _ => (l.getD 2 0 * 256 + l.getD 3 0).toNat
/-- Bytes begin with an element whose length has that form. -/
def gd (j N : Nat) (l : List Int) : Bool := frm j N l && !(l.getD 0 0 % 32 == 31) && decide (1 + j + nOf j l ≤ N)
def c1 (N : Nat) (l : List Int) : Bool := decide ((((N - 1 : Nat) : Int)) ≥ 1) && decide (l.getD 1 0 < 128)
def c2 (N : Nat) (l : List Int) : Bool := (decide ((((N - 1 : Nat) : Int)) ≥ 2) && (l.getD 1 0 == 129)) && decide (l.getD 2 0 ≥ 128)
def c3 (N : Nat) (l : List Int) : Bool := (decide ((((N - 1 : Nat) : Int)) ≥ 3) && (l.getD 1 0 == 130)) && (l.getD 2 0 != 0)
def k1 (N : Nat) : Bool := decide ((((N - 1 : Nat) : Int)) ≥ 1)
def k2 (N : Nat) : Bool := decide ((((N - 1 : Nat) : Int)) ≥ 2)
def k3 (N : Nat) : Bool := decide ((((N - 1 : Nat) : Int)) ≥ 3)
def i1 (N : Nat) : Bool := decide ((0 : Int) ≤ 0) && decide ((0 : Int) < ((N - 1 : Nat) : Int))
def i2 (N : Nat) : Bool := decide ((0 : Int) ≤ 1) && decide ((1 : Int) < ((N - 1 : Nat) : Int))
end Go.De
