/- Layer 12's numbers: leading zeros, an INTEGER's bytes, an element's bytes. Own work. -/
import Derived.Test.YthpafpifpdeikaaUDeM
set_option linter.unusedSimpArgs false
set_option linter.unusedVariables false
set_option linter.unusedSectionVars false
namespace Go.De
open Go.Ev
def lenB (n : Nat) : List Int := if n < 128 then [(n : Int)] else if n < 256 then [129, (n : Int)] else [130, (n : Int) / 256, (n : Int) % 256]
/-- An element. -/
def putB (t : Int) (s : List Int) : List Int := t :: (lenB s.length ++ s)
theorem lenB_1 {n : Nat} (h : n < 128) : lenB n = [(n : Int)] := by unfold lenB; rw [if_pos h]
theorem lenB_2 {n : Nat} (h : ¬ n < 128) (h2 : n < 256) : lenB n = [129, (n : Int)] := by unfold lenB; rw [if_neg h, if_pos h2]
theorem lenB_3 {n : Nat} (h : ¬ n < 256) : lenB n = [130, (n : Int) / 256, (n : Int) % 256] := by unfold lenB; rw [if_neg (by omega), if_neg h]
theorem lenw1 {L : Nat} (h : L < 256) : IntKind.wrap .u8 (L : Int) = (L : Int) := by rw [wrapB]; omega
theorem lenw2 {L : Nat} (h : L < 65536) : IntKind.wrap .u8 (IntKind.wrap .i64 (Int.tdiv (L : Int) 256)) = (L : Int) / 256 := by
  rw [Int.tdiv_eq_ediv_of_nonneg (Int.natCast_nonneg _), wrapU (by omega), wrapB]; omega
theorem lenw3 {L : Nat} : IntKind.wrap .u8 (Int.tmod (L : Int) 256) = (L : Int) % 256 := by
  rw [Int.tmod_eq_emod_of_nonneg (Int.natCast_nonneg _), wrapB]; omega
end Go.De
