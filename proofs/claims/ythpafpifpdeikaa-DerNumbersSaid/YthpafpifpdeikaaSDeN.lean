/- Layer 12's numbers: leading zeros, an INTEGER's bytes, an element's bytes. Own work. -/
import Derived.Test.YthpafpifpdeikaaSDeM
set_option linter.unusedSimpArgs false
set_option linter.unusedVariables false
set_option linter.unusedSectionVars false
namespace Go.De
open Go.Ev
/-- How many zeros stand ahead. -/
def zer : List Int → Nat
  | [] => 0
  | x :: r => if x = 0 then zer r + 1 else 0
theorem zer_le : ∀ l : List Int, zer l ≤ l.length
  | [] => Nat.le_refl _
  | x :: r => by
    unfold zer
    have := zer_le r
    split <;> simp only [List.length_cons] <;> omega
theorem zer_at : ∀ (l : List Int) (i : Nat), i < zer l → l.getD i 0 = 0
  | [], i, h => by simp
  | x :: r, i, h => by
    unfold zer at h
    split at h
    · rename_i hx
      cases i with
      | zero => simpa using hx
      | succ i => simpa using zer_at r i (by omega)
    · omega
theorem zer_end : ∀ (l : List Int), zer l < l.length → l.getD (zer l) 0 ≠ 0
  | [], h => by simp at h
  | x :: r, h => by
    unfold zer at h ⊢
    split at h
    · rename_i hx
      rw [if_pos hx]
      have := zer_end r (by simp only [List.length_cons] at h; omega)
      simpa using this
    · rename_i hx
      rw [if_neg hx]
      simpa using hx
/-- The bytes behind the zeros ahead. -/
def tz (l : List Int) : List Int := List.drop (zer l) l
/-- An INTEGER's bytes. -/
def natB (l : List Int) : List Int := match tz l with
  | [] => [0]
  | x :: r => if x ≥ 128 then 0 :: x :: r else x :: r
def lenB (n : Nat) : List Int := if n < 128 then [(n : Int)] else if n < 256 then [129, (n : Int)] else [130, (n : Int) / 256, (n : Int) % 256]
/-- An element. -/
def putB (t : Int) (s : List Int) : List Int := t :: (lenB s.length ++ s)
def natC (l : List Int) : List Int := putB 2 (natB l)
theorem tz_len (l : List Int) : (tz l).length = l.length - zer l := by simp [tz]
theorem tz_nil {l : List Int} (h : zer l = l.length) : tz l = [] := by
  unfold tz; rw [h]; simp
theorem tz_head {l : List Int} (h : zer l < l.length) : tz l = l.getD (zer l) 0 :: List.drop (zer l + 1) l := by
  unfold tz
  rw [List.drop_eq_getElem_cons h, List.getD_eq_getElem?_getD, List.getElem?_eq_getElem h]
  rfl
theorem natB_len (l : List Int) : (natB l).length ≤ l.length + 1 ∧ 1 ≤ (natB l).length := by
  unfold natB
  have := tz_len l
  split
  · simp
  · rename_i x r e
    rw [e] at this
    simp only [List.length_cons] at this
    split <;> simp only [List.length_cons] <;> omega
theorem lenB_1 {n : Nat} (h : n < 128) : lenB n = [(n : Int)] := by unfold lenB; rw [if_pos h]
theorem lenB_2 {n : Nat} (h : ¬ n < 128) (h2 : n < 256) : lenB n = [129, (n : Int)] := by unfold lenB; rw [if_neg h, if_pos h2]
theorem lenB_3 {n : Nat} (h : ¬ n < 256) : lenB n = [130, (n : Int) / 256, (n : Int) % 256] := by unfold lenB; rw [if_neg (by omega), if_neg h]
theorem natB_0 {l : List Int} (h : zer l = l.length ∨ 128 ≤ l.getD (zer l) 0) : natB l = 0 :: tz l := by
  unfold natB
  by_cases h0 : zer l = l.length
  · rw [tz_nil h0]
  · rw [tz_head (by have := zer_le l; omega)]
    rcases h with h | h
    · exact absurd h h0
    · simp only; rw [if_pos h]
theorem natB_t {l : List Int} (h0 : zer l < l.length) (h : l.getD (zer l) 0 < 128) : natB l = tz l := by
  unfold natB
  rw [tz_head h0]
  simp only
  rw [if_neg (by omega)]
theorem lenw1 {L : Nat} (h : L < 256) : IntKind.wrap .u8 (L : Int) = (L : Int) := by rw [wrapB]; omega
theorem lenw2 {L : Nat} (h : L < 65536) : IntKind.wrap .u8 (IntKind.wrap .i64 (Int.tdiv (L : Int) 256)) = (L : Int) / 256 := by
  rw [Int.tdiv_eq_ediv_of_nonneg (Int.natCast_nonneg _), wrapU (by omega), wrapB]; omega
theorem lenw3 {L : Nat} : IntKind.wrap .u8 (Int.tmod (L : Int) 256) = (L : Int) % 256 := by
  rw [Int.tmod_eq_emod_of_nonneg (Int.natCast_nonneg _), wrapB]; omega
end Go.De
