/- What the rows of layer 1's laws share: arguments that are numbers of four words. Own work. -/
import Derived.Test.YtdpaedcgbhlibaaWordsC
import Derived.Test.YtdpaedcgbhlibaaRows
namespace Go.Proofs.Ytdpaedcgbhlibaa
open Go.Ev Go.Wn
open Go.ChangeShapes Go.WideShapes Go.ChangeAt Go.RowKit
theorem numOf {l : List Int} (hl : l.length = 4) (h : ∀ x ∈ l, inR .u64 x = true) : ∃ a0 a1 a2 a3, l = [a0, a1, a2, a3] ∧ W a0 ∧ W a1 ∧ W a2 ∧ W a3 := num_arg (ρ := fun _ => ⟨0, 0, 0⟩) (N := fun _ => False) (.ints .u64 4 l hl h)
theorem own : ownKnob Try.prog.godebug = none := by kernel_rfl
theorem laidOut : laidOutB Try.prog = true := by kernel_rfl
theorem cellsNum : Try.prog.cellsOf 24 = 4 := by kernel_rfl
theorem typesNum : Try.prog.cellTypes Try.prog.depth 24 = some [22, 22, 22, 22] := by kernel_rfl
theorem num_open {W : World} {base : Nat} {v : Value} (h : Value.okWide Try.prog W .any base 24 v) : ∃ l : List Int, l.length = 4 ∧ v = .agg (l.map (Value.int .u64)).toArray ∧ ∀ x ∈ l, inR .u64 x = true :=
  arr_rep Try.underlying24 cellsNum typesNum (e := 22) (by intro x hx; simp at hx; exact hx) Try.underlying22 h
end Go.Proofs.Ytdpaedcgbhlibaa
