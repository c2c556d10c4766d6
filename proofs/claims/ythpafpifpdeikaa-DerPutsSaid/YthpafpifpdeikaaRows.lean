/-
  No cell of these rows narrows 'for every input' (looked for: loops, veiled, ifaces, maps, wideKeys, modest, calm, conditions, laid).
  DERIVED. THE GIVEN ROWS OF THIS SEAT. 8 by the template 'for every input the law returns true; each argument reads behind the call as it read before'; 0 by the template 'total and deterministic' (their statements: YthpafpifpdeikaaTotals.lean).
  GIVEN WITH THE SEED: the statements are not yours to turn. If you find one false, say at which input.
  Laid BY PROGRAM, IN A SANDBOX (cutbox-rows.mjs): the forced cells as the released guide's own fill.sh prints them over the translation f37934a49f3beae8… (all of the seat's roots in one cut). By AI agents, Wed Nov 11 2026. No macro, syntax, notation, axiom, sorry.
-/
import Derived.Test.YthpafpifpdeikaaChecked
import GoSem.Claim
import GoSem.ClaimJoined
import GoSem.ClaimMapViews
import Derived.JoinedTies
import Derived.KernelRfl
namespace Go.Proofs.Ythpafpifpdeikaa
/- THE CELL 'sum', in the pinned program and in every row, IS THE sha256 OF THE DUMP (.gsa) THAT YthpafpifpdeikaaProg.lean LOADS. Nothing in Lean hashes anything: it is a label: what it is worth is what the hold of that sum in a sandbox is worth. -/
noncomputable def Try.pinned : Pinned := { name := "ythpafpifpdeikaa", sum := "f37934a49f3beae86b524806666c08a86c81e147d63f095ae57aee76dbd65e69", checked := Try.checked }
namespace Rows
def none {H : Type} : Left H := { results := [], args := [] }

/-- 'cartouchelaw12.DerPuts': WHATEVER THE INPUT: true; the input reads as it did. -/
def derPutsSpec : ChangeSpec := { name := "derPuts", fn := fun _ => fun
  | [d1, d2] => { results := [.lit (.bool true)], args := [d1, d2] }
  | _ => none }
def derPutsRow : OpenClaim := { program := "ythpafpifpdeikaa", sum := "f37934a49f3beae86b524806666c08a86c81e147d63f095ae57aee76dbd65e69", func := "cartouche/cartouchelaw12.DerPuts", spec := "derPuts", apart := false }
def DerPutsSaid : Prop := derPutsRow.holds Try.pinned (OpenSpec.ofChange derPutsSpec)

/-- ITS FALSE NEIGHBOUR: 'it returns false'. Refute it at one input. -/
def derPutsWrong : ChangeSpec := { name := "derPuts", fn := fun _ => fun
  | [d1, d2] => { results := [.lit (.bool false)], args := [d1, d2] }
  | _ => none }
def DerPutsWrongFalsely : Prop := derPutsRow.holds Try.pinned (OpenSpec.ofChange derPutsWrong)

/-- 'cartouchelaw12.DerGets': WHATEVER THE INPUT: true; the input reads as it did. -/
def derGetsSpec : ChangeSpec := { name := "derGets", fn := fun _ => fun
  | [d] => { results := [.lit (.bool true)], args := [d] }
  | _ => none }
def derGetsRow : OpenClaim := { program := "ythpafpifpdeikaa", sum := "f37934a49f3beae86b524806666c08a86c81e147d63f095ae57aee76dbd65e69", func := "cartouche/cartouchelaw12.DerGets", spec := "derGets", apart := false }
def DerGetsSaid : Prop := derGetsRow.holds Try.pinned (OpenSpec.ofChange derGetsSpec)

/-- ITS FALSE NEIGHBOUR: 'it returns false'. Refute it at one input. -/
def derGetsWrong : ChangeSpec := { name := "derGets", fn := fun _ => fun
  | [d] => { results := [.lit (.bool false)], args := [d] }
  | _ => none }
def DerGetsWrongFalsely : Prop := derGetsRow.holds Try.pinned (OpenSpec.ofChange derGetsWrong)

/-- 'cartouchelaw12.DerReads': WHATEVER THE INPUT: true; the input reads as it did. -/
def derReadsSpec : ChangeSpec := { name := "derReads", fn := fun _ => fun
  | [d1, d2, d3] => { results := [.lit (.bool true)], args := [d1, d2, d3] }
  | _ => none }
def derReadsRow : OpenClaim := { program := "ythpafpifpdeikaa", sum := "f37934a49f3beae86b524806666c08a86c81e147d63f095ae57aee76dbd65e69", func := "cartouche/cartouchelaw12.DerReads", spec := "derReads", apart := false }
def DerReadsSaid : Prop := derReadsRow.holds Try.pinned (OpenSpec.ofChange derReadsSpec)

/-- ITS FALSE NEIGHBOUR: 'it returns false'. Refute it at one input. -/
def derReadsWrong : ChangeSpec := { name := "derReads", fn := fun _ => fun
  | [d1, d2, d3] => { results := [.lit (.bool false)], args := [d1, d2, d3] }
  | _ => none }
def DerReadsWrongFalsely : Prop := derReadsRow.holds Try.pinned (OpenSpec.ofChange derReadsWrong)

/-- 'cartouchelaw12.DerNumbers': WHATEVER THE INPUT: true; the input reads as it did. -/
def derNumbersSpec : ChangeSpec := { name := "derNumbers", fn := fun _ => fun
  | [d1, d2] => { results := [.lit (.bool true)], args := [d1, d2] }
  | _ => none }
def derNumbersRow : OpenClaim := { program := "ythpafpifpdeikaa", sum := "f37934a49f3beae86b524806666c08a86c81e147d63f095ae57aee76dbd65e69", func := "cartouche/cartouchelaw12.DerNumbers", spec := "derNumbers", apart := false }
def DerNumbersSaid : Prop := derNumbersRow.holds Try.pinned (OpenSpec.ofChange derNumbersSpec)

/-- ITS FALSE NEIGHBOUR: 'it returns false'. Refute it at one input. -/
def derNumbersWrong : ChangeSpec := { name := "derNumbers", fn := fun _ => fun
  | [d1, d2] => { results := [.lit (.bool false)], args := [d1, d2] }
  | _ => none }
def DerNumbersWrongFalsely : Prop := derNumbersRow.holds Try.pinned (OpenSpec.ofChange derNumbersWrong)

/-- 'cartouchelaw12.DerTimes': WHATEVER THE INPUT: true; the input reads as it did. -/
def derTimesSpec : ChangeSpec := { name := "derTimes", fn := fun _ => fun
  | [d1, d2, d3] => { results := [.lit (.bool true)], args := [d1, d2, d3] }
  | _ => none }
def derTimesRow : OpenClaim := { program := "ythpafpifpdeikaa", sum := "f37934a49f3beae86b524806666c08a86c81e147d63f095ae57aee76dbd65e69", func := "cartouche/cartouchelaw12.DerTimes", spec := "derTimes", apart := false }
def DerTimesSaid : Prop := derTimesRow.holds Try.pinned (OpenSpec.ofChange derTimesSpec)

/-- ITS FALSE NEIGHBOUR: 'it returns false'. Refute it at one input. -/
def derTimesWrong : ChangeSpec := { name := "derTimes", fn := fun _ => fun
  | [d1, d2, d3] => { results := [.lit (.bool false)], args := [d1, d2, d3] }
  | _ => none }
def DerTimesWrongFalsely : Prop := derTimesRow.holds Try.pinned (OpenSpec.ofChange derTimesWrong)

/-- 'cartouchelaw12.DerNone': WHATEVER THE INPUT: true; the input reads as it did. -/
def derNoneSpec : ChangeSpec := { name := "derNone", fn := fun _ => fun
  | [d] => { results := [.lit (.bool true)], args := [d] }
  | _ => none }
def derNoneRow : OpenClaim := { program := "ythpafpifpdeikaa", sum := "f37934a49f3beae86b524806666c08a86c81e147d63f095ae57aee76dbd65e69", func := "cartouche/cartouchelaw12.DerNone", spec := "derNone", apart := false }
def DerNoneSaid : Prop := derNoneRow.holds Try.pinned (OpenSpec.ofChange derNoneSpec)

/-- ITS FALSE NEIGHBOUR: 'it returns false'. Refute it at one input. -/
def derNoneWrong : ChangeSpec := { name := "derNone", fn := fun _ => fun
  | [d] => { results := [.lit (.bool false)], args := [d] }
  | _ => none }
def DerNoneWrongFalsely : Prop := derNoneRow.holds Try.pinned (OpenSpec.ofChange derNoneWrong)

/-- 'cartouchelaw12.DerShort': WHATEVER THE INPUT: true; the input reads as it did. -/
def derShortSpec : ChangeSpec := { name := "derShort", fn := fun _ => fun
  | [d] => { results := [.lit (.bool true)], args := [d] }
  | _ => none }
def derShortRow : OpenClaim := { program := "ythpafpifpdeikaa", sum := "f37934a49f3beae86b524806666c08a86c81e147d63f095ae57aee76dbd65e69", func := "cartouche/cartouchelaw12.DerShort", spec := "derShort", apart := false }
def DerShortSaid : Prop := derShortRow.holds Try.pinned (OpenSpec.ofChange derShortSpec)

/-- ITS FALSE NEIGHBOUR: 'it returns false'. Refute it at one input. -/
def derShortWrong : ChangeSpec := { name := "derShort", fn := fun _ => fun
  | [d] => { results := [.lit (.bool false)], args := [d] }
  | _ => none }
def DerShortWrongFalsely : Prop := derShortRow.holds Try.pinned (OpenSpec.ofChange derShortWrong)

/-- 'cartouchelaw12.DerNested': WHATEVER THE INPUT: true; the input reads as it did. -/
def derNestedSpec : ChangeSpec := { name := "derNested", fn := fun _ => fun
  | [d1, d2] => { results := [.lit (.bool true)], args := [d1, d2] }
  | _ => none }
def derNestedRow : OpenClaim := { program := "ythpafpifpdeikaa", sum := "f37934a49f3beae86b524806666c08a86c81e147d63f095ae57aee76dbd65e69", func := "cartouche/cartouchelaw12.DerNested", spec := "derNested", apart := false }
def DerNestedSaid : Prop := derNestedRow.holds Try.pinned (OpenSpec.ofChange derNestedSpec)

/-- ITS FALSE NEIGHBOUR: 'it returns false'. Refute it at one input. -/
def derNestedWrong : ChangeSpec := { name := "derNested", fn := fun _ => fun
  | [d1, d2] => { results := [.lit (.bool false)], args := [d1, d2] }
  | _ => none }
def DerNestedWrongFalsely : Prop := derNestedRow.holds Try.pinned (OpenSpec.ofChange derNestedWrong)

/- THE SECOND FORM. 'bulk': how many values and letters a reading holds, each counted each time it is reached (what is shared counts as often as it is met; a slice's spare places count too). A statement '..UptoSaid' is the law's where the arguments, and the package variables that the reading takes, are together of bulk at most 1048576: NARROWER than '..Said'. Prove '..Said' where nothing that the law and all that it calls make is longer than what came in: it says more and counts as full. Else prove '..UptoSaid'. A law counts once. -/
mutual
def uptoBulk {H : Type} : DataW H → Nat
  | .lit (.string bytes) => bytes.length + 1
  | .lit _ => 1
  | .nil => 1
  | .ptr d => uptoBulk d + 1
  | .slice elems spare => uptoBulkAll elems + uptoBulkAll spare + 1
  | .agg parts => uptoBulkAll parts + 1
  | .iface _ d => uptoBulk d + 1
  | .map entries => uptoBulkEntries entries + 1
  | .held _ => 1
def uptoBulkAll {H : Type} : List (DataW H) → Nat
  | [] => 0
  | d :: r => uptoBulk d + uptoBulkAll r
def uptoBulkEntries {H : Type} : List (Lit × DataW H) → Nat
  | [] => 0
  | x :: r => uptoBulkEntry x + uptoBulkEntries r
def uptoBulkEntry {H : Type} : Lit × DataW H → Nat
  | (.string bytes, d) => bytes.length + uptoBulk d + 1
  | (_, d) => uptoBulk d + 1
 end
def uptoSmall : (H : Type) → List (DataW H) → Bool := fun _ ds => decide (uptoBulkAll ds ≤ 1048576)
def OpenSpec.upto (s : _root_.Go.ChangeSpec) : _root_.Go.OpenSpec := { _root_.Go.OpenSpec.ofChange s with cond := some uptoSmall }

/-- 'cartouchelaw12.DerPuts', WHERE WHAT IT READS IS OF BULK AT MOST 1048576: true; the input reads as it did. -/
def derPutsUptoRow : OpenClaim := { program := "ythpafpifpdeikaa", sum := "f37934a49f3beae86b524806666c08a86c81e147d63f095ae57aee76dbd65e69", func := "cartouche/cartouchelaw12.DerPuts", spec := "derPuts", apart := false, narrowed := true }
def DerPutsUptoSaid : Prop := derPutsUptoRow.holds Try.pinned (OpenSpec.upto derPutsSpec)

/-- 'cartouchelaw12.DerGets', WHERE WHAT IT READS IS OF BULK AT MOST 1048576: true; the input reads as it did. -/
def derGetsUptoRow : OpenClaim := { program := "ythpafpifpdeikaa", sum := "f37934a49f3beae86b524806666c08a86c81e147d63f095ae57aee76dbd65e69", func := "cartouche/cartouchelaw12.DerGets", spec := "derGets", apart := false, narrowed := true }
def DerGetsUptoSaid : Prop := derGetsUptoRow.holds Try.pinned (OpenSpec.upto derGetsSpec)

/-- 'cartouchelaw12.DerReads', WHERE WHAT IT READS IS OF BULK AT MOST 1048576: true; the input reads as it did. -/
def derReadsUptoRow : OpenClaim := { program := "ythpafpifpdeikaa", sum := "f37934a49f3beae86b524806666c08a86c81e147d63f095ae57aee76dbd65e69", func := "cartouche/cartouchelaw12.DerReads", spec := "derReads", apart := false, narrowed := true }
def DerReadsUptoSaid : Prop := derReadsUptoRow.holds Try.pinned (OpenSpec.upto derReadsSpec)

/-- 'cartouchelaw12.DerNumbers', WHERE WHAT IT READS IS OF BULK AT MOST 1048576: true; the input reads as it did. -/
def derNumbersUptoRow : OpenClaim := { program := "ythpafpifpdeikaa", sum := "f37934a49f3beae86b524806666c08a86c81e147d63f095ae57aee76dbd65e69", func := "cartouche/cartouchelaw12.DerNumbers", spec := "derNumbers", apart := false, narrowed := true }
def DerNumbersUptoSaid : Prop := derNumbersUptoRow.holds Try.pinned (OpenSpec.upto derNumbersSpec)

/-- 'cartouchelaw12.DerTimes', WHERE WHAT IT READS IS OF BULK AT MOST 1048576: true; the input reads as it did. -/
def derTimesUptoRow : OpenClaim := { program := "ythpafpifpdeikaa", sum := "f37934a49f3beae86b524806666c08a86c81e147d63f095ae57aee76dbd65e69", func := "cartouche/cartouchelaw12.DerTimes", spec := "derTimes", apart := false, narrowed := true }
def DerTimesUptoSaid : Prop := derTimesUptoRow.holds Try.pinned (OpenSpec.upto derTimesSpec)

/-- 'cartouchelaw12.DerNone', WHERE WHAT IT READS IS OF BULK AT MOST 1048576: true; the input reads as it did. -/
def derNoneUptoRow : OpenClaim := { program := "ythpafpifpdeikaa", sum := "f37934a49f3beae86b524806666c08a86c81e147d63f095ae57aee76dbd65e69", func := "cartouche/cartouchelaw12.DerNone", spec := "derNone", apart := false, narrowed := true }
def DerNoneUptoSaid : Prop := derNoneUptoRow.holds Try.pinned (OpenSpec.upto derNoneSpec)

/-- 'cartouchelaw12.DerShort', WHERE WHAT IT READS IS OF BULK AT MOST 1048576: true; the input reads as it did. -/
def derShortUptoRow : OpenClaim := { program := "ythpafpifpdeikaa", sum := "f37934a49f3beae86b524806666c08a86c81e147d63f095ae57aee76dbd65e69", func := "cartouche/cartouchelaw12.DerShort", spec := "derShort", apart := false, narrowed := true }
def DerShortUptoSaid : Prop := derShortUptoRow.holds Try.pinned (OpenSpec.upto derShortSpec)

/-- 'cartouchelaw12.DerNested', WHERE WHAT IT READS IS OF BULK AT MOST 1048576: true; the input reads as it did. -/
def derNestedUptoRow : OpenClaim := { program := "ythpafpifpdeikaa", sum := "f37934a49f3beae86b524806666c08a86c81e147d63f095ae57aee76dbd65e69", func := "cartouche/cartouchelaw12.DerNested", spec := "derNested", apart := false, narrowed := true }
def DerNestedUptoSaid : Prop := derNestedUptoRow.holds Try.pinned (OpenSpec.upto derNestedSpec)

end Rows
end Go.Proofs.Ythpafpifpdeikaa
