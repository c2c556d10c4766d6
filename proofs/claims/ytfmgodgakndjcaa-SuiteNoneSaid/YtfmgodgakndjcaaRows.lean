/-
  No cell of these rows narrows 'for every input' (looked for: loops, veiled, ifaces, maps, wideKeys, modest, calm, conditions, laid).
  DERIVED. THE GIVEN ROWS OF THIS SEAT. 6 by the template 'for every input the law returns true; each argument reads behind the call as it read before'; 0 by the template 'total and deterministic' (their statements: YtfmgodgakndjcaaTotals.lean).
  GIVEN WITH THE SEED: the statements are not yours to turn. If you find one false, say at which input.
  Laid BY PROGRAM, IN A SANDBOX (cutbox-rows.mjs): the forced cells as the released guide's own fill.sh prints them over the translation 53c01f653902bbaf… (all of the seat's roots in one cut). By AI agents, Wed Nov 11 2026. No macro, syntax, notation, axiom, sorry.
-/
import Derived.Test.YtfmgodgakndjcaaChecked
import GoSem.Claim
import GoSem.ClaimJoined
import GoSem.ClaimMapViews
import Derived.JoinedTies
import Derived.KernelRfl
namespace Go.Proofs.Ytfmgodgakndjcaa
/- THE CELL 'sum', in the pinned program and in every row, IS THE sha256 OF THE DUMP (.gsa) THAT YtfmgodgakndjcaaProg.lean LOADS. Nothing in Lean hashes anything: it is a label: what it is worth is what the hold of that sum in a sandbox is worth. -/
noncomputable def Try.pinned : Pinned := { name := "ytfmgodgakndjcaa", sum := "53c01f653902bbaf29e43732f00a61c413d8831dd08e8e1e75741b54c4a9cbf3", checked := Try.checked }
namespace Rows
def none {H : Type} : Left H := { results := [], args := [] }

/-- 'cartouchelaw06.GcmOpens': WHATEVER THE INPUT: true; the input reads as it did. -/
def gcmOpensSpec : ChangeSpec := { name := "gcmOpens", fn := fun _ => fun
  | [d1, d2, d3] => { results := [.lit (.bool true)], args := [d1, d2, d3] }
  | _ => none }
def gcmOpensRow : OpenClaim := { program := "ytfmgodgakndjcaa", sum := "53c01f653902bbaf29e43732f00a61c413d8831dd08e8e1e75741b54c4a9cbf3", func := "cartouche/cartouchelaw06.GcmOpens", spec := "gcmOpens", apart := false }
def GcmOpensSaid : Prop := gcmOpensRow.holds Try.pinned (OpenSpec.ofChange gcmOpensSpec)

/-- ITS FALSE NEIGHBOUR: 'it returns false'. Refute it at one input. -/
def gcmOpensWrong : ChangeSpec := { name := "gcmOpens", fn := fun _ => fun
  | [d1, d2, d3] => { results := [.lit (.bool false)], args := [d1, d2, d3] }
  | _ => none }
def GcmOpensWrongFalsely : Prop := gcmOpensRow.holds Try.pinned (OpenSpec.ofChange gcmOpensWrong)

/-- 'cartouchelaw07.ChachaOpens': WHATEVER THE INPUT: true; the input reads as it did. -/
def chachaOpensSpec : ChangeSpec := { name := "chachaOpens", fn := fun _ => fun
  | [d1, d2, d3] => { results := [.lit (.bool true)], args := [d1, d2, d3] }
  | _ => none }
def chachaOpensRow : OpenClaim := { program := "ytfmgodgakndjcaa", sum := "53c01f653902bbaf29e43732f00a61c413d8831dd08e8e1e75741b54c4a9cbf3", func := "cartouche/cartouchelaw07.ChachaOpens", spec := "chachaOpens", inPlace := ["math/bits.Add64", "math/bits.Sub64"], named := ["math/bits.divideError", "math/bits.overflowError"], apart := false }
def ChachaOpensSaid : Prop := chachaOpensRow.holds Try.pinned (OpenSpec.ofChange chachaOpensSpec)

/-- ITS FALSE NEIGHBOUR: 'it returns false'. Refute it at one input. -/
def chachaOpensWrong : ChangeSpec := { name := "chachaOpens", fn := fun _ => fun
  | [d1, d2, d3] => { results := [.lit (.bool false)], args := [d1, d2, d3] }
  | _ => none }
def ChachaOpensWrongFalsely : Prop := chachaOpensRow.holds Try.pinned (OpenSpec.ofChange chachaOpensWrong)

/-- 'cartouchelaw08.SuiteSeals': WHATEVER THE INPUT: true; the input reads as it did. -/
def suiteSealsSpec : ChangeSpec := { name := "suiteSeals", fn := fun _ => fun
  | [d] => { results := [.lit (.bool true)], args := [d] }
  | _ => none }
def suiteSealsRow : OpenClaim := { program := "ytfmgodgakndjcaa", sum := "53c01f653902bbaf29e43732f00a61c413d8831dd08e8e1e75741b54c4a9cbf3", func := "cartouche/cartouchelaw08.SuiteSeals", spec := "suiteSeals", inPlace := ["math/bits.Add64", "math/bits.Sub64"], unfollowed := true, recurses := true, named := ["math/bits.divideError", "math/bits.overflowError"], apart := false }
def SuiteSealsSaid : Prop := suiteSealsRow.holds Try.pinned (OpenSpec.ofChange suiteSealsSpec)

/-- ITS FALSE NEIGHBOUR: 'it returns false'. Refute it at one input. -/
def suiteSealsWrong : ChangeSpec := { name := "suiteSeals", fn := fun _ => fun
  | [d] => { results := [.lit (.bool false)], args := [d] }
  | _ => none }
def SuiteSealsWrongFalsely : Prop := suiteSealsRow.holds Try.pinned (OpenSpec.ofChange suiteSealsWrong)

/-- 'cartouchelaw08.SuiteOpens': WHATEVER THE INPUT: true; the input reads as it did. -/
def suiteOpensSpec : ChangeSpec := { name := "suiteOpens", fn := fun _ => fun
  | [d1, d2, d3] => { results := [.lit (.bool true)], args := [d1, d2, d3] }
  | _ => none }
def suiteOpensRow : OpenClaim := { program := "ytfmgodgakndjcaa", sum := "53c01f653902bbaf29e43732f00a61c413d8831dd08e8e1e75741b54c4a9cbf3", func := "cartouche/cartouchelaw08.SuiteOpens", spec := "suiteOpens", inPlace := ["math/bits.Add64", "math/bits.Sub64"], unfollowed := true, recurses := true, named := ["math/bits.divideError", "math/bits.overflowError"], apart := false }
def SuiteOpensSaid : Prop := suiteOpensRow.holds Try.pinned (OpenSpec.ofChange suiteOpensSpec)

/-- ITS FALSE NEIGHBOUR: 'it returns false'. Refute it at one input. -/
def suiteOpensWrong : ChangeSpec := { name := "suiteOpens", fn := fun _ => fun
  | [d1, d2, d3] => { results := [.lit (.bool false)], args := [d1, d2, d3] }
  | _ => none }
def SuiteOpensWrongFalsely : Prop := suiteOpensRow.holds Try.pinned (OpenSpec.ofChange suiteOpensWrong)

/-- 'cartouchelaw08.SuiteNonces': WHATEVER THE INPUT: true; the input reads as it did. -/
def suiteNoncesSpec : ChangeSpec := { name := "suiteNonces", fn := fun _ => fun
  | [d1, d2, d3] => { results := [.lit (.bool true)], args := [d1, d2, d3] }
  | _ => none }
def suiteNoncesRow : OpenClaim := { program := "ytfmgodgakndjcaa", sum := "53c01f653902bbaf29e43732f00a61c413d8831dd08e8e1e75741b54c4a9cbf3", func := "cartouche/cartouchelaw08.SuiteNonces", spec := "suiteNonces", unfollowed := true, recurses := true, apart := false }
def SuiteNoncesSaid : Prop := suiteNoncesRow.holds Try.pinned (OpenSpec.ofChange suiteNoncesSpec)

/-- ITS FALSE NEIGHBOUR: 'it returns false'. Refute it at one input. -/
def suiteNoncesWrong : ChangeSpec := { name := "suiteNonces", fn := fun _ => fun
  | [d1, d2, d3] => { results := [.lit (.bool false)], args := [d1, d2, d3] }
  | _ => none }
def SuiteNoncesWrongFalsely : Prop := suiteNoncesRow.holds Try.pinned (OpenSpec.ofChange suiteNoncesWrong)

/-- 'cartouchelaw08.SuiteNone': WHATEVER THE INPUT: true; the input reads as it did. -/
def suiteNoneSpec : ChangeSpec := { name := "suiteNone", fn := fun _ => fun
  | [d1, d2, d3] => { results := [.lit (.bool true)], args := [d1, d2, d3] }
  | _ => none }
def suiteNoneRow : OpenClaim := { program := "ytfmgodgakndjcaa", sum := "53c01f653902bbaf29e43732f00a61c413d8831dd08e8e1e75741b54c4a9cbf3", func := "cartouche/cartouchelaw08.SuiteNone", spec := "suiteNone", unfollowed := true, recurses := true, apart := false }
def SuiteNoneSaid : Prop := suiteNoneRow.holds Try.pinned (OpenSpec.ofChange suiteNoneSpec)

/-- ITS FALSE NEIGHBOUR: 'it returns false'. Refute it at one input. -/
def suiteNoneWrong : ChangeSpec := { name := "suiteNone", fn := fun _ => fun
  | [d1, d2, d3] => { results := [.lit (.bool false)], args := [d1, d2, d3] }
  | _ => none }
def SuiteNoneWrongFalsely : Prop := suiteNoneRow.holds Try.pinned (OpenSpec.ofChange suiteNoneWrong)

/- THE SECOND FORM. 'bulk': how many values and letters a reading holds, each counted each time it is reached (what is shared counts as often as it is met; a slice's spare places count too). A statement '..UptoSaid' is the law's where the arguments, and the package variables that the reading takes, are together of bulk at most 1048576: NARROWER than '..Said'. Prove '..Said' where nothing that the law and all that it calls make is longer than what came in: it says more and counts as full. Else prove '..UptoSaid'. A law counts once. -/
mutual
def uptoBulk {H : Type} : DataW H → Nat
  | .lit (.string bytes) => bytes.length + 1
  | .lit _ => 1
  | .nil => 1
  | .ptr d => uptoBulk d + 1
  | .slice elems spare => uptoBulkAll elems + uptoBulkAll spare + 1
  | .agg parts => uptoBulkAll parts + 1
  | .iface _ d => uptoBulk d + 1
  | .map entries => uptoBulkEntries entries + 1
  | .held _ => 1
def uptoBulkAll {H : Type} : List (DataW H) → Nat
  | [] => 0
  | d :: r => uptoBulk d + uptoBulkAll r
def uptoBulkEntries {H : Type} : List (Lit × DataW H) → Nat
  | [] => 0
  | x :: r => uptoBulkEntry x + uptoBulkEntries r
def uptoBulkEntry {H : Type} : Lit × DataW H → Nat
  | (.string bytes, d) => bytes.length + uptoBulk d + 1
  | (_, d) => uptoBulk d + 1
 end
def uptoSmall : (H : Type) → List (DataW H) → Bool := fun _ ds => decide (uptoBulkAll ds ≤ 1048576)
def OpenSpec.upto (s : _root_.Go.ChangeSpec) : _root_.Go.OpenSpec := { _root_.Go.OpenSpec.ofChange s with cond := some uptoSmall }

/-- 'cartouchelaw06.GcmOpens', WHERE WHAT IT READS IS OF BULK AT MOST 1048576: true; the input reads as it did. -/
def gcmOpensUptoRow : OpenClaim := { program := "ytfmgodgakndjcaa", sum := "53c01f653902bbaf29e43732f00a61c413d8831dd08e8e1e75741b54c4a9cbf3", func := "cartouche/cartouchelaw06.GcmOpens", spec := "gcmOpens", apart := false, narrowed := true }
def GcmOpensUptoSaid : Prop := gcmOpensUptoRow.holds Try.pinned (OpenSpec.upto gcmOpensSpec)

/-- 'cartouchelaw07.ChachaOpens', WHERE WHAT IT READS IS OF BULK AT MOST 1048576: true; the input reads as it did. -/
def chachaOpensUptoRow : OpenClaim := { program := "ytfmgodgakndjcaa", sum := "53c01f653902bbaf29e43732f00a61c413d8831dd08e8e1e75741b54c4a9cbf3", func := "cartouche/cartouchelaw07.ChachaOpens", spec := "chachaOpens", inPlace := ["math/bits.Add64", "math/bits.Sub64"], named := ["math/bits.divideError", "math/bits.overflowError"], apart := false, narrowed := true }
def ChachaOpensUptoSaid : Prop := chachaOpensUptoRow.holds Try.pinned (OpenSpec.upto chachaOpensSpec)

/-- 'cartouchelaw08.SuiteSeals', WHERE WHAT IT READS IS OF BULK AT MOST 1048576: true; the input reads as it did. -/
def suiteSealsUptoRow : OpenClaim := { program := "ytfmgodgakndjcaa", sum := "53c01f653902bbaf29e43732f00a61c413d8831dd08e8e1e75741b54c4a9cbf3", func := "cartouche/cartouchelaw08.SuiteSeals", spec := "suiteSeals", inPlace := ["math/bits.Add64", "math/bits.Sub64"], unfollowed := true, recurses := true, named := ["math/bits.divideError", "math/bits.overflowError"], apart := false, narrowed := true }
def SuiteSealsUptoSaid : Prop := suiteSealsUptoRow.holds Try.pinned (OpenSpec.upto suiteSealsSpec)

/-- 'cartouchelaw08.SuiteOpens', WHERE WHAT IT READS IS OF BULK AT MOST 1048576: true; the input reads as it did. -/
def suiteOpensUptoRow : OpenClaim := { program := "ytfmgodgakndjcaa", sum := "53c01f653902bbaf29e43732f00a61c413d8831dd08e8e1e75741b54c4a9cbf3", func := "cartouche/cartouchelaw08.SuiteOpens", spec := "suiteOpens", inPlace := ["math/bits.Add64", "math/bits.Sub64"], unfollowed := true, recurses := true, named := ["math/bits.divideError", "math/bits.overflowError"], apart := false, narrowed := true }
def SuiteOpensUptoSaid : Prop := suiteOpensUptoRow.holds Try.pinned (OpenSpec.upto suiteOpensSpec)

/-- 'cartouchelaw08.SuiteNonces', WHERE WHAT IT READS IS OF BULK AT MOST 1048576: true; the input reads as it did. -/
def suiteNoncesUptoRow : OpenClaim := { program := "ytfmgodgakndjcaa", sum := "53c01f653902bbaf29e43732f00a61c413d8831dd08e8e1e75741b54c4a9cbf3", func := "cartouche/cartouchelaw08.SuiteNonces", spec := "suiteNonces", unfollowed := true, recurses := true, apart := false, narrowed := true }
def SuiteNoncesUptoSaid : Prop := suiteNoncesUptoRow.holds Try.pinned (OpenSpec.upto suiteNoncesSpec)

/-- 'cartouchelaw08.SuiteNone', WHERE WHAT IT READS IS OF BULK AT MOST 1048576: true; the input reads as it did. -/
def suiteNoneUptoRow : OpenClaim := { program := "ytfmgodgakndjcaa", sum := "53c01f653902bbaf29e43732f00a61c413d8831dd08e8e1e75741b54c4a9cbf3", func := "cartouche/cartouchelaw08.SuiteNone", spec := "suiteNone", unfollowed := true, recurses := true, apart := false, narrowed := true }
def SuiteNoneUptoSaid : Prop := suiteNoneUptoRow.holds Try.pinned (OpenSpec.upto suiteNoneSpec)

end Rows
end Go.Proofs.Ytfmgodgakndjcaa
