/-
  No cell of these rows narrows 'for every input' (looked for: loops, veiled, ifaces, maps, wideKeys, modest, calm, conditions, laid).
  DERIVED. THE GIVEN ROWS OF THIS SEAT. 8 by the template 'for every input the law returns true; each argument reads behind the call as it read before'; 0 by the template 'total and deterministic' (their statements: YtpbemjifhampcaaTotals.lean).
  GIVEN WITH THE SEED: the statements are not yours to turn. If you find one false, say at which input.
  Laid BY PROGRAM, IN A SANDBOX (cutbox-rows.mjs): the forced cells as the released guide's own fill.sh prints them over the translation c2fbe1458c45e18f… (all of the seat's roots in one cut). By AI agents, Wed Nov 11 2026. No macro, syntax, notation, axiom, sorry.
-/
import Derived.Test.YtpbemjifhampcaaChecked
import GoSem.Claim
import GoSem.ClaimJoined
import GoSem.ClaimMapViews
import Derived.JoinedTies
import Derived.KernelRfl
namespace Go.Proofs.Ytpbemjifhampcaa
/- THE CELL 'sum', in the pinned program and in every row, IS THE sha256 OF THE DUMP (.gsa) THAT YtpbemjifhampcaaProg.lean LOADS. Nothing in Lean hashes anything: it is a label: what it is worth is what the hold of that sum in a sandbox is worth. -/
noncomputable def Try.pinned : Pinned := { name := "ytpbemjifhampcaa", sum := "c2fbe1458c45e18faeb276b563c75de26a1f6fa632506a65a23257c647542c7f", checked := Try.checked }
namespace Rows
def none {H : Type} : Left H := { results := [], args := [] }

/-- 'cartouchelaw06.GcmSeals': WHATEVER THE INPUT: true; the input reads as it did. -/
def gcmSealsSpec : ChangeSpec := { name := "gcmSeals", fn := fun _ => fun
  | [d] => { results := [.lit (.bool true)], args := [d] }
  | _ => none }
def gcmSealsRow : OpenClaim := { program := "ytpbemjifhampcaa", sum := "c2fbe1458c45e18faeb276b563c75de26a1f6fa632506a65a23257c647542c7f", func := "cartouche/cartouchelaw06.GcmSeals", spec := "gcmSeals", apart := false }
def GcmSealsSaid : Prop := gcmSealsRow.holds Try.pinned (OpenSpec.ofChange gcmSealsSpec)

/-- ITS FALSE NEIGHBOUR: 'it returns false'. Refute it at one input. -/
def gcmSealsWrong : ChangeSpec := { name := "gcmSeals", fn := fun _ => fun
  | [d] => { results := [.lit (.bool false)], args := [d] }
  | _ => none }
def GcmSealsWrongFalsely : Prop := gcmSealsRow.holds Try.pinned (OpenSpec.ofChange gcmSealsWrong)

/-- 'cartouchelaw06.GcmOpens': WHATEVER THE INPUT: true; the input reads as it did. -/
def gcmOpensSpec : ChangeSpec := { name := "gcmOpens", fn := fun _ => fun
  | [d1, d2, d3] => { results := [.lit (.bool true)], args := [d1, d2, d3] }
  | _ => none }
def gcmOpensRow : OpenClaim := { program := "ytpbemjifhampcaa", sum := "c2fbe1458c45e18faeb276b563c75de26a1f6fa632506a65a23257c647542c7f", func := "cartouche/cartouchelaw06.GcmOpens", spec := "gcmOpens", apart := false }
def GcmOpensSaid : Prop := gcmOpensRow.holds Try.pinned (OpenSpec.ofChange gcmOpensSpec)

/-- ITS FALSE NEIGHBOUR: 'it returns false'. Refute it at one input. -/
def gcmOpensWrong : ChangeSpec := { name := "gcmOpens", fn := fun _ => fun
  | [d1, d2, d3] => { results := [.lit (.bool false)], args := [d1, d2, d3] }
  | _ => none }
def GcmOpensWrongFalsely : Prop := gcmOpensRow.holds Try.pinned (OpenSpec.ofChange gcmOpensWrong)

/-- 'cartouchelaw07.ChachaBlocks': WHATEVER THE INPUT: true; the input reads as it did. -/
def chachaBlocksSpec : ChangeSpec := { name := "chachaBlocks", fn := fun _ => fun
  | [d1, d2] => { results := [.lit (.bool true)], args := [d1, d2] }
  | _ => none }
def chachaBlocksRow : OpenClaim := { program := "ytpbemjifhampcaa", sum := "c2fbe1458c45e18faeb276b563c75de26a1f6fa632506a65a23257c647542c7f", func := "cartouche/cartouchelaw07.ChachaBlocks", spec := "chachaBlocks", inPlace := ["math/bits.Add64"], apart := false }
def ChachaBlocksSaid : Prop := chachaBlocksRow.holds Try.pinned (OpenSpec.ofChange chachaBlocksSpec)

/-- ITS FALSE NEIGHBOUR: 'it returns false'. Refute it at one input. -/
def chachaBlocksWrong : ChangeSpec := { name := "chachaBlocks", fn := fun _ => fun
  | [d1, d2] => { results := [.lit (.bool false)], args := [d1, d2] }
  | _ => none }
def ChachaBlocksWrongFalsely : Prop := chachaBlocksRow.holds Try.pinned (OpenSpec.ofChange chachaBlocksWrong)

/-- 'cartouchelaw07.ChachaCodes': WHATEVER THE INPUT: true; the input reads as it did. -/
def chachaCodesSpec : ChangeSpec := { name := "chachaCodes", fn := fun _ => fun
  | [d1, d2] => { results := [.lit (.bool true)], args := [d1, d2] }
  | _ => none }
def chachaCodesRow : OpenClaim := { program := "ytpbemjifhampcaa", sum := "c2fbe1458c45e18faeb276b563c75de26a1f6fa632506a65a23257c647542c7f", func := "cartouche/cartouchelaw07.ChachaCodes", spec := "chachaCodes", inPlace := ["math/bits.Add64", "math/bits.Sub64"], named := ["math/bits.divideError", "math/bits.overflowError"], apart := false }
def ChachaCodesSaid : Prop := chachaCodesRow.holds Try.pinned (OpenSpec.ofChange chachaCodesSpec)

/-- ITS FALSE NEIGHBOUR: 'it returns false'. Refute it at one input. -/
def chachaCodesWrong : ChangeSpec := { name := "chachaCodes", fn := fun _ => fun
  | [d1, d2] => { results := [.lit (.bool false)], args := [d1, d2] }
  | _ => none }
def ChachaCodesWrongFalsely : Prop := chachaCodesRow.holds Try.pinned (OpenSpec.ofChange chachaCodesWrong)

/-- 'cartouchelaw07.ChachaSeals': WHATEVER THE INPUT: true; the input reads as it did. -/
def chachaSealsSpec : ChangeSpec := { name := "chachaSeals", fn := fun _ => fun
  | [d] => { results := [.lit (.bool true)], args := [d] }
  | _ => none }
def chachaSealsRow : OpenClaim := { program := "ytpbemjifhampcaa", sum := "c2fbe1458c45e18faeb276b563c75de26a1f6fa632506a65a23257c647542c7f", func := "cartouche/cartouchelaw07.ChachaSeals", spec := "chachaSeals", inPlace := ["math/bits.Add64", "math/bits.Sub64"], named := ["math/bits.divideError", "math/bits.overflowError"], apart := false }
def ChachaSealsSaid : Prop := chachaSealsRow.holds Try.pinned (OpenSpec.ofChange chachaSealsSpec)

/-- ITS FALSE NEIGHBOUR: 'it returns false'. Refute it at one input. -/
def chachaSealsWrong : ChangeSpec := { name := "chachaSeals", fn := fun _ => fun
  | [d] => { results := [.lit (.bool false)], args := [d] }
  | _ => none }
def ChachaSealsWrongFalsely : Prop := chachaSealsRow.holds Try.pinned (OpenSpec.ofChange chachaSealsWrong)

/-- 'cartouchelaw07.ChachaBack': WHATEVER THE INPUT: true; the input reads as it did. -/
def chachaBackSpec : ChangeSpec := { name := "chachaBack", fn := fun _ => fun
  | [d] => { results := [.lit (.bool true)], args := [d] }
  | _ => none }
def chachaBackRow : OpenClaim := { program := "ytpbemjifhampcaa", sum := "c2fbe1458c45e18faeb276b563c75de26a1f6fa632506a65a23257c647542c7f", func := "cartouche/cartouchelaw07.ChachaBack", spec := "chachaBack", inPlace := ["math/bits.Add64"], apart := false }
def ChachaBackSaid : Prop := chachaBackRow.holds Try.pinned (OpenSpec.ofChange chachaBackSpec)

/-- ITS FALSE NEIGHBOUR: 'it returns false'. Refute it at one input. -/
def chachaBackWrong : ChangeSpec := { name := "chachaBack", fn := fun _ => fun
  | [d] => { results := [.lit (.bool false)], args := [d] }
  | _ => none }
def ChachaBackWrongFalsely : Prop := chachaBackRow.holds Try.pinned (OpenSpec.ofChange chachaBackWrong)

/-- 'cartouchelaw07.ChachaOpens': WHATEVER THE INPUT: true; the input reads as it did. -/
def chachaOpensSpec : ChangeSpec := { name := "chachaOpens", fn := fun _ => fun
  | [d1, d2, d3] => { results := [.lit (.bool true)], args := [d1, d2, d3] }
  | _ => none }
def chachaOpensRow : OpenClaim := { program := "ytpbemjifhampcaa", sum := "c2fbe1458c45e18faeb276b563c75de26a1f6fa632506a65a23257c647542c7f", func := "cartouche/cartouchelaw07.ChachaOpens", spec := "chachaOpens", inPlace := ["math/bits.Add64", "math/bits.Sub64"], named := ["math/bits.divideError", "math/bits.overflowError"], apart := false }
def ChachaOpensSaid : Prop := chachaOpensRow.holds Try.pinned (OpenSpec.ofChange chachaOpensSpec)

/-- ITS FALSE NEIGHBOUR: 'it returns false'. Refute it at one input. -/
def chachaOpensWrong : ChangeSpec := { name := "chachaOpens", fn := fun _ => fun
  | [d1, d2, d3] => { results := [.lit (.bool false)], args := [d1, d2, d3] }
  | _ => none }
def ChachaOpensWrongFalsely : Prop := chachaOpensRow.holds Try.pinned (OpenSpec.ofChange chachaOpensWrong)

/-- 'cartouchelaw07.ChachaStream': WHATEVER THE INPUT: true; the input reads as it did. -/
def chachaStreamSpec : ChangeSpec := { name := "chachaStream", fn := fun _ => fun
  | [d1, d2, d3] => { results := [.lit (.bool true)], args := [d1, d2, d3] }
  | _ => none }
def chachaStreamRow : OpenClaim := { program := "ytpbemjifhampcaa", sum := "c2fbe1458c45e18faeb276b563c75de26a1f6fa632506a65a23257c647542c7f", func := "cartouche/cartouchelaw07.ChachaStream", spec := "chachaStream", inPlace := ["math/bits.Add64"], apart := false }
def ChachaStreamSaid : Prop := chachaStreamRow.holds Try.pinned (OpenSpec.ofChange chachaStreamSpec)

/-- ITS FALSE NEIGHBOUR: 'it returns false'. Refute it at one input. -/
def chachaStreamWrong : ChangeSpec := { name := "chachaStream", fn := fun _ => fun
  | [d1, d2, d3] => { results := [.lit (.bool false)], args := [d1, d2, d3] }
  | _ => none }
def ChachaStreamWrongFalsely : Prop := chachaStreamRow.holds Try.pinned (OpenSpec.ofChange chachaStreamWrong)

/- THE SECOND FORM. 'bulk': how many values and letters a reading holds, each counted each time it is reached (what is shared counts as often as it is met; a slice's spare places count too). A statement '..UptoSaid' is the law's where the arguments, and the package variables that the reading takes, are together of bulk at most 1048576: NARROWER than '..Said'. Prove '..Said' where nothing that the law and all that it calls make is longer than what came in: it says more and counts as full. Else prove '..UptoSaid'. A law counts once. -/
mutual
def uptoBulk {H : Type} : DataW H → Nat
  | .lit (.string bytes) => bytes.length + 1
  | .lit _ => 1
  | .nil => 1
  | .ptr d => uptoBulk d + 1
  | .slice elems spare => uptoBulkAll elems + uptoBulkAll spare + 1
  | .agg parts => uptoBulkAll parts + 1
  | .iface _ d => uptoBulk d + 1
  | .map entries => uptoBulkEntries entries + 1
  | .held _ => 1
def uptoBulkAll {H : Type} : List (DataW H) → Nat
  | [] => 0
  | d :: r => uptoBulk d + uptoBulkAll r
def uptoBulkEntries {H : Type} : List (Lit × DataW H) → Nat
  | [] => 0
  | x :: r => uptoBulkEntry x + uptoBulkEntries r
def uptoBulkEntry {H : Type} : Lit × DataW H → Nat
  | (.string bytes, d) => bytes.length + uptoBulk d + 1
  | (_, d) => uptoBulk d + 1
 end
def uptoSmall : (H : Type) → List (DataW H) → Bool := fun _ ds => decide (uptoBulkAll ds ≤ 1048576)
def OpenSpec.upto (s : _root_.Go.ChangeSpec) : _root_.Go.OpenSpec := { _root_.Go.OpenSpec.ofChange s with cond := some uptoSmall }

/-- 'cartouchelaw06.GcmSeals', WHERE WHAT IT READS IS OF BULK AT MOST 1048576: true; the input reads as it did. -/
def gcmSealsUptoRow : OpenClaim := { program := "ytpbemjifhampcaa", sum := "c2fbe1458c45e18faeb276b563c75de26a1f6fa632506a65a23257c647542c7f", func := "cartouche/cartouchelaw06.GcmSeals", spec := "gcmSeals", apart := false, narrowed := true }
def GcmSealsUptoSaid : Prop := gcmSealsUptoRow.holds Try.pinned (OpenSpec.upto gcmSealsSpec)

/-- 'cartouchelaw06.GcmOpens', WHERE WHAT IT READS IS OF BULK AT MOST 1048576: true; the input reads as it did. -/
def gcmOpensUptoRow : OpenClaim := { program := "ytpbemjifhampcaa", sum := "c2fbe1458c45e18faeb276b563c75de26a1f6fa632506a65a23257c647542c7f", func := "cartouche/cartouchelaw06.GcmOpens", spec := "gcmOpens", apart := false, narrowed := true }
def GcmOpensUptoSaid : Prop := gcmOpensUptoRow.holds Try.pinned (OpenSpec.upto gcmOpensSpec)

/-- 'cartouchelaw07.ChachaBlocks', WHERE WHAT IT READS IS OF BULK AT MOST 1048576: true; the input reads as it did. -/
def chachaBlocksUptoRow : OpenClaim := { program := "ytpbemjifhampcaa", sum := "c2fbe1458c45e18faeb276b563c75de26a1f6fa632506a65a23257c647542c7f", func := "cartouche/cartouchelaw07.ChachaBlocks", spec := "chachaBlocks", inPlace := ["math/bits.Add64"], apart := false, narrowed := true }
def ChachaBlocksUptoSaid : Prop := chachaBlocksUptoRow.holds Try.pinned (OpenSpec.upto chachaBlocksSpec)

/-- 'cartouchelaw07.ChachaCodes', WHERE WHAT IT READS IS OF BULK AT MOST 1048576: true; the input reads as it did. -/
def chachaCodesUptoRow : OpenClaim := { program := "ytpbemjifhampcaa", sum := "c2fbe1458c45e18faeb276b563c75de26a1f6fa632506a65a23257c647542c7f", func := "cartouche/cartouchelaw07.ChachaCodes", spec := "chachaCodes", inPlace := ["math/bits.Add64", "math/bits.Sub64"], named := ["math/bits.divideError", "math/bits.overflowError"], apart := false, narrowed := true }
def ChachaCodesUptoSaid : Prop := chachaCodesUptoRow.holds Try.pinned (OpenSpec.upto chachaCodesSpec)

/-- 'cartouchelaw07.ChachaSeals', WHERE WHAT IT READS IS OF BULK AT MOST 1048576: true; the input reads as it did. -/
def chachaSealsUptoRow : OpenClaim := { program := "ytpbemjifhampcaa", sum := "c2fbe1458c45e18faeb276b563c75de26a1f6fa632506a65a23257c647542c7f", func := "cartouche/cartouchelaw07.ChachaSeals", spec := "chachaSeals", inPlace := ["math/bits.Add64", "math/bits.Sub64"], named := ["math/bits.divideError", "math/bits.overflowError"], apart := false, narrowed := true }
def ChachaSealsUptoSaid : Prop := chachaSealsUptoRow.holds Try.pinned (OpenSpec.upto chachaSealsSpec)

/-- 'cartouchelaw07.ChachaBack', WHERE WHAT IT READS IS OF BULK AT MOST 1048576: true; the input reads as it did. -/
def chachaBackUptoRow : OpenClaim := { program := "ytpbemjifhampcaa", sum := "c2fbe1458c45e18faeb276b563c75de26a1f6fa632506a65a23257c647542c7f", func := "cartouche/cartouchelaw07.ChachaBack", spec := "chachaBack", inPlace := ["math/bits.Add64"], apart := false, narrowed := true }
def ChachaBackUptoSaid : Prop := chachaBackUptoRow.holds Try.pinned (OpenSpec.upto chachaBackSpec)

/-- 'cartouchelaw07.ChachaOpens', WHERE WHAT IT READS IS OF BULK AT MOST 1048576: true; the input reads as it did. -/
def chachaOpensUptoRow : OpenClaim := { program := "ytpbemjifhampcaa", sum := "c2fbe1458c45e18faeb276b563c75de26a1f6fa632506a65a23257c647542c7f", func := "cartouche/cartouchelaw07.ChachaOpens", spec := "chachaOpens", inPlace := ["math/bits.Add64", "math/bits.Sub64"], named := ["math/bits.divideError", "math/bits.overflowError"], apart := false, narrowed := true }
def ChachaOpensUptoSaid : Prop := chachaOpensUptoRow.holds Try.pinned (OpenSpec.upto chachaOpensSpec)

/-- 'cartouchelaw07.ChachaStream', WHERE WHAT IT READS IS OF BULK AT MOST 1048576: true; the input reads as it did. -/
def chachaStreamUptoRow : OpenClaim := { program := "ytpbemjifhampcaa", sum := "c2fbe1458c45e18faeb276b563c75de26a1f6fa632506a65a23257c647542c7f", func := "cartouche/cartouchelaw07.ChachaStream", spec := "chachaStream", inPlace := ["math/bits.Add64"], apart := false, narrowed := true }
def ChachaStreamUptoSaid : Prop := chachaStreamUptoRow.holds Try.pinned (OpenSpec.upto chachaStreamSpec)

end Rows
end Go.Proofs.Ytpbemjifhampcaa
