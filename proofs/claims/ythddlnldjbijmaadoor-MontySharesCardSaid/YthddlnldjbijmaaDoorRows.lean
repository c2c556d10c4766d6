/-
  NARROWER THAN 'FOR EVERY INPUT', by the rows' own cells (each row's printed sentence says how): MontyMults: laid · MontyShares: laid · MontyClamps: laid · MontyCommutes: laid · MontyEdges: laid.
  DERIVED. THE GIVEN ROWS OF THIS SEAT. 5 by the template 'for every input the law returns true; each argument reads behind the call as it read before'; 0 by the template 'total and deterministic' (their statements: YthddlnldjbijmaaDoorTotals.lean).
  GIVEN WITH THE SEED: the statements are not yours to turn. If you find one false, say at which input.
  Laid BY PROGRAM, IN A SANDBOX (cutbox-rows.mjs): the forced cells as the released guide's own fill.sh prints them over the translation 73f73b4d36005075… (all of the seat's roots in one cut). By AI agents, Wed Nov 11 2026. No macro, syntax, notation, axiom, sorry.
-/
import Derived.Test.YthddlnldjbijmaaDoorChecked
import GoSem.Claim
import GoSem.ClaimJoined
import GoSem.ClaimMapViews
import Derived.JoinedTies
import Derived.KernelRfl
namespace Go.Proofs.YthddlnldjbijmaaDoor
/- THE CELL 'sum', in the pinned program and in every row, IS THE sha256 OF THE DUMP (.gsa) THAT YthddlnldjbijmaaDoorProg.lean LOADS. Nothing in Lean hashes anything: it is a label: what it is worth is what the hold of that sum in a sandbox is worth. -/
noncomputable def Tryd.pinned : Pinned := { name := "ythddlnldjbijmaadoor", sum := "73f73b4d36005075f84a0550081799d07079416f406b267986470fb19cb13b28", checked := Tryd.checked }
namespace Rows
def none {H : Type} : Left H := { results := [], args := [] }

/- WHAT THE LISTED PACKAGE-LEVEL VARIABLES READ AS WHEN THE CALL BEGINS. Each datum BY PROGRAM (the guide's laid-datum.mjs) off the statement by which the dump's own 'gosem.cut.vars' lays the variable. In a bare row this is a premise. The card (YthddlnldjbijmaaDoorCards.lean) ties it to the program's text. -/
def laid_cartouche_monty_prime {H : Type} : DataW H := .agg [.lit (.int .u64 18446744073709551597), .lit (.int .u64 18446744073709551615), .lit (.int .u64 18446744073709551615), .lit (.int .u64 9223372036854775807)]

/-- 'cartouchelaw09.MontyMults': WHATEVER THE INPUT: true; the input reads as it did. -/
def montyMultsSpec : ChangeSpec := { name := "montyMults", fn := fun _ => fun
  | [d1, d2] => { results := [.lit (.bool true)], args := [d1, d2] }
  | _ => none }
def montyMultsRow : OpenClaim := { program := "ythddlnldjbijmaadoor", sum := "73f73b4d36005075f84a0550081799d07079416f406b267986470fb19cb13b28", func := "cartouche/cartouchelaw09.MontyMults", spec := "montyMults", inPlace := ["math/bits.Add64", "math/bits.Sub64"], named := ["cartouche/monty.prime"], apart := false, laid := [("cartouche/monty.prime", laid_cartouche_monty_prime)] }
def MontyMultsSaid : Prop := montyMultsRow.holds Tryd.pinned (OpenSpec.ofChange montyMultsSpec)

/-- ITS FALSE NEIGHBOUR: 'it returns false'. Refute it at one input. -/
def montyMultsWrong : ChangeSpec := { name := "montyMults", fn := fun _ => fun
  | [d1, d2] => { results := [.lit (.bool false)], args := [d1, d2] }
  | _ => none }
def MontyMultsWrongFalsely : Prop := montyMultsRow.holds Tryd.pinned (OpenSpec.ofChange montyMultsWrong)

/-- 'cartouchelaw09.MontyShares': WHATEVER THE INPUT: true; the input reads as it did. -/
def montySharesSpec : ChangeSpec := { name := "montyShares", fn := fun _ => fun
  | [d1, d2, d3] => { results := [.lit (.bool true)], args := [d1, d2, d3] }
  | _ => none }
def montySharesRow : OpenClaim := { program := "ythddlnldjbijmaadoor", sum := "73f73b4d36005075f84a0550081799d07079416f406b267986470fb19cb13b28", func := "cartouche/cartouchelaw09.MontyShares", spec := "montyShares", inPlace := ["math/bits.Add64", "math/bits.Sub64"], named := ["cartouche/monty.prime"], apart := false, laid := [("cartouche/monty.prime", laid_cartouche_monty_prime)] }
def MontySharesSaid : Prop := montySharesRow.holds Tryd.pinned (OpenSpec.ofChange montySharesSpec)

/-- ITS FALSE NEIGHBOUR: 'it returns false'. Refute it at one input. -/
def montySharesWrong : ChangeSpec := { name := "montyShares", fn := fun _ => fun
  | [d1, d2, d3] => { results := [.lit (.bool false)], args := [d1, d2, d3] }
  | _ => none }
def MontySharesWrongFalsely : Prop := montySharesRow.holds Tryd.pinned (OpenSpec.ofChange montySharesWrong)

/-- 'cartouchelaw09.MontyClamps': WHATEVER THE INPUT: true; the input reads as it did. -/
def montyClampsSpec : ChangeSpec := { name := "montyClamps", fn := fun _ => fun
  | [d1, d2] => { results := [.lit (.bool true)], args := [d1, d2] }
  | _ => none }
def montyClampsRow : OpenClaim := { program := "ythddlnldjbijmaadoor", sum := "73f73b4d36005075f84a0550081799d07079416f406b267986470fb19cb13b28", func := "cartouche/cartouchelaw09.MontyClamps", spec := "montyClamps", inPlace := ["math/bits.Add64", "math/bits.Sub64"], named := ["cartouche/monty.prime"], apart := false, laid := [("cartouche/monty.prime", laid_cartouche_monty_prime)] }
def MontyClampsSaid : Prop := montyClampsRow.holds Tryd.pinned (OpenSpec.ofChange montyClampsSpec)

/-- ITS FALSE NEIGHBOUR: 'it returns false'. Refute it at one input. -/
def montyClampsWrong : ChangeSpec := { name := "montyClamps", fn := fun _ => fun
  | [d1, d2] => { results := [.lit (.bool false)], args := [d1, d2] }
  | _ => none }
def MontyClampsWrongFalsely : Prop := montyClampsRow.holds Tryd.pinned (OpenSpec.ofChange montyClampsWrong)

/-- 'cartouchelaw09.MontyCommutes': WHATEVER THE INPUT: true; the input reads as it did. -/
def montyCommutesSpec : ChangeSpec := { name := "montyCommutes", fn := fun _ => fun
  | [d1, d2, d3] => { results := [.lit (.bool true)], args := [d1, d2, d3] }
  | _ => none }
def montyCommutesRow : OpenClaim := { program := "ythddlnldjbijmaadoor", sum := "73f73b4d36005075f84a0550081799d07079416f406b267986470fb19cb13b28", func := "cartouche/cartouchelaw09.MontyCommutes", spec := "montyCommutes", inPlace := ["math/bits.Add64", "math/bits.Sub64"], named := ["cartouche/monty.prime"], apart := false, laid := [("cartouche/monty.prime", laid_cartouche_monty_prime)] }
def MontyCommutesSaid : Prop := montyCommutesRow.holds Tryd.pinned (OpenSpec.ofChange montyCommutesSpec)

/-- ITS FALSE NEIGHBOUR: 'it returns false'. Refute it at one input. -/
def montyCommutesWrong : ChangeSpec := { name := "montyCommutes", fn := fun _ => fun
  | [d1, d2, d3] => { results := [.lit (.bool false)], args := [d1, d2, d3] }
  | _ => none }
def MontyCommutesWrongFalsely : Prop := montyCommutesRow.holds Tryd.pinned (OpenSpec.ofChange montyCommutesWrong)

/-- 'cartouchelaw09.MontyEdges': WHATEVER THE INPUT: true; the input reads as it did. -/
def montyEdgesSpec : ChangeSpec := { name := "montyEdges", fn := fun _ => fun
  | [d1, d2] => { results := [.lit (.bool true)], args := [d1, d2] }
  | _ => none }
def montyEdgesRow : OpenClaim := { program := "ythddlnldjbijmaadoor", sum := "73f73b4d36005075f84a0550081799d07079416f406b267986470fb19cb13b28", func := "cartouche/cartouchelaw09.MontyEdges", spec := "montyEdges", inPlace := ["math/bits.Add64", "math/bits.Sub64"], named := ["cartouche/monty.prime"], apart := false, laid := [("cartouche/monty.prime", laid_cartouche_monty_prime)] }
def MontyEdgesSaid : Prop := montyEdgesRow.holds Tryd.pinned (OpenSpec.ofChange montyEdgesSpec)

/-- ITS FALSE NEIGHBOUR: 'it returns false'. Refute it at one input. -/
def montyEdgesWrong : ChangeSpec := { name := "montyEdges", fn := fun _ => fun
  | [d1, d2] => { results := [.lit (.bool false)], args := [d1, d2] }
  | _ => none }
def MontyEdgesWrongFalsely : Prop := montyEdgesRow.holds Tryd.pinned (OpenSpec.ofChange montyEdgesWrong)

/- THE SECOND FORM. 'bulk': how many values and letters a reading holds, each counted each time it is reached (what is shared counts as often as it is met; a slice's spare places count too). A statement '..UptoSaid' is the law's where the arguments, and the package variables that the reading takes, are together of bulk at most 1048576: NARROWER than '..Said'. Prove '..Said' where nothing that the law and all that it calls make is longer than what came in: it says more and counts as full. Else prove '..UptoSaid'. A law counts once. -/
mutual
def uptoBulk {H : Type} : DataW H → Nat
  | .lit (.string bytes) => bytes.length + 1
  | .lit _ => 1
  | .nil => 1
  | .ptr d => uptoBulk d + 1
  | .slice elems spare => uptoBulkAll elems + uptoBulkAll spare + 1
  | .agg parts => uptoBulkAll parts + 1
  | .iface _ d => uptoBulk d + 1
  | .map entries => uptoBulkEntries entries + 1
  | .held _ => 1
def uptoBulkAll {H : Type} : List (DataW H) → Nat
  | [] => 0
  | d :: r => uptoBulk d + uptoBulkAll r
def uptoBulkEntries {H : Type} : List (Lit × DataW H) → Nat
  | [] => 0
  | x :: r => uptoBulkEntry x + uptoBulkEntries r
def uptoBulkEntry {H : Type} : Lit × DataW H → Nat
  | (.string bytes, d) => bytes.length + uptoBulk d + 1
  | (_, d) => uptoBulk d + 1
 end
def uptoSmall : (H : Type) → List (DataW H) → Bool := fun _ ds => decide (uptoBulkAll ds ≤ 1048576)
def OpenSpec.upto (s : _root_.Go.ChangeSpec) : _root_.Go.OpenSpec := { _root_.Go.OpenSpec.ofChange s with cond := some uptoSmall }

/-- 'cartouchelaw09.MontyMults', WHERE WHAT IT READS IS OF BULK AT MOST 1048576: true; the input reads as it did. -/
def montyMultsUptoRow : OpenClaim := { program := "ythddlnldjbijmaadoor", sum := "73f73b4d36005075f84a0550081799d07079416f406b267986470fb19cb13b28", func := "cartouche/cartouchelaw09.MontyMults", spec := "montyMults", inPlace := ["math/bits.Add64", "math/bits.Sub64"], named := ["cartouche/monty.prime"], apart := false, laid := [("cartouche/monty.prime", laid_cartouche_monty_prime)], narrowed := true }
def MontyMultsUptoSaid : Prop := montyMultsUptoRow.holds Tryd.pinned (OpenSpec.upto montyMultsSpec)

/-- 'cartouchelaw09.MontyShares', WHERE WHAT IT READS IS OF BULK AT MOST 1048576: true; the input reads as it did. -/
def montySharesUptoRow : OpenClaim := { program := "ythddlnldjbijmaadoor", sum := "73f73b4d36005075f84a0550081799d07079416f406b267986470fb19cb13b28", func := "cartouche/cartouchelaw09.MontyShares", spec := "montyShares", inPlace := ["math/bits.Add64", "math/bits.Sub64"], named := ["cartouche/monty.prime"], apart := false, laid := [("cartouche/monty.prime", laid_cartouche_monty_prime)], narrowed := true }
def MontySharesUptoSaid : Prop := montySharesUptoRow.holds Tryd.pinned (OpenSpec.upto montySharesSpec)

/-- 'cartouchelaw09.MontyClamps', WHERE WHAT IT READS IS OF BULK AT MOST 1048576: true; the input reads as it did. -/
def montyClampsUptoRow : OpenClaim := { program := "ythddlnldjbijmaadoor", sum := "73f73b4d36005075f84a0550081799d07079416f406b267986470fb19cb13b28", func := "cartouche/cartouchelaw09.MontyClamps", spec := "montyClamps", inPlace := ["math/bits.Add64", "math/bits.Sub64"], named := ["cartouche/monty.prime"], apart := false, laid := [("cartouche/monty.prime", laid_cartouche_monty_prime)], narrowed := true }
def MontyClampsUptoSaid : Prop := montyClampsUptoRow.holds Tryd.pinned (OpenSpec.upto montyClampsSpec)

/-- 'cartouchelaw09.MontyCommutes', WHERE WHAT IT READS IS OF BULK AT MOST 1048576: true; the input reads as it did. -/
def montyCommutesUptoRow : OpenClaim := { program := "ythddlnldjbijmaadoor", sum := "73f73b4d36005075f84a0550081799d07079416f406b267986470fb19cb13b28", func := "cartouche/cartouchelaw09.MontyCommutes", spec := "montyCommutes", inPlace := ["math/bits.Add64", "math/bits.Sub64"], named := ["cartouche/monty.prime"], apart := false, laid := [("cartouche/monty.prime", laid_cartouche_monty_prime)], narrowed := true }
def MontyCommutesUptoSaid : Prop := montyCommutesUptoRow.holds Tryd.pinned (OpenSpec.upto montyCommutesSpec)

/-- 'cartouchelaw09.MontyEdges', WHERE WHAT IT READS IS OF BULK AT MOST 1048576: true; the input reads as it did. -/
def montyEdgesUptoRow : OpenClaim := { program := "ythddlnldjbijmaadoor", sum := "73f73b4d36005075f84a0550081799d07079416f406b267986470fb19cb13b28", func := "cartouche/cartouchelaw09.MontyEdges", spec := "montyEdges", inPlace := ["math/bits.Add64", "math/bits.Sub64"], named := ["cartouche/monty.prime"], apart := false, laid := [("cartouche/monty.prime", laid_cartouche_monty_prime)], narrowed := true }
def MontyEdgesUptoSaid : Prop := montyEdgesUptoRow.holds Tryd.pinned (OpenSpec.upto montyEdgesSpec)

end Rows
end Go.Proofs.YthddlnldjbijmaaDoor
