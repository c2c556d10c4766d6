/-
  NARROWER THAN 'FOR EVERY INPUT', by the rows' own cells (each row's printed sentence says how): WeierMults: laid · WeierPoints: laid · WeierOn: laid · WeierShares: laid · WeierLaws: laid · WeierSums: laid.
  DERIVED. THE GIVEN ROWS OF THIS SEAT. 6 by the template 'for every input the law returns true; each argument reads behind the call as it read before'; 0 by the template 'total and deterministic' (their statements: YtapficdphhfpnaaDoorTotals.lean).
  GIVEN WITH THE SEED: the statements are not yours to turn. If you find one false, say at which input.
  Laid BY PROGRAM, IN A SANDBOX (cutbox-rows.mjs): the forced cells as the released guide's own fill.sh prints them over the translation 211d370f870c1d0f… (all of the seat's roots in one cut). By AI agents, Wed Nov 11 2026. No macro, syntax, notation, axiom, sorry.
-/
import Derived.Test.YtapficdphhfpnaaDoorChecked
import GoSem.Claim
import GoSem.ClaimJoined
import GoSem.ClaimMapViews
import Derived.JoinedTies
import Derived.KernelRfl
namespace Go.Proofs.YtapficdphhfpnaaDoor
/- THE CELL 'sum', in the pinned program and in every row, IS THE sha256 OF THE DUMP (.gsa) THAT YtapficdphhfpnaaDoorProg.lean LOADS. Nothing in Lean hashes anything: it is a label: what it is worth is what the hold of that sum in a sandbox is worth. -/
noncomputable def Tryd.pinned : Pinned := { name := "ytapficdphhfpnaadoor", sum := "211d370f870c1d0f872ee93c360598cdb2f898991507bf4c93965a1cef9b1a6f", checked := Tryd.checked }
namespace Rows
def none {H : Type} : Left H := { results := [], args := [] }

/- WHAT THE LISTED PACKAGE-LEVEL VARIABLES READ AS WHEN THE CALL BEGINS. Each datum BY PROGRAM (the guide's laid-datum.mjs) off the statement by which the dump's own 'gosem.cut.vars' lays the variable. In a bare row this is a premise. The card (YtapficdphhfpnaaDoorCards.lean) ties it to the program's text. -/
def laid_cartouche_weier_prime {H : Type} : DataW H := .agg [.lit (.int .u64 18446744073709551615), .lit (.int .u64 4294967295), .lit (.int .u64 0), .lit (.int .u64 18446744069414584321)]
def laid_cartouche_weier_order {H : Type} : DataW H := .agg [.lit (.int .u64 17562291160714782033), .lit (.int .u64 13611842547513532036), .lit (.int .u64 18446744073709551615), .lit (.int .u64 18446744069414584320)]
def laid_cartouche_weier_curveB {H : Type} : DataW H := .agg [.lit (.int .u64 4309448131093880907), .lit (.int .u64 7285987128567378166), .lit (.int .u64 12964664127075681980), .lit (.int .u64 6540974713487397863)]
def laid_cartouche_weier_base {H : Type} : DataW H := .agg [.agg [.lit (.int .u64 17627433388654248598), .lit (.int .u64 8575836109218198432), .lit (.int .u64 17923454489921339634), .lit (.int .u64 7716867327612699207)], .agg [.lit (.int .u64 14678990851816772085), .lit (.int .u64 3156516839386865358), .lit (.int .u64 10297457778147434006), .lit (.int .u64 5756518291402817435)], .lit (.bool false)]

/-- 'cartouchelaw11.WeierMults': WHATEVER THE INPUT: true; the input reads as it did. -/
def weierMultsSpec : ChangeSpec := { name := "weierMults", fn := fun _ => fun
  | [d1, d2] => { results := [.lit (.bool true)], args := [d1, d2] }
  | _ => none }
def weierMultsRow : OpenClaim := { program := "ytapficdphhfpnaadoor", sum := "211d370f870c1d0f872ee93c360598cdb2f898991507bf4c93965a1cef9b1a6f", func := "cartouche/cartouchelaw11.WeierMults", spec := "weierMults", inPlace := ["math/bits.Add64", "math/bits.Sub64"], named := ["cartouche/weier.base", "cartouche/weier.prime", "cartouche/weier.curveB", "cartouche/weier.order"], apart := false, laid := [("cartouche/weier.prime", laid_cartouche_weier_prime), ("cartouche/weier.order", laid_cartouche_weier_order), ("cartouche/weier.curveB", laid_cartouche_weier_curveB), ("cartouche/weier.base", laid_cartouche_weier_base)] }
def WeierMultsSaid : Prop := weierMultsRow.holds Tryd.pinned (OpenSpec.ofChange weierMultsSpec)

/-- ITS FALSE NEIGHBOUR: 'it returns false'. Refute it at one input. -/
def weierMultsWrong : ChangeSpec := { name := "weierMults", fn := fun _ => fun
  | [d1, d2] => { results := [.lit (.bool false)], args := [d1, d2] }
  | _ => none }
def WeierMultsWrongFalsely : Prop := weierMultsRow.holds Tryd.pinned (OpenSpec.ofChange weierMultsWrong)

/-- 'cartouchelaw11.WeierPoints': WHATEVER THE INPUT: true; the input reads as it did. -/
def weierPointsSpec : ChangeSpec := { name := "weierPoints", fn := fun _ => fun
  | [d] => { results := [.lit (.bool true)], args := [d] }
  | _ => none }
def weierPointsRow : OpenClaim := { program := "ytapficdphhfpnaadoor", sum := "211d370f870c1d0f872ee93c360598cdb2f898991507bf4c93965a1cef9b1a6f", func := "cartouche/cartouchelaw11.WeierPoints", spec := "weierPoints", inPlace := ["math/bits.Add64", "math/bits.Sub64"], named := ["cartouche/weier.base", "cartouche/weier.prime", "cartouche/weier.curveB", "cartouche/weier.order"], apart := false, laid := [("cartouche/weier.prime", laid_cartouche_weier_prime), ("cartouche/weier.order", laid_cartouche_weier_order), ("cartouche/weier.curveB", laid_cartouche_weier_curveB), ("cartouche/weier.base", laid_cartouche_weier_base)] }
def WeierPointsSaid : Prop := weierPointsRow.holds Tryd.pinned (OpenSpec.ofChange weierPointsSpec)

/-- ITS FALSE NEIGHBOUR: 'it returns false'. Refute it at one input. -/
def weierPointsWrong : ChangeSpec := { name := "weierPoints", fn := fun _ => fun
  | [d] => { results := [.lit (.bool false)], args := [d] }
  | _ => none }
def WeierPointsWrongFalsely : Prop := weierPointsRow.holds Tryd.pinned (OpenSpec.ofChange weierPointsWrong)

/-- 'cartouchelaw11.WeierOn': WHATEVER THE INPUT: true; the input reads as it did. -/
def weierOnSpec : ChangeSpec := { name := "weierOn", fn := fun _ => fun
  | [d1, d2, d3] => { results := [.lit (.bool true)], args := [d1, d2, d3] }
  | _ => none }
def weierOnRow : OpenClaim := { program := "ytapficdphhfpnaadoor", sum := "211d370f870c1d0f872ee93c360598cdb2f898991507bf4c93965a1cef9b1a6f", func := "cartouche/cartouchelaw11.WeierOn", spec := "weierOn", inPlace := ["math/bits.Add64", "math/bits.Sub64"], named := ["cartouche/weier.base", "cartouche/weier.prime", "cartouche/weier.curveB", "cartouche/weier.order"], apart := false, laid := [("cartouche/weier.prime", laid_cartouche_weier_prime), ("cartouche/weier.order", laid_cartouche_weier_order), ("cartouche/weier.curveB", laid_cartouche_weier_curveB), ("cartouche/weier.base", laid_cartouche_weier_base)] }
def WeierOnSaid : Prop := weierOnRow.holds Tryd.pinned (OpenSpec.ofChange weierOnSpec)

/-- ITS FALSE NEIGHBOUR: 'it returns false'. Refute it at one input. -/
def weierOnWrong : ChangeSpec := { name := "weierOn", fn := fun _ => fun
  | [d1, d2, d3] => { results := [.lit (.bool false)], args := [d1, d2, d3] }
  | _ => none }
def WeierOnWrongFalsely : Prop := weierOnRow.holds Tryd.pinned (OpenSpec.ofChange weierOnWrong)

/-- 'cartouchelaw11.WeierShares': WHATEVER THE INPUT: true; the input reads as it did. -/
def weierSharesSpec : ChangeSpec := { name := "weierShares", fn := fun _ => fun
  | [d1, d2, d3] => { results := [.lit (.bool true)], args := [d1, d2, d3] }
  | _ => none }
def weierSharesRow : OpenClaim := { program := "ytapficdphhfpnaadoor", sum := "211d370f870c1d0f872ee93c360598cdb2f898991507bf4c93965a1cef9b1a6f", func := "cartouche/cartouchelaw11.WeierShares", spec := "weierShares", inPlace := ["math/bits.Add64", "math/bits.Sub64"], named := ["cartouche/weier.base", "cartouche/weier.prime", "cartouche/weier.curveB", "cartouche/weier.order"], apart := false, laid := [("cartouche/weier.prime", laid_cartouche_weier_prime), ("cartouche/weier.order", laid_cartouche_weier_order), ("cartouche/weier.curveB", laid_cartouche_weier_curveB), ("cartouche/weier.base", laid_cartouche_weier_base)] }
def WeierSharesSaid : Prop := weierSharesRow.holds Tryd.pinned (OpenSpec.ofChange weierSharesSpec)

/-- ITS FALSE NEIGHBOUR: 'it returns false'. Refute it at one input. -/
def weierSharesWrong : ChangeSpec := { name := "weierShares", fn := fun _ => fun
  | [d1, d2, d3] => { results := [.lit (.bool false)], args := [d1, d2, d3] }
  | _ => none }
def WeierSharesWrongFalsely : Prop := weierSharesRow.holds Tryd.pinned (OpenSpec.ofChange weierSharesWrong)

/-- 'cartouchelaw11.WeierLaws': WHATEVER THE INPUT: true; the input reads as it did. -/
def weierLawsSpec : ChangeSpec := { name := "weierLaws", fn := fun _ => fun
  | [d] => { results := [.lit (.bool true)], args := [d] }
  | _ => none }
def weierLawsRow : OpenClaim := { program := "ytapficdphhfpnaadoor", sum := "211d370f870c1d0f872ee93c360598cdb2f898991507bf4c93965a1cef9b1a6f", func := "cartouche/cartouchelaw11.WeierLaws", spec := "weierLaws", inPlace := ["math/bits.Add64", "math/bits.Sub64"], named := ["cartouche/weier.base", "cartouche/weier.prime", "cartouche/weier.curveB", "cartouche/weier.order"], apart := false, laid := [("cartouche/weier.prime", laid_cartouche_weier_prime), ("cartouche/weier.order", laid_cartouche_weier_order), ("cartouche/weier.curveB", laid_cartouche_weier_curveB), ("cartouche/weier.base", laid_cartouche_weier_base)] }
def WeierLawsSaid : Prop := weierLawsRow.holds Tryd.pinned (OpenSpec.ofChange weierLawsSpec)

/-- ITS FALSE NEIGHBOUR: 'it returns false'. Refute it at one input. -/
def weierLawsWrong : ChangeSpec := { name := "weierLaws", fn := fun _ => fun
  | [d] => { results := [.lit (.bool false)], args := [d] }
  | _ => none }
def WeierLawsWrongFalsely : Prop := weierLawsRow.holds Tryd.pinned (OpenSpec.ofChange weierLawsWrong)

/-- 'cartouchelaw11.WeierSums': WHATEVER THE INPUT: true; the input reads as it did. -/
def weierSumsSpec : ChangeSpec := { name := "weierSums", fn := fun _ => fun
  | [d1, d2] => { results := [.lit (.bool true)], args := [d1, d2] }
  | _ => none }
def weierSumsRow : OpenClaim := { program := "ytapficdphhfpnaadoor", sum := "211d370f870c1d0f872ee93c360598cdb2f898991507bf4c93965a1cef9b1a6f", func := "cartouche/cartouchelaw11.WeierSums", spec := "weierSums", inPlace := ["math/bits.Add64", "math/bits.Sub64"], named := ["cartouche/weier.base", "cartouche/weier.prime", "cartouche/weier.curveB", "cartouche/weier.order"], apart := false, laid := [("cartouche/weier.prime", laid_cartouche_weier_prime), ("cartouche/weier.order", laid_cartouche_weier_order), ("cartouche/weier.curveB", laid_cartouche_weier_curveB), ("cartouche/weier.base", laid_cartouche_weier_base)] }
def WeierSumsSaid : Prop := weierSumsRow.holds Tryd.pinned (OpenSpec.ofChange weierSumsSpec)

/-- ITS FALSE NEIGHBOUR: 'it returns false'. Refute it at one input. -/
def weierSumsWrong : ChangeSpec := { name := "weierSums", fn := fun _ => fun
  | [d1, d2] => { results := [.lit (.bool false)], args := [d1, d2] }
  | _ => none }
def WeierSumsWrongFalsely : Prop := weierSumsRow.holds Tryd.pinned (OpenSpec.ofChange weierSumsWrong)

/- THE SECOND FORM. 'bulk': how many values and letters a reading holds, each counted each time it is reached (what is shared counts as often as it is met; a slice's spare places count too). A statement '..UptoSaid' is the law's where the arguments, and the package variables that the reading takes, are together of bulk at most 1048576: NARROWER than '..Said'. Prove '..Said' where nothing that the law and all that it calls make is longer than what came in: it says more and counts as full. Else prove '..UptoSaid'. A law counts once. -/
mutual
def uptoBulk {H : Type} : DataW H → Nat
  | .lit (.string bytes) => bytes.length + 1
  | .lit _ => 1
  | .nil => 1
  | .ptr d => uptoBulk d + 1
  | .slice elems spare => uptoBulkAll elems + uptoBulkAll spare + 1
  | .agg parts => uptoBulkAll parts + 1
  | .iface _ d => uptoBulk d + 1
  | .map entries => uptoBulkEntries entries + 1
  | .held _ => 1
def uptoBulkAll {H : Type} : List (DataW H) → Nat
  | [] => 0
  | d :: r => uptoBulk d + uptoBulkAll r
def uptoBulkEntries {H : Type} : List (Lit × DataW H) → Nat
  | [] => 0
  | x :: r => uptoBulkEntry x + uptoBulkEntries r
def uptoBulkEntry {H : Type} : Lit × DataW H → Nat
  | (.string bytes, d) => bytes.length + uptoBulk d + 1
  | (_, d) => uptoBulk d + 1
 end
def uptoSmall : (H : Type) → List (DataW H) → Bool := fun _ ds => decide (uptoBulkAll ds ≤ 1048576)
def OpenSpec.upto (s : _root_.Go.ChangeSpec) : _root_.Go.OpenSpec := { _root_.Go.OpenSpec.ofChange s with cond := some uptoSmall }

/-- 'cartouchelaw11.WeierMults', WHERE WHAT IT READS IS OF BULK AT MOST 1048576: true; the input reads as it did. -/
def weierMultsUptoRow : OpenClaim := { program := "ytapficdphhfpnaadoor", sum := "211d370f870c1d0f872ee93c360598cdb2f898991507bf4c93965a1cef9b1a6f", func := "cartouche/cartouchelaw11.WeierMults", spec := "weierMults", inPlace := ["math/bits.Add64", "math/bits.Sub64"], named := ["cartouche/weier.base", "cartouche/weier.prime", "cartouche/weier.curveB", "cartouche/weier.order"], apart := false, laid := [("cartouche/weier.prime", laid_cartouche_weier_prime), ("cartouche/weier.order", laid_cartouche_weier_order), ("cartouche/weier.curveB", laid_cartouche_weier_curveB), ("cartouche/weier.base", laid_cartouche_weier_base)], narrowed := true }
def WeierMultsUptoSaid : Prop := weierMultsUptoRow.holds Tryd.pinned (OpenSpec.upto weierMultsSpec)

/-- 'cartouchelaw11.WeierPoints', WHERE WHAT IT READS IS OF BULK AT MOST 1048576: true; the input reads as it did. -/
def weierPointsUptoRow : OpenClaim := { program := "ytapficdphhfpnaadoor", sum := "211d370f870c1d0f872ee93c360598cdb2f898991507bf4c93965a1cef9b1a6f", func := "cartouche/cartouchelaw11.WeierPoints", spec := "weierPoints", inPlace := ["math/bits.Add64", "math/bits.Sub64"], named := ["cartouche/weier.base", "cartouche/weier.prime", "cartouche/weier.curveB", "cartouche/weier.order"], apart := false, laid := [("cartouche/weier.prime", laid_cartouche_weier_prime), ("cartouche/weier.order", laid_cartouche_weier_order), ("cartouche/weier.curveB", laid_cartouche_weier_curveB), ("cartouche/weier.base", laid_cartouche_weier_base)], narrowed := true }
def WeierPointsUptoSaid : Prop := weierPointsUptoRow.holds Tryd.pinned (OpenSpec.upto weierPointsSpec)

/-- 'cartouchelaw11.WeierOn', WHERE WHAT IT READS IS OF BULK AT MOST 1048576: true; the input reads as it did. -/
def weierOnUptoRow : OpenClaim := { program := "ytapficdphhfpnaadoor", sum := "211d370f870c1d0f872ee93c360598cdb2f898991507bf4c93965a1cef9b1a6f", func := "cartouche/cartouchelaw11.WeierOn", spec := "weierOn", inPlace := ["math/bits.Add64", "math/bits.Sub64"], named := ["cartouche/weier.base", "cartouche/weier.prime", "cartouche/weier.curveB", "cartouche/weier.order"], apart := false, laid := [("cartouche/weier.prime", laid_cartouche_weier_prime), ("cartouche/weier.order", laid_cartouche_weier_order), ("cartouche/weier.curveB", laid_cartouche_weier_curveB), ("cartouche/weier.base", laid_cartouche_weier_base)], narrowed := true }
def WeierOnUptoSaid : Prop := weierOnUptoRow.holds Tryd.pinned (OpenSpec.upto weierOnSpec)

/-- 'cartouchelaw11.WeierShares', WHERE WHAT IT READS IS OF BULK AT MOST 1048576: true; the input reads as it did. -/
def weierSharesUptoRow : OpenClaim := { program := "ytapficdphhfpnaadoor", sum := "211d370f870c1d0f872ee93c360598cdb2f898991507bf4c93965a1cef9b1a6f", func := "cartouche/cartouchelaw11.WeierShares", spec := "weierShares", inPlace := ["math/bits.Add64", "math/bits.Sub64"], named := ["cartouche/weier.base", "cartouche/weier.prime", "cartouche/weier.curveB", "cartouche/weier.order"], apart := false, laid := [("cartouche/weier.prime", laid_cartouche_weier_prime), ("cartouche/weier.order", laid_cartouche_weier_order), ("cartouche/weier.curveB", laid_cartouche_weier_curveB), ("cartouche/weier.base", laid_cartouche_weier_base)], narrowed := true }
def WeierSharesUptoSaid : Prop := weierSharesUptoRow.holds Tryd.pinned (OpenSpec.upto weierSharesSpec)

/-- 'cartouchelaw11.WeierLaws', WHERE WHAT IT READS IS OF BULK AT MOST 1048576: true; the input reads as it did. -/
def weierLawsUptoRow : OpenClaim := { program := "ytapficdphhfpnaadoor", sum := "211d370f870c1d0f872ee93c360598cdb2f898991507bf4c93965a1cef9b1a6f", func := "cartouche/cartouchelaw11.WeierLaws", spec := "weierLaws", inPlace := ["math/bits.Add64", "math/bits.Sub64"], named := ["cartouche/weier.base", "cartouche/weier.prime", "cartouche/weier.curveB", "cartouche/weier.order"], apart := false, laid := [("cartouche/weier.prime", laid_cartouche_weier_prime), ("cartouche/weier.order", laid_cartouche_weier_order), ("cartouche/weier.curveB", laid_cartouche_weier_curveB), ("cartouche/weier.base", laid_cartouche_weier_base)], narrowed := true }
def WeierLawsUptoSaid : Prop := weierLawsUptoRow.holds Tryd.pinned (OpenSpec.upto weierLawsSpec)

/-- 'cartouchelaw11.WeierSums', WHERE WHAT IT READS IS OF BULK AT MOST 1048576: true; the input reads as it did. -/
def weierSumsUptoRow : OpenClaim := { program := "ytapficdphhfpnaadoor", sum := "211d370f870c1d0f872ee93c360598cdb2f898991507bf4c93965a1cef9b1a6f", func := "cartouche/cartouchelaw11.WeierSums", spec := "weierSums", inPlace := ["math/bits.Add64", "math/bits.Sub64"], named := ["cartouche/weier.base", "cartouche/weier.prime", "cartouche/weier.curveB", "cartouche/weier.order"], apart := false, laid := [("cartouche/weier.prime", laid_cartouche_weier_prime), ("cartouche/weier.order", laid_cartouche_weier_order), ("cartouche/weier.curveB", laid_cartouche_weier_curveB), ("cartouche/weier.base", laid_cartouche_weier_base)], narrowed := true }
def WeierSumsUptoSaid : Prop := weierSumsUptoRow.holds Tryd.pinned (OpenSpec.upto weierSumsSpec)

end Rows
end Go.Proofs.YtapficdphhfpnaaDoor
