/-
  DERIVED. GIVEN WITH THE SEED: THE CARDS: each row of YthddlnldjbijmaaDoorRows.lean that lists a variable, with what it lists TIED to the program's text (the seventh form; the later family's looks); each row that meets fmt, with fmt's text TOLD by the authors' own Lean function (tested against real Go, not proved from fmt's source: count such statements apart). THE CARD IS WHAT COUNTS. Prove the row's statement (the work); the ties are given (YthddlnldjbijmaaDoorTie.lean); close each card by the builder's one call (the guide's Derived/Test/ToyasCard.lean, 'card_holds'). Laid BY PROGRAM, IN A SANDBOX (cutbox-door.mjs). By AI agents, Wed Nov 11 2026. No macro, syntax, notation, axiom, sorry.
-/
import Derived.Test.YthddlnldjbijmaaDoorRows
import GoSem.ClaimSeven
namespace Go.Proofs.YthddlnldjbijmaaDoor
namespace Rows

/-- THE TIED CARD OF 'cartouchelaw09.MontyMults'. -/
def montyMultsCard : Claim7 := { stood := { row := montyMultsRow, standIns := [], harness := (true, "3a745010d6eb0f352dc2f4fabe89269b797367cebd2582267ae2147497439cd0"), looks := false }, kinds := [], alts := [], laidByText := true, laidKinds := [.data], laidTests := true, laidLooks := .later }
def MontyMultsCardSaid : Prop := Claim7.holds Tryd.pinned (.plain (OpenSpec.ofChange montyMultsSpec)) montyMultsCard

/-- THE TIED CARD OF 'cartouchelaw09.MontyShares'. -/
def montySharesCard : Claim7 := { stood := { row := montySharesRow, standIns := [], harness := (true, "3a745010d6eb0f352dc2f4fabe89269b797367cebd2582267ae2147497439cd0"), looks := false }, kinds := [], alts := [], laidByText := true, laidKinds := [.data], laidTests := true, laidLooks := .later }
def MontySharesCardSaid : Prop := Claim7.holds Tryd.pinned (.plain (OpenSpec.ofChange montySharesSpec)) montySharesCard

/-- THE TIED CARD OF 'cartouchelaw09.MontyClamps'. -/
def montyClampsCard : Claim7 := { stood := { row := montyClampsRow, standIns := [], harness := (true, "3a745010d6eb0f352dc2f4fabe89269b797367cebd2582267ae2147497439cd0"), looks := false }, kinds := [], alts := [], laidByText := true, laidKinds := [.data], laidTests := true, laidLooks := .later }
def MontyClampsCardSaid : Prop := Claim7.holds Tryd.pinned (.plain (OpenSpec.ofChange montyClampsSpec)) montyClampsCard

/-- THE TIED CARD OF 'cartouchelaw09.MontyCommutes'. -/
def montyCommutesCard : Claim7 := { stood := { row := montyCommutesRow, standIns := [], harness := (true, "3a745010d6eb0f352dc2f4fabe89269b797367cebd2582267ae2147497439cd0"), looks := false }, kinds := [], alts := [], laidByText := true, laidKinds := [.data], laidTests := true, laidLooks := .later }
def MontyCommutesCardSaid : Prop := Claim7.holds Tryd.pinned (.plain (OpenSpec.ofChange montyCommutesSpec)) montyCommutesCard

/-- THE TIED CARD OF 'cartouchelaw09.MontyEdges'. -/
def montyEdgesCard : Claim7 := { stood := { row := montyEdgesRow, standIns := [], harness := (true, "3a745010d6eb0f352dc2f4fabe89269b797367cebd2582267ae2147497439cd0"), looks := false }, kinds := [], alts := [], laidByText := true, laidKinds := [.data], laidTests := true, laidLooks := .later }
def MontyEdgesCardSaid : Prop := Claim7.holds Tryd.pinned (.plain (OpenSpec.ofChange montyEdgesSpec)) montyEdgesCard

/-- THE SECOND FORM's CARD OF 'cartouchelaw09.MontyMults'. -/
def montyMultsUptoCard : Claim7 := { stood := { row := montyMultsUptoRow, standIns := [], harness := (true, "3a745010d6eb0f352dc2f4fabe89269b797367cebd2582267ae2147497439cd0"), looks := false }, kinds := [], alts := [], laidByText := true, laidKinds := [.data], laidTests := true, laidLooks := .later }
def MontyMultsUptoCardSaid : Prop := Claim7.holds Tryd.pinned (.plain (OpenSpec.upto montyMultsSpec)) montyMultsUptoCard

/-- THE SECOND FORM's CARD OF 'cartouchelaw09.MontyShares'. -/
def montySharesUptoCard : Claim7 := { stood := { row := montySharesUptoRow, standIns := [], harness := (true, "3a745010d6eb0f352dc2f4fabe89269b797367cebd2582267ae2147497439cd0"), looks := false }, kinds := [], alts := [], laidByText := true, laidKinds := [.data], laidTests := true, laidLooks := .later }
def MontySharesUptoCardSaid : Prop := Claim7.holds Tryd.pinned (.plain (OpenSpec.upto montySharesSpec)) montySharesUptoCard

/-- THE SECOND FORM's CARD OF 'cartouchelaw09.MontyClamps'. -/
def montyClampsUptoCard : Claim7 := { stood := { row := montyClampsUptoRow, standIns := [], harness := (true, "3a745010d6eb0f352dc2f4fabe89269b797367cebd2582267ae2147497439cd0"), looks := false }, kinds := [], alts := [], laidByText := true, laidKinds := [.data], laidTests := true, laidLooks := .later }
def MontyClampsUptoCardSaid : Prop := Claim7.holds Tryd.pinned (.plain (OpenSpec.upto montyClampsSpec)) montyClampsUptoCard

/-- THE SECOND FORM's CARD OF 'cartouchelaw09.MontyCommutes'. -/
def montyCommutesUptoCard : Claim7 := { stood := { row := montyCommutesUptoRow, standIns := [], harness := (true, "3a745010d6eb0f352dc2f4fabe89269b797367cebd2582267ae2147497439cd0"), looks := false }, kinds := [], alts := [], laidByText := true, laidKinds := [.data], laidTests := true, laidLooks := .later }
def MontyCommutesUptoCardSaid : Prop := Claim7.holds Tryd.pinned (.plain (OpenSpec.upto montyCommutesSpec)) montyCommutesUptoCard

/-- THE SECOND FORM's CARD OF 'cartouchelaw09.MontyEdges'. -/
def montyEdgesUptoCard : Claim7 := { stood := { row := montyEdgesUptoRow, standIns := [], harness := (true, "3a745010d6eb0f352dc2f4fabe89269b797367cebd2582267ae2147497439cd0"), looks := false }, kinds := [], alts := [], laidByText := true, laidKinds := [.data], laidTests := true, laidLooks := .later }
def MontyEdgesUptoCardSaid : Prop := Claim7.holds Tryd.pinned (.plain (OpenSpec.upto montyEdgesSpec)) montyEdgesUptoCard
end Rows
end Go.Proofs.YthddlnldjbijmaaDoor
