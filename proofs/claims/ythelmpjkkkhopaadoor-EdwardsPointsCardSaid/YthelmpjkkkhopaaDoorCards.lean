/-
  DERIVED. GIVEN WITH THE SEED: THE CARDS: each row of YthelmpjkkkhopaaDoorRows.lean that lists a variable, with what it lists TIED to the program's text (the seventh form; the later family's looks); each row that meets fmt, with fmt's text TOLD by the authors' own Lean function (tested against real Go, not proved from fmt's source: count such statements apart). THE CARD IS WHAT COUNTS. Prove the row's statement (the work); the ties are given (YthelmpjkkkhopaaDoorTie.lean); close each card by the builder's one call (the guide's Derived/Test/ToyasCard.lean, 'card_holds'). Laid BY PROGRAM, IN A SANDBOX (cutbox-door.mjs). By AI agents, Wed Nov 11 2026. No macro, syntax, notation, axiom, sorry.
-/
import Derived.Test.YthelmpjkkkhopaaDoorRows
import GoSem.ClaimSeven
namespace Go.Proofs.YthelmpjkkkhopaaDoor
namespace Rows

/-- THE TIED CARD OF 'cartouchelaw10.EdwardsBack'. -/
def edwardsBackCard : Claim7 := { stood := { row := edwardsBackRow, standIns := [], harness := (true, "4b3a3cee4f6664808991661bd1cf6d8c674ef379aed7c07be62c501b5e5ea160"), looks := false }, kinds := [], alts := [], laidByText := true, laidKinds := [.data, .data, .data, .data, .data, .data, .data, .data, .data], laidTests := true, laidLooks := .later }
def EdwardsBackCardSaid : Prop := Claim7.holds Tryd.pinned (.plain (OpenSpec.ofChange edwardsBackSpec)) edwardsBackCard

/-- THE TIED CARD OF 'cartouchelaw10.EdwardsPoints'. -/
def edwardsPointsCard : Claim7 := { stood := { row := edwardsPointsRow, standIns := [], harness := (true, "4b3a3cee4f6664808991661bd1cf6d8c674ef379aed7c07be62c501b5e5ea160"), looks := false }, kinds := [], alts := [], laidByText := true, laidKinds := [.data, .data, .data, .data, .data, .data, .data, .data, .data], laidTests := true, laidLooks := .later }
def EdwardsPointsCardSaid : Prop := Claim7.holds Tryd.pinned (.plain (OpenSpec.ofChange edwardsPointsSpec)) edwardsPointsCard

/-- THE TIED CARD OF 'cartouchelaw10.EdwardsShifts'. -/
def edwardsShiftsCard : Claim7 := { stood := { row := edwardsShiftsRow, standIns := [], harness := (true, "4b3a3cee4f6664808991661bd1cf6d8c674ef379aed7c07be62c501b5e5ea160"), looks := false }, kinds := [], alts := [], laidByText := true, laidKinds := [.data, .data, .data, .data, .data, .data, .data, .data, .data], laidTests := true, laidLooks := .later }
def EdwardsShiftsCardSaid : Prop := Claim7.holds Tryd.pinned (.plain (OpenSpec.ofChange edwardsShiftsSpec)) edwardsShiftsCard

/-- THE SECOND FORM's CARD OF 'cartouchelaw10.EdwardsBack'. -/
def edwardsBackUptoCard : Claim7 := { stood := { row := edwardsBackUptoRow, standIns := [], harness := (true, "4b3a3cee4f6664808991661bd1cf6d8c674ef379aed7c07be62c501b5e5ea160"), looks := false }, kinds := [], alts := [], laidByText := true, laidKinds := [.data, .data, .data, .data, .data, .data, .data, .data, .data], laidTests := true, laidLooks := .later }
def EdwardsBackUptoCardSaid : Prop := Claim7.holds Tryd.pinned (.plain (OpenSpec.upto edwardsBackSpec)) edwardsBackUptoCard

/-- THE SECOND FORM's CARD OF 'cartouchelaw10.EdwardsPoints'. -/
def edwardsPointsUptoCard : Claim7 := { stood := { row := edwardsPointsUptoRow, standIns := [], harness := (true, "4b3a3cee4f6664808991661bd1cf6d8c674ef379aed7c07be62c501b5e5ea160"), looks := false }, kinds := [], alts := [], laidByText := true, laidKinds := [.data, .data, .data, .data, .data, .data, .data, .data, .data], laidTests := true, laidLooks := .later }
def EdwardsPointsUptoCardSaid : Prop := Claim7.holds Tryd.pinned (.plain (OpenSpec.upto edwardsPointsSpec)) edwardsPointsUptoCard

/-- THE SECOND FORM's CARD OF 'cartouchelaw10.EdwardsShifts'. -/
def edwardsShiftsUptoCard : Claim7 := { stood := { row := edwardsShiftsUptoRow, standIns := [], harness := (true, "4b3a3cee4f6664808991661bd1cf6d8c674ef379aed7c07be62c501b5e5ea160"), looks := false }, kinds := [], alts := [], laidByText := true, laidKinds := [.data, .data, .data, .data, .data, .data, .data, .data, .data], laidTests := true, laidLooks := .later }
def EdwardsShiftsUptoCardSaid : Prop := Claim7.holds Tryd.pinned (.plain (OpenSpec.upto edwardsShiftsSpec)) edwardsShiftsUptoCard
end Rows
end Go.Proofs.YthelmpjkkkhopaaDoor
