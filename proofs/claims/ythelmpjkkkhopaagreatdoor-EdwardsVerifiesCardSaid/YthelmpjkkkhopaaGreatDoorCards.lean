/-
  DERIVED. GIVEN WITH THE SEED: THE CARDS: each row of YthelmpjkkkhopaaGreatDoorRows.lean that lists a variable, with what it lists TIED to the program's text (the seventh form; the later family's looks); each row that meets fmt, with fmt's text TOLD by the authors' own Lean function (tested against real Go, not proved from fmt's source: count such statements apart). THE CARD IS WHAT COUNTS. Prove the row's statement (the work); the ties are given (YthelmpjkkkhopaaGreatDoorTie.lean); close each card by the builder's one call (the guide's Derived/Test/ToyasCard.lean, 'card_holds'). Laid BY PROGRAM, IN A SANDBOX (cutbox-door.mjs). By AI agents, Wed Nov 11 2026. No macro, syntax, notation, axiom, sorry.
-/
import Derived.Test.YthelmpjkkkhopaaGreatDoorRows
import GoSem.ClaimSeven
namespace Go.Proofs.YthelmpjkkkhopaaGreatDoor
namespace Rows

/-- THE TIED CARD OF 'cartouchelaw10.EdwardsSigns'. -/
def edwardsSignsCard : Claim7 := { stood := { row := edwardsSignsRow, standIns := [], harness := (true, "2375ae646ccb3ad39d72f72b8e275e06d3215f4fb8771aedc81610c8f84a4c9e"), looks := false }, kinds := [], alts := [], laidByText := true, laidKinds := [.data, .data, .data, .data, .data, .data, .data, .data, .data], laidTests := true, laidLooks := .later }
def EdwardsSignsCardSaid : Prop := Claim7.holds Tryz.pinned (.plain (OpenSpec.ofChange edwardsSignsSpec)) edwardsSignsCard

/-- THE TIED CARD OF 'cartouchelaw10.EdwardsVerifies'. -/
def edwardsVerifiesCard : Claim7 := { stood := { row := edwardsVerifiesRow, standIns := [], harness := (true, "2375ae646ccb3ad39d72f72b8e275e06d3215f4fb8771aedc81610c8f84a4c9e"), looks := false }, kinds := [], alts := [], laidByText := true, laidKinds := [.data, .data, .data, .data, .data, .data, .data, .data, .data], laidTests := true, laidLooks := .later }
def EdwardsVerifiesCardSaid : Prop := Claim7.holds Tryz.pinned (.plain (OpenSpec.ofChange edwardsVerifiesSpec)) edwardsVerifiesCard

/-- THE SECOND FORM's CARD OF 'cartouchelaw10.EdwardsSigns'. -/
def edwardsSignsUptoCard : Claim7 := { stood := { row := edwardsSignsUptoRow, standIns := [], harness := (true, "2375ae646ccb3ad39d72f72b8e275e06d3215f4fb8771aedc81610c8f84a4c9e"), looks := false }, kinds := [], alts := [], laidByText := true, laidKinds := [.data, .data, .data, .data, .data, .data, .data, .data, .data], laidTests := true, laidLooks := .later }
def EdwardsSignsUptoCardSaid : Prop := Claim7.holds Tryz.pinned (.plain (OpenSpec.upto edwardsSignsSpec)) edwardsSignsUptoCard

/-- THE SECOND FORM's CARD OF 'cartouchelaw10.EdwardsVerifies'. -/
def edwardsVerifiesUptoCard : Claim7 := { stood := { row := edwardsVerifiesUptoRow, standIns := [], harness := (true, "2375ae646ccb3ad39d72f72b8e275e06d3215f4fb8771aedc81610c8f84a4c9e"), looks := false }, kinds := [], alts := [], laidByText := true, laidKinds := [.data, .data, .data, .data, .data, .data, .data, .data, .data], laidTests := true, laidLooks := .later }
def EdwardsVerifiesUptoCardSaid : Prop := Claim7.holds Tryz.pinned (.plain (OpenSpec.upto edwardsVerifiesSpec)) edwardsVerifiesUptoCard
end Rows
end Go.Proofs.YthelmpjkkkhopaaGreatDoor
