/-
  DERIVED. GIVEN WITH THE SEED: THE CARDS: each row of YtapficdphhfpnaaDoorRows.lean that lists a variable, with what it lists TIED to the program's text (the seventh form; the later family's looks); each row that meets fmt, with fmt's text TOLD by the authors' own Lean function (tested against real Go, not proved from fmt's source: count such statements apart). THE CARD IS WHAT COUNTS. Prove the row's statement (the work); the ties are given (YtapficdphhfpnaaDoorTie.lean); close each card by the builder's one call (the guide's Derived/Test/ToyasCard.lean, 'card_holds'). Laid BY PROGRAM, IN A SANDBOX (cutbox-door.mjs). By AI agents, Wed Nov 11 2026. No macro, syntax, notation, axiom, sorry.
-/
import Derived.Test.YtapficdphhfpnaaDoorRows
import GoSem.ClaimSeven
namespace Go.Proofs.YtapficdphhfpnaaDoor
namespace Rows

/-- THE TIED CARD OF 'cartouchelaw11.WeierMults'. -/
def weierMultsCard : Claim7 := { stood := { row := weierMultsRow, standIns := [], harness := (true, "e54579148be440fa4486c4a898dc0a79d88a36e02d4ee253cc2847c36b208d9d"), looks := false }, kinds := [], alts := [], laidByText := true, laidKinds := [.data, .data, .data, .data], laidTests := true, laidLooks := .later }
def WeierMultsCardSaid : Prop := Claim7.holds Tryd.pinned (.plain (OpenSpec.ofChange weierMultsSpec)) weierMultsCard

/-- THE TIED CARD OF 'cartouchelaw11.WeierPoints'. -/
def weierPointsCard : Claim7 := { stood := { row := weierPointsRow, standIns := [], harness := (true, "e54579148be440fa4486c4a898dc0a79d88a36e02d4ee253cc2847c36b208d9d"), looks := false }, kinds := [], alts := [], laidByText := true, laidKinds := [.data, .data, .data, .data], laidTests := true, laidLooks := .later }
def WeierPointsCardSaid : Prop := Claim7.holds Tryd.pinned (.plain (OpenSpec.ofChange weierPointsSpec)) weierPointsCard

/-- THE TIED CARD OF 'cartouchelaw11.WeierOn'. -/
def weierOnCard : Claim7 := { stood := { row := weierOnRow, standIns := [], harness := (true, "e54579148be440fa4486c4a898dc0a79d88a36e02d4ee253cc2847c36b208d9d"), looks := false }, kinds := [], alts := [], laidByText := true, laidKinds := [.data, .data, .data, .data], laidTests := true, laidLooks := .later }
def WeierOnCardSaid : Prop := Claim7.holds Tryd.pinned (.plain (OpenSpec.ofChange weierOnSpec)) weierOnCard

/-- THE TIED CARD OF 'cartouchelaw11.WeierShares'. -/
def weierSharesCard : Claim7 := { stood := { row := weierSharesRow, standIns := [], harness := (true, "e54579148be440fa4486c4a898dc0a79d88a36e02d4ee253cc2847c36b208d9d"), looks := false }, kinds := [], alts := [], laidByText := true, laidKinds := [.data, .data, .data, .data], laidTests := true, laidLooks := .later }
def WeierSharesCardSaid : Prop := Claim7.holds Tryd.pinned (.plain (OpenSpec.ofChange weierSharesSpec)) weierSharesCard

/-- THE TIED CARD OF 'cartouchelaw11.WeierLaws'. -/
def weierLawsCard : Claim7 := { stood := { row := weierLawsRow, standIns := [], harness := (true, "e54579148be440fa4486c4a898dc0a79d88a36e02d4ee253cc2847c36b208d9d"), looks := false }, kinds := [], alts := [], laidByText := true, laidKinds := [.data, .data, .data, .data], laidTests := true, laidLooks := .later }
def WeierLawsCardSaid : Prop := Claim7.holds Tryd.pinned (.plain (OpenSpec.ofChange weierLawsSpec)) weierLawsCard

/-- THE TIED CARD OF 'cartouchelaw11.WeierSums'. -/
def weierSumsCard : Claim7 := { stood := { row := weierSumsRow, standIns := [], harness := (true, "e54579148be440fa4486c4a898dc0a79d88a36e02d4ee253cc2847c36b208d9d"), looks := false }, kinds := [], alts := [], laidByText := true, laidKinds := [.data, .data, .data, .data], laidTests := true, laidLooks := .later }
def WeierSumsCardSaid : Prop := Claim7.holds Tryd.pinned (.plain (OpenSpec.ofChange weierSumsSpec)) weierSumsCard

/-- THE SECOND FORM's CARD OF 'cartouchelaw11.WeierMults'. -/
def weierMultsUptoCard : Claim7 := { stood := { row := weierMultsUptoRow, standIns := [], harness := (true, "e54579148be440fa4486c4a898dc0a79d88a36e02d4ee253cc2847c36b208d9d"), looks := false }, kinds := [], alts := [], laidByText := true, laidKinds := [.data, .data, .data, .data], laidTests := true, laidLooks := .later }
def WeierMultsUptoCardSaid : Prop := Claim7.holds Tryd.pinned (.plain (OpenSpec.upto weierMultsSpec)) weierMultsUptoCard

/-- THE SECOND FORM's CARD OF 'cartouchelaw11.WeierPoints'. -/
def weierPointsUptoCard : Claim7 := { stood := { row := weierPointsUptoRow, standIns := [], harness := (true, "e54579148be440fa4486c4a898dc0a79d88a36e02d4ee253cc2847c36b208d9d"), looks := false }, kinds := [], alts := [], laidByText := true, laidKinds := [.data, .data, .data, .data], laidTests := true, laidLooks := .later }
def WeierPointsUptoCardSaid : Prop := Claim7.holds Tryd.pinned (.plain (OpenSpec.upto weierPointsSpec)) weierPointsUptoCard

/-- THE SECOND FORM's CARD OF 'cartouchelaw11.WeierOn'. -/
def weierOnUptoCard : Claim7 := { stood := { row := weierOnUptoRow, standIns := [], harness := (true, "e54579148be440fa4486c4a898dc0a79d88a36e02d4ee253cc2847c36b208d9d"), looks := false }, kinds := [], alts := [], laidByText := true, laidKinds := [.data, .data, .data, .data], laidTests := true, laidLooks := .later }
def WeierOnUptoCardSaid : Prop := Claim7.holds Tryd.pinned (.plain (OpenSpec.upto weierOnSpec)) weierOnUptoCard

/-- THE SECOND FORM's CARD OF 'cartouchelaw11.WeierShares'. -/
def weierSharesUptoCard : Claim7 := { stood := { row := weierSharesUptoRow, standIns := [], harness := (true, "e54579148be440fa4486c4a898dc0a79d88a36e02d4ee253cc2847c36b208d9d"), looks := false }, kinds := [], alts := [], laidByText := true, laidKinds := [.data, .data, .data, .data], laidTests := true, laidLooks := .later }
def WeierSharesUptoCardSaid : Prop := Claim7.holds Tryd.pinned (.plain (OpenSpec.upto weierSharesSpec)) weierSharesUptoCard

/-- THE SECOND FORM's CARD OF 'cartouchelaw11.WeierLaws'. -/
def weierLawsUptoCard : Claim7 := { stood := { row := weierLawsUptoRow, standIns := [], harness := (true, "e54579148be440fa4486c4a898dc0a79d88a36e02d4ee253cc2847c36b208d9d"), looks := false }, kinds := [], alts := [], laidByText := true, laidKinds := [.data, .data, .data, .data], laidTests := true, laidLooks := .later }
def WeierLawsUptoCardSaid : Prop := Claim7.holds Tryd.pinned (.plain (OpenSpec.upto weierLawsSpec)) weierLawsUptoCard

/-- THE SECOND FORM's CARD OF 'cartouchelaw11.WeierSums'. -/
def weierSumsUptoCard : Claim7 := { stood := { row := weierSumsUptoRow, standIns := [], harness := (true, "e54579148be440fa4486c4a898dc0a79d88a36e02d4ee253cc2847c36b208d9d"), looks := false }, kinds := [], alts := [], laidByText := true, laidKinds := [.data, .data, .data, .data], laidTests := true, laidLooks := .later }
def WeierSumsUptoCardSaid : Prop := Claim7.holds Tryd.pinned (.plain (OpenSpec.upto weierSumsSpec)) weierSumsUptoCard
end Rows
end Go.Proofs.YtapficdphhfpnaaDoor
