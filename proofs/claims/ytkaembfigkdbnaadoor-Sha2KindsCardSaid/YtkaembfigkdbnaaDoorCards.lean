/-
  DERIVED. GIVEN WITH THE SEED: THE CARDS: each row of YtkaembfigkdbnaaDoorRows.lean that lists a variable, with what it lists TIED to the program's text (the seventh form; the later family's looks); each row that meets fmt, with fmt's text TOLD by the authors' own Lean function (tested against real Go, not proved from fmt's source: count such statements apart). THE CARD IS WHAT COUNTS. Prove the row's statement (the work); the ties are given (YtkaembfigkdbnaaDoorTie.lean); close each card by the builder's one call (the guide's Derived/Test/ToyasCard.lean, 'card_holds'). Laid BY PROGRAM, IN A SANDBOX (cutbox-door.mjs). By AI agents, Wed Nov 11 2026. No macro, syntax, notation, axiom, sorry.
-/
import Derived.Test.YtkaembfigkdbnaaDoorRows
import GoSem.ClaimSeven
namespace Go.Proofs.YtkaembfigkdbnaaDoor
namespace Rows

/-- THE TIED CARD OF 'cartouchelaw03.Sha2Sums'. -/
def sha2SumsCard : Claim7 := { stood := { row := sha2SumsRow, standIns := [], harness := (true, "b6ccad915b6b1824b3aad6bc1acb827443d22660934be0b19285169a77018eed"), looks := false }, kinds := [], alts := [], laidByText := true, laidKinds := [.data, .data], laidTests := true, laidLooks := .later }
def Sha2SumsCardSaid : Prop := Claim7.holds Tryd.pinned (.plain (OpenSpec.ofChange sha2SumsSpec)) sha2SumsCard

/-- THE TIED CARD OF 'cartouchelaw03.Sha2Parts'. -/
def sha2PartsCard : Claim7 := { stood := { row := sha2PartsRow, standIns := [], harness := (true, "b6ccad915b6b1824b3aad6bc1acb827443d22660934be0b19285169a77018eed"), looks := false }, kinds := [], alts := [], laidByText := true, laidKinds := [.data, .data], laidTests := true, laidLooks := .later }
def Sha2PartsCardSaid : Prop := Claim7.holds Tryd.pinned (.plain (OpenSpec.ofChange sha2PartsSpec)) sha2PartsCard

/-- THE TIED CARD OF 'cartouchelaw03.Sha2Copies'. -/
def sha2CopiesCard : Claim7 := { stood := { row := sha2CopiesRow, standIns := [], harness := (true, "b6ccad915b6b1824b3aad6bc1acb827443d22660934be0b19285169a77018eed"), looks := false }, kinds := [], alts := [], laidByText := true, laidKinds := [.data, .data], laidTests := true, laidLooks := .later }
def Sha2CopiesCardSaid : Prop := Claim7.holds Tryd.pinned (.plain (OpenSpec.ofChange sha2CopiesSpec)) sha2CopiesCard

/-- THE TIED CARD OF 'cartouchelaw03.Sha2Kinds'. -/
def sha2KindsCard : Claim7 := { stood := { row := sha2KindsRow, standIns := [], harness := (true, "b6ccad915b6b1824b3aad6bc1acb827443d22660934be0b19285169a77018eed"), looks := false }, kinds := [], alts := [], laidByText := true, laidKinds := [.data, .data], laidTests := true, laidLooks := .later }
def Sha2KindsCardSaid : Prop := Claim7.holds Tryd.pinned (.plain (OpenSpec.ofChange sha2KindsSpec)) sha2KindsCard

/-- THE TIED CARD OF 'cartouchelaw03.Sha2Own'. -/
def sha2OwnCard : Claim7 := { stood := { row := sha2OwnRow, standIns := [], harness := (true, "b6ccad915b6b1824b3aad6bc1acb827443d22660934be0b19285169a77018eed"), looks := false }, kinds := [], alts := [], laidByText := true, laidKinds := [.data, .data], laidTests := true, laidLooks := .later }
def Sha2OwnCardSaid : Prop := Claim7.holds Tryd.pinned (.plain (OpenSpec.ofChange sha2OwnSpec)) sha2OwnCard

/-- THE SECOND FORM's CARD OF 'cartouchelaw03.Sha2Sums'. -/
def sha2SumsUptoCard : Claim7 := { stood := { row := sha2SumsUptoRow, standIns := [], harness := (true, "b6ccad915b6b1824b3aad6bc1acb827443d22660934be0b19285169a77018eed"), looks := false }, kinds := [], alts := [], laidByText := true, laidKinds := [.data, .data], laidTests := true, laidLooks := .later }
def Sha2SumsUptoCardSaid : Prop := Claim7.holds Tryd.pinned (.plain (OpenSpec.upto sha2SumsSpec)) sha2SumsUptoCard

/-- THE SECOND FORM's CARD OF 'cartouchelaw03.Sha2Parts'. -/
def sha2PartsUptoCard : Claim7 := { stood := { row := sha2PartsUptoRow, standIns := [], harness := (true, "b6ccad915b6b1824b3aad6bc1acb827443d22660934be0b19285169a77018eed"), looks := false }, kinds := [], alts := [], laidByText := true, laidKinds := [.data, .data], laidTests := true, laidLooks := .later }
def Sha2PartsUptoCardSaid : Prop := Claim7.holds Tryd.pinned (.plain (OpenSpec.upto sha2PartsSpec)) sha2PartsUptoCard

/-- THE SECOND FORM's CARD OF 'cartouchelaw03.Sha2Copies'. -/
def sha2CopiesUptoCard : Claim7 := { stood := { row := sha2CopiesUptoRow, standIns := [], harness := (true, "b6ccad915b6b1824b3aad6bc1acb827443d22660934be0b19285169a77018eed"), looks := false }, kinds := [], alts := [], laidByText := true, laidKinds := [.data, .data], laidTests := true, laidLooks := .later }
def Sha2CopiesUptoCardSaid : Prop := Claim7.holds Tryd.pinned (.plain (OpenSpec.upto sha2CopiesSpec)) sha2CopiesUptoCard

/-- THE SECOND FORM's CARD OF 'cartouchelaw03.Sha2Kinds'. -/
def sha2KindsUptoCard : Claim7 := { stood := { row := sha2KindsUptoRow, standIns := [], harness := (true, "b6ccad915b6b1824b3aad6bc1acb827443d22660934be0b19285169a77018eed"), looks := false }, kinds := [], alts := [], laidByText := true, laidKinds := [.data, .data], laidTests := true, laidLooks := .later }
def Sha2KindsUptoCardSaid : Prop := Claim7.holds Tryd.pinned (.plain (OpenSpec.upto sha2KindsSpec)) sha2KindsUptoCard

/-- THE SECOND FORM's CARD OF 'cartouchelaw03.Sha2Own'. -/
def sha2OwnUptoCard : Claim7 := { stood := { row := sha2OwnUptoRow, standIns := [], harness := (true, "b6ccad915b6b1824b3aad6bc1acb827443d22660934be0b19285169a77018eed"), looks := false }, kinds := [], alts := [], laidByText := true, laidKinds := [.data, .data], laidTests := true, laidLooks := .later }
def Sha2OwnUptoCardSaid : Prop := Claim7.holds Tryd.pinned (.plain (OpenSpec.upto sha2OwnSpec)) sha2OwnUptoCard
end Rows
end Go.Proofs.YtkaembfigkdbnaaDoor
