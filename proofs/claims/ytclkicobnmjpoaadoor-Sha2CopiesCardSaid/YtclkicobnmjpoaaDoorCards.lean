/-
  DERIVED. GIVEN WITH THE SEED: THE CARDS: each row of YtclkicobnmjpoaaDoorRows.lean that lists a variable, with what it lists TIED to the program's text (the seventh form; the later family's looks); each row that meets fmt, with fmt's text TOLD by the authors' own Lean function (tested against real Go, not proved from fmt's source: count such statements apart). THE CARD IS WHAT COUNTS. Prove the row's statement (the work); the ties are given (YtclkicobnmjpoaaDoorTie.lean); close each card by the builder's one call (the guide's Derived/Test/ToyasCard.lean, 'card_holds'). Laid BY PROGRAM, IN A SANDBOX (cutbox-door.mjs). By AI agents, Wed Nov 11 2026. No macro, syntax, notation, axiom, sorry.
-/
import Derived.Test.YtclkicobnmjpoaaDoorRows
import GoSem.ClaimSeven
namespace Go.Proofs.YtclkicobnmjpoaaDoor
namespace Rows

/-- THE TIED CARD OF 'cartouchelaw03.Sha2Sums'. -/
def sha2SumsCard : Claim7 := { stood := { row := sha2SumsRow, standIns := [], harness := (true, "b7f51c3f02f86383c6dd5ed24a00553fb3921548d39dddfe28e2796c50cb5228"), looks := false }, kinds := [], alts := [], laidByText := true, laidKinds := [.data, .data], laidTests := true, laidLooks := .later }
def Sha2SumsCardSaid : Prop := Claim7.holds Tryd.pinned (.plain (OpenSpec.ofChange sha2SumsSpec)) sha2SumsCard

/-- THE TIED CARD OF 'cartouchelaw03.Sha2Parts'. -/
def sha2PartsCard : Claim7 := { stood := { row := sha2PartsRow, standIns := [], harness := (true, "b7f51c3f02f86383c6dd5ed24a00553fb3921548d39dddfe28e2796c50cb5228"), looks := false }, kinds := [], alts := [], laidByText := true, laidKinds := [.data, .data], laidTests := true, laidLooks := .later }
def Sha2PartsCardSaid : Prop := Claim7.holds Tryd.pinned (.plain (OpenSpec.ofChange sha2PartsSpec)) sha2PartsCard

/-- THE TIED CARD OF 'cartouchelaw03.Sha2Copies'. -/
def sha2CopiesCard : Claim7 := { stood := { row := sha2CopiesRow, standIns := [], harness := (true, "b7f51c3f02f86383c6dd5ed24a00553fb3921548d39dddfe28e2796c50cb5228"), looks := false }, kinds := [], alts := [], laidByText := true, laidKinds := [.data, .data], laidTests := true, laidLooks := .later }
def Sha2CopiesCardSaid : Prop := Claim7.holds Tryd.pinned (.plain (OpenSpec.ofChange sha2CopiesSpec)) sha2CopiesCard

/-- THE TIED CARD OF 'cartouchelaw03.Sha2Own'. -/
def sha2OwnCard : Claim7 := { stood := { row := sha2OwnRow, standIns := [], harness := (true, "b7f51c3f02f86383c6dd5ed24a00553fb3921548d39dddfe28e2796c50cb5228"), looks := false }, kinds := [], alts := [], laidByText := true, laidKinds := [.data, .data], laidTests := true, laidLooks := .later }
def Sha2OwnCardSaid : Prop := Claim7.holds Tryd.pinned (.plain (OpenSpec.ofChange sha2OwnSpec)) sha2OwnCard

/-- THE TIED CARD OF 'cartouchelaw04.MacExpands'. -/
def macExpandsCard : Claim7 := { stood := { row := macExpandsRow, standIns := [], harness := (true, "b7f51c3f02f86383c6dd5ed24a00553fb3921548d39dddfe28e2796c50cb5228"), looks := false }, kinds := [], alts := [], laidByText := true, laidKinds := [.data, .data], laidTests := true, laidLooks := .later }
def MacExpandsCardSaid : Prop := Claim7.holds Tryd.pinned (.plain (OpenSpec.ofChange macExpandsSpec)) macExpandsCard

/-- THE TIED CARD OF 'cartouchelaw04.MacLabels'. -/
def macLabelsCard : Claim7 := { stood := { row := macLabelsRow, standIns := [], harness := (true, "b7f51c3f02f86383c6dd5ed24a00553fb3921548d39dddfe28e2796c50cb5228"), looks := false }, kinds := [], alts := [], laidByText := true, laidKinds := [.data, .data], laidTests := true, laidLooks := .later }
def MacLabelsCardSaid : Prop := Claim7.holds Tryd.pinned (.plain (OpenSpec.ofChange macLabelsSpec)) macLabelsCard

/-- THE TIED CARD OF 'cartouchelaw04.MacEqual'. -/
def macEqualCard : Claim7 := { stood := { row := macEqualRow, standIns := [], harness := (true, "b7f51c3f02f86383c6dd5ed24a00553fb3921548d39dddfe28e2796c50cb5228"), looks := false }, kinds := [], alts := [], laidByText := true, laidKinds := [.data, .data], laidTests := true, laidLooks := .later }
def MacEqualCardSaid : Prop := Claim7.holds Tryd.pinned (.plain (OpenSpec.ofChange macEqualSpec)) macEqualCard

/-- THE TIED CARD OF 'cartouchelaw04.MacKeys'. -/
def macKeysCard : Claim7 := { stood := { row := macKeysRow, standIns := [], harness := (true, "b7f51c3f02f86383c6dd5ed24a00553fb3921548d39dddfe28e2796c50cb5228"), looks := false }, kinds := [], alts := [], laidByText := true, laidKinds := [.data, .data], laidTests := true, laidLooks := .later }
def MacKeysCardSaid : Prop := Claim7.holds Tryd.pinned (.plain (OpenSpec.ofChange macKeysSpec)) macKeysCard

/-- THE SECOND FORM's CARD OF 'cartouchelaw03.Sha2Sums'. -/
def sha2SumsUptoCard : Claim7 := { stood := { row := sha2SumsUptoRow, standIns := [], harness := (true, "b7f51c3f02f86383c6dd5ed24a00553fb3921548d39dddfe28e2796c50cb5228"), looks := false }, kinds := [], alts := [], laidByText := true, laidKinds := [.data, .data], laidTests := true, laidLooks := .later }
def Sha2SumsUptoCardSaid : Prop := Claim7.holds Tryd.pinned (.plain (OpenSpec.upto sha2SumsSpec)) sha2SumsUptoCard

/-- THE SECOND FORM's CARD OF 'cartouchelaw03.Sha2Parts'. -/
def sha2PartsUptoCard : Claim7 := { stood := { row := sha2PartsUptoRow, standIns := [], harness := (true, "b7f51c3f02f86383c6dd5ed24a00553fb3921548d39dddfe28e2796c50cb5228"), looks := false }, kinds := [], alts := [], laidByText := true, laidKinds := [.data, .data], laidTests := true, laidLooks := .later }
def Sha2PartsUptoCardSaid : Prop := Claim7.holds Tryd.pinned (.plain (OpenSpec.upto sha2PartsSpec)) sha2PartsUptoCard

/-- THE SECOND FORM's CARD OF 'cartouchelaw03.Sha2Copies'. -/
def sha2CopiesUptoCard : Claim7 := { stood := { row := sha2CopiesUptoRow, standIns := [], harness := (true, "b7f51c3f02f86383c6dd5ed24a00553fb3921548d39dddfe28e2796c50cb5228"), looks := false }, kinds := [], alts := [], laidByText := true, laidKinds := [.data, .data], laidTests := true, laidLooks := .later }
def Sha2CopiesUptoCardSaid : Prop := Claim7.holds Tryd.pinned (.plain (OpenSpec.upto sha2CopiesSpec)) sha2CopiesUptoCard

/-- THE SECOND FORM's CARD OF 'cartouchelaw03.Sha2Own'. -/
def sha2OwnUptoCard : Claim7 := { stood := { row := sha2OwnUptoRow, standIns := [], harness := (true, "b7f51c3f02f86383c6dd5ed24a00553fb3921548d39dddfe28e2796c50cb5228"), looks := false }, kinds := [], alts := [], laidByText := true, laidKinds := [.data, .data], laidTests := true, laidLooks := .later }
def Sha2OwnUptoCardSaid : Prop := Claim7.holds Tryd.pinned (.plain (OpenSpec.upto sha2OwnSpec)) sha2OwnUptoCard

/-- THE SECOND FORM's CARD OF 'cartouchelaw04.MacExpands'. -/
def macExpandsUptoCard : Claim7 := { stood := { row := macExpandsUptoRow, standIns := [], harness := (true, "b7f51c3f02f86383c6dd5ed24a00553fb3921548d39dddfe28e2796c50cb5228"), looks := false }, kinds := [], alts := [], laidByText := true, laidKinds := [.data, .data], laidTests := true, laidLooks := .later }
def MacExpandsUptoCardSaid : Prop := Claim7.holds Tryd.pinned (.plain (OpenSpec.upto macExpandsSpec)) macExpandsUptoCard

/-- THE SECOND FORM's CARD OF 'cartouchelaw04.MacLabels'. -/
def macLabelsUptoCard : Claim7 := { stood := { row := macLabelsUptoRow, standIns := [], harness := (true, "b7f51c3f02f86383c6dd5ed24a00553fb3921548d39dddfe28e2796c50cb5228"), looks := false }, kinds := [], alts := [], laidByText := true, laidKinds := [.data, .data], laidTests := true, laidLooks := .later }
def MacLabelsUptoCardSaid : Prop := Claim7.holds Tryd.pinned (.plain (OpenSpec.upto macLabelsSpec)) macLabelsUptoCard

/-- THE SECOND FORM's CARD OF 'cartouchelaw04.MacEqual'. -/
def macEqualUptoCard : Claim7 := { stood := { row := macEqualUptoRow, standIns := [], harness := (true, "b7f51c3f02f86383c6dd5ed24a00553fb3921548d39dddfe28e2796c50cb5228"), looks := false }, kinds := [], alts := [], laidByText := true, laidKinds := [.data, .data], laidTests := true, laidLooks := .later }
def MacEqualUptoCardSaid : Prop := Claim7.holds Tryd.pinned (.plain (OpenSpec.upto macEqualSpec)) macEqualUptoCard

/-- THE SECOND FORM's CARD OF 'cartouchelaw04.MacKeys'. -/
def macKeysUptoCard : Claim7 := { stood := { row := macKeysUptoRow, standIns := [], harness := (true, "b7f51c3f02f86383c6dd5ed24a00553fb3921548d39dddfe28e2796c50cb5228"), looks := false }, kinds := [], alts := [], laidByText := true, laidKinds := [.data, .data], laidTests := true, laidLooks := .later }
def MacKeysUptoCardSaid : Prop := Claim7.holds Tryd.pinned (.plain (OpenSpec.upto macKeysSpec)) macKeysUptoCard
end Rows
end Go.Proofs.YtclkicobnmjpoaaDoor
