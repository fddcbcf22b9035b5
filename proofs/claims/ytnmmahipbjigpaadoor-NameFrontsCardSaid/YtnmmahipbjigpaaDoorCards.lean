/-
  DERIVED. GIVEN WITH THE SEED: THE CARDS: each row of YtnmmahipbjigpaaDoorRows.lean that lists a variable, with what it lists TIED to the program's text (the seventh form; the later family's looks); each row that meets fmt, with fmt's text TOLD by the authors' own Lean function (tested against real Go, not proved from fmt's source: count such statements apart). THE CARD IS WHAT COUNTS. Prove the row's statement (the work); the ties are given (YtnmmahipbjigpaaDoorTie.lean); close each card by the builder's one call (the guide's Derived/Test/ToyasCard.lean, 'card_holds'). Laid BY PROGRAM, IN A SANDBOX (cutbox-door.mjs). By AI agents, Wed Nov 11 2026. No macro, syntax, notation, axiom, sorry.
-/
import Derived.Test.YtnmmahipbjigpaaDoorRows
import GoSem.ClaimSeven
namespace Go.Proofs.YtnmmahipbjigpaaDoor
namespace Rows

/-- THE TIED CARD OF 'chandlerlaw05.NameChecks'. -/
def nameChecksCard : Claim7 := { stood := { row := nameChecksRow, standIns := [], harness := (true, "bfe921a525bf2474cf102375f9188b4a92c9357be0904271a3450dc5cf3213e4"), looks := false }, kinds := [], alts := [], laidByText := true, laidKinds := [.data, .pinned], laidTests := true, laidLooks := .later }
def NameChecksCardSaid : Prop := Claim7.holds Tryd.pinned (.plain (OpenSpec.ofChange nameChecksSpec)) nameChecksCard

/-- THE TIED CARD OF 'chandlerlaw05.NameMatches'. -/
def nameMatchesCard : Claim7 := { stood := { row := nameMatchesRow, standIns := [], harness := (true, "bfe921a525bf2474cf102375f9188b4a92c9357be0904271a3450dc5cf3213e4"), looks := false }, kinds := [], alts := [], laidByText := true, laidKinds := [.data, .pinned], laidTests := true, laidLooks := .later }
def NameMatchesCardSaid : Prop := Claim7.holds Tryd.pinned (.plain (OpenSpec.ofChange nameMatchesSpec)) nameMatchesCard

/-- THE TIED CARD OF 'chandlerlaw05.NameLongests'. -/
def nameLongestsCard : Claim7 := { stood := { row := nameLongestsRow, standIns := [], harness := (true, "bfe921a525bf2474cf102375f9188b4a92c9357be0904271a3450dc5cf3213e4"), looks := false }, kinds := [], alts := [], laidByText := true, laidKinds := [.data, .pinned], laidTests := true, laidLooks := .later }
def NameLongestsCardSaid : Prop := Claim7.holds Tryd.pinned (.plain (OpenSpec.ofChange nameLongestsSpec)) nameLongestsCard

/-- THE TIED CARD OF 'chandlerlaw05.NameRanks'. -/
def nameRanksCard : Claim7 := { stood := { row := nameRanksRow, standIns := [], harness := (true, "bfe921a525bf2474cf102375f9188b4a92c9357be0904271a3450dc5cf3213e4"), looks := false }, kinds := [], alts := [], laidByText := true, laidKinds := [.data, .pinned], laidTests := true, laidLooks := .later }
def NameRanksCardSaid : Prop := Claim7.holds Tryd.pinned (.plain (OpenSpec.ofChange nameRanksSpec)) nameRanksCard

/-- THE TIED CARD OF 'chandlerlaw05.NameFronts'. -/
def nameFrontsCard : Claim7 := { stood := { row := nameFrontsRow, standIns := [], harness := (true, "bfe921a525bf2474cf102375f9188b4a92c9357be0904271a3450dc5cf3213e4"), looks := false }, kinds := [], alts := [], laidByText := true, laidKinds := [.data, .pinned], laidTests := true, laidLooks := .later }
def NameFrontsCardSaid : Prop := Claim7.holds Tryd.pinned (.plain (OpenSpec.ofChange nameFrontsSpec)) nameFrontsCard

/-- THE SECOND FORM's CARD OF 'chandlerlaw05.NameChecks'. -/
def nameChecksUptoCard : Claim7 := { stood := { row := nameChecksUptoRow, standIns := [], harness := (true, "bfe921a525bf2474cf102375f9188b4a92c9357be0904271a3450dc5cf3213e4"), looks := false }, kinds := [], alts := [], laidByText := true, laidKinds := [.data, .pinned], laidTests := true, laidLooks := .later }
def NameChecksUptoCardSaid : Prop := Claim7.holds Tryd.pinned (.plain (OpenSpec.upto nameChecksSpec)) nameChecksUptoCard

/-- THE SECOND FORM's CARD OF 'chandlerlaw05.NameMatches'. -/
def nameMatchesUptoCard : Claim7 := { stood := { row := nameMatchesUptoRow, standIns := [], harness := (true, "bfe921a525bf2474cf102375f9188b4a92c9357be0904271a3450dc5cf3213e4"), looks := false }, kinds := [], alts := [], laidByText := true, laidKinds := [.data, .pinned], laidTests := true, laidLooks := .later }
def NameMatchesUptoCardSaid : Prop := Claim7.holds Tryd.pinned (.plain (OpenSpec.upto nameMatchesSpec)) nameMatchesUptoCard

/-- THE SECOND FORM's CARD OF 'chandlerlaw05.NameLongests'. -/
def nameLongestsUptoCard : Claim7 := { stood := { row := nameLongestsUptoRow, standIns := [], harness := (true, "bfe921a525bf2474cf102375f9188b4a92c9357be0904271a3450dc5cf3213e4"), looks := false }, kinds := [], alts := [], laidByText := true, laidKinds := [.data, .pinned], laidTests := true, laidLooks := .later }
def NameLongestsUptoCardSaid : Prop := Claim7.holds Tryd.pinned (.plain (OpenSpec.upto nameLongestsSpec)) nameLongestsUptoCard

/-- THE SECOND FORM's CARD OF 'chandlerlaw05.NameRanks'. -/
def nameRanksUptoCard : Claim7 := { stood := { row := nameRanksUptoRow, standIns := [], harness := (true, "bfe921a525bf2474cf102375f9188b4a92c9357be0904271a3450dc5cf3213e4"), looks := false }, kinds := [], alts := [], laidByText := true, laidKinds := [.data, .pinned], laidTests := true, laidLooks := .later }
def NameRanksUptoCardSaid : Prop := Claim7.holds Tryd.pinned (.plain (OpenSpec.upto nameRanksSpec)) nameRanksUptoCard

/-- THE SECOND FORM's CARD OF 'chandlerlaw05.NameFronts'. -/
def nameFrontsUptoCard : Claim7 := { stood := { row := nameFrontsUptoRow, standIns := [], harness := (true, "bfe921a525bf2474cf102375f9188b4a92c9357be0904271a3450dc5cf3213e4"), looks := false }, kinds := [], alts := [], laidByText := true, laidKinds := [.data, .pinned], laidTests := true, laidLooks := .later }
def NameFrontsUptoCardSaid : Prop := Claim7.holds Tryd.pinned (.plain (OpenSpec.upto nameFrontsSpec)) nameFrontsUptoCard
end Rows
end Go.Proofs.YtnmmahipbjigpaaDoor
