/-
  DERIVED. GIVEN WITH THE SEED: THE CARDS: each row of YtebhgcejcdgdbaaGreatDoorRows.lean that lists a variable, with what it lists TIED to the program's text (the seventh form; the later family's looks); each row that meets fmt, with fmt's text TOLD by the authors' own Lean function (tested against real Go, not proved from fmt's source: count such statements apart). THE CARD IS WHAT COUNTS. Prove the row's statement (the work); the ties are given (YtebhgcejcdgdbaaGreatDoorTie.lean); close each card by the builder's one call (the guide's Derived/Test/ToyasCard.lean, 'card_holds'). Laid BY PROGRAM, IN A SANDBOX (cutbox-door.mjs). By AI agents, Wed Nov 11 2026. No macro, syntax, notation, axiom, sorry.
-/
import Derived.Test.YtebhgcejcdgdbaaGreatDoorRows
import GoSem.ClaimSeven
namespace Go.Proofs.YtebhgcejcdgdbaaGreatDoor
namespace Rows

/-- THE TIED CARD OF 'chandlerlaw04.SpecParses'. -/
def specParsesCard : Claim7 := { stood := { row := specParsesRow, standIns := [], harness := (true, "6b086bc1932f0969011fbf114bc9b727765304d9e46bcff5d53a88ac69667c04"), looks := true }, kinds := [], alts := [], laidByText := true, laidKinds := [.data, .data, .data, .data, .sentinel, .sentinel, .data, .pinned], laidTests := true, laidLooks := .later }
def SpecParsesCardSaid : Prop := Claim7.holds Tryz.pinned (.plain (OpenSpec.ofChange specParsesSpec)) specParsesCard

/-- THE TIED CARD OF 'chandlerlaw04.SpecChecks'. -/
def specChecksCard : Claim7 := { stood := { row := specChecksRow, standIns := [], harness := (true, "6b086bc1932f0969011fbf114bc9b727765304d9e46bcff5d53a88ac69667c04"), looks := true }, kinds := [], alts := [], laidByText := true, laidKinds := [.data, .data, .data, .data, .sentinel, .sentinel, .data, .pinned], laidTests := true, laidLooks := .later }
def SpecChecksCardSaid : Prop := Claim7.holds Tryz.pinned (.plain (OpenSpec.ofChange specChecksSpec)) specChecksCard

/-- THE TIED CARD OF 'chandlerlaw04.SpecHas'. -/
def specHasCard : Claim7 := { stood := { row := specHasRow, standIns := [], harness := (true, "6b086bc1932f0969011fbf114bc9b727765304d9e46bcff5d53a88ac69667c04"), looks := true }, kinds := [], alts := [], laidByText := true, laidKinds := [.data, .data, .data, .data, .sentinel, .sentinel, .data, .pinned], laidTests := true, laidLooks := .later }
def SpecHasCardSaid : Prop := Claim7.holds Tryz.pinned (.plain (OpenSpec.ofChange specHasSpec)) specHasCard

/-- THE TIED CARD OF 'chandlerlaw04.SpecHighests'. -/
def specHighestsCard : Claim7 := { stood := { row := specHighestsRow, standIns := [], harness := (true, "6b086bc1932f0969011fbf114bc9b727765304d9e46bcff5d53a88ac69667c04"), looks := true }, kinds := [], alts := [], laidByText := true, laidKinds := [.data, .data, .data, .data, .sentinel, .sentinel, .data, .pinned], laidTests := true, laidLooks := .later }
def SpecHighestsCardSaid : Prop := Claim7.holds Tryz.pinned (.plain (OpenSpec.ofChange specHighestsSpec)) specHighestsCard

/-- THE TIED CARD OF 'chandlerlaw04.SpecJoins'. -/
def specJoinsCard : Claim7 := { stood := { row := specJoinsRow, standIns := [], harness := (true, "6b086bc1932f0969011fbf114bc9b727765304d9e46bcff5d53a88ac69667c04"), looks := true }, kinds := [], alts := [], laidByText := true, laidKinds := [.data, .data, .data, .data, .sentinel, .sentinel, .data, .pinned], laidTests := true, laidLooks := .later }
def SpecJoinsCardSaid : Prop := Claim7.holds Tryz.pinned (.plain (OpenSpec.ofChange specJoinsSpec)) specJoinsCard

/-- THE TIED CARD OF 'chandlerlaw04.SpecMeets'. -/
def specMeetsCard : Claim7 := { stood := { row := specMeetsRow, standIns := [], harness := (true, "6b086bc1932f0969011fbf114bc9b727765304d9e46bcff5d53a88ac69667c04"), looks := true }, kinds := [], alts := [], laidByText := true, laidKinds := [.data, .data, .data, .data, .sentinel, .sentinel, .data, .pinned], laidTests := true, laidLooks := .later }
def SpecMeetsCardSaid : Prop := Claim7.holds Tryz.pinned (.plain (OpenSpec.ofChange specMeetsSpec)) specMeetsCard

/-- THE TIED CARD OF 'chandlerlaw04.SpecTurns'. -/
def specTurnsCard : Claim7 := { stood := { row := specTurnsRow, standIns := [], harness := (true, "6b086bc1932f0969011fbf114bc9b727765304d9e46bcff5d53a88ac69667c04"), looks := true }, kinds := [], alts := [], laidByText := true, laidKinds := [.data, .data, .data, .data, .sentinel, .sentinel, .data, .pinned], laidTests := true, laidLooks := .later }
def SpecTurnsCardSaid : Prop := Claim7.holds Tryz.pinned (.plain (OpenSpec.ofChange specTurnsSpec)) specTurnsCard

/-- THE TIED CARD OF 'chandlertop.TopRanges'. -/
def topRangesCard : Claim7 := { stood := { row := topRangesRow, standIns := [], harness := (true, "6b086bc1932f0969011fbf114bc9b727765304d9e46bcff5d53a88ac69667c04"), looks := true }, kinds := [], alts := [], laidByText := true, laidKinds := [.data, .data, .data, .data, .sentinel, .sentinel, .data, .pinned], laidTests := true, laidLooks := .later }
def TopRangesCardSaid : Prop := Claim7.holds Tryz.pinned (.plain (OpenSpec.ofChange topRangesSpec)) topRangesCard

/-- THE SECOND FORM's CARD OF 'chandlerlaw04.SpecParses'. -/
def specParsesUptoCard : Claim7 := { stood := { row := specParsesUptoRow, standIns := [], harness := (true, "6b086bc1932f0969011fbf114bc9b727765304d9e46bcff5d53a88ac69667c04"), looks := true }, kinds := [], alts := [], laidByText := true, laidKinds := [.data, .data, .data, .data, .sentinel, .sentinel, .data, .pinned], laidTests := true, laidLooks := .later }
def SpecParsesUptoCardSaid : Prop := Claim7.holds Tryz.pinned (.plain (OpenSpec.upto specParsesSpec)) specParsesUptoCard

/-- THE SECOND FORM's CARD OF 'chandlerlaw04.SpecChecks'. -/
def specChecksUptoCard : Claim7 := { stood := { row := specChecksUptoRow, standIns := [], harness := (true, "6b086bc1932f0969011fbf114bc9b727765304d9e46bcff5d53a88ac69667c04"), looks := true }, kinds := [], alts := [], laidByText := true, laidKinds := [.data, .data, .data, .data, .sentinel, .sentinel, .data, .pinned], laidTests := true, laidLooks := .later }
def SpecChecksUptoCardSaid : Prop := Claim7.holds Tryz.pinned (.plain (OpenSpec.upto specChecksSpec)) specChecksUptoCard

/-- THE SECOND FORM's CARD OF 'chandlerlaw04.SpecHas'. -/
def specHasUptoCard : Claim7 := { stood := { row := specHasUptoRow, standIns := [], harness := (true, "6b086bc1932f0969011fbf114bc9b727765304d9e46bcff5d53a88ac69667c04"), looks := true }, kinds := [], alts := [], laidByText := true, laidKinds := [.data, .data, .data, .data, .sentinel, .sentinel, .data, .pinned], laidTests := true, laidLooks := .later }
def SpecHasUptoCardSaid : Prop := Claim7.holds Tryz.pinned (.plain (OpenSpec.upto specHasSpec)) specHasUptoCard

/-- THE SECOND FORM's CARD OF 'chandlerlaw04.SpecHighests'. -/
def specHighestsUptoCard : Claim7 := { stood := { row := specHighestsUptoRow, standIns := [], harness := (true, "6b086bc1932f0969011fbf114bc9b727765304d9e46bcff5d53a88ac69667c04"), looks := true }, kinds := [], alts := [], laidByText := true, laidKinds := [.data, .data, .data, .data, .sentinel, .sentinel, .data, .pinned], laidTests := true, laidLooks := .later }
def SpecHighestsUptoCardSaid : Prop := Claim7.holds Tryz.pinned (.plain (OpenSpec.upto specHighestsSpec)) specHighestsUptoCard

/-- THE SECOND FORM's CARD OF 'chandlerlaw04.SpecJoins'. -/
def specJoinsUptoCard : Claim7 := { stood := { row := specJoinsUptoRow, standIns := [], harness := (true, "6b086bc1932f0969011fbf114bc9b727765304d9e46bcff5d53a88ac69667c04"), looks := true }, kinds := [], alts := [], laidByText := true, laidKinds := [.data, .data, .data, .data, .sentinel, .sentinel, .data, .pinned], laidTests := true, laidLooks := .later }
def SpecJoinsUptoCardSaid : Prop := Claim7.holds Tryz.pinned (.plain (OpenSpec.upto specJoinsSpec)) specJoinsUptoCard

/-- THE SECOND FORM's CARD OF 'chandlerlaw04.SpecMeets'. -/
def specMeetsUptoCard : Claim7 := { stood := { row := specMeetsUptoRow, standIns := [], harness := (true, "6b086bc1932f0969011fbf114bc9b727765304d9e46bcff5d53a88ac69667c04"), looks := true }, kinds := [], alts := [], laidByText := true, laidKinds := [.data, .data, .data, .data, .sentinel, .sentinel, .data, .pinned], laidTests := true, laidLooks := .later }
def SpecMeetsUptoCardSaid : Prop := Claim7.holds Tryz.pinned (.plain (OpenSpec.upto specMeetsSpec)) specMeetsUptoCard

/-- THE SECOND FORM's CARD OF 'chandlerlaw04.SpecTurns'. -/
def specTurnsUptoCard : Claim7 := { stood := { row := specTurnsUptoRow, standIns := [], harness := (true, "6b086bc1932f0969011fbf114bc9b727765304d9e46bcff5d53a88ac69667c04"), looks := true }, kinds := [], alts := [], laidByText := true, laidKinds := [.data, .data, .data, .data, .sentinel, .sentinel, .data, .pinned], laidTests := true, laidLooks := .later }
def SpecTurnsUptoCardSaid : Prop := Claim7.holds Tryz.pinned (.plain (OpenSpec.upto specTurnsSpec)) specTurnsUptoCard

/-- THE SECOND FORM's CARD OF 'chandlertop.TopRanges'. -/
def topRangesUptoCard : Claim7 := { stood := { row := topRangesUptoRow, standIns := [], harness := (true, "6b086bc1932f0969011fbf114bc9b727765304d9e46bcff5d53a88ac69667c04"), looks := true }, kinds := [], alts := [], laidByText := true, laidKinds := [.data, .data, .data, .data, .sentinel, .sentinel, .data, .pinned], laidTests := true, laidLooks := .later }
def TopRangesUptoCardSaid : Prop := Claim7.holds Tryz.pinned (.plain (OpenSpec.upto topRangesSpec)) topRangesUptoCard
end Rows
end Go.Proofs.YtebhgcejcdgdbaaGreatDoor
