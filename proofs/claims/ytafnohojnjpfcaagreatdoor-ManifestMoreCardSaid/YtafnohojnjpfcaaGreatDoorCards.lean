/-
  DERIVED. GIVEN WITH THE SEED: THE CARDS: each row of YtafnohojnjpfcaaGreatDoorRows.lean that lists a variable, with what it lists TIED to the program's text (the seventh form; the later family's looks); each row that meets fmt, with fmt's text TOLD by the authors' own Lean function (tested against real Go, not proved from fmt's source: count such statements apart). THE CARD IS WHAT COUNTS. Prove the row's statement (the work); the ties are given (YtafnohojnjpfcaaGreatDoorTie.lean); close each card by the builder's one call (the guide's Derived/Test/ToyasCard.lean, 'card_holds'). Laid BY PROGRAM, IN A SANDBOX (cutbox-door.mjs). By AI agents, Wed Nov 11 2026. No macro, syntax, notation, axiom, sorry.
-/
import Derived.Test.YtafnohojnjpfcaaGreatDoorRows
import GoSem.ClaimSeven
namespace Go.Proofs.YtafnohojnjpfcaaGreatDoor
namespace Rows

/-- THE TIED CARD OF 'chandlerlaw07.IndexParses'. -/
def indexParsesCard : Claim7 := { stood := { row := indexParsesRow, standIns := [], harness := (true, "effeb68553abf0c7423c44962beef296c890565be467b910ad3c1773bd3720a9"), looks := true }, kinds := [], alts := [], laidByText := true, laidKinds := [.data, .data, .data, .data, .sentinel, .sentinel, .data, .pinned], laidTests := true, laidLooks := .later }
def IndexParsesCardSaid : Prop := Claim7.holds Tryz.pinned (.plain (OpenSpec.ofChange indexParsesSpec)) indexParsesCard

/-- THE TIED CARD OF 'chandlerlaw07.IndexChecks'. -/
def indexChecksCard : Claim7 := { stood := { row := indexChecksRow, standIns := [], harness := (true, "effeb68553abf0c7423c44962beef296c890565be467b910ad3c1773bd3720a9"), looks := true }, kinds := [], alts := [], laidByText := true, laidKinds := [.data, .data, .data, .data, .sentinel, .sentinel, .data, .pinned], laidTests := true, laidLooks := .later }
def IndexChecksCardSaid : Prop := Claim7.holds Tryz.pinned (.plain (OpenSpec.ofChange indexChecksSpec)) indexChecksCard

/-- THE TIED CARD OF 'chandlerlaw07.IndexSorts'. -/
def indexSortsCard : Claim7 := { stood := { row := indexSortsRow, standIns := [], harness := (true, "effeb68553abf0c7423c44962beef296c890565be467b910ad3c1773bd3720a9"), looks := true }, kinds := [], alts := [], laidByText := true, laidKinds := [.data, .data, .data, .data, .sentinel, .sentinel, .data, .pinned], laidTests := true, laidLooks := .later }
def IndexSortsCardSaid : Prop := Claim7.holds Tryz.pinned (.plain (OpenSpec.ofChange indexSortsSpec)) indexSortsCard

/-- THE TIED CARD OF 'chandlerlaw07.IndexEntries'. -/
def indexEntriesCard : Claim7 := { stood := { row := indexEntriesRow, standIns := [], harness := (true, "effeb68553abf0c7423c44962beef296c890565be467b910ad3c1773bd3720a9"), looks := true }, kinds := [], alts := [], laidByText := true, laidKinds := [.data, .data, .data, .data, .sentinel, .sentinel, .data, .pinned], laidTests := true, laidLooks := .later }
def IndexEntriesCardSaid : Prop := Claim7.holds Tryz.pinned (.plain (OpenSpec.ofChange indexEntriesSpec)) indexEntriesCard

/-- THE TIED CARD OF 'chandlerlaw07.IndexNeeds'. -/
def indexNeedsCard : Claim7 := { stood := { row := indexNeedsRow, standIns := [], harness := (true, "effeb68553abf0c7423c44962beef296c890565be467b910ad3c1773bd3720a9"), looks := true }, kinds := [], alts := [], laidByText := true, laidKinds := [.data, .data, .data, .data, .sentinel, .sentinel, .data, .pinned], laidTests := true, laidLooks := .later }
def IndexNeedsCardSaid : Prop := Claim7.holds Tryz.pinned (.plain (OpenSpec.ofChange indexNeedsSpec)) indexNeedsCard

/-- THE TIED CARD OF 'chandlerlaw07.IndexTakes'. -/
def indexTakesCard : Claim7 := { stood := { row := indexTakesRow, standIns := [], harness := (true, "effeb68553abf0c7423c44962beef296c890565be467b910ad3c1773bd3720a9"), looks := true }, kinds := [], alts := [], laidByText := true, laidKinds := [.data, .data, .data, .data, .sentinel, .sentinel, .data, .pinned], laidTests := true, laidLooks := .later }
def IndexTakesCardSaid : Prop := Claim7.holds Tryz.pinned (.plain (OpenSpec.ofChange indexTakesSpec)) indexTakesCard

/-- THE TIED CARD OF 'chandlerlaw07.IndexBack'. -/
def indexBackCard : Claim7 := { stood := { row := indexBackRow, standIns := [], harness := (true, "effeb68553abf0c7423c44962beef296c890565be467b910ad3c1773bd3720a9"), looks := true }, kinds := [], alts := [], laidByText := true, laidKinds := [.data, .data, .data, .data, .sentinel, .sentinel, .data, .pinned], laidTests := true, laidLooks := .later }
def IndexBackCardSaid : Prop := Claim7.holds Tryz.pinned (.plain (OpenSpec.ofChange indexBackSpec)) indexBackCard

/-- THE TIED CARD OF 'chandlerlaw09.ManifestParses'. -/
def manifestParsesCard : Claim7 := { stood := { row := manifestParsesRow, standIns := [], harness := (true, "effeb68553abf0c7423c44962beef296c890565be467b910ad3c1773bd3720a9"), looks := true }, kinds := [], alts := [], laidByText := true, laidKinds := [.data, .data, .data, .data, .sentinel, .sentinel, .data, .pinned], laidTests := true, laidLooks := .later }
def ManifestParsesCardSaid : Prop := Claim7.holds Tryz.pinned (.plain (OpenSpec.ofChange manifestParsesSpec)) manifestParsesCard

/-- THE TIED CARD OF 'chandlerlaw09.ManifestChecks'. -/
def manifestChecksCard : Claim7 := { stood := { row := manifestChecksRow, standIns := [], harness := (true, "effeb68553abf0c7423c44962beef296c890565be467b910ad3c1773bd3720a9"), looks := true }, kinds := [], alts := [], laidByText := true, laidKinds := [.data, .data, .data, .data, .sentinel, .sentinel, .data, .pinned], laidTests := true, laidLooks := .later }
def ManifestChecksCardSaid : Prop := Claim7.holds Tryz.pinned (.plain (OpenSpec.ofChange manifestChecksSpec)) manifestChecksCard

/-- THE TIED CARD OF 'chandlerlaw09.ManifestNames'. -/
def manifestNamesCard : Claim7 := { stood := { row := manifestNamesRow, standIns := [], harness := (true, "effeb68553abf0c7423c44962beef296c890565be467b910ad3c1773bd3720a9"), looks := true }, kinds := [], alts := [], laidByText := true, laidKinds := [.data, .data, .data, .data, .sentinel, .sentinel, .data, .pinned], laidTests := true, laidLooks := .later }
def ManifestNamesCardSaid : Prop := Claim7.holds Tryz.pinned (.plain (OpenSpec.ofChange manifestNamesSpec)) manifestNamesCard

/-- THE TIED CARD OF 'chandlerlaw09.ManifestBack'. -/
def manifestBackCard : Claim7 := { stood := { row := manifestBackRow, standIns := [], harness := (true, "effeb68553abf0c7423c44962beef296c890565be467b910ad3c1773bd3720a9"), looks := true }, kinds := [], alts := [], laidByText := true, laidKinds := [.data, .data, .data, .data, .sentinel, .sentinel, .data, .pinned], laidTests := true, laidLooks := .later }
def ManifestBackCardSaid : Prop := Claim7.holds Tryz.pinned (.plain (OpenSpec.ofChange manifestBackSpec)) manifestBackCard

/-- THE TIED CARD OF 'chandlerlaw09.ManifestMore'. -/
def manifestMoreCard : Claim7 := { stood := { row := manifestMoreRow, standIns := [], harness := (true, "effeb68553abf0c7423c44962beef296c890565be467b910ad3c1773bd3720a9"), looks := true }, kinds := [], alts := [], laidByText := true, laidKinds := [.data, .data, .data, .data, .sentinel, .sentinel, .data, .pinned], laidTests := true, laidLooks := .later }
def ManifestMoreCardSaid : Prop := Claim7.holds Tryz.pinned (.plain (OpenSpec.ofChange manifestMoreSpec)) manifestMoreCard

/-- THE SECOND FORM's CARD OF 'chandlerlaw07.IndexParses'. -/
def indexParsesUptoCard : Claim7 := { stood := { row := indexParsesUptoRow, standIns := [], harness := (true, "effeb68553abf0c7423c44962beef296c890565be467b910ad3c1773bd3720a9"), looks := true }, kinds := [], alts := [], laidByText := true, laidKinds := [.data, .data, .data, .data, .sentinel, .sentinel, .data, .pinned], laidTests := true, laidLooks := .later }
def IndexParsesUptoCardSaid : Prop := Claim7.holds Tryz.pinned (.plain (OpenSpec.upto indexParsesSpec)) indexParsesUptoCard

/-- THE SECOND FORM's CARD OF 'chandlerlaw07.IndexChecks'. -/
def indexChecksUptoCard : Claim7 := { stood := { row := indexChecksUptoRow, standIns := [], harness := (true, "effeb68553abf0c7423c44962beef296c890565be467b910ad3c1773bd3720a9"), looks := true }, kinds := [], alts := [], laidByText := true, laidKinds := [.data, .data, .data, .data, .sentinel, .sentinel, .data, .pinned], laidTests := true, laidLooks := .later }
def IndexChecksUptoCardSaid : Prop := Claim7.holds Tryz.pinned (.plain (OpenSpec.upto indexChecksSpec)) indexChecksUptoCard

/-- THE SECOND FORM's CARD OF 'chandlerlaw07.IndexSorts'. -/
def indexSortsUptoCard : Claim7 := { stood := { row := indexSortsUptoRow, standIns := [], harness := (true, "effeb68553abf0c7423c44962beef296c890565be467b910ad3c1773bd3720a9"), looks := true }, kinds := [], alts := [], laidByText := true, laidKinds := [.data, .data, .data, .data, .sentinel, .sentinel, .data, .pinned], laidTests := true, laidLooks := .later }
def IndexSortsUptoCardSaid : Prop := Claim7.holds Tryz.pinned (.plain (OpenSpec.upto indexSortsSpec)) indexSortsUptoCard

/-- THE SECOND FORM's CARD OF 'chandlerlaw07.IndexEntries'. -/
def indexEntriesUptoCard : Claim7 := { stood := { row := indexEntriesUptoRow, standIns := [], harness := (true, "effeb68553abf0c7423c44962beef296c890565be467b910ad3c1773bd3720a9"), looks := true }, kinds := [], alts := [], laidByText := true, laidKinds := [.data, .data, .data, .data, .sentinel, .sentinel, .data, .pinned], laidTests := true, laidLooks := .later }
def IndexEntriesUptoCardSaid : Prop := Claim7.holds Tryz.pinned (.plain (OpenSpec.upto indexEntriesSpec)) indexEntriesUptoCard

/-- THE SECOND FORM's CARD OF 'chandlerlaw07.IndexNeeds'. -/
def indexNeedsUptoCard : Claim7 := { stood := { row := indexNeedsUptoRow, standIns := [], harness := (true, "effeb68553abf0c7423c44962beef296c890565be467b910ad3c1773bd3720a9"), looks := true }, kinds := [], alts := [], laidByText := true, laidKinds := [.data, .data, .data, .data, .sentinel, .sentinel, .data, .pinned], laidTests := true, laidLooks := .later }
def IndexNeedsUptoCardSaid : Prop := Claim7.holds Tryz.pinned (.plain (OpenSpec.upto indexNeedsSpec)) indexNeedsUptoCard

/-- THE SECOND FORM's CARD OF 'chandlerlaw07.IndexTakes'. -/
def indexTakesUptoCard : Claim7 := { stood := { row := indexTakesUptoRow, standIns := [], harness := (true, "effeb68553abf0c7423c44962beef296c890565be467b910ad3c1773bd3720a9"), looks := true }, kinds := [], alts := [], laidByText := true, laidKinds := [.data, .data, .data, .data, .sentinel, .sentinel, .data, .pinned], laidTests := true, laidLooks := .later }
def IndexTakesUptoCardSaid : Prop := Claim7.holds Tryz.pinned (.plain (OpenSpec.upto indexTakesSpec)) indexTakesUptoCard

/-- THE SECOND FORM's CARD OF 'chandlerlaw07.IndexBack'. -/
def indexBackUptoCard : Claim7 := { stood := { row := indexBackUptoRow, standIns := [], harness := (true, "effeb68553abf0c7423c44962beef296c890565be467b910ad3c1773bd3720a9"), looks := true }, kinds := [], alts := [], laidByText := true, laidKinds := [.data, .data, .data, .data, .sentinel, .sentinel, .data, .pinned], laidTests := true, laidLooks := .later }
def IndexBackUptoCardSaid : Prop := Claim7.holds Tryz.pinned (.plain (OpenSpec.upto indexBackSpec)) indexBackUptoCard

/-- THE SECOND FORM's CARD OF 'chandlerlaw09.ManifestParses'. -/
def manifestParsesUptoCard : Claim7 := { stood := { row := manifestParsesUptoRow, standIns := [], harness := (true, "effeb68553abf0c7423c44962beef296c890565be467b910ad3c1773bd3720a9"), looks := true }, kinds := [], alts := [], laidByText := true, laidKinds := [.data, .data, .data, .data, .sentinel, .sentinel, .data, .pinned], laidTests := true, laidLooks := .later }
def ManifestParsesUptoCardSaid : Prop := Claim7.holds Tryz.pinned (.plain (OpenSpec.upto manifestParsesSpec)) manifestParsesUptoCard

/-- THE SECOND FORM's CARD OF 'chandlerlaw09.ManifestChecks'. -/
def manifestChecksUptoCard : Claim7 := { stood := { row := manifestChecksUptoRow, standIns := [], harness := (true, "effeb68553abf0c7423c44962beef296c890565be467b910ad3c1773bd3720a9"), looks := true }, kinds := [], alts := [], laidByText := true, laidKinds := [.data, .data, .data, .data, .sentinel, .sentinel, .data, .pinned], laidTests := true, laidLooks := .later }
def ManifestChecksUptoCardSaid : Prop := Claim7.holds Tryz.pinned (.plain (OpenSpec.upto manifestChecksSpec)) manifestChecksUptoCard

/-- THE SECOND FORM's CARD OF 'chandlerlaw09.ManifestNames'. -/
def manifestNamesUptoCard : Claim7 := { stood := { row := manifestNamesUptoRow, standIns := [], harness := (true, "effeb68553abf0c7423c44962beef296c890565be467b910ad3c1773bd3720a9"), looks := true }, kinds := [], alts := [], laidByText := true, laidKinds := [.data, .data, .data, .data, .sentinel, .sentinel, .data, .pinned], laidTests := true, laidLooks := .later }
def ManifestNamesUptoCardSaid : Prop := Claim7.holds Tryz.pinned (.plain (OpenSpec.upto manifestNamesSpec)) manifestNamesUptoCard

/-- THE SECOND FORM's CARD OF 'chandlerlaw09.ManifestBack'. -/
def manifestBackUptoCard : Claim7 := { stood := { row := manifestBackUptoRow, standIns := [], harness := (true, "effeb68553abf0c7423c44962beef296c890565be467b910ad3c1773bd3720a9"), looks := true }, kinds := [], alts := [], laidByText := true, laidKinds := [.data, .data, .data, .data, .sentinel, .sentinel, .data, .pinned], laidTests := true, laidLooks := .later }
def ManifestBackUptoCardSaid : Prop := Claim7.holds Tryz.pinned (.plain (OpenSpec.upto manifestBackSpec)) manifestBackUptoCard

/-- THE SECOND FORM's CARD OF 'chandlerlaw09.ManifestMore'. -/
def manifestMoreUptoCard : Claim7 := { stood := { row := manifestMoreUptoRow, standIns := [], harness := (true, "effeb68553abf0c7423c44962beef296c890565be467b910ad3c1773bd3720a9"), looks := true }, kinds := [], alts := [], laidByText := true, laidKinds := [.data, .data, .data, .data, .sentinel, .sentinel, .data, .pinned], laidTests := true, laidLooks := .later }
def ManifestMoreUptoCardSaid : Prop := Claim7.holds Tryz.pinned (.plain (OpenSpec.upto manifestMoreSpec)) manifestMoreUptoCard
end Rows
end Go.Proofs.YtafnohojnjpfcaaGreatDoor
