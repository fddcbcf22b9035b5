/-
  DERIVED. GIVEN WITH THE SEED: THE CARDS: each row of YtmeaajhongalaaaGreatDoorRows.lean that lists a variable, with what it lists TIED to the program's text (the seventh form; the later family's looks); each row that meets fmt, with fmt's text TOLD by the authors' own Lean function (tested against real Go, not proved from fmt's source: count such statements apart). THE CARD IS WHAT COUNTS. Prove the row's statement (the work); the ties are given (YtmeaajhongalaaaGreatDoorTie.lean); close each card by the builder's one call (the guide's Derived/Test/ToyasCard.lean, 'card_holds'). Laid BY PROGRAM, IN A SANDBOX (cutbox-door.mjs). By AI agents, Wed Nov 11 2026. No macro, syntax, notation, axiom, sorry.
-/
import Derived.Test.YtmeaajhongalaaaGreatDoorRows
import GoSem.ClaimSeven
namespace Go.Proofs.YtmeaajhongalaaaGreatDoor
namespace Rows

/-- THE TIED CARD OF 'chandlerlaw07.IndexSorts'. -/
def indexSortsCard : Claim7 := { stood := { row := indexSortsRow, standIns := [], harness := (true, "fb9e77f1b7e0697cff9aa89fd82e8307387c43b6d6ec6d12ba6f8aac56756084"), looks := true }, kinds := [], alts := [], laidByText := true, laidKinds := [.data, .data, .data, .data, .sentinel, .sentinel, .data, .pinned], laidTests := true, laidLooks := .later }
def IndexSortsCardSaid : Prop := Claim7.holds Tryz.pinned (.plain (OpenSpec.ofChange indexSortsSpec)) indexSortsCard

/-- THE TIED CARD OF 'chandlerlaw07.IndexEntries'. -/
def indexEntriesCard : Claim7 := { stood := { row := indexEntriesRow, standIns := [], harness := (true, "fb9e77f1b7e0697cff9aa89fd82e8307387c43b6d6ec6d12ba6f8aac56756084"), looks := true }, kinds := [], alts := [], laidByText := true, laidKinds := [.data, .data, .data, .data, .sentinel, .sentinel, .data, .pinned], laidTests := true, laidLooks := .later }
def IndexEntriesCardSaid : Prop := Claim7.holds Tryz.pinned (.plain (OpenSpec.ofChange indexEntriesSpec)) indexEntriesCard

/-- THE TIED CARD OF 'chandlerlaw07.IndexNeeds'. -/
def indexNeedsCard : Claim7 := { stood := { row := indexNeedsRow, standIns := [], harness := (true, "fb9e77f1b7e0697cff9aa89fd82e8307387c43b6d6ec6d12ba6f8aac56756084"), looks := true }, kinds := [], alts := [], laidByText := true, laidKinds := [.data, .data, .data, .data, .sentinel, .sentinel, .data, .pinned], laidTests := true, laidLooks := .later }
def IndexNeedsCardSaid : Prop := Claim7.holds Tryz.pinned (.plain (OpenSpec.ofChange indexNeedsSpec)) indexNeedsCard

/-- THE TIED CARD OF 'chandlerlaw07.IndexTakes'. -/
def indexTakesCard : Claim7 := { stood := { row := indexTakesRow, standIns := [], harness := (true, "fb9e77f1b7e0697cff9aa89fd82e8307387c43b6d6ec6d12ba6f8aac56756084"), looks := true }, kinds := [], alts := [], laidByText := true, laidKinds := [.data, .data, .data, .data, .sentinel, .sentinel, .data, .pinned], laidTests := true, laidLooks := .later }
def IndexTakesCardSaid : Prop := Claim7.holds Tryz.pinned (.plain (OpenSpec.ofChange indexTakesSpec)) indexTakesCard

/-- THE TIED CARD OF 'chandlerlaw09.ManifestChecks'. -/
def manifestChecksCard : Claim7 := { stood := { row := manifestChecksRow, standIns := [], harness := (true, "fb9e77f1b7e0697cff9aa89fd82e8307387c43b6d6ec6d12ba6f8aac56756084"), looks := true }, kinds := [], alts := [], laidByText := true, laidKinds := [.data, .data, .data, .data, .sentinel, .sentinel, .data, .pinned], laidTests := true, laidLooks := .later }
def ManifestChecksCardSaid : Prop := Claim7.holds Tryz.pinned (.plain (OpenSpec.ofChange manifestChecksSpec)) manifestChecksCard

/-- THE TIED CARD OF 'chandlerlaw09.ManifestBack'. -/
def manifestBackCard : Claim7 := { stood := { row := manifestBackRow, standIns := [], harness := (true, "fb9e77f1b7e0697cff9aa89fd82e8307387c43b6d6ec6d12ba6f8aac56756084"), looks := true }, kinds := [], alts := [], laidByText := true, laidKinds := [.data, .data, .data, .data, .sentinel, .sentinel, .data, .pinned], laidTests := true, laidLooks := .later }
def ManifestBackCardSaid : Prop := Claim7.holds Tryz.pinned (.plain (OpenSpec.ofChange manifestBackSpec)) manifestBackCard

/-- THE SECOND FORM's CARD OF 'chandlerlaw07.IndexSorts'. -/
def indexSortsUptoCard : Claim7 := { stood := { row := indexSortsUptoRow, standIns := [], harness := (true, "fb9e77f1b7e0697cff9aa89fd82e8307387c43b6d6ec6d12ba6f8aac56756084"), looks := true }, kinds := [], alts := [], laidByText := true, laidKinds := [.data, .data, .data, .data, .sentinel, .sentinel, .data, .pinned], laidTests := true, laidLooks := .later }
def IndexSortsUptoCardSaid : Prop := Claim7.holds Tryz.pinned (.plain (OpenSpec.upto indexSortsSpec)) indexSortsUptoCard

/-- THE SECOND FORM's CARD OF 'chandlerlaw07.IndexEntries'. -/
def indexEntriesUptoCard : Claim7 := { stood := { row := indexEntriesUptoRow, standIns := [], harness := (true, "fb9e77f1b7e0697cff9aa89fd82e8307387c43b6d6ec6d12ba6f8aac56756084"), looks := true }, kinds := [], alts := [], laidByText := true, laidKinds := [.data, .data, .data, .data, .sentinel, .sentinel, .data, .pinned], laidTests := true, laidLooks := .later }
def IndexEntriesUptoCardSaid : Prop := Claim7.holds Tryz.pinned (.plain (OpenSpec.upto indexEntriesSpec)) indexEntriesUptoCard

/-- THE SECOND FORM's CARD OF 'chandlerlaw07.IndexNeeds'. -/
def indexNeedsUptoCard : Claim7 := { stood := { row := indexNeedsUptoRow, standIns := [], harness := (true, "fb9e77f1b7e0697cff9aa89fd82e8307387c43b6d6ec6d12ba6f8aac56756084"), looks := true }, kinds := [], alts := [], laidByText := true, laidKinds := [.data, .data, .data, .data, .sentinel, .sentinel, .data, .pinned], laidTests := true, laidLooks := .later }
def IndexNeedsUptoCardSaid : Prop := Claim7.holds Tryz.pinned (.plain (OpenSpec.upto indexNeedsSpec)) indexNeedsUptoCard

/-- THE SECOND FORM's CARD OF 'chandlerlaw07.IndexTakes'. -/
def indexTakesUptoCard : Claim7 := { stood := { row := indexTakesUptoRow, standIns := [], harness := (true, "fb9e77f1b7e0697cff9aa89fd82e8307387c43b6d6ec6d12ba6f8aac56756084"), looks := true }, kinds := [], alts := [], laidByText := true, laidKinds := [.data, .data, .data, .data, .sentinel, .sentinel, .data, .pinned], laidTests := true, laidLooks := .later }
def IndexTakesUptoCardSaid : Prop := Claim7.holds Tryz.pinned (.plain (OpenSpec.upto indexTakesSpec)) indexTakesUptoCard

/-- THE SECOND FORM's CARD OF 'chandlerlaw09.ManifestChecks'. -/
def manifestChecksUptoCard : Claim7 := { stood := { row := manifestChecksUptoRow, standIns := [], harness := (true, "fb9e77f1b7e0697cff9aa89fd82e8307387c43b6d6ec6d12ba6f8aac56756084"), looks := true }, kinds := [], alts := [], laidByText := true, laidKinds := [.data, .data, .data, .data, .sentinel, .sentinel, .data, .pinned], laidTests := true, laidLooks := .later }
def ManifestChecksUptoCardSaid : Prop := Claim7.holds Tryz.pinned (.plain (OpenSpec.upto manifestChecksSpec)) manifestChecksUptoCard

/-- THE SECOND FORM's CARD OF 'chandlerlaw09.ManifestBack'. -/
def manifestBackUptoCard : Claim7 := { stood := { row := manifestBackUptoRow, standIns := [], harness := (true, "fb9e77f1b7e0697cff9aa89fd82e8307387c43b6d6ec6d12ba6f8aac56756084"), looks := true }, kinds := [], alts := [], laidByText := true, laidKinds := [.data, .data, .data, .data, .sentinel, .sentinel, .data, .pinned], laidTests := true, laidLooks := .later }
def ManifestBackUptoCardSaid : Prop := Claim7.holds Tryz.pinned (.plain (OpenSpec.upto manifestBackSpec)) manifestBackUptoCard
end Rows
end Go.Proofs.YtmeaajhongalaaaGreatDoor
