/-
  DERIVED. GIVEN WITH THE SEED: THE CARDS: each row of YtmfmgenmnikhbaaDoorRows.lean that lists a variable, with what it lists TIED to the program's text (the seventh form; the later family's looks); each row that meets fmt, with fmt's text TOLD by the authors' own Lean function (tested against real Go, not proved from fmt's source: count such statements apart). THE CARD IS WHAT COUNTS. Prove the row's statement (the work); the ties are given (YtmfmgenmnikhbaaDoorTie.lean); close each card by the builder's one call (the guide's Derived/Test/ToyasCard.lean, 'card_holds'). Laid BY PROGRAM, IN A SANDBOX (cutbox-door.mjs). By AI agents, Wed Nov 11 2026. No macro, syntax, notation, axiom, sorry.
-/
import Derived.Test.YtmfmgenmnikhbaaDoorRows
import GoSem.ClaimSeven
namespace Go.Proofs.YtmfmgenmnikhbaaDoor
namespace Rows

/-- THE TIED CARD OF 'chandlerlaw06.MarkParses'. -/
def markParsesCard : Claim7 := { stood := { row := markParsesRow, standIns := [], harness := (true, "868f006159866603ed8007cee2896819d4094245fbf6895e82265562313346e4"), looks := true }, kinds := [], alts := [], laidByText := true, laidKinds := [.data, .data, .data, .data, .sentinel, .sentinel, .pinned], laidTests := true, laidLooks := .later }
def MarkParsesCardSaid : Prop := Claim7.holds Tryd.pinned (.plain (OpenSpec.ofChange markParsesSpec)) markParsesCard

/-- THE TIED CARD OF 'chandlerlaw06.MarkTexts'. -/
def markTextsCard : Claim7 := { stood := { row := markTextsRow, standIns := [], harness := (true, "868f006159866603ed8007cee2896819d4094245fbf6895e82265562313346e4"), looks := true }, kinds := [], alts := [], laidByText := true, laidKinds := [.data, .data, .data, .data, .sentinel, .sentinel, .pinned], laidTests := true, laidLooks := .later }
def MarkTextsCardSaid : Prop := Claim7.holds Tryd.pinned (.plain (OpenSpec.ofChange markTextsSpec)) markTextsCard

/-- THE TIED CARD OF 'chandlerlaw06.MarkUnders'. -/
def markUndersCard : Claim7 := { stood := { row := markUndersRow, standIns := [], harness := (true, "868f006159866603ed8007cee2896819d4094245fbf6895e82265562313346e4"), looks := true }, kinds := [], alts := [], laidByText := true, laidKinds := [.data, .data, .data, .data, .sentinel, .sentinel, .pinned], laidTests := true, laidLooks := .later }
def MarkUndersCardSaid : Prop := Claim7.holds Tryd.pinned (.plain (OpenSpec.ofChange markUndersSpec)) markUndersCard

/-- THE TIED CARD OF 'chandlerlaw06.MarkBounds'. -/
def markBoundsCard : Claim7 := { stood := { row := markBoundsRow, standIns := [], harness := (true, "868f006159866603ed8007cee2896819d4094245fbf6895e82265562313346e4"), looks := true }, kinds := [], alts := [], laidByText := true, laidKinds := [.data, .data, .data, .data, .sentinel, .sentinel, .pinned], laidTests := true, laidLooks := .later }
def MarkBoundsCardSaid : Prop := Claim7.holds Tryd.pinned (.plain (OpenSpec.ofChange markBoundsSpec)) markBoundsCard

/-- THE TIED CARD OF 'chandlerlaw06.MarkDigests'. -/
def markDigestsCard : Claim7 := { stood := { row := markDigestsRow, standIns := [], harness := (true, "868f006159866603ed8007cee2896819d4094245fbf6895e82265562313346e4"), looks := true }, kinds := [], alts := [], laidByText := true, laidKinds := [.data, .data, .data, .data, .sentinel, .sentinel, .pinned], laidTests := true, laidLooks := .later }
def MarkDigestsCardSaid : Prop := Claim7.holds Tryd.pinned (.plain (OpenSpec.ofChange markDigestsSpec)) markDigestsCard

/-- THE SECOND FORM's CARD OF 'chandlerlaw06.MarkParses'. -/
def markParsesUptoCard : Claim7 := { stood := { row := markParsesUptoRow, standIns := [], harness := (true, "868f006159866603ed8007cee2896819d4094245fbf6895e82265562313346e4"), looks := true }, kinds := [], alts := [], laidByText := true, laidKinds := [.data, .data, .data, .data, .sentinel, .sentinel, .pinned], laidTests := true, laidLooks := .later }
def MarkParsesUptoCardSaid : Prop := Claim7.holds Tryd.pinned (.plain (OpenSpec.upto markParsesSpec)) markParsesUptoCard

/-- THE SECOND FORM's CARD OF 'chandlerlaw06.MarkTexts'. -/
def markTextsUptoCard : Claim7 := { stood := { row := markTextsUptoRow, standIns := [], harness := (true, "868f006159866603ed8007cee2896819d4094245fbf6895e82265562313346e4"), looks := true }, kinds := [], alts := [], laidByText := true, laidKinds := [.data, .data, .data, .data, .sentinel, .sentinel, .pinned], laidTests := true, laidLooks := .later }
def MarkTextsUptoCardSaid : Prop := Claim7.holds Tryd.pinned (.plain (OpenSpec.upto markTextsSpec)) markTextsUptoCard

/-- THE SECOND FORM's CARD OF 'chandlerlaw06.MarkUnders'. -/
def markUndersUptoCard : Claim7 := { stood := { row := markUndersUptoRow, standIns := [], harness := (true, "868f006159866603ed8007cee2896819d4094245fbf6895e82265562313346e4"), looks := true }, kinds := [], alts := [], laidByText := true, laidKinds := [.data, .data, .data, .data, .sentinel, .sentinel, .pinned], laidTests := true, laidLooks := .later }
def MarkUndersUptoCardSaid : Prop := Claim7.holds Tryd.pinned (.plain (OpenSpec.upto markUndersSpec)) markUndersUptoCard

/-- THE SECOND FORM's CARD OF 'chandlerlaw06.MarkBounds'. -/
def markBoundsUptoCard : Claim7 := { stood := { row := markBoundsUptoRow, standIns := [], harness := (true, "868f006159866603ed8007cee2896819d4094245fbf6895e82265562313346e4"), looks := true }, kinds := [], alts := [], laidByText := true, laidKinds := [.data, .data, .data, .data, .sentinel, .sentinel, .pinned], laidTests := true, laidLooks := .later }
def MarkBoundsUptoCardSaid : Prop := Claim7.holds Tryd.pinned (.plain (OpenSpec.upto markBoundsSpec)) markBoundsUptoCard

/-- THE SECOND FORM's CARD OF 'chandlerlaw06.MarkDigests'. -/
def markDigestsUptoCard : Claim7 := { stood := { row := markDigestsUptoRow, standIns := [], harness := (true, "868f006159866603ed8007cee2896819d4094245fbf6895e82265562313346e4"), looks := true }, kinds := [], alts := [], laidByText := true, laidKinds := [.data, .data, .data, .data, .sentinel, .sentinel, .pinned], laidTests := true, laidLooks := .later }
def MarkDigestsUptoCardSaid : Prop := Claim7.holds Tryd.pinned (.plain (OpenSpec.upto markDigestsSpec)) markDigestsUptoCard
end Rows
end Go.Proofs.YtmfmgenmnikhbaaDoor
