/-
  DERIVED. GIVEN WITH THE SEED: THE CARDS: each row of YtiihhgdbgmplaaaDoorRows.lean that lists a variable, with what it lists TIED to the program's text (the seventh form; the later family's looks); each row that meets fmt, with fmt's text TOLD by the authors' own Lean function (tested against real Go, not proved from fmt's source: count such statements apart). THE CARD IS WHAT COUNTS. Prove the row's statement (the work); the ties are given (YtiihhgdbgmplaaaDoorTie.lean); close each card by the builder's one call (the guide's Derived/Test/ToyasCard.lean, 'card_holds'). Laid BY PROGRAM, IN A SANDBOX (cutbox-door.mjs). By AI agents, Wed Nov 11 2026. No macro, syntax, notation, axiom, sorry.
-/
import Derived.Test.YtiihhgdbgmplaaaDoorRows
import GoSem.ClaimSeven
namespace Go.Proofs.YtiihhgdbgmplaaaDoor
namespace Rows

/-- THE TIED CARD OF 'chandlerlaw03.VersionParses'. -/
def versionParsesCard : Claim7 := { stood := { row := versionParsesRow, standIns := [], harness := (true, "e16cfc32ef57856bc6ad6f376ee6b1ded673c557228565cb3a586c1e1f13547f"), looks := true }, kinds := [], alts := [], laidByText := true, laidKinds := [.data, .data, .data, .data, .sentinel, .sentinel, .pinned], laidTests := true, laidLooks := .later }
def VersionParsesCardSaid : Prop := Claim7.holds Tryd.pinned (.plain (OpenSpec.ofChange versionParsesSpec)) versionParsesCard

/-- THE TIED CARD OF 'chandlerlaw03.VersionChecks'. -/
def versionChecksCard : Claim7 := { stood := { row := versionChecksRow, standIns := [], harness := (true, "e16cfc32ef57856bc6ad6f376ee6b1ded673c557228565cb3a586c1e1f13547f"), looks := true }, kinds := [], alts := [], laidByText := true, laidKinds := [.data, .data, .data, .data, .sentinel, .sentinel, .pinned], laidTests := true, laidLooks := .later }
def VersionChecksCardSaid : Prop := Claim7.holds Tryd.pinned (.plain (OpenSpec.ofChange versionChecksSpec)) versionChecksCard

/-- THE TIED CARD OF 'chandlerlaw03.VersionCompares'. -/
def versionComparesCard : Claim7 := { stood := { row := versionComparesRow, standIns := [], harness := (true, "e16cfc32ef57856bc6ad6f376ee6b1ded673c557228565cb3a586c1e1f13547f"), looks := true }, kinds := [], alts := [], laidByText := true, laidKinds := [.data, .data, .data, .data, .sentinel, .sentinel, .pinned], laidTests := true, laidLooks := .later }
def VersionComparesCardSaid : Prop := Claim7.holds Tryd.pinned (.plain (OpenSpec.ofChange versionComparesSpec)) versionComparesCard

/-- THE TIED CARD OF 'chandlerlaw03.VersionOrders'. -/
def versionOrdersCard : Claim7 := { stood := { row := versionOrdersRow, standIns := [], harness := (true, "e16cfc32ef57856bc6ad6f376ee6b1ded673c557228565cb3a586c1e1f13547f"), looks := true }, kinds := [], alts := [], laidByText := true, laidKinds := [.data, .data, .data, .data, .sentinel, .sentinel, .pinned], laidTests := true, laidLooks := .later }
def VersionOrdersCardSaid : Prop := Claim7.holds Tryd.pinned (.plain (OpenSpec.ofChange versionOrdersSpec)) versionOrdersCard

/-- THE TIED CARD OF 'chandlerlaw03.VersionPres'. -/
def versionPresCard : Claim7 := { stood := { row := versionPresRow, standIns := [], harness := (true, "e16cfc32ef57856bc6ad6f376ee6b1ded673c557228565cb3a586c1e1f13547f"), looks := true }, kinds := [], alts := [], laidByText := true, laidKinds := [.data, .data, .data, .data, .sentinel, .sentinel, .pinned], laidTests := true, laidLooks := .later }
def VersionPresCardSaid : Prop := Claim7.holds Tryd.pinned (.plain (OpenSpec.ofChange versionPresSpec)) versionPresCard

/-- THE SECOND FORM's CARD OF 'chandlerlaw03.VersionParses'. -/
def versionParsesUptoCard : Claim7 := { stood := { row := versionParsesUptoRow, standIns := [], harness := (true, "e16cfc32ef57856bc6ad6f376ee6b1ded673c557228565cb3a586c1e1f13547f"), looks := true }, kinds := [], alts := [], laidByText := true, laidKinds := [.data, .data, .data, .data, .sentinel, .sentinel, .pinned], laidTests := true, laidLooks := .later }
def VersionParsesUptoCardSaid : Prop := Claim7.holds Tryd.pinned (.plain (OpenSpec.upto versionParsesSpec)) versionParsesUptoCard

/-- THE SECOND FORM's CARD OF 'chandlerlaw03.VersionChecks'. -/
def versionChecksUptoCard : Claim7 := { stood := { row := versionChecksUptoRow, standIns := [], harness := (true, "e16cfc32ef57856bc6ad6f376ee6b1ded673c557228565cb3a586c1e1f13547f"), looks := true }, kinds := [], alts := [], laidByText := true, laidKinds := [.data, .data, .data, .data, .sentinel, .sentinel, .pinned], laidTests := true, laidLooks := .later }
def VersionChecksUptoCardSaid : Prop := Claim7.holds Tryd.pinned (.plain (OpenSpec.upto versionChecksSpec)) versionChecksUptoCard

/-- THE SECOND FORM's CARD OF 'chandlerlaw03.VersionCompares'. -/
def versionComparesUptoCard : Claim7 := { stood := { row := versionComparesUptoRow, standIns := [], harness := (true, "e16cfc32ef57856bc6ad6f376ee6b1ded673c557228565cb3a586c1e1f13547f"), looks := true }, kinds := [], alts := [], laidByText := true, laidKinds := [.data, .data, .data, .data, .sentinel, .sentinel, .pinned], laidTests := true, laidLooks := .later }
def VersionComparesUptoCardSaid : Prop := Claim7.holds Tryd.pinned (.plain (OpenSpec.upto versionComparesSpec)) versionComparesUptoCard

/-- THE SECOND FORM's CARD OF 'chandlerlaw03.VersionOrders'. -/
def versionOrdersUptoCard : Claim7 := { stood := { row := versionOrdersUptoRow, standIns := [], harness := (true, "e16cfc32ef57856bc6ad6f376ee6b1ded673c557228565cb3a586c1e1f13547f"), looks := true }, kinds := [], alts := [], laidByText := true, laidKinds := [.data, .data, .data, .data, .sentinel, .sentinel, .pinned], laidTests := true, laidLooks := .later }
def VersionOrdersUptoCardSaid : Prop := Claim7.holds Tryd.pinned (.plain (OpenSpec.upto versionOrdersSpec)) versionOrdersUptoCard

/-- THE SECOND FORM's CARD OF 'chandlerlaw03.VersionPres'. -/
def versionPresUptoCard : Claim7 := { stood := { row := versionPresUptoRow, standIns := [], harness := (true, "e16cfc32ef57856bc6ad6f376ee6b1ded673c557228565cb3a586c1e1f13547f"), looks := true }, kinds := [], alts := [], laidByText := true, laidKinds := [.data, .data, .data, .data, .sentinel, .sentinel, .pinned], laidTests := true, laidLooks := .later }
def VersionPresUptoCardSaid : Prop := Claim7.holds Tryd.pinned (.plain (OpenSpec.upto versionPresSpec)) versionPresUptoCard
end Rows
end Go.Proofs.YtiihhgdbgmplaaaDoor
