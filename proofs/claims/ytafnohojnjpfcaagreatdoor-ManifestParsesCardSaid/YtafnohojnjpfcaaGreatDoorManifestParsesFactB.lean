/-
  ManifestParses: closed facts of its frame: how its row is formed.
-/
import Derived.Test.YtafnohojnjpfcaaGreatDoorCards
import Derived.ProofKit
import Derived.SevenTiedAt
import Derived.Stop.Joined
namespace Go.Proofs.YtafnohojnjpfcaaGreatDoor.manifestParses
open Go.ChangeShapes Go.WideShapes Go.ChangeAt Go.RowKit
theorem fact_wf : OpenClaim.wfByText (OpenSpec.ofChange Rows.manifestParsesSpec) Rows.manifestParsesRow = true := by kernel_rfl
theorem fact_goes : false = Rows.manifestParsesRow.goesBy Tryz.pinned.checked.prog := by kernel_rfl
theorem fact_looks : true = Tryz.pinned.checked.prog.looks [] := by kernel_rfl
end Go.Proofs.YtafnohojnjpfcaaGreatDoor.manifestParses
