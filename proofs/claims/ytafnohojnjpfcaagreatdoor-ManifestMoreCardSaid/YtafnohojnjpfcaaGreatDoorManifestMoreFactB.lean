/-
  ManifestMore: closed facts of its frame: how its row is formed.
-/
import Derived.Test.YtafnohojnjpfcaaGreatDoorCards
import Derived.ProofKit
import Derived.SevenTiedAt
import Derived.Stop.Joined
namespace Go.Proofs.YtafnohojnjpfcaaGreatDoor.manifestMore
open Go.ChangeShapes Go.WideShapes Go.ChangeAt Go.RowKit
theorem fact_wf : OpenClaim.wfByText (OpenSpec.ofChange Rows.manifestMoreSpec) Rows.manifestMoreRow = true := by kernel_rfl
theorem fact_goes : false = Rows.manifestMoreRow.goesBy Tryz.pinned.checked.prog := by kernel_rfl
theorem fact_looks : true = Tryz.pinned.checked.prog.looks [] := by kernel_rfl
end Go.Proofs.YtafnohojnjpfcaaGreatDoor.manifestMore
