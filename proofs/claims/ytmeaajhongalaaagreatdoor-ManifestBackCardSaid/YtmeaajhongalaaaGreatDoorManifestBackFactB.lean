/-
  ManifestBack: closed facts of its frame: how its row is formed.
-/
import Derived.Test.YtmeaajhongalaaaGreatDoorCards
import Derived.ProofKit
import Derived.SevenTiedAt
import Derived.Stop.Joined
namespace Go.Proofs.YtmeaajhongalaaaGreatDoor.manifestBack
open Go.ChangeShapes Go.WideShapes Go.ChangeAt Go.RowKit
theorem fact_wf : OpenClaim.wfByText (OpenSpec.ofChange Rows.manifestBackSpec) Rows.manifestBackRow = true := by kernel_rfl
theorem fact_goes : false = Rows.manifestBackRow.goesBy Tryz.pinned.checked.prog := by kernel_rfl
theorem fact_looks : true = Tryz.pinned.checked.prog.looks [] := by kernel_rfl
end Go.Proofs.YtmeaajhongalaaaGreatDoor.manifestBack
