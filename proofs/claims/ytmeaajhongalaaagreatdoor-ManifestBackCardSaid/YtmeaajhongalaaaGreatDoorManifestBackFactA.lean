/-
  ManifestBack: closed facts of its frame: what its row says of the program is so.
-/
import Derived.Test.YtmeaajhongalaaaGreatDoorCards
import Derived.ProofKit
import Derived.SevenTiedAt
import Derived.Stop.Joined
namespace Go.Proofs.YtmeaajhongalaaaGreatDoor.manifestBack
open Go.ChangeShapes Go.WideShapes Go.ChangeAt Go.RowKit
theorem fact_named : Tryz.checked.prog.funcNamed Rows.manifestBackRow.func = some 8 := by kernel_rfl
set_option maxHeartbeats 40000000 in
theorem fact_joined : joinedFacts Tryz.checked.prog 8 Tryz.f8 Rows.manifestBackSpec Rows.manifestBackRow = true := by
  unfold joinedFacts
  simp only [Bool.and_eq_true]
  repeat' apply And.intro
  all_goals (as_aux_lemma => kernel_rfl)
end Go.Proofs.YtmeaajhongalaaaGreatDoor.manifestBack
