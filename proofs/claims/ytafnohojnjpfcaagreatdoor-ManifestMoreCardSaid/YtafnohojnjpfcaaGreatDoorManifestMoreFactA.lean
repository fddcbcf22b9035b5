/-
  ManifestMore: closed facts of its frame: what its row says of the program is so.
-/
import Derived.Test.YtafnohojnjpfcaaGreatDoorCards
import Derived.ProofKit
import Derived.SevenTiedAt
import Derived.Stop.Joined
namespace Go.Proofs.YtafnohojnjpfcaaGreatDoor.manifestMore
open Go.ChangeShapes Go.WideShapes Go.ChangeAt Go.RowKit
theorem fact_named : Tryz.checked.prog.funcNamed Rows.manifestMoreRow.func = some 14 := by kernel_rfl
set_option maxHeartbeats 40000000 in
theorem fact_joined : joinedFacts Tryz.checked.prog 14 Tryz.f14 Rows.manifestMoreSpec Rows.manifestMoreRow = true := by
  unfold joinedFacts
  simp only [Bool.and_eq_true]
  repeat' apply And.intro
  all_goals (as_aux_lemma => kernel_rfl)
end Go.Proofs.YtafnohojnjpfcaaGreatDoor.manifestMore
