/-
  LAYER 3, THE LAW VersionChecks: whatever is given.
-/
import Derived.Test.YtgboihojicgkdaaDoorVersionLaw3
namespace Go.Proofs.YtgboihojicgkdaaDoor.Vs
open Go.RowKit
open Go.Proofs.YtgboihojicgkdaaDoor Go.Proofs.YtgboihojicgkdaaDoor.Nu

set_option maxRecDepth 20000 in
theorem law_checks (a b c : Int) (s : ByteArray) (w : World) (hm : MaxAt w) (ht : TenAt w) :
    Calls Tryd.prog 4 #[.agg #[.int .i64 a, .int .i64 b, .int .i64 c, .string s]] w fun e w' => e = .returned (.bool true) ∧ Below w.heap.size w w' := by
  by_cases h100 : (100 : Int) < s.size
  · have HPD := hid parsed_any
    go_enter Tryd.func4, Tryd.ntmps4
    go_wp2_with fail
    go_quiet (fail)
    have hb0 : Below w.heap.size w ((w.alloc (.cells #[.int .i64 a, .int .i64 b, .int .i64 c, .string s] 37)).drewN nq) := below_drewN' (below_alloc (Below.refl _ _) _) _
    generalize (w.alloc (.cells #[.int .i64 a, .int .i64 b, .int .i64 c, .string s] 37)).drewN nq = W1 at hb0 ⊢
    go_wp2_with (go_at_call 8; (with_reducible refine (HPD.out _ (hm.below hb0) (ht.below hb0)).mono ?_); rintro e w1 ⟨rfl, hb1⟩)
    go_ret
    exact ⟨rfl, below_trans hb0 hb1⟩
  · by_cases hn : 0 ≤ a ∧ a < 1000000 ∧ 0 ≤ b ∧ b < 1000000 ∧ 0 ≤ c ∧ c < 1000000
    · by_cases hp : s.size = 0
      · exact law_checks_yes a b c s h100 hn hp w hm ht
      · exact law_checks_pre a b c s h100 hn hp w hm ht
    · exact law_checks_num a b c s h100 hn w hm ht
end Go.Proofs.YtgboihojicgkdaaDoor.Vs
