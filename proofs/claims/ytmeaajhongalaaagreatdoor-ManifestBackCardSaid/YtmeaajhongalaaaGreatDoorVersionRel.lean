/-
  LAYER 3, PACKAGE version: a release stands above what has something behind the same numbers.
-/
import Derived.Test.YtmeaajhongalaaaGreatDoorVersionEq
namespace Go.Proofs.YtmeaajhongalaaaGreatDoor.Vs
open Go.RowKit
open Go.Proofs.YtmeaajhongalaaaGreatDoor Go.Proofs.YtmeaajhongalaaaGreatDoor.Nu

set_option maxRecDepth 20000 in
set_option maxHeartbeats 400000 in
theorem compare_rel (a b c : Int) (s : ByteArray) (h : s.size ≠ 0) (w : World) :
    Calls Tryz.prog 55 #[.agg #[.int .i64 a, .int .i64 b, .int .i64 c, .string s], .agg #[.int .i64 a, .int .i64 b, .int .i64 c, .string ⟨#[]⟩]] w (Gives (.int .i64 (-1)) w) := by
  have hq := empty_eq s h
  have g1 : Tryz.prog.eqGuardType Tryz.prog.depth 39 = false := by kernel_rfl
  clear h
  go_enter Tryz.func55, Tryz.ntmps55
  go_wp2_with fail
  go_ret
  exact gives rfl rfl (below_alloc (below_alloc (Below.refl _ _) _) _)

end Go.Proofs.YtmeaajhongalaaaGreatDoor.Vs
