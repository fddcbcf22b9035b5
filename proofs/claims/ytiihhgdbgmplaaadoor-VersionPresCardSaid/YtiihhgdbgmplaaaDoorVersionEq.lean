/-
  LAYER 3: arrays of three numbers, and versions, compared.
-/
import Derived.Test.YtiihhgdbgmplaaaDoorVersionText2
import Derived.Laws.StructEq
namespace Go.Proofs.YtiihhgdbgmplaaaDoor.Vs
open Go.RowKit
open Go.Proofs.YtiihhgdbgmplaaaDoor Go.Proofs.YtiihhgdbgmplaaaDoor.Nu

theorem eq3d (d : Nat) (a b c a' b' c' : Int) (w : World) : (Op.equalIn (d + 2) 23 (.agg #[.int .i64 a, .int .i64 b, .int .i64 c]) (.agg #[.int .i64 a', .int .i64 b', .int .i64 c'])).run Tryd.prog w = .ok (a == a' && b == b' && c == c') w := by
  have hp : Tryd.prog.stoodInHeld 23 = false := by kernel_rfl
  have e : ∀ x y : Int, (Op.equalIn (d + 1) 3 (.int .i64 x) (.int .i64 y)).run Tryd.prog w = .ok (x == y) w := fun x y => run_equalIn_int w d _ _ _ _ _ Tryd.underlying3
  unfold Op.equalIn
  have e3 : List.range' 0 3 = [0, 1, 2] := rfl
  have u3 := Tryd.underlying3
  have a3 := Tryd.isAgg3
  have z3 := Tryd.sizeOf3
  simp only [go_sem]
  by_cases h1 : a = a' <;> by_cases h2 : b = b' <;> by_cases h3 : c = c' <;> simp [go_sem, e3, e, a3, h1, h2, h3]

set_option maxRecDepth 100000 in
@[go_sem] theorem eq3 (a b c a' b' c' : Int) (w : World) : (Op.equalIn 10000 23 (.agg #[.int .i64 a, .int .i64 b, .int .i64 c]) (.agg #[.int .i64 a', .int .i64 b', .int .i64 c'])).run Tryd.prog w = .ok (a == a' && b == b' && c == c') w := eq3d 9998 a b c a' b' c' w

set_option maxRecDepth 100000 in
@[go_sem] theorem eq3' (a b c a' b' c' : Int) (w : World) : (Op.equalIn 9999 23 (.agg #[.int .i64 a, .int .i64 b, .int .i64 c]) (.agg #[.int .i64 a', .int .i64 b', .int .i64 c'])).run Tryd.prog w = .ok (a == a' && b == b' && c == c') w := eq3d 9997 a b c a' b' c' w

set_option maxRecDepth 100000 in
@[go_sem] theorem eqVersion (a b c a' b' c' : Int) (s t : ByteArray) (w : World) : (Op.equalIn 10000 25 (.agg #[.int .i64 a, .int .i64 b, .int .i64 c, .string s]) (.agg #[.int .i64 a', .int .i64 b', .int .i64 c', .string t])).run Tryd.prog w = .ok (a == a' && b == b' && c == c' && s.toList == t.toList) w := by
  have u3 := Tryd.underlying3
  have a3 := Tryd.isAgg3
  have z3 := Tryd.sizeOf3
  have uS := Tryd.underlying9
  have aS := Tryd.isAgg9
  have zS := Tryd.sizeOf9
  have aA := Tryd.isAgg23
  have zA := Tryd.sizeOf23
  have hS : Tryd.prog.underlying 25 = some (.struct (Tryd.prog.fieldsOf 25)) := by kernel_rfl
  have hp : Tryd.prog.stoodInHeld 25 = false := by kernel_rfl
  have e10 : (10000 : Nat) = 9999 + 1 := by omega
  rw [e10, run_equalIn_agg w 9999 25 _ _ hS hp]
  have e3 := fun w => eq3d 9997 a b c a' b' c' w
  have es := fun w => run_equalIn_string w 9998 9 s t Tryd.underlying9
  simp only [Program.fieldsOf, Tryd.underlying25]
  go_simp
  clear e3 es
  by_cases h1 : a = a' <;> by_cases h2 : b = b' <;> by_cases h3 : c = c' <;> by_cases h4 : s.toList = t.toList <;> simp [h1, h2, h3, h4]
end Go.Proofs.YtiihhgdbgmplaaaDoor.Vs
