/-
  LAYER 3: arrays of three numbers, and versions, compared.
-/
import Derived.Test.YtmeaajhongalaaaGreatDoorVersionText2
import Derived.Laws.StructEq
namespace Go.Proofs.YtmeaajhongalaaaGreatDoor.Vs
open Go.RowKit
open Go.Proofs.YtmeaajhongalaaaGreatDoor Go.Proofs.YtmeaajhongalaaaGreatDoor.Nu

theorem eq3d (d : Nat) (a b c a' b' c' : Int) (w : World) : (Op.equalIn (d + 2) 39 (.agg #[.int .i64 a, .int .i64 b, .int .i64 c]) (.agg #[.int .i64 a', .int .i64 b', .int .i64 c'])).run Tryz.prog w = .ok (a == a' && b == b' && c == c') w := by
  have hp : Tryz.prog.stoodInHeld 39 = false := by kernel_rfl
  have e : ∀ x y : Int, (Op.equalIn (d + 1) 3 (.int .i64 x) (.int .i64 y)).run Tryz.prog w = .ok (x == y) w := fun x y => run_equalIn_int w d _ _ _ _ _ Tryz.underlying3
  unfold Op.equalIn
  have e3 : List.range' 0 3 = [0, 1, 2] := rfl
  have u3 := Tryz.underlying3
  have a3 := Tryz.isAgg3
  have z3 := Tryz.sizeOf3
  simp only [go_sem]
  by_cases h1 : a = a' <;> by_cases h2 : b = b' <;> by_cases h3 : c = c' <;> simp [go_sem, e3, e, a3, h1, h2, h3]

set_option maxRecDepth 100000 in
@[go_sem] theorem eq3 (a b c a' b' c' : Int) (w : World) : (Op.equalIn 10000 39 (.agg #[.int .i64 a, .int .i64 b, .int .i64 c]) (.agg #[.int .i64 a', .int .i64 b', .int .i64 c'])).run Tryz.prog w = .ok (a == a' && b == b' && c == c') w := eq3d 9998 a b c a' b' c' w

set_option maxRecDepth 100000 in
@[go_sem] theorem eq3' (a b c a' b' c' : Int) (w : World) : (Op.equalIn 9999 39 (.agg #[.int .i64 a, .int .i64 b, .int .i64 c]) (.agg #[.int .i64 a', .int .i64 b', .int .i64 c'])).run Tryz.prog w = .ok (a == a' && b == b' && c == c') w := eq3d 9997 a b c a' b' c' w

set_option maxRecDepth 100000 in
@[go_sem] theorem eqVersion (a b c a' b' c' : Int) (s t : ByteArray) (w : World) : (Op.equalIn 10000 41 (.agg #[.int .i64 a, .int .i64 b, .int .i64 c, .string s]) (.agg #[.int .i64 a', .int .i64 b', .int .i64 c', .string t])).run Tryz.prog w = .ok (a == a' && b == b' && c == c' && s.toList == t.toList) w := by
  have u3 := Tryz.underlying3
  have a3 := Tryz.isAgg3
  have z3 := Tryz.sizeOf3
  have uS := Tryz.underlying9
  have aS := Tryz.isAgg9
  have zS := Tryz.sizeOf9
  have aA := Tryz.isAgg39
  have zA := Tryz.sizeOf39
  have hS : Tryz.prog.underlying 41 = some (.struct (Tryz.prog.fieldsOf 41)) := by kernel_rfl
  have hp : Tryz.prog.stoodInHeld 41 = false := by kernel_rfl
  have e10 : (10000 : Nat) = 9999 + 1 := by omega
  rw [e10, run_equalIn_agg w 9999 41 _ _ hS hp]
  have e3 := fun w => eq3d 9997 a b c a' b' c' w
  have es := fun w => run_equalIn_string w 9998 9 s t Tryz.underlying9
  simp only [Program.fieldsOf, Tryz.underlying41]
  go_simp
  clear e3 es
  by_cases h1 : a = a' <;> by_cases h2 : b = b' <;> by_cases h3 : c = c' <;> by_cases h4 : s.toList = t.toList <;> simp [h1, h2, h3, h4]
end Go.Proofs.YtmeaajhongalaaaGreatDoor.Vs
