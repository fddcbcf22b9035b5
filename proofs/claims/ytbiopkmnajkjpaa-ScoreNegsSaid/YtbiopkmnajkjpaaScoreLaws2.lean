/-
  LAYER 2: the statements ScoreOrders and ScoreNegs.
-/
import Derived.Test.YtbiopkmnajkjpaaScoreLaws
namespace Go.Proofs.Ytbiopkmnajkjpaa.Sc
open Go.RowKit
set_option linter.unusedVariables false

/-- a number's text, as the walk holds it -/
theorem text_ne {a b : Nat} (ha : a < 18446744073709551616) (hb : b < 18446744073709551616) (h : row a ≠ row b) : hexT (txV a) ≠ hexT (txV b) := by
  intro e
  apply h
  have va : ∀ c, c < 18446744073709551616 → txV c < 18446744073709551616 := fun c hc => by unfold txV; split <;> omega
  have e' := hexT_inj (va a ha) (va b hb) e
  unfold txV at e'
  have nan0 : kind 9221120237041090561 = 0 := by decide +kernel
  have rn : ∀ {c}, c < 18446744073709551616 → kind c = 0 → row c = 0 := fun {c} hc hk => by
    rcases kind_row hc with ⟨_, _, r⟩ | ⟨_, r⟩
    · exact r
    · omega
  split at e'
  · rename_i x
    split at e'
    · rename_i y
      rw [rn ha x, rn hb y]
    · rename_i y
      exact absurd (e' ▸ nan0) y
  · rename_i x
    split at e'
    · rename_i y
      exact absurd (e' ▸ nan0) x
    · rw [e']

theorem text_beq {a b : Nat} (ha : a < 18446744073709551616) (hb : b < 18446744073709551616) (h : row a ≠ row b) :
    (hexT (txV a) == hexT (txV b)) = false := by
  rw [beq_eq_false_iff_ne]; exact text_ne ha hb h

set_option maxHeartbeats 1000000 in
theorem orders_000 (a b c : Nat) (HX : Hid (a < 18446744073709551616)) (HY : Hid (b < 18446744073709551616)) (HZ : Hid (c < 18446744073709551616)) (k1 : cmpB a b = -1) (k2 : cmpB b a = 1) (k3 : cmpB b c = -1) (k4 : cmpB a c = -1) (e : (hexT (txV a) == hexT (txV b)) = false) (w : World) :
    Calls Try.prog 6 #[.int .u64 (a : Int), .int .u64 (b : Int), .int .u64 (c : Int)] w fun e w' => e = .returned (.bool true) ∧ Below w.heap.size w w' := by
  go_enter Try.func6, Try.ntmps6
  go_wp2_with (first | (go_at_call 14; (with_reducible refine (told_any _).mono ?_); rintro e w' ⟨rfl, hb1⟩) | (go_at_call 19; (with_reducible refine (of_any _ HX.out _).mono ?_); rintro e w' ⟨rfl, hb1⟩) | (go_at_call 19; (with_reducible refine (of_any _ HY.out _).mono ?_); rintro e w' ⟨rfl, hb1⟩) | (go_at_call 19; (with_reducible refine (of_any _ HZ.out _).mono ?_); rintro e w' ⟨rfl, hb1⟩) | (go_at_call 22; (with_reducible refine (compare_any _ _ HX.out HY.out _).mono ?_); rintro e w' ⟨rfl, rfl⟩) | (go_at_call 22; (with_reducible refine (compare_any _ _ HY.out HZ.out _).mono ?_); rintro e w' ⟨rfl, rfl⟩) | (go_at_call 22; (with_reducible refine (compare_any _ _ HX.out HZ.out _).mono ?_); rintro e w' ⟨rfl, rfl⟩) | (go_at_call 22; (with_reducible refine (compare_any _ _ HY.out HX.out _).mono ?_); rintro e w' ⟨rfl, rfl⟩) | (go_at_call 15; (with_reducible refine (text_any _ HX.out _).mono ?_); rintro e w' ⟨rfl, hb1⟩) | (go_at_call 16; (with_reducible refine (refText_any _ HX.out _).mono ?_); rintro e w' ⟨rfl, hb1⟩) | (go_at_call 15; (with_reducible refine (text_any _ HY.out _).mono ?_); rintro e w' ⟨rfl, hb1⟩) | (go_at_call 16; (with_reducible refine (refText_any _ HY.out _).mono ?_); rintro e w' ⟨rfl, hb1⟩))
  go_ret
  refine ⟨rfl, ?_⟩
  (repeat (first | exact Below.refl _ _ | assumption | refine below_alloc ?_ _ | refine below_drew ?_ | refine below_trans ?_ (by assumption)))

set_option maxHeartbeats 1000000 in
theorem orders_010 (a b c : Nat) (HX : Hid (a < 18446744073709551616)) (HY : Hid (b < 18446744073709551616)) (HZ : Hid (c < 18446744073709551616)) (k1 : cmpB a b = -1) (k2 : cmpB b a = 1) (k3 : cmpB b c = 0) (k4 : cmpB a c = -1) (e : (hexT (txV a) == hexT (txV b)) = false) (w : World) :
    Calls Try.prog 6 #[.int .u64 (a : Int), .int .u64 (b : Int), .int .u64 (c : Int)] w fun e w' => e = .returned (.bool true) ∧ Below w.heap.size w w' := by
  go_enter Try.func6, Try.ntmps6
  go_wp2_with (first | (go_at_call 14; (with_reducible refine (told_any _).mono ?_); rintro e w' ⟨rfl, hb1⟩) | (go_at_call 19; (with_reducible refine (of_any _ HX.out _).mono ?_); rintro e w' ⟨rfl, hb1⟩) | (go_at_call 19; (with_reducible refine (of_any _ HY.out _).mono ?_); rintro e w' ⟨rfl, hb1⟩) | (go_at_call 19; (with_reducible refine (of_any _ HZ.out _).mono ?_); rintro e w' ⟨rfl, hb1⟩) | (go_at_call 22; (with_reducible refine (compare_any _ _ HX.out HY.out _).mono ?_); rintro e w' ⟨rfl, rfl⟩) | (go_at_call 22; (with_reducible refine (compare_any _ _ HY.out HZ.out _).mono ?_); rintro e w' ⟨rfl, rfl⟩) | (go_at_call 22; (with_reducible refine (compare_any _ _ HX.out HZ.out _).mono ?_); rintro e w' ⟨rfl, rfl⟩) | (go_at_call 22; (with_reducible refine (compare_any _ _ HY.out HX.out _).mono ?_); rintro e w' ⟨rfl, rfl⟩) | (go_at_call 15; (with_reducible refine (text_any _ HX.out _).mono ?_); rintro e w' ⟨rfl, hb1⟩) | (go_at_call 16; (with_reducible refine (refText_any _ HX.out _).mono ?_); rintro e w' ⟨rfl, hb1⟩) | (go_at_call 15; (with_reducible refine (text_any _ HY.out _).mono ?_); rintro e w' ⟨rfl, hb1⟩) | (go_at_call 16; (with_reducible refine (refText_any _ HY.out _).mono ?_); rintro e w' ⟨rfl, hb1⟩))
  go_ret
  refine ⟨rfl, ?_⟩
  (repeat (first | exact Below.refl _ _ | assumption | refine below_alloc ?_ _ | refine below_drew ?_ | refine below_trans ?_ (by assumption)))

set_option maxHeartbeats 1000000 in
theorem orders_020 (a b c : Nat) (HX : Hid (a < 18446744073709551616)) (HY : Hid (b < 18446744073709551616)) (HZ : Hid (c < 18446744073709551616)) (k1 : cmpB a b = -1) (k2 : cmpB b a = 1) (k3 : cmpB b c = 1) (k4 : cmpB a c = -1) (e : (hexT (txV a) == hexT (txV b)) = false) (w : World) :
    Calls Try.prog 6 #[.int .u64 (a : Int), .int .u64 (b : Int), .int .u64 (c : Int)] w fun e w' => e = .returned (.bool true) ∧ Below w.heap.size w w' := by
  go_enter Try.func6, Try.ntmps6
  go_wp2_with (first | (go_at_call 14; (with_reducible refine (told_any _).mono ?_); rintro e w' ⟨rfl, hb1⟩) | (go_at_call 19; (with_reducible refine (of_any _ HX.out _).mono ?_); rintro e w' ⟨rfl, hb1⟩) | (go_at_call 19; (with_reducible refine (of_any _ HY.out _).mono ?_); rintro e w' ⟨rfl, hb1⟩) | (go_at_call 19; (with_reducible refine (of_any _ HZ.out _).mono ?_); rintro e w' ⟨rfl, hb1⟩) | (go_at_call 22; (with_reducible refine (compare_any _ _ HX.out HY.out _).mono ?_); rintro e w' ⟨rfl, rfl⟩) | (go_at_call 22; (with_reducible refine (compare_any _ _ HY.out HZ.out _).mono ?_); rintro e w' ⟨rfl, rfl⟩) | (go_at_call 22; (with_reducible refine (compare_any _ _ HX.out HZ.out _).mono ?_); rintro e w' ⟨rfl, rfl⟩) | (go_at_call 22; (with_reducible refine (compare_any _ _ HY.out HX.out _).mono ?_); rintro e w' ⟨rfl, rfl⟩) | (go_at_call 15; (with_reducible refine (text_any _ HX.out _).mono ?_); rintro e w' ⟨rfl, hb1⟩) | (go_at_call 16; (with_reducible refine (refText_any _ HX.out _).mono ?_); rintro e w' ⟨rfl, hb1⟩) | (go_at_call 15; (with_reducible refine (text_any _ HY.out _).mono ?_); rintro e w' ⟨rfl, hb1⟩) | (go_at_call 16; (with_reducible refine (refText_any _ HY.out _).mono ?_); rintro e w' ⟨rfl, hb1⟩))
  go_ret
  refine ⟨rfl, ?_⟩
  (repeat (first | exact Below.refl _ _ | assumption | refine below_alloc ?_ _ | refine below_drew ?_ | refine below_trans ?_ (by assumption)))

set_option maxHeartbeats 1000000 in
theorem orders_021 (a b c : Nat) (HX : Hid (a < 18446744073709551616)) (HY : Hid (b < 18446744073709551616)) (HZ : Hid (c < 18446744073709551616)) (k1 : cmpB a b = -1) (k2 : cmpB b a = 1) (k3 : cmpB b c = 1) (k4 : cmpB a c = 0) (e : (hexT (txV a) == hexT (txV b)) = false) (w : World) :
    Calls Try.prog 6 #[.int .u64 (a : Int), .int .u64 (b : Int), .int .u64 (c : Int)] w fun e w' => e = .returned (.bool true) ∧ Below w.heap.size w w' := by
  go_enter Try.func6, Try.ntmps6
  go_wp2_with (first | (go_at_call 14; (with_reducible refine (told_any _).mono ?_); rintro e w' ⟨rfl, hb1⟩) | (go_at_call 19; (with_reducible refine (of_any _ HX.out _).mono ?_); rintro e w' ⟨rfl, hb1⟩) | (go_at_call 19; (with_reducible refine (of_any _ HY.out _).mono ?_); rintro e w' ⟨rfl, hb1⟩) | (go_at_call 19; (with_reducible refine (of_any _ HZ.out _).mono ?_); rintro e w' ⟨rfl, hb1⟩) | (go_at_call 22; (with_reducible refine (compare_any _ _ HX.out HY.out _).mono ?_); rintro e w' ⟨rfl, rfl⟩) | (go_at_call 22; (with_reducible refine (compare_any _ _ HY.out HZ.out _).mono ?_); rintro e w' ⟨rfl, rfl⟩) | (go_at_call 22; (with_reducible refine (compare_any _ _ HX.out HZ.out _).mono ?_); rintro e w' ⟨rfl, rfl⟩) | (go_at_call 22; (with_reducible refine (compare_any _ _ HY.out HX.out _).mono ?_); rintro e w' ⟨rfl, rfl⟩) | (go_at_call 15; (with_reducible refine (text_any _ HX.out _).mono ?_); rintro e w' ⟨rfl, hb1⟩) | (go_at_call 16; (with_reducible refine (refText_any _ HX.out _).mono ?_); rintro e w' ⟨rfl, hb1⟩) | (go_at_call 15; (with_reducible refine (text_any _ HY.out _).mono ?_); rintro e w' ⟨rfl, hb1⟩) | (go_at_call 16; (with_reducible refine (refText_any _ HY.out _).mono ?_); rintro e w' ⟨rfl, hb1⟩))
  go_ret
  refine ⟨rfl, ?_⟩
  (repeat (first | exact Below.refl _ _ | assumption | refine below_alloc ?_ _ | refine below_drew ?_ | refine below_trans ?_ (by assumption)))

set_option maxHeartbeats 1000000 in
theorem orders_022 (a b c : Nat) (HX : Hid (a < 18446744073709551616)) (HY : Hid (b < 18446744073709551616)) (HZ : Hid (c < 18446744073709551616)) (k1 : cmpB a b = -1) (k2 : cmpB b a = 1) (k3 : cmpB b c = 1) (k4 : cmpB a c = 1) (e : (hexT (txV a) == hexT (txV b)) = false) (w : World) :
    Calls Try.prog 6 #[.int .u64 (a : Int), .int .u64 (b : Int), .int .u64 (c : Int)] w fun e w' => e = .returned (.bool true) ∧ Below w.heap.size w w' := by
  go_enter Try.func6, Try.ntmps6
  go_wp2_with (first | (go_at_call 14; (with_reducible refine (told_any _).mono ?_); rintro e w' ⟨rfl, hb1⟩) | (go_at_call 19; (with_reducible refine (of_any _ HX.out _).mono ?_); rintro e w' ⟨rfl, hb1⟩) | (go_at_call 19; (with_reducible refine (of_any _ HY.out _).mono ?_); rintro e w' ⟨rfl, hb1⟩) | (go_at_call 19; (with_reducible refine (of_any _ HZ.out _).mono ?_); rintro e w' ⟨rfl, hb1⟩) | (go_at_call 22; (with_reducible refine (compare_any _ _ HX.out HY.out _).mono ?_); rintro e w' ⟨rfl, rfl⟩) | (go_at_call 22; (with_reducible refine (compare_any _ _ HY.out HZ.out _).mono ?_); rintro e w' ⟨rfl, rfl⟩) | (go_at_call 22; (with_reducible refine (compare_any _ _ HX.out HZ.out _).mono ?_); rintro e w' ⟨rfl, rfl⟩) | (go_at_call 22; (with_reducible refine (compare_any _ _ HY.out HX.out _).mono ?_); rintro e w' ⟨rfl, rfl⟩) | (go_at_call 15; (with_reducible refine (text_any _ HX.out _).mono ?_); rintro e w' ⟨rfl, hb1⟩) | (go_at_call 16; (with_reducible refine (refText_any _ HX.out _).mono ?_); rintro e w' ⟨rfl, hb1⟩) | (go_at_call 15; (with_reducible refine (text_any _ HY.out _).mono ?_); rintro e w' ⟨rfl, hb1⟩) | (go_at_call 16; (with_reducible refine (refText_any _ HY.out _).mono ?_); rintro e w' ⟨rfl, hb1⟩))
  go_ret
  refine ⟨rfl, ?_⟩
  (repeat (first | exact Below.refl _ _ | assumption | refine below_alloc ?_ _ | refine below_drew ?_ | refine below_trans ?_ (by assumption)))

set_option maxHeartbeats 1000000 in
theorem orders_100 (a b c : Nat) (HX : Hid (a < 18446744073709551616)) (HY : Hid (b < 18446744073709551616)) (HZ : Hid (c < 18446744073709551616)) (k1 : cmpB a b = 0) (k2 : cmpB b a = 0) (k3 : cmpB b c = -1) (k4 : cmpB a c = -1) (e : txV b = txV a) (w : World) :
    Calls Try.prog 6 #[.int .u64 (a : Int), .int .u64 (b : Int), .int .u64 (c : Int)] w fun e w' => e = .returned (.bool true) ∧ Below w.heap.size w w' := by
  go_enter Try.func6, Try.ntmps6
  go_wp2_with (first | (go_at_call 14; (with_reducible refine (told_any _).mono ?_); rintro e w' ⟨rfl, hb1⟩) | (go_at_call 19; (with_reducible refine (of_any _ HX.out _).mono ?_); rintro e w' ⟨rfl, hb1⟩) | (go_at_call 19; (with_reducible refine (of_any _ HY.out _).mono ?_); rintro e w' ⟨rfl, hb1⟩) | (go_at_call 19; (with_reducible refine (of_any _ HZ.out _).mono ?_); rintro e w' ⟨rfl, hb1⟩) | (go_at_call 22; (with_reducible refine (compare_any _ _ HX.out HY.out _).mono ?_); rintro e w' ⟨rfl, rfl⟩) | (go_at_call 22; (with_reducible refine (compare_any _ _ HY.out HZ.out _).mono ?_); rintro e w' ⟨rfl, rfl⟩) | (go_at_call 22; (with_reducible refine (compare_any _ _ HX.out HZ.out _).mono ?_); rintro e w' ⟨rfl, rfl⟩) | (go_at_call 22; (with_reducible refine (compare_any _ _ HY.out HX.out _).mono ?_); rintro e w' ⟨rfl, rfl⟩) | (go_at_call 15; (with_reducible refine (text_any _ HX.out _).mono ?_); rintro e w' ⟨rfl, hb1⟩) | (go_at_call 16; (with_reducible refine (refText_any _ HX.out _).mono ?_); rintro e w' ⟨rfl, hb1⟩) | (go_at_call 15; (with_reducible refine (text_any _ HY.out _).mono ?_); rintro e w' ⟨rfl, hb1⟩) | (go_at_call 16; (with_reducible refine (refText_any _ HY.out _).mono ?_); rintro e w' ⟨rfl, hb1⟩))
  go_ret
  refine ⟨rfl, ?_⟩
  (repeat (first | exact Below.refl _ _ | assumption | refine below_alloc ?_ _ | refine below_drew ?_ | refine below_trans ?_ (by assumption)))

set_option maxHeartbeats 1000000 in
theorem orders_111 (a b c : Nat) (HX : Hid (a < 18446744073709551616)) (HY : Hid (b < 18446744073709551616)) (HZ : Hid (c < 18446744073709551616)) (k1 : cmpB a b = 0) (k2 : cmpB b a = 0) (k3 : cmpB b c = 0) (k4 : cmpB a c = 0) (e : txV b = txV a) (w : World) :
    Calls Try.prog 6 #[.int .u64 (a : Int), .int .u64 (b : Int), .int .u64 (c : Int)] w fun e w' => e = .returned (.bool true) ∧ Below w.heap.size w w' := by
  go_enter Try.func6, Try.ntmps6
  go_wp2_with (first | (go_at_call 14; (with_reducible refine (told_any _).mono ?_); rintro e w' ⟨rfl, hb1⟩) | (go_at_call 19; (with_reducible refine (of_any _ HX.out _).mono ?_); rintro e w' ⟨rfl, hb1⟩) | (go_at_call 19; (with_reducible refine (of_any _ HY.out _).mono ?_); rintro e w' ⟨rfl, hb1⟩) | (go_at_call 19; (with_reducible refine (of_any _ HZ.out _).mono ?_); rintro e w' ⟨rfl, hb1⟩) | (go_at_call 22; (with_reducible refine (compare_any _ _ HX.out HY.out _).mono ?_); rintro e w' ⟨rfl, rfl⟩) | (go_at_call 22; (with_reducible refine (compare_any _ _ HY.out HZ.out _).mono ?_); rintro e w' ⟨rfl, rfl⟩) | (go_at_call 22; (with_reducible refine (compare_any _ _ HX.out HZ.out _).mono ?_); rintro e w' ⟨rfl, rfl⟩) | (go_at_call 22; (with_reducible refine (compare_any _ _ HY.out HX.out _).mono ?_); rintro e w' ⟨rfl, rfl⟩) | (go_at_call 15; (with_reducible refine (text_any _ HX.out _).mono ?_); rintro e w' ⟨rfl, hb1⟩) | (go_at_call 16; (with_reducible refine (refText_any _ HX.out _).mono ?_); rintro e w' ⟨rfl, hb1⟩) | (go_at_call 15; (with_reducible refine (text_any _ HY.out _).mono ?_); rintro e w' ⟨rfl, hb1⟩) | (go_at_call 16; (with_reducible refine (refText_any _ HY.out _).mono ?_); rintro e w' ⟨rfl, hb1⟩))
  go_ret
  refine ⟨rfl, ?_⟩
  (repeat (first | exact Below.refl _ _ | assumption | refine below_alloc ?_ _ | refine below_drew ?_ | refine below_trans ?_ (by assumption)))

set_option maxHeartbeats 1000000 in
theorem orders_122 (a b c : Nat) (HX : Hid (a < 18446744073709551616)) (HY : Hid (b < 18446744073709551616)) (HZ : Hid (c < 18446744073709551616)) (k1 : cmpB a b = 0) (k2 : cmpB b a = 0) (k3 : cmpB b c = 1) (k4 : cmpB a c = 1) (e : txV b = txV a) (w : World) :
    Calls Try.prog 6 #[.int .u64 (a : Int), .int .u64 (b : Int), .int .u64 (c : Int)] w fun e w' => e = .returned (.bool true) ∧ Below w.heap.size w w' := by
  go_enter Try.func6, Try.ntmps6
  go_wp2_with (first | (go_at_call 14; (with_reducible refine (told_any _).mono ?_); rintro e w' ⟨rfl, hb1⟩) | (go_at_call 19; (with_reducible refine (of_any _ HX.out _).mono ?_); rintro e w' ⟨rfl, hb1⟩) | (go_at_call 19; (with_reducible refine (of_any _ HY.out _).mono ?_); rintro e w' ⟨rfl, hb1⟩) | (go_at_call 19; (with_reducible refine (of_any _ HZ.out _).mono ?_); rintro e w' ⟨rfl, hb1⟩) | (go_at_call 22; (with_reducible refine (compare_any _ _ HX.out HY.out _).mono ?_); rintro e w' ⟨rfl, rfl⟩) | (go_at_call 22; (with_reducible refine (compare_any _ _ HY.out HZ.out _).mono ?_); rintro e w' ⟨rfl, rfl⟩) | (go_at_call 22; (with_reducible refine (compare_any _ _ HX.out HZ.out _).mono ?_); rintro e w' ⟨rfl, rfl⟩) | (go_at_call 22; (with_reducible refine (compare_any _ _ HY.out HX.out _).mono ?_); rintro e w' ⟨rfl, rfl⟩) | (go_at_call 15; (with_reducible refine (text_any _ HX.out _).mono ?_); rintro e w' ⟨rfl, hb1⟩) | (go_at_call 16; (with_reducible refine (refText_any _ HX.out _).mono ?_); rintro e w' ⟨rfl, hb1⟩) | (go_at_call 15; (with_reducible refine (text_any _ HY.out _).mono ?_); rintro e w' ⟨rfl, hb1⟩) | (go_at_call 16; (with_reducible refine (refText_any _ HY.out _).mono ?_); rintro e w' ⟨rfl, hb1⟩))
  go_ret
  refine ⟨rfl, ?_⟩
  (repeat (first | exact Below.refl _ _ | assumption | refine below_alloc ?_ _ | refine below_drew ?_ | refine below_trans ?_ (by assumption)))

set_option maxHeartbeats 1000000 in
theorem orders_200 (a b c : Nat) (HX : Hid (a < 18446744073709551616)) (HY : Hid (b < 18446744073709551616)) (HZ : Hid (c < 18446744073709551616)) (k1 : cmpB a b = 1) (k2 : cmpB b a = -1) (k3 : cmpB b c = -1) (k4 : cmpB a c = -1) (e : (hexT (txV a) == hexT (txV b)) = false) (w : World) :
    Calls Try.prog 6 #[.int .u64 (a : Int), .int .u64 (b : Int), .int .u64 (c : Int)] w fun e w' => e = .returned (.bool true) ∧ Below w.heap.size w w' := by
  go_enter Try.func6, Try.ntmps6
  go_wp2_with (first | (go_at_call 14; (with_reducible refine (told_any _).mono ?_); rintro e w' ⟨rfl, hb1⟩) | (go_at_call 19; (with_reducible refine (of_any _ HX.out _).mono ?_); rintro e w' ⟨rfl, hb1⟩) | (go_at_call 19; (with_reducible refine (of_any _ HY.out _).mono ?_); rintro e w' ⟨rfl, hb1⟩) | (go_at_call 19; (with_reducible refine (of_any _ HZ.out _).mono ?_); rintro e w' ⟨rfl, hb1⟩) | (go_at_call 22; (with_reducible refine (compare_any _ _ HX.out HY.out _).mono ?_); rintro e w' ⟨rfl, rfl⟩) | (go_at_call 22; (with_reducible refine (compare_any _ _ HY.out HZ.out _).mono ?_); rintro e w' ⟨rfl, rfl⟩) | (go_at_call 22; (with_reducible refine (compare_any _ _ HX.out HZ.out _).mono ?_); rintro e w' ⟨rfl, rfl⟩) | (go_at_call 22; (with_reducible refine (compare_any _ _ HY.out HX.out _).mono ?_); rintro e w' ⟨rfl, rfl⟩) | (go_at_call 15; (with_reducible refine (text_any _ HX.out _).mono ?_); rintro e w' ⟨rfl, hb1⟩) | (go_at_call 16; (with_reducible refine (refText_any _ HX.out _).mono ?_); rintro e w' ⟨rfl, hb1⟩) | (go_at_call 15; (with_reducible refine (text_any _ HY.out _).mono ?_); rintro e w' ⟨rfl, hb1⟩) | (go_at_call 16; (with_reducible refine (refText_any _ HY.out _).mono ?_); rintro e w' ⟨rfl, hb1⟩))
  go_ret
  refine ⟨rfl, ?_⟩
  (repeat (first | exact Below.refl _ _ | assumption | refine below_alloc ?_ _ | refine below_drew ?_ | refine below_trans ?_ (by assumption)))

set_option maxHeartbeats 1000000 in
theorem orders_201 (a b c : Nat) (HX : Hid (a < 18446744073709551616)) (HY : Hid (b < 18446744073709551616)) (HZ : Hid (c < 18446744073709551616)) (k1 : cmpB a b = 1) (k2 : cmpB b a = -1) (k3 : cmpB b c = -1) (k4 : cmpB a c = 0) (e : (hexT (txV a) == hexT (txV b)) = false) (w : World) :
    Calls Try.prog 6 #[.int .u64 (a : Int), .int .u64 (b : Int), .int .u64 (c : Int)] w fun e w' => e = .returned (.bool true) ∧ Below w.heap.size w w' := by
  go_enter Try.func6, Try.ntmps6
  go_wp2_with (first | (go_at_call 14; (with_reducible refine (told_any _).mono ?_); rintro e w' ⟨rfl, hb1⟩) | (go_at_call 19; (with_reducible refine (of_any _ HX.out _).mono ?_); rintro e w' ⟨rfl, hb1⟩) | (go_at_call 19; (with_reducible refine (of_any _ HY.out _).mono ?_); rintro e w' ⟨rfl, hb1⟩) | (go_at_call 19; (with_reducible refine (of_any _ HZ.out _).mono ?_); rintro e w' ⟨rfl, hb1⟩) | (go_at_call 22; (with_reducible refine (compare_any _ _ HX.out HY.out _).mono ?_); rintro e w' ⟨rfl, rfl⟩) | (go_at_call 22; (with_reducible refine (compare_any _ _ HY.out HZ.out _).mono ?_); rintro e w' ⟨rfl, rfl⟩) | (go_at_call 22; (with_reducible refine (compare_any _ _ HX.out HZ.out _).mono ?_); rintro e w' ⟨rfl, rfl⟩) | (go_at_call 22; (with_reducible refine (compare_any _ _ HY.out HX.out _).mono ?_); rintro e w' ⟨rfl, rfl⟩) | (go_at_call 15; (with_reducible refine (text_any _ HX.out _).mono ?_); rintro e w' ⟨rfl, hb1⟩) | (go_at_call 16; (with_reducible refine (refText_any _ HX.out _).mono ?_); rintro e w' ⟨rfl, hb1⟩) | (go_at_call 15; (with_reducible refine (text_any _ HY.out _).mono ?_); rintro e w' ⟨rfl, hb1⟩) | (go_at_call 16; (with_reducible refine (refText_any _ HY.out _).mono ?_); rintro e w' ⟨rfl, hb1⟩))
  go_ret
  refine ⟨rfl, ?_⟩
  (repeat (first | exact Below.refl _ _ | assumption | refine below_alloc ?_ _ | refine below_drew ?_ | refine below_trans ?_ (by assumption)))

set_option maxHeartbeats 1000000 in
theorem orders_202 (a b c : Nat) (HX : Hid (a < 18446744073709551616)) (HY : Hid (b < 18446744073709551616)) (HZ : Hid (c < 18446744073709551616)) (k1 : cmpB a b = 1) (k2 : cmpB b a = -1) (k3 : cmpB b c = -1) (k4 : cmpB a c = 1) (e : (hexT (txV a) == hexT (txV b)) = false) (w : World) :
    Calls Try.prog 6 #[.int .u64 (a : Int), .int .u64 (b : Int), .int .u64 (c : Int)] w fun e w' => e = .returned (.bool true) ∧ Below w.heap.size w w' := by
  go_enter Try.func6, Try.ntmps6
  go_wp2_with (first | (go_at_call 14; (with_reducible refine (told_any _).mono ?_); rintro e w' ⟨rfl, hb1⟩) | (go_at_call 19; (with_reducible refine (of_any _ HX.out _).mono ?_); rintro e w' ⟨rfl, hb1⟩) | (go_at_call 19; (with_reducible refine (of_any _ HY.out _).mono ?_); rintro e w' ⟨rfl, hb1⟩) | (go_at_call 19; (with_reducible refine (of_any _ HZ.out _).mono ?_); rintro e w' ⟨rfl, hb1⟩) | (go_at_call 22; (with_reducible refine (compare_any _ _ HX.out HY.out _).mono ?_); rintro e w' ⟨rfl, rfl⟩) | (go_at_call 22; (with_reducible refine (compare_any _ _ HY.out HZ.out _).mono ?_); rintro e w' ⟨rfl, rfl⟩) | (go_at_call 22; (with_reducible refine (compare_any _ _ HX.out HZ.out _).mono ?_); rintro e w' ⟨rfl, rfl⟩) | (go_at_call 22; (with_reducible refine (compare_any _ _ HY.out HX.out _).mono ?_); rintro e w' ⟨rfl, rfl⟩) | (go_at_call 15; (with_reducible refine (text_any _ HX.out _).mono ?_); rintro e w' ⟨rfl, hb1⟩) | (go_at_call 16; (with_reducible refine (refText_any _ HX.out _).mono ?_); rintro e w' ⟨rfl, hb1⟩) | (go_at_call 15; (with_reducible refine (text_any _ HY.out _).mono ?_); rintro e w' ⟨rfl, hb1⟩) | (go_at_call 16; (with_reducible refine (refText_any _ HY.out _).mono ?_); rintro e w' ⟨rfl, hb1⟩))
  go_ret
  refine ⟨rfl, ?_⟩
  (repeat (first | exact Below.refl _ _ | assumption | refine below_alloc ?_ _ | refine below_drew ?_ | refine below_trans ?_ (by assumption)))

set_option maxHeartbeats 1000000 in
theorem orders_212 (a b c : Nat) (HX : Hid (a < 18446744073709551616)) (HY : Hid (b < 18446744073709551616)) (HZ : Hid (c < 18446744073709551616)) (k1 : cmpB a b = 1) (k2 : cmpB b a = -1) (k3 : cmpB b c = 0) (k4 : cmpB a c = 1) (e : (hexT (txV a) == hexT (txV b)) = false) (w : World) :
    Calls Try.prog 6 #[.int .u64 (a : Int), .int .u64 (b : Int), .int .u64 (c : Int)] w fun e w' => e = .returned (.bool true) ∧ Below w.heap.size w w' := by
  go_enter Try.func6, Try.ntmps6
  go_wp2_with (first | (go_at_call 14; (with_reducible refine (told_any _).mono ?_); rintro e w' ⟨rfl, hb1⟩) | (go_at_call 19; (with_reducible refine (of_any _ HX.out _).mono ?_); rintro e w' ⟨rfl, hb1⟩) | (go_at_call 19; (with_reducible refine (of_any _ HY.out _).mono ?_); rintro e w' ⟨rfl, hb1⟩) | (go_at_call 19; (with_reducible refine (of_any _ HZ.out _).mono ?_); rintro e w' ⟨rfl, hb1⟩) | (go_at_call 22; (with_reducible refine (compare_any _ _ HX.out HY.out _).mono ?_); rintro e w' ⟨rfl, rfl⟩) | (go_at_call 22; (with_reducible refine (compare_any _ _ HY.out HZ.out _).mono ?_); rintro e w' ⟨rfl, rfl⟩) | (go_at_call 22; (with_reducible refine (compare_any _ _ HX.out HZ.out _).mono ?_); rintro e w' ⟨rfl, rfl⟩) | (go_at_call 22; (with_reducible refine (compare_any _ _ HY.out HX.out _).mono ?_); rintro e w' ⟨rfl, rfl⟩) | (go_at_call 15; (with_reducible refine (text_any _ HX.out _).mono ?_); rintro e w' ⟨rfl, hb1⟩) | (go_at_call 16; (with_reducible refine (refText_any _ HX.out _).mono ?_); rintro e w' ⟨rfl, hb1⟩) | (go_at_call 15; (with_reducible refine (text_any _ HY.out _).mono ?_); rintro e w' ⟨rfl, hb1⟩) | (go_at_call 16; (with_reducible refine (refText_any _ HY.out _).mono ?_); rintro e w' ⟨rfl, hb1⟩))
  go_ret
  refine ⟨rfl, ?_⟩
  (repeat (first | exact Below.refl _ _ | assumption | refine below_alloc ?_ _ | refine below_drew ?_ | refine below_trans ?_ (by assumption)))

set_option maxHeartbeats 1000000 in
theorem orders_222 (a b c : Nat) (HX : Hid (a < 18446744073709551616)) (HY : Hid (b < 18446744073709551616)) (HZ : Hid (c < 18446744073709551616)) (k1 : cmpB a b = 1) (k2 : cmpB b a = -1) (k3 : cmpB b c = 1) (k4 : cmpB a c = 1) (e : (hexT (txV a) == hexT (txV b)) = false) (w : World) :
    Calls Try.prog 6 #[.int .u64 (a : Int), .int .u64 (b : Int), .int .u64 (c : Int)] w fun e w' => e = .returned (.bool true) ∧ Below w.heap.size w w' := by
  go_enter Try.func6, Try.ntmps6
  go_wp2_with (first | (go_at_call 14; (with_reducible refine (told_any _).mono ?_); rintro e w' ⟨rfl, hb1⟩) | (go_at_call 19; (with_reducible refine (of_any _ HX.out _).mono ?_); rintro e w' ⟨rfl, hb1⟩) | (go_at_call 19; (with_reducible refine (of_any _ HY.out _).mono ?_); rintro e w' ⟨rfl, hb1⟩) | (go_at_call 19; (with_reducible refine (of_any _ HZ.out _).mono ?_); rintro e w' ⟨rfl, hb1⟩) | (go_at_call 22; (with_reducible refine (compare_any _ _ HX.out HY.out _).mono ?_); rintro e w' ⟨rfl, rfl⟩) | (go_at_call 22; (with_reducible refine (compare_any _ _ HY.out HZ.out _).mono ?_); rintro e w' ⟨rfl, rfl⟩) | (go_at_call 22; (with_reducible refine (compare_any _ _ HX.out HZ.out _).mono ?_); rintro e w' ⟨rfl, rfl⟩) | (go_at_call 22; (with_reducible refine (compare_any _ _ HY.out HX.out _).mono ?_); rintro e w' ⟨rfl, rfl⟩) | (go_at_call 15; (with_reducible refine (text_any _ HX.out _).mono ?_); rintro e w' ⟨rfl, hb1⟩) | (go_at_call 16; (with_reducible refine (refText_any _ HX.out _).mono ?_); rintro e w' ⟨rfl, hb1⟩) | (go_at_call 15; (with_reducible refine (text_any _ HY.out _).mono ?_); rintro e w' ⟨rfl, hb1⟩) | (go_at_call 16; (with_reducible refine (refText_any _ HY.out _).mono ?_); rintro e w' ⟨rfl, hb1⟩))
  go_ret
  refine ⟨rfl, ?_⟩
  (repeat (first | exact Below.refl _ _ | assumption | refine below_alloc ?_ _ | refine below_drew ?_ | refine below_trans ?_ (by assumption)))

theorem law_orders (a b c : Nat) (ha : a < 18446744073709551616) (hb : b < 18446744073709551616) (hc : c < 18446744073709551616) (w : World) :
    Calls Try.prog 6 #[.int .u64 (a : Int), .int .u64 (b : Int), .int .u64 (c : Int)] w fun e w' => e = .returned (.bool true) ∧ Below w.heap.size w w' := by
  have f := cmpB_flip a b
  rcases cmpB_cases a b with ⟨r1, k⟩ | ⟨r1, k⟩ | ⟨r1, k⟩ <;> rcases cmpB_cases b c with ⟨r2, m⟩ | ⟨r2, m⟩ | ⟨r2, m⟩ <;> rcases cmpB_cases a c with ⟨r3, n⟩ | ⟨r3, n⟩ | ⟨r3, n⟩
  · exact orders_000 a b c ha hb hc k (by omega) m n (text_beq ha hb (by omega)) w
  · exact absurd r3 (by omega)
  · exact absurd r3 (by omega)
  · exact orders_020 a b c ha hb hc k (by omega) m n (text_beq ha hb (by omega)) w
  · exact orders_022 a b c ha hb hc k (by omega) m n (text_beq ha hb (by omega)) w
  · exact orders_021 a b c ha hb hc k (by omega) m n (text_beq ha hb (by omega)) w
  · exact orders_010 a b c ha hb hc k (by omega) m n (text_beq ha hb (by omega)) w
  · exact absurd r3 (by omega)
  · exact absurd r3 (by omega)
  · exact orders_200 a b c ha hb hc k (by omega) m n (text_beq ha hb (by omega)) w
  · exact orders_202 a b c ha hb hc k (by omega) m n (text_beq ha hb (by omega)) w
  · exact orders_201 a b c ha hb hc k (by omega) m n (text_beq ha hb (by omega)) w
  · exact absurd r3 (by omega)
  · exact orders_222 a b c ha hb hc k (by omega) m n (text_beq ha hb (by omega)) w
  · exact absurd r3 (by omega)
  · exact absurd r3 (by omega)
  · exact orders_212 a b c ha hb hc k (by omega) m n (text_beq ha hb (by omega)) w
  · exact absurd r3 (by omega)
  · exact orders_100 a b c ha hb hc k (by omega) m n (txV_row ha hb r1) w
  · exact absurd r3 (by omega)
  · exact absurd r3 (by omega)
  · exact absurd r3 (by omega)
  · exact orders_122 a b c ha hb hc k (by omega) m n (txV_row ha hb r1) w
  · exact absurd r3 (by omega)
  · exact absurd r3 (by omega)
  · exact absurd r3 (by omega)
  · exact orders_111 a b c ha hb hc k (by omega) m n (txV_row ha hb r1) w

theorem cmpB_negs {a b : Nat} (ha : a < 18446744073709551616) (hb : b < 18446744073709551616) (na : kind a ≠ 0) (nb : kind b ≠ 0) : cmpB (flip a) (flip b) = - cmpB a b := by
  have x := cmpB_cases a b
  have y := cmpB_cases (flip a) (flip b)
  rcases kind_row ha with ⟨_, p, _⟩ | ⟨pa, p⟩
  · exact absurd p na
  · rcases kind_row hb with ⟨_, q, _⟩ | ⟨pb, q⟩
    · exact absurd q nb
    · rw [row_flip ha pa, row_flip hb pb] at y
      omega

set_option maxHeartbeats 1000000 in
theorem negs_nan (a b : Nat) (HA : Hid (a < 18446744073709551616)) (HB : Hid (b < 18446744073709551616)) (HFA : Hid (flip a < 18446744073709551616)) (HFB : Hid (flip b < 18446744073709551616)) (ff : flip (flip a) = a) (hx : bits BinOp.xor IntKind.u64 (a : Int) 9223372036854775808 = ((flip a : Nat) : Int)) (k : (kind a == 0) = true) (kf : (kind (flip a) == 0) = true) (w : World) :
    Calls Try.prog 9 #[.int .u64 (a : Int), .int .u64 (b : Int)] w fun e w' => e = .returned (.bool true) ∧ Below w.heap.size w w' := by
  go_enter Try.func9, Try.ntmps9
  go_wp2_with (first | (go_at_call 14; (with_reducible refine (told_any _).mono ?_); rintro e w' ⟨rfl, hb1⟩) | (go_at_call 19; (with_reducible refine (of_any _ HA.out _).mono ?_); rintro e w' ⟨rfl, hb1⟩) | (go_at_call 19; (with_reducible refine (of_any _ HB.out _).mono ?_); rintro e w' ⟨rfl, hb1⟩) | (go_at_call 28; (with_reducible refine (neg_any _ HA.out _).mono ?_); rintro e w' ⟨rfl, rfl⟩) | (go_at_call 28; (with_reducible refine (neg_any _ HB.out _).mono ?_); rintro e w' ⟨rfl, rfl⟩) | (go_at_call 28; (with_reducible refine (neg_any _ HFA.out _).mono ?_); rintro e w' ⟨rfl, rfl⟩) | (go_at_call 15; (with_reducible refine (text_any _ HA.out _).mono ?_); rintro e w' ⟨rfl, hb1⟩) | (go_at_call 16; (with_reducible refine (refText_any _ HA.out _).mono ?_); rintro e w' ⟨rfl, hb1⟩) | (go_at_call 15; (with_reducible refine (text_any _ HFA.out _).mono ?_); rintro e w' ⟨rfl, hb1⟩) | (go_at_call 16; (with_reducible refine (refText_any _ HFA.out _).mono ?_); rintro e w' ⟨rfl, hb1⟩) | (go_at_call 20; (with_reducible refine (refKind_any _ HA.out _).mono ?_); rintro e w' ⟨rfl, rfl⟩) | (go_at_call 20; (with_reducible refine (refKind_any _ HB.out _).mono ?_); rintro e w' ⟨rfl, rfl⟩) | (go_at_call 18; (with_reducible refine (kind_any _ HA.out _).mono ?_); rintro e w' ⟨rfl, rfl⟩) | (go_at_call 18; (with_reducible refine (kind_any _ HFA.out _).mono ?_); rintro e w' ⟨rfl, rfl⟩) | (go_at_call 22; (with_reducible refine (compare_any _ _ HFA.out HFB.out _).mono ?_); rintro e w' ⟨rfl, rfl⟩) | (go_at_call 21; (with_reducible refine (refCompare_any _ _ HA.out HB.out _).mono ?_); rintro e w' ⟨rfl, rfl⟩))
  go_ret
  refine ⟨rfl, ?_⟩
  (repeat (first | exact Below.refl _ _ | assumption | refine below_alloc ?_ _ | refine below_drew ?_ | refine below_trans ?_ (by assumption)))

set_option maxHeartbeats 1000000 in
theorem negs_b (a b : Nat) (HA : Hid (a < 18446744073709551616)) (HB : Hid (b < 18446744073709551616)) (HFA : Hid (flip a < 18446744073709551616)) (HFB : Hid (flip b < 18446744073709551616)) (ff : flip (flip a) = a) (hx : bits BinOp.xor IntKind.u64 (a : Int) 9223372036854775808 = ((flip a : Nat) : Int)) (k : (kind a == 0) = false) (kf : (IntKind.i64.wrap (kind (flip a) + kind a) != 7) = false) (kf2 : (kind (flip a) + kind a != 7) = false) (h1 : 0 ≤ kind a) (h2 : kind a ≤ 6) (h3 : 0 ≤ kind (flip a)) (h4 : kind (flip a) ≤ 6) (kb : (kind b == 0) = true) (w : World) :
    Calls Try.prog 9 #[.int .u64 (a : Int), .int .u64 (b : Int)] w fun e w' => e = .returned (.bool true) ∧ Below w.heap.size w w' := by
  go_enter Try.func9, Try.ntmps9
  go_wp2_with (first | (go_at_call 14; (with_reducible refine (told_any _).mono ?_); rintro e w' ⟨rfl, hb1⟩) | (go_at_call 19; (with_reducible refine (of_any _ HA.out _).mono ?_); rintro e w' ⟨rfl, hb1⟩) | (go_at_call 19; (with_reducible refine (of_any _ HB.out _).mono ?_); rintro e w' ⟨rfl, hb1⟩) | (go_at_call 28; (with_reducible refine (neg_any _ HA.out _).mono ?_); rintro e w' ⟨rfl, rfl⟩) | (go_at_call 28; (with_reducible refine (neg_any _ HB.out _).mono ?_); rintro e w' ⟨rfl, rfl⟩) | (go_at_call 28; (with_reducible refine (neg_any _ HFA.out _).mono ?_); rintro e w' ⟨rfl, rfl⟩) | (go_at_call 15; (with_reducible refine (text_any _ HA.out _).mono ?_); rintro e w' ⟨rfl, hb1⟩) | (go_at_call 16; (with_reducible refine (refText_any _ HA.out _).mono ?_); rintro e w' ⟨rfl, hb1⟩) | (go_at_call 15; (with_reducible refine (text_any _ HFA.out _).mono ?_); rintro e w' ⟨rfl, hb1⟩) | (go_at_call 16; (with_reducible refine (refText_any _ HFA.out _).mono ?_); rintro e w' ⟨rfl, hb1⟩) | (go_at_call 20; (with_reducible refine (refKind_any _ HA.out _).mono ?_); rintro e w' ⟨rfl, rfl⟩) | (go_at_call 20; (with_reducible refine (refKind_any _ HB.out _).mono ?_); rintro e w' ⟨rfl, rfl⟩) | (go_at_call 18; (with_reducible refine (kind_any _ HA.out _).mono ?_); rintro e w' ⟨rfl, rfl⟩) | (go_at_call 18; (with_reducible refine (kind_any _ HFA.out _).mono ?_); rintro e w' ⟨rfl, rfl⟩) | (go_at_call 22; (with_reducible refine (compare_any _ _ HFA.out HFB.out _).mono ?_); rintro e w' ⟨rfl, rfl⟩) | (go_at_call 21; (with_reducible refine (refCompare_any _ _ HA.out HB.out _).mono ?_); rintro e w' ⟨rfl, rfl⟩))
  go_ret
  refine ⟨rfl, ?_⟩
  (repeat (first | exact Below.refl _ _ | assumption | refine below_alloc ?_ _ | refine below_drew ?_ | refine below_trans ?_ (by assumption)))

set_option maxHeartbeats 1000000 in
theorem negs_num (a b : Nat) (HA : Hid (a < 18446744073709551616)) (HB : Hid (b < 18446744073709551616)) (HFA : Hid (flip a < 18446744073709551616)) (HFB : Hid (flip b < 18446744073709551616)) (ff : flip (flip a) = a) (hx : bits BinOp.xor IntKind.u64 (a : Int) 9223372036854775808 = ((flip a : Nat) : Int)) (k : (kind a == 0) = false) (kf : (IntKind.i64.wrap (kind (flip a) + kind a) != 7) = false) (kf2 : (kind (flip a) + kind a != 7) = false) (h1 : 0 ≤ kind a) (h2 : kind a ≤ 6) (h3 : 0 ≤ kind (flip a)) (h4 : kind (flip a) ≤ 6) (kb : (kind b == 0) = false) (e : cmpB (flip a) (flip b) = - cmpB a b) (h5 : -1 ≤ cmpB a b) (h6 : cmpB a b ≤ 1) (w : World) :
    Calls Try.prog 9 #[.int .u64 (a : Int), .int .u64 (b : Int)] w fun e w' => e = .returned (.bool true) ∧ Below w.heap.size w w' := by
  go_enter Try.func9, Try.ntmps9
  go_wp2_with (first | (go_at_call 14; (with_reducible refine (told_any _).mono ?_); rintro e w' ⟨rfl, hb1⟩) | (go_at_call 19; (with_reducible refine (of_any _ HA.out _).mono ?_); rintro e w' ⟨rfl, hb1⟩) | (go_at_call 19; (with_reducible refine (of_any _ HB.out _).mono ?_); rintro e w' ⟨rfl, hb1⟩) | (go_at_call 28; (with_reducible refine (neg_any _ HA.out _).mono ?_); rintro e w' ⟨rfl, rfl⟩) | (go_at_call 28; (with_reducible refine (neg_any _ HB.out _).mono ?_); rintro e w' ⟨rfl, rfl⟩) | (go_at_call 28; (with_reducible refine (neg_any _ HFA.out _).mono ?_); rintro e w' ⟨rfl, rfl⟩) | (go_at_call 15; (with_reducible refine (text_any _ HA.out _).mono ?_); rintro e w' ⟨rfl, hb1⟩) | (go_at_call 16; (with_reducible refine (refText_any _ HA.out _).mono ?_); rintro e w' ⟨rfl, hb1⟩) | (go_at_call 15; (with_reducible refine (text_any _ HFA.out _).mono ?_); rintro e w' ⟨rfl, hb1⟩) | (go_at_call 16; (with_reducible refine (refText_any _ HFA.out _).mono ?_); rintro e w' ⟨rfl, hb1⟩) | (go_at_call 20; (with_reducible refine (refKind_any _ HA.out _).mono ?_); rintro e w' ⟨rfl, rfl⟩) | (go_at_call 20; (with_reducible refine (refKind_any _ HB.out _).mono ?_); rintro e w' ⟨rfl, rfl⟩) | (go_at_call 18; (with_reducible refine (kind_any _ HA.out _).mono ?_); rintro e w' ⟨rfl, rfl⟩) | (go_at_call 18; (with_reducible refine (kind_any _ HFA.out _).mono ?_); rintro e w' ⟨rfl, rfl⟩) | (go_at_call 22; (with_reducible refine (compare_any _ _ HFA.out HFB.out _).mono ?_); rintro e w' ⟨rfl, rfl⟩) | (go_at_call 21; (with_reducible refine (refCompare_any _ _ HA.out HB.out _).mono ?_); rintro e w' ⟨rfl, rfl⟩))
  go_ret
  refine ⟨rfl, ?_⟩
  (repeat (first | exact Below.refl _ _ | assumption | refine below_alloc ?_ _ | refine below_drew ?_ | refine below_trans ?_ (by assumption)))

theorem kind_range {b : Nat} (hb : b < 18446744073709551616) : 0 ≤ kind b ∧ kind b ≤ 6 := by
  rcases kind_row hb with ⟨_, p, _⟩ | ⟨_, p⟩ <;> omega

theorem law_negs (a b : Nat) (ha : a < 18446744073709551616) (hb : b < 18446744073709551616) (w : World) :
    Calls Try.prog 9 #[.int .u64 (a : Int), .int .u64 (b : Int)] w fun e w' => e = .returned (.bool true) ∧ Below w.heap.size w w' := by
  have ra := kind_range ha
  have rf := kind_range (flip_lt ha)
  have cc := cmpB_cases a b
  by_cases k : kind a = 0
  · exact negs_nan a b ha hb (flip_lt ha) (flip_lt hb) (flip_flip ha) (xor_sign ha) (by rw [k]; rfl) (by rw [kind_flip_nan ha k]; rfl) w
  · have s := kind_flip ha k
    have s1 : (IntKind.i64.wrap (kind (flip a) + kind a) != 7) = false := by rw [s]; rfl
    have s2 : (kind (flip a) + kind a != 7) = false := by rw [s]; rfl
    by_cases m : kind b = 0
    · exact negs_b a b ha hb (flip_lt ha) (flip_lt hb) (flip_flip ha) (xor_sign ha) (by simpa using k) s1 s2 ra.1 ra.2 rf.1 rf.2 (by rw [m]; rfl) w
    · exact negs_num a b ha hb (flip_lt ha) (flip_lt hb) (flip_flip ha) (xor_sign ha) (by simpa using k) s1 s2 ra.1 ra.2 rf.1 rf.2 (by simpa using m) (cmpB_negs ha hb k m) (by omega) (by omega) w

end Go.Proofs.Ytbiopkmnajkjpaa.Sc
