/-
  LAYER 13: the law OrderTurns walked.
-/
import Derived.Test.YtbjllcjjibjgoaaPopped
import Derived.Lib.QuietBelow
import Derived.IntWalk
namespace Go.Proofs.Ytbjllcjjibjgoaa.Hp
open Go.RowKit Go.Sort Go.Proofs.Ytbjllcjjibjgoaa.Ln

theorem wrap_in (x : Int) (h0 : -9223372036854775808 ≤ x) (h1 : x ≤ 9223372036854775807) : wrap64 x = x := by unfold wrap64; omega
theorem turn_mod (k m : Int) (hm : 1 ≤ m) (hm2 : m ≤ 1099511627776) : ∃ K : Nat, wrap64 (1 + wrap64 ((IntKind.u64.wrap k).tmod m)) = (K : Int) ∧ 1 ≤ K ∧ (K : Int) ≤ m := by
  have h0 : 0 ≤ IntKind.u64.wrap k := by rw [IntKind.wrap_u64]; omega
  generalize IntKind.u64.wrap k = x at *
  rw [Int.tmod_eq_emod_of_nonneg h0]
  have h1 := Int.emod_nonneg x (show m ≠ 0 by omega)
  have h2 := Int.emod_lt_of_pos x (show 0 < m by omega)
  generalize x % m = y at *
  rw [wrap_in y (by omega) (by omega), wrap_in (1 + y) (by omega) (by omega)]
  exact ⟨(1 + y).toNat, by omega, by omega, by omega⟩
theorem pow_parts (K : Nat) (h1 : 1 ≤ K) (h2 : K ≤ 40) : ∃ P P1 : Nat, 2 ^ K = P ∧ 2 ^ (K - 1) = P1 ∧ P = 2 * P1 ∧ 1 ≤ P1 ∧ P ≤ 1099511627776 ∧ wrap64 ((2 : Int) ^ K) = (P : Int) ∧ wrap64 ((2 : Int) ^ (K - 1)) = (P1 : Int) := by
  have hp40 : 2 ^ K ≤ 2 ^ 40 := Nat.pow_le_pow_right (by decide) h2
  rw [show (2 : Nat) ^ 40 = 1099511627776 by decide] at hp40
  have hpm : 2 ^ K = 2 * 2 ^ (K - 1) := by
    rw [← Nat.pow_succ', Nat.succ_eq_add_one, Nat.sub_add_cancel h1]
  have hcast : ((2 : Int) ^ K) = ((2 ^ K : Nat) : Int) := by norm_cast
  have hcast1 : ((2 : Int) ^ (K - 1)) = ((2 ^ (K - 1) : Nat) : Int) := by norm_cast
  have hpos := Nat.two_pow_pos (K - 1)
  refine ⟨2 ^ K, 2 ^ (K - 1), rfl, rfl, hpm, hpos, hp40, ?_, ?_⟩
  · rw [hcast]
    generalize 2 ^ K = P at *
    exact wrap_in _ (by omega) (by omega)
  · rw [hcast1]
    generalize 2 ^ K = P at *
    generalize 2 ^ (K - 1) = P1 at *
    exact wrap_in _ (by omega) (by omega)

theorem wrap_as (x : Int) : IntKind.i64.wrap x = wrap64 x := by rw [IntKind.wrap_i64]; unfold wrap64; omega

set_option maxHeartbeats 1000000 in
theorem law_turns (k i : Int) (w : World) :
    Calls Try.prog 6 #[.int .i64 k, .int .i64 i] w fun e w' => e = .returned (.bool true) ∧ Below w.heap.size w w' := by
  obtain ⟨K, hK, hK1, hK40⟩ := turn_mod k 40 (by decide) (by decide)
  obtain ⟨P, P1, e1, e2, e3, e4, e5, q1, q2⟩ := pow_parts K hK1 (by omega)
  have L1 := luby_full (K - 1)
  have L3 := luby_end K
  have L2 := fun j => luby_turn (k := K) (i := j)
  rw [e2] at L1
  rw [e1] at L2 L3
  rw [show P1 + (P1 - 1) = P - 1 by omega] at L1
  obtain ⟨p, hpp⟩ : ∃ p : Int, p = (P : Int) := ⟨_, rfl⟩
  obtain ⟨p1, hpp1⟩ : ∃ p : Int, p = (P1 : Int) := ⟨_, rfl⟩
  rw [← hpp] at q1
  rw [← hpp1] at q2
  have b1 : 2 ≤ p := by omega
  have b2 : p ≤ 1099511627776 := by omega
  obtain ⟨J, hJ, hJ1, hJ2⟩ := turn_mod i (p - 1) (by omega) (by omega)
  have hz : (p - 1 == 0) = false := by rw [beq_eq_false_iff_ne]; omega
  have LL := hid (And.intro L1 (And.intro (L2 J hJ1 (by omega)) (And.intro L3 (And.intro hpp hpp1))))
  clear e1 e2 e3 e4 e5 L1 L2 L3 hpp hpp1
  go_enter Try.func6, Try.ntmps6
  go_wp2_with fail
  simp only [hK, hJ]
  clear hK hJ
  obtain ⟨u, hu⟩ : ∃ u : Int, u = (luby J : Nat) := ⟨_, rfl⟩
  obtain ⟨j, hj⟩ : ∃ j : Int, j = (J : Int) := ⟨_, rfl⟩
  have U := hid (And.intro hu hj)
  have QP := hid (show ∀ d os, Calls Try.prog 9 #[] (grow (redrawn w d) os) fun e w'' => e = .returned (.bool true) ∧ ∃ p : Regrown, w'' = grow (redrawn w p.d) p.os from fun d os => Calls.regrown_of (popped_any _))
  have lub : ∀ (x y : Int) (X : Nat), x = (X : Int) → y = (luby X : Nat) → X ≤ 9223372036854775807 → ∀ d os, Calls Try.prog 23 #[.int .i64 x] (grow (redrawn w d) os) fun e w'' => e = .returned (.int .i64 y) ∧ ∃ p : Regrown, w'' = grow (redrawn w p.d) p.os := by
    intro x y X hx hy hX d os
    subst hx; subst hy
    refine Calls.regrown_of ((luby_any X hX _).mono ?_)
    rintro e w' ⟨rfl, rfl⟩
    exact ⟨rfl, Below.refl _ _⟩
  have L1 := hid (lub (p - 1) p1 (P - 1) (by have := LL.out; omega) (by have := LL.out; omega) (by have := LL.out; omega))
  have L2 := hid (lub (p - 1 + j) u (P - 1 + J) (by have := LL.out; omega) (by have := LL.out; omega) (by have := LL.out; omega))
  have L3 := hid (lub j u J hj hu (by have := LL.out; omega))
  have L4 := hid (lub (2 * (p - 1) + 1) p (2 * (P - 1) + 1) (by have := LL.out; omega) (by have := LL.out; omega) (by have := LL.out; omega))
  have b3 : 1 ≤ j := by omega
  have b4 : j ≤ p - 1 := by omega
  rw [← hj]
  have v1 : IntKind.i64.wrap ((2 : Int) ^ (K - 1)) = p1 := by rw [wrap_as]; exact q2
  have v2 : IntKind.i64.wrap ((2 : Int) ^ K) = p := by rw [wrap_as]; exact q1
  have w1 : IntKind.i64.wrap ((K : Int) - 1) = (K : Int) - 1 := IntWalk.i64_in _ (by omega)
  have w2 : IntKind.i64.wrap (p - 1 + j) = p - 1 + j := IntWalk.i64_in _ (by omega)
  have w3 : IntKind.i64.wrap (2 * (p - 1)) = 2 * (p - 1) := IntWalk.i64_in _ (by omega)
  have w4 : IntKind.i64.wrap (2 * (p - 1) + 1) = 2 * (p - 1) + 1 := IntWalk.i64_in _ (by omega)
  clear lub hu hj hJ1 hJ2 q1 q2
  refine wp_region_quiet_below (by kernel_rfl) (by kernel_rfl) ?_
  repeat (quiet_step (first | with_reducible exact QP.out _ _ | with_reducible exact L1.out _ _ | with_reducible exact L2.out _ _ | with_reducible exact L3.out _ _ | with_reducible exact L4.out _ _))
  refine wpQuiet_nil ?_
  intro _ hw'
  obtain ⟨⟨dq, osq⟩, hw''⟩ := hw'
  subst hw''
  have hbz := below_regrown w dq osq
  show Exit.then _ _ Exit.normal _ (grow (redrawn w dq) osq)
  generalize grow (redrawn w dq) osq = W5 at hbz ⊢
  go_wp2_with fail
  go_ret
  exact ⟨rfl, hbz⟩
end Go.Proofs.Ytbjllcjjibjgoaa.Hp
