/-
  LAYER 2: the calls that take any count of numbers (Best), and the statements' helper that makes numbers of bits (all).
-/
import Derived.Test.YtbiopkmnajkjpaaScoreOps
namespace Go.Proofs.Ytbiopkmnajkjpaa.Sc
open Go.RowKit

def nth (l : List Nat) (k : Nat) : Nat := l.getD k 0
/-- the best's place behind k rounds -/
def bestTo (l : List Nat) : Nat → Int
  | 0 => -1
  | k + 1 => if bestTo l k < 0 then k else if 0 < cmpB (nth l k) (nth l (bestTo l k).toNat) then k else bestTo l k
theorem bestTo_lt (l : List Nat) : ∀ k, bestTo l k < k ∧ -1 ≤ bestTo l k := by
  intro k
  induction k with
  | zero => exact ⟨by show (-1 : Int) < 0; decide, by show (-1 : Int) ≤ -1; decide⟩
  | succ k ih => unfold bestTo; split; omega; split <;> omega
theorem bestTo_neg {l : List Nat} {k : Nat} (h : bestTo l k < 0) : (k : Int) = bestTo l (k + 1) := by rw [bestTo, if_pos h]
theorem bestTo_gt {l : List Nat} {k : Nat} (h : ¬ bestTo l k < 0) (g : 0 < cmpB (nth l k) (nth l (bestTo l k).toNat)) : (k : Int) = bestTo l (k + 1) := by rw [bestTo, if_neg h, if_pos g]
theorem bestTo_le {l : List Nat} {k : Nat} (h : ¬ bestTo l k < 0) (g : ¬ 0 < cmpB (nth l k) (nth l (bestTo l k).toNat)) : bestTo l k = bestTo l (k + 1) := by
  conv => rhs; rw [bestTo, if_neg h, if_neg g]

theorem best_nil (w : World) :
    Calls Try.prog 25 #[.slice none 0 0] w fun e w' => e = .returned (.int .i64 (-1)) ∧ w = w' := by
  go_enter Try.func25, Try.ntmps25
  go_wp2
  go_rounds 1
  go_ret
  exact ⟨rfl, rfl⟩

theorem best_row (l : List Nat) (hl : ∀ k, k < l.length → nth l k < 18446744073709551616) (B n c : Nat) (hn : n = l.length) (hm : n ≤ maxLen) (w : World)
    (hc : ∀ k, k < l.length → w.cell? ⟨B, k, none⟩ = some (.float .f64 (nth l k))) :
    Calls Try.prog 25 #[.slice (some ⟨B, 0, none⟩) n c] w fun e w' => e = .returned (.int .i64 (bestTo l l.length)) ∧ w = w' := by
  unfold maxLen at hm
  have HC := hid hc
  have HL := hid hl
  have HN := hid hn
  clear hc hl
  have hn1 : n ≤ l.length := by omega
  have hn2 : l.length ≤ n := by omega
  clear hn
  go_enter Try.func25, Try.ntmps25
  go_wp2_with fail
  go_loop [3, 8] (fun b i => ∃ k : Nat, k ≤ n ∧ i = .int .i64 k ∧ b = .int .i64 (bestTo l k)) (fun _ i => n - (intOf i).toNat)
  case atStart => exact ⟨0, by omega, rfl, rfl⟩
  case round =>
    obtain ⟨k, hk, rfl, rfl⟩ := hrel
    have hb := bestTo_lt l k
    by_cases hlt : k < n
    · have hc1 := HC.out k (by omega)
      have hx := hid (HL.out k (by omega))
      by_cases hneg : bestTo l k < 0
      · have e := hid (bestTo_neg hneg)
        go_wp2_with fail
        go_round
        case rel => exact ⟨k + 1, by omega, by go_num, int_eq e.out⟩
        case measure => simp [intOf]; omega
      · have hneg' : 0 ≤ bestTo l k := by omega
        obtain ⟨j, hj⟩ := Int.eq_ofNat_of_zero_le hneg'
        have hc2 := HC.out j (by omega)
        have hy := hid (HL.out j (by omega))
        by_cases hg : 0 < cmpB (nth l k) (nth l j)
        · have e := hid (bestTo_gt hneg (by rw [hj]; exact hg))
          have hj' := hid hj
          rw [hj] at hb hneg hneg' ⊢
          clear hj
          go_wp2_with (go_at_call 22; (with_reducible refine (compare_any _ _ hx.out hy.out _).mono ?_); rintro e w' ⟨rfl, rfl⟩)
          go_round
          case rel => exact ⟨k + 1, by omega, by go_num, int_eq e.out⟩
          case measure => simp [intOf]; omega
        · have e := hid (bestTo_le hneg (by rw [hj]; exact hg))
          have hj' := hid hj
          rw [hj] at hb hneg hneg' ⊢
          clear hj
          go_wp2_with (go_at_call 22; (with_reducible refine (compare_any _ _ hx.out hy.out _).mono ?_); rintro e w' ⟨rfl, rfl⟩)
          go_round
          case rel => exact ⟨k + 1, by omega, by go_num, int_eq (by rw [← e.out, hj'.out])⟩
          case measure => simp [intOf]; omega
    · have hkn : k = l.length := by omega
      subst hkn
      go_wp2_with fail
      go_ret
      exact ⟨rfl, rfl⟩

theorem of_mz (w : World) : Calls Try.prog 19 #[.int .u64 9223372036854775808] w fun e w' => e = .returned (.float .f64 9223372036854775808) ∧ Below w.heap.size w w' := of_any 9223372036854775808 (by decide) w
theorem of_z (w : World) : Calls Try.prog 19 #[.int .u64 0] w fun e w' => e = .returned (.float .f64 0) ∧ Below w.heap.size w w' := of_any 0 (by decide) w
theorem of_nan (w : World) : Calls Try.prog 19 #[.int .u64 9223372036854775807] w fun e w' => e = .returned (.float .f64 9223372036854775807) ∧ Below w.heap.size w w' := of_any 9223372036854775807 (by decide) w
theorem of_ni (w : World) : Calls Try.prog 19 #[.int .u64 18442240474082181120] w fun e w' => e = .returned (.float .f64 18442240474082181120) ∧ Below w.heap.size w w' := of_any 18442240474082181120 (by decide) w
theorem parse_one (w : World) : Calls Try.prog 12 #[.string { data := #[51, 102, 102, 48, 48, 48, 48, 48, 48, 48, 48, 48, 48, 48, 48, 48] }] w fun e w' => e = .returned (.tuple #[.float .f64 4607182418800017408, .bool true]) ∧ w = w' :=
  (parse_any _ (by decide) w).mono fun e w' ⟨he, hw⟩ => ⟨he.trans (ret_tup (by rw [show parseN { data := #[51, 102, 102, 48, 48, 48, 48, 48, 48, 48, 48, 48, 48, 48, 48, 48] } = 4607182418800017408 from by decide +kernel]) (bool_eq (by decide +kernel))), hw⟩
theorem text_one (w : World) : Calls Try.prog 15 #[.float .f64 4607182418800017408] w fun e w' => e = .returned (.string { data := #[51, 102, 102, 48, 48, 48, 48, 48, 48, 48, 48, 48, 48, 48, 48, 48] }) ∧ Below w.heap.size w w' :=
  (text_any _ (by decide) w).mono fun e w' ⟨he, hw⟩ => ⟨he.trans (ret_str (b := [51, 102, 102, 48, 48, 48, 48, 48, 48, 48, 48, 48, 48, 48, 48, 48]) (by decide +kernel)), hw⟩
theorem compare_noughts (w : World) : Calls Try.prog 22 #[.float .f64 9223372036854775808, .float .f64 0] w fun e w' => e = .returned (.int .i64 (-1)) ∧ w = w' :=
  (compare_any _ _ (by decide) (by decide) w).mono fun e w' ⟨he, hw⟩ => ⟨he.trans (ret_int (by decide +kernel)), hw⟩
theorem kind_mzc (w : World) : Calls Try.prog 18 #[.float .f64 9223372036854775808] w fun e w' => e = .returned (.int .i64 3) ∧ w = w' :=
  (kind_any _ (by decide) w).mono fun e w' ⟨he, hw⟩ => ⟨he.trans (ret_int (by decide +kernel)), hw⟩
theorem kind_nanc (w : World) : Calls Try.prog 18 #[.float .f64 9223372036854775807] w fun e w' => e = .returned (.int .i64 0) ∧ w = w' :=
  (kind_any _ (by decide) w).mono fun e w' ⟨he, hw⟩ => ⟨he.trans (ret_int (by decide +kernel)), hw⟩
theorem best_two (W : World) (T : TypeId) :
    Calls Try.prog 25 #[.slice (some ⟨W.heap.size, 0, none⟩) 2 2] (W.alloc (.cells #[.float .f64 9223372036854775807, .float .f64 18442240474082181120] T)) fun e w' => e = .returned (.int .i64 1) ∧ (W.alloc (.cells #[.float .f64 9223372036854775807, .float .f64 18442240474082181120] T)) = w' :=
  (best_row [9223372036854775807, 18442240474082181120] (by decide) W.heap.size 2 2 rfl (by decide) _ (by
    intro k hk
    rw [World.cell?_alloc_at _ _ _ _ rfl]
    match k, hk with
    | 0, _ => rfl
    | 1, _ => rfl)).mono fun e w' ⟨he, hw⟩ => ⟨he.trans (ret_int (by decide +kernel)), hw⟩

set_option maxHeartbeats 1000000 in
theorem told_any (w : World) :
    Calls Try.prog 14 #[] w fun e w' => e = .returned (.bool true) ∧ Below w.heap.size w w' := by
  go_enter Try.func14, Try.ntmps14
  go_wp2_with (first | (go_at_call 12; (with_reducible refine (parse_one _).mono ?_); rintro e w' ⟨rfl, rfl⟩) | (go_at_call 15; (with_reducible refine (text_one _).mono ?_); rintro e w' ⟨rfl, hb1⟩) | (go_at_call 19; (with_reducible refine (of_mz _).mono ?_); rintro e w' ⟨rfl, hb1⟩) | (go_at_call 19; (with_reducible refine (of_z _).mono ?_); rintro e w' ⟨rfl, hb1⟩)  | (go_at_call 19; (with_reducible refine (of_nan _).mono ?_); rintro e w' ⟨rfl, hb1⟩) | (go_at_call 19; (with_reducible refine (of_ni _).mono ?_); rintro e w' ⟨rfl, hb1⟩) | (go_at_call 22; (with_reducible refine (compare_noughts _).mono ?_); rintro e w' ⟨rfl, rfl⟩) | (go_at_call 18; (with_reducible refine (kind_mzc _).mono ?_); rintro e w' ⟨rfl, rfl⟩) | (go_at_call 18; (with_reducible refine (kind_nanc _).mono ?_); rintro e w' ⟨rfl, rfl⟩) | (go_at_call 25; (with_reducible refine (best_two _ _).mono ?_); rintro e w' ⟨rfl, rfl⟩))
  go_ret
  refine ⟨rfl, ?_⟩
  (repeat (first | exact Below.refl _ _ | assumption | refine below_alloc ?_ _ | refine below_drew ?_ | refine below_trans ?_ (by assumption)))

end Go.Proofs.Ytbiopkmnajkjpaa.Sc
