/-
  LAYER 2: the statements that speak of one, two, three numbers: each returns true, and touches nothing that was there.
-/
import Derived.Test.YtbiopkmnajkjpaaScoreList
namespace Go.Proofs.Ytbiopkmnajkjpaa.Sc
open Go.RowKit

theorem hexT_inj {a b : Nat} (ha : a < 18446744073709551616) (hb : b < 18446744073709551616) (h : hexT a = hexT b) : a = b := by
  rw [← hexT_hv ha, h, hexT_hv hb]

theorem u64_lo {a : Int} (h : (Lit.int .u64 a).wf = true) : 0 ≤ a := by
  have : 0 ≤ a ∧ a ≤ 18446744073709551615 := by simpa [Lit.wf, IntKind.min, IntKind.max, IntKind.signed, IntKind.bits] using h
  exact this.1
theorem u64_hi {a : Int} (h : (Lit.int .u64 a).wf = true) : a ≤ 18446744073709551615 := by
  have : 0 ≤ a ∧ a ≤ 18446744073709551615 := by simpa [Lit.wf, IntKind.min, IntKind.max, IntKind.signed, IntKind.bits] using h
  exact this.2

theorem law_kinds (b : Nat) (hb : b < 18446744073709551616) (w : World) :
    Calls Try.prog 4 #[.int .u64 (b : Int)] w fun e w' => e = .returned (.bool true) ∧ Below w.heap.size w w' := by
  have HB := hid hb
  clear hb
  go_enter Try.func4, Try.ntmps4
  go_wp2_with (first | (go_at_call 14; (with_reducible refine (told_any _).mono ?_); rintro e w' ⟨rfl, hb1⟩) | (go_at_call 19; (with_reducible refine (of_any _ HB.out _).mono ?_); rintro e w' ⟨rfl, hb1⟩) | (go_at_call 18; (with_reducible refine (kind_any _ HB.out _).mono ?_); rintro e w' ⟨rfl, rfl⟩) | (go_at_call 20; (with_reducible refine (refKind_any _ HB.out _).mono ?_); rintro e w' ⟨rfl, rfl⟩))
  go_ret
  refine ⟨rfl, ?_⟩
  (repeat (first | exact Below.refl _ _ | assumption | refine below_alloc ?_ _ | refine below_drew ?_ | refine below_trans ?_ (by assumption)))

theorem parseN_lt (s : ByteArray) : parseN s < 18446744073709551616 := by
  unfold parseN parseV
  split
  · rename_i h
    split
    · have := hv_lt s.data.toList
      rw [show s.data.toList.length = 16 from by simpa using h] at this
      exact this
    · decide
  · decide
theorem parseN_no {s : ByteArray} (h : parseOk s = false) : parseN s = 0 := by
  unfold parseOk at h
  unfold parseN
  split
  · rename_i e
    rw [decide_eq_true e, Bool.true_and] at h
    unfold parseV; rw [if_neg (by simp [h])]
  · rfl

theorem refText_z (w : World) :
    Calls Try.prog 16 #[.int .u64 0] w fun e w' => e = .returned (.string ⟨(hexT (txV 0)).toArray⟩) ∧ Below w.heap.size w w' := refText_any 0 (by decide) w
theorem l0 : 0 < 18446744073709551616 := by decide

set_option maxHeartbeats 1000000 in
theorem law_parses (s : ByteArray) (hs : s.size ≤ maxLen) (b : Nat) (hb : b < 18446744073709551616) (w : World) :
    Calls Try.prog 3 #[.string s, .int .u64 (b : Int)] w fun e w' => e = .returned (.bool true) ∧ Below w.heap.size w w' := by
  have HB := hid hb
  have HS := hid hs
  have HL : (⟨(hexT b).toArray⟩ : ByteArray).size ≤ maxLen := by show (hexT b).toArray.size ≤ maxLen; rw [List.size_toArray, hexT_len]; decide
  have HL' := hid HL
  clear HL hs
  have HN := hid (parseN_lt s)
  have e1 := parseN_hex hb
  have e2 := parseOk_hex b
  clear hb
  cases ho : parseOk s
  · have e0 := parseN_no ho
    go_enter Try.func3, Try.ntmps3
    go_wp2_with (first | (go_at_call 12; (with_reducible refine (parse_any _ HS.out _).mono ?_); rintro e w' ⟨rfl, rfl⟩) | (go_at_call 13; (with_reducible refine (refBits_any _ HS.out _).mono ?_); rintro e w' ⟨rfl, rfl⟩) | (go_at_call 14; (with_reducible refine (told_any _).mono ?_); rintro e w' ⟨rfl, hb1⟩) | (go_at_call 15; (with_reducible refine (text_any _ HN.out _).mono ?_); rintro e w' ⟨rfl, hb1⟩) | (go_at_call 16; (with_reducible refine (refText_any _ HN.out _).mono ?_); rintro e w' ⟨rfl, hb1⟩) | (go_at_call 15; (with_reducible refine (text_any _ l0 _).mono ?_); rintro e w' ⟨rfl, hb1⟩) | (go_at_call 16; (with_reducible refine (refText_z _).mono ?_); rintro e w' ⟨rfl, hb1⟩) | (go_at_call 17; (with_reducible refine (refHex_any _ HB.out _).mono ?_); rintro e w' ⟨rfl, hb1⟩) | (go_at_call 12; (with_reducible refine (parse_any _ HL'.out _).mono ?_); rintro e w' ⟨rfl, rfl⟩) | (go_at_call 15; (with_reducible refine (text_any _ HB.out _).mono ?_); rintro e w' ⟨rfl, hb1⟩) | (go_at_call 16; (with_reducible refine (refText_any _ HB.out _).mono ?_); rintro e w' ⟨rfl, hb1⟩))
    go_ret
    refine ⟨rfl, ?_⟩
    (repeat (first | exact Below.refl _ _ | assumption | refine below_alloc ?_ _ | refine below_drew ?_ | refine below_trans ?_ (by assumption)))
  · go_enter Try.func3, Try.ntmps3
    go_wp2_with (first | (go_at_call 12; (with_reducible refine (parse_any _ HS.out _).mono ?_); rintro e w' ⟨rfl, rfl⟩) | (go_at_call 13; (with_reducible refine (refBits_any _ HS.out _).mono ?_); rintro e w' ⟨rfl, rfl⟩) | (go_at_call 14; (with_reducible refine (told_any _).mono ?_); rintro e w' ⟨rfl, hb1⟩) | (go_at_call 15; (with_reducible refine (text_any _ HN.out _).mono ?_); rintro e w' ⟨rfl, hb1⟩) | (go_at_call 16; (with_reducible refine (refText_any _ HN.out _).mono ?_); rintro e w' ⟨rfl, hb1⟩) | (go_at_call 15; (with_reducible refine (text_any _ l0 _).mono ?_); rintro e w' ⟨rfl, hb1⟩) | (go_at_call 16; (with_reducible refine (refText_z _).mono ?_); rintro e w' ⟨rfl, hb1⟩) | (go_at_call 17; (with_reducible refine (refHex_any _ HB.out _).mono ?_); rintro e w' ⟨rfl, hb1⟩) | (go_at_call 12; (with_reducible refine (parse_any _ HL'.out _).mono ?_); rintro e w' ⟨rfl, rfl⟩) | (go_at_call 15; (with_reducible refine (text_any _ HB.out _).mono ?_); rintro e w' ⟨rfl, hb1⟩) | (go_at_call 16; (with_reducible refine (refText_any _ HB.out _).mono ?_); rintro e w' ⟨rfl, hb1⟩))
    go_ret
    refine ⟨rfl, ?_⟩
    (repeat (first | exact Below.refl _ _ | assumption | refine below_alloc ?_ _ | refine below_drew ?_ | refine below_trans ?_ (by assumption)))

theorem txV_row {a b : Nat} (ha : a < 18446744073709551616) (hb : b < 18446744073709551616) (h : row a = row b) : txV b = txV a := by
  rcases row_eq ha hb h with ⟨x, y⟩ | ⟨rfl, _⟩
  · unfold txV; rw [if_pos x, if_pos y]
  · rfl

theorem min_le (a b : Nat) (ha : a < 18446744073709551616) (hb : b < 18446744073709551616) (h : Hid (cmpB a b ≤ 0)) (w : World) :
    Calls Try.prog 23 #[.float .f64 a, .float .f64 b] w fun e w' => e = .returned (.float .f64 a) ∧ w = w' :=
  (min_any a b ha hb w).mono fun e w' ⟨he, hw⟩ => ⟨he.trans (ret_float (by unfold minB; rw [if_pos h.out])), hw⟩
theorem min_gt (a b : Nat) (ha : a < 18446744073709551616) (hb : b < 18446744073709551616) (h : Hid (0 < cmpB a b)) (w : World) :
    Calls Try.prog 23 #[.float .f64 a, .float .f64 b] w fun e w' => e = .returned (.float .f64 b) ∧ w = w' :=
  (min_any a b ha hb w).mono fun e w' ⟨he, hw⟩ => ⟨he.trans (ret_float (by unfold minB; rw [if_neg (by have := h.out; omega)])), hw⟩
theorem max_ge (a b : Nat) (ha : a < 18446744073709551616) (hb : b < 18446744073709551616) (h : Hid (0 ≤ cmpB a b)) (w : World) :
    Calls Try.prog 24 #[.float .f64 a, .float .f64 b] w fun e w' => e = .returned (.float .f64 a) ∧ w = w' :=
  (max_any a b ha hb w).mono fun e w' ⟨he, hw⟩ => ⟨he.trans (ret_float (by unfold maxB; rw [if_pos h.out])), hw⟩
theorem max_lt (a b : Nat) (ha : a < 18446744073709551616) (hb : b < 18446744073709551616) (h : Hid (cmpB a b < 0)) (w : World) :
    Calls Try.prog 24 #[.float .f64 a, .float .f64 b] w fun e w' => e = .returned (.float .f64 b) ∧ w = w' :=
  (max_any a b ha hb w).mono fun e w' ⟨he, hw⟩ => ⟨he.trans (ret_float (by unfold maxB; rw [if_neg (by have := h.out; omega)])), hw⟩

set_option maxHeartbeats 1000000 in
theorem law_compares (a b : Nat) (ha : a < 18446744073709551616) (hb : b < 18446744073709551616) (w : World) :
    Calls Try.prog 5 #[.int .u64 (a : Int), .int .u64 (b : Int)] w fun e w' => e = .returned (.bool true) ∧ Below w.heap.size w w' := by
  have HA := hid ha
  have HB := hid hb
  have HE := hid (txV_row ha hb)
  clear ha hb
  rcases cmpB_cases a b with ⟨h1, h2⟩ | ⟨h1, h2⟩ | ⟨h1, h2⟩
  · have k1 := hid (show cmpB a b ≤ 0 by omega)
    have k2 := hid (show cmpB a b < 0 by omega)
    have k3 : ¬ 0 < cmpB a b := by omega
    clear h1 h2 HE
    go_enter Try.func5, Try.ntmps5
    go_wp2_with (first | (go_at_call 14; (with_reducible refine (told_any _).mono ?_); rintro e w' ⟨rfl, hb1⟩) | (go_at_call 19; (with_reducible refine (of_any _ HA.out _).mono ?_); rintro e w' ⟨rfl, hb1⟩) | (go_at_call 19; (with_reducible refine (of_any _ HB.out _).mono ?_); rintro e w' ⟨rfl, hb1⟩) | (go_at_call 22; (with_reducible refine (compare_any _ _ HA.out HB.out _).mono ?_); rintro e w' ⟨rfl, rfl⟩) | (go_at_call 21; (with_reducible refine (refCompare_any _ _ HA.out HB.out _).mono ?_); rintro e w' ⟨rfl, rfl⟩) | (go_at_call 15; (with_reducible refine (text_any _ HA.out _).mono ?_); rintro e w' ⟨rfl, hb1⟩) | (go_at_call 16; (with_reducible refine (refText_any _ HA.out _).mono ?_); rintro e w' ⟨rfl, hb1⟩) | (go_at_call 15; (with_reducible refine (text_any _ HB.out _).mono ?_); rintro e w' ⟨rfl, hb1⟩) | (go_at_call 16; (with_reducible refine (refText_any _ HB.out _).mono ?_); rintro e w' ⟨rfl, hb1⟩) | (go_at_call 23; (with_reducible refine (min_le _ _ HA.out HB.out k1 _).mono ?_); rintro e w' ⟨rfl, rfl⟩) | (go_at_call 24; (with_reducible refine (max_lt _ _ HA.out HB.out k2 _).mono ?_); rintro e w' ⟨rfl, rfl⟩))
    go_ret
    refine ⟨rfl, ?_⟩
    (repeat (first | exact Below.refl _ _ | assumption | refine below_alloc ?_ _ | refine below_drew ?_ | refine below_trans ?_ (by assumption)))
  · have k1 := hid (show 0 < cmpB a b by omega)
    have k2 := hid (show 0 ≤ cmpB a b by omega)
    have k3 : 0 < cmpB a b := by omega
    clear h1 h2 HE
    go_enter Try.func5, Try.ntmps5
    go_wp2_with (first | (go_at_call 14; (with_reducible refine (told_any _).mono ?_); rintro e w' ⟨rfl, hb1⟩) | (go_at_call 19; (with_reducible refine (of_any _ HA.out _).mono ?_); rintro e w' ⟨rfl, hb1⟩) | (go_at_call 19; (with_reducible refine (of_any _ HB.out _).mono ?_); rintro e w' ⟨rfl, hb1⟩) | (go_at_call 22; (with_reducible refine (compare_any _ _ HA.out HB.out _).mono ?_); rintro e w' ⟨rfl, rfl⟩) | (go_at_call 21; (with_reducible refine (refCompare_any _ _ HA.out HB.out _).mono ?_); rintro e w' ⟨rfl, rfl⟩) | (go_at_call 15; (with_reducible refine (text_any _ HA.out _).mono ?_); rintro e w' ⟨rfl, hb1⟩) | (go_at_call 16; (with_reducible refine (refText_any _ HA.out _).mono ?_); rintro e w' ⟨rfl, hb1⟩) | (go_at_call 15; (with_reducible refine (text_any _ HB.out _).mono ?_); rintro e w' ⟨rfl, hb1⟩) | (go_at_call 16; (with_reducible refine (refText_any _ HB.out _).mono ?_); rintro e w' ⟨rfl, hb1⟩) | (go_at_call 23; (with_reducible refine (min_gt _ _ HA.out HB.out k1 _).mono ?_); rintro e w' ⟨rfl, rfl⟩) | (go_at_call 24; (with_reducible refine (max_ge _ _ HA.out HB.out k2 _).mono ?_); rintro e w' ⟨rfl, rfl⟩))
    go_ret
    refine ⟨rfl, ?_⟩
    (repeat (first | exact Below.refl _ _ | assumption | refine below_alloc ?_ _ | refine below_drew ?_ | refine below_trans ?_ (by assumption)))
  · have k1 := hid (show cmpB a b ≤ 0 by omega)
    have k2 := hid (show 0 ≤ cmpB a b by omega)
    have k3 : ¬ 0 < cmpB a b := by omega
    have e := HE.out h1
    clear h1 h2 HE
    go_enter Try.func5, Try.ntmps5
    go_wp2_with (first | (go_at_call 14; (with_reducible refine (told_any _).mono ?_); rintro e w' ⟨rfl, hb1⟩) | (go_at_call 19; (with_reducible refine (of_any _ HA.out _).mono ?_); rintro e w' ⟨rfl, hb1⟩) | (go_at_call 19; (with_reducible refine (of_any _ HB.out _).mono ?_); rintro e w' ⟨rfl, hb1⟩) | (go_at_call 22; (with_reducible refine (compare_any _ _ HA.out HB.out _).mono ?_); rintro e w' ⟨rfl, rfl⟩) | (go_at_call 21; (with_reducible refine (refCompare_any _ _ HA.out HB.out _).mono ?_); rintro e w' ⟨rfl, rfl⟩) | (go_at_call 15; (with_reducible refine (text_any _ HA.out _).mono ?_); rintro e w' ⟨rfl, hb1⟩) | (go_at_call 16; (with_reducible refine (refText_any _ HA.out _).mono ?_); rintro e w' ⟨rfl, hb1⟩) | (go_at_call 15; (with_reducible refine (text_any _ HB.out _).mono ?_); rintro e w' ⟨rfl, hb1⟩) | (go_at_call 16; (with_reducible refine (refText_any _ HB.out _).mono ?_); rintro e w' ⟨rfl, hb1⟩) | (go_at_call 23; (with_reducible refine (min_le _ _ HA.out HB.out k1 _).mono ?_); rintro e w' ⟨rfl, rfl⟩) | (go_at_call 24; (with_reducible refine (max_ge _ _ HA.out HB.out k2 _).mono ?_); rintro e w' ⟨rfl, rfl⟩))
    go_ret
    refine ⟨rfl, ?_⟩
    (repeat (first | exact Below.refl _ _ | assumption | refine below_alloc ?_ _ | refine below_drew ?_ | refine below_trans ?_ (by assumption)))

theorem clamp_at (x a b m r : Nat) (hx : x < 18446744073709551616) (ha : a < 18446744073709551616) (hb : b < 18446744073709551616) (hm : Hid (maxB x a = m)) (hr : Hid (minB m b = r)) (w : World) :
    Calls Try.prog 27 #[.float .f64 x, .float .f64 a, .float .f64 b] w fun e w' => e = .returned (.float .f64 r) ∧ w = w' :=
  (clamp_any x a b hx ha hb w).mono fun e w' ⟨he, hw⟩ => ⟨he.trans (ret_float (by rw [hm.out, hr.out])), hw⟩
theorem cmpB_flip (a b : Nat) : cmpB b a = - cmpB a b := by
  have := cmpB_cases a b
  have := cmpB_cases b a
  omega

set_option maxHeartbeats 1000000 in
theorem law_clamps (x a b : Nat) (hx : x < 18446744073709551616) (ha : a < 18446744073709551616) (hb : b < 18446744073709551616) (w : World) :
    Calls Try.prog 8 #[.int .u64 (x : Int), .int .u64 (a : Int), .int .u64 (b : Int)] w fun e w' => e = .returned (.bool true) ∧ Below w.heap.size w w' := by
  have HX := hid hx
  have HA := hid ha
  have HB := hid hb
  clear hx ha hb
  by_cases c1 : 0 < cmpB a x
  · by_cases c2 : 0 < cmpB a b
    · have hm := hid (show maxB x a = a by have := cmpB_flip x a; unfold maxB; rw [if_neg (by omega)])
      have hr := hid (show minB a b = b by unfold minB; rw [if_neg (by omega)])
      go_enter Try.func8, Try.ntmps8
      go_wp2_with (first | (go_at_call 14; (with_reducible refine (told_any _).mono ?_); rintro e w' ⟨rfl, hb1⟩) | (go_at_call 19; (with_reducible refine (of_any _ HX.out _).mono ?_); rintro e w' ⟨rfl, hb1⟩) | (go_at_call 19; (with_reducible refine (of_any _ HA.out _).mono ?_); rintro e w' ⟨rfl, hb1⟩) | (go_at_call 19; (with_reducible refine (of_any _ HB.out _).mono ?_); rintro e w' ⟨rfl, hb1⟩) | (go_at_call 21; (with_reducible refine (refCompare_any _ _ HA.out HX.out _).mono ?_); rintro e w' ⟨rfl, rfl⟩) | (go_at_call 21; (with_reducible refine (refCompare_any _ _ HX.out HB.out _).mono ?_); rintro e w' ⟨rfl, rfl⟩) | (go_at_call 21; (with_reducible refine (refCompare_any _ _ HA.out HB.out _).mono ?_); rintro e w' ⟨rfl, rfl⟩) | (go_at_call 27; (with_reducible refine (clamp_at _ _ _ _ _ HX.out HA.out HB.out hm hr _).mono ?_); rintro e w' ⟨rfl, rfl⟩) | (go_at_call 15; (with_reducible refine (text_any _ HX.out _).mono ?_); rintro e w' ⟨rfl, hb1⟩) | (go_at_call 16; (with_reducible refine (refText_any _ HX.out _).mono ?_); rintro e w' ⟨rfl, hb1⟩) | (go_at_call 15; (with_reducible refine (text_any _ HA.out _).mono ?_); rintro e w' ⟨rfl, hb1⟩) | (go_at_call 16; (with_reducible refine (refText_any _ HA.out _).mono ?_); rintro e w' ⟨rfl, hb1⟩) | (go_at_call 15; (with_reducible refine (text_any _ HB.out _).mono ?_); rintro e w' ⟨rfl, hb1⟩) | (go_at_call 16; (with_reducible refine (refText_any _ HB.out _).mono ?_); rintro e w' ⟨rfl, hb1⟩))
      go_ret
      refine ⟨rfl, ?_⟩
      (repeat (first | exact Below.refl _ _ | assumption | refine below_alloc ?_ _ | refine below_drew ?_ | refine below_trans ?_ (by assumption)))
    · have hm := hid (show maxB x a = a by have := cmpB_flip x a; unfold maxB; rw [if_neg (by omega)])
      have hr := hid (show minB a b = a by unfold minB; rw [if_pos (by omega)])
      go_enter Try.func8, Try.ntmps8
      go_wp2_with (first | (go_at_call 14; (with_reducible refine (told_any _).mono ?_); rintro e w' ⟨rfl, hb1⟩) | (go_at_call 19; (with_reducible refine (of_any _ HX.out _).mono ?_); rintro e w' ⟨rfl, hb1⟩) | (go_at_call 19; (with_reducible refine (of_any _ HA.out _).mono ?_); rintro e w' ⟨rfl, hb1⟩) | (go_at_call 19; (with_reducible refine (of_any _ HB.out _).mono ?_); rintro e w' ⟨rfl, hb1⟩) | (go_at_call 21; (with_reducible refine (refCompare_any _ _ HA.out HX.out _).mono ?_); rintro e w' ⟨rfl, rfl⟩) | (go_at_call 21; (with_reducible refine (refCompare_any _ _ HX.out HB.out _).mono ?_); rintro e w' ⟨rfl, rfl⟩) | (go_at_call 21; (with_reducible refine (refCompare_any _ _ HA.out HB.out _).mono ?_); rintro e w' ⟨rfl, rfl⟩) | (go_at_call 27; (with_reducible refine (clamp_at _ _ _ _ _ HX.out HA.out HB.out hm hr _).mono ?_); rintro e w' ⟨rfl, rfl⟩) | (go_at_call 15; (with_reducible refine (text_any _ HX.out _).mono ?_); rintro e w' ⟨rfl, hb1⟩) | (go_at_call 16; (with_reducible refine (refText_any _ HX.out _).mono ?_); rintro e w' ⟨rfl, hb1⟩) | (go_at_call 15; (with_reducible refine (text_any _ HA.out _).mono ?_); rintro e w' ⟨rfl, hb1⟩) | (go_at_call 16; (with_reducible refine (refText_any _ HA.out _).mono ?_); rintro e w' ⟨rfl, hb1⟩) | (go_at_call 15; (with_reducible refine (text_any _ HB.out _).mono ?_); rintro e w' ⟨rfl, hb1⟩) | (go_at_call 16; (with_reducible refine (refText_any _ HB.out _).mono ?_); rintro e w' ⟨rfl, hb1⟩))
      go_ret
      refine ⟨rfl, ?_⟩
      (repeat (first | exact Below.refl _ _ | assumption | refine below_alloc ?_ _ | refine below_drew ?_ | refine below_trans ?_ (by assumption)))
  · by_cases c2 : 0 < cmpB x b
    · have hm := hid (show maxB x a = x by have := cmpB_flip x a; unfold maxB; rw [if_pos (by omega)])
      have hr := hid (show minB x b = b by unfold minB; rw [if_neg (by omega)])
      go_enter Try.func8, Try.ntmps8
      go_wp2_with (first | (go_at_call 14; (with_reducible refine (told_any _).mono ?_); rintro e w' ⟨rfl, hb1⟩) | (go_at_call 19; (with_reducible refine (of_any _ HX.out _).mono ?_); rintro e w' ⟨rfl, hb1⟩) | (go_at_call 19; (with_reducible refine (of_any _ HA.out _).mono ?_); rintro e w' ⟨rfl, hb1⟩) | (go_at_call 19; (with_reducible refine (of_any _ HB.out _).mono ?_); rintro e w' ⟨rfl, hb1⟩) | (go_at_call 21; (with_reducible refine (refCompare_any _ _ HA.out HX.out _).mono ?_); rintro e w' ⟨rfl, rfl⟩) | (go_at_call 21; (with_reducible refine (refCompare_any _ _ HX.out HB.out _).mono ?_); rintro e w' ⟨rfl, rfl⟩) | (go_at_call 21; (with_reducible refine (refCompare_any _ _ HA.out HB.out _).mono ?_); rintro e w' ⟨rfl, rfl⟩) | (go_at_call 27; (with_reducible refine (clamp_at _ _ _ _ _ HX.out HA.out HB.out hm hr _).mono ?_); rintro e w' ⟨rfl, rfl⟩) | (go_at_call 15; (with_reducible refine (text_any _ HX.out _).mono ?_); rintro e w' ⟨rfl, hb1⟩) | (go_at_call 16; (with_reducible refine (refText_any _ HX.out _).mono ?_); rintro e w' ⟨rfl, hb1⟩) | (go_at_call 15; (with_reducible refine (text_any _ HA.out _).mono ?_); rintro e w' ⟨rfl, hb1⟩) | (go_at_call 16; (with_reducible refine (refText_any _ HA.out _).mono ?_); rintro e w' ⟨rfl, hb1⟩) | (go_at_call 15; (with_reducible refine (text_any _ HB.out _).mono ?_); rintro e w' ⟨rfl, hb1⟩) | (go_at_call 16; (with_reducible refine (refText_any _ HB.out _).mono ?_); rintro e w' ⟨rfl, hb1⟩))
      go_ret
      refine ⟨rfl, ?_⟩
      (repeat (first | exact Below.refl _ _ | assumption | refine below_alloc ?_ _ | refine below_drew ?_ | refine below_trans ?_ (by assumption)))
    · have hm := hid (show maxB x a = x by have := cmpB_flip x a; unfold maxB; rw [if_pos (by omega)])
      have hr := hid (show minB x b = x by unfold minB; rw [if_pos (by omega)])
      go_enter Try.func8, Try.ntmps8
      go_wp2_with (first | (go_at_call 14; (with_reducible refine (told_any _).mono ?_); rintro e w' ⟨rfl, hb1⟩) | (go_at_call 19; (with_reducible refine (of_any _ HX.out _).mono ?_); rintro e w' ⟨rfl, hb1⟩) | (go_at_call 19; (with_reducible refine (of_any _ HA.out _).mono ?_); rintro e w' ⟨rfl, hb1⟩) | (go_at_call 19; (with_reducible refine (of_any _ HB.out _).mono ?_); rintro e w' ⟨rfl, hb1⟩) | (go_at_call 21; (with_reducible refine (refCompare_any _ _ HA.out HX.out _).mono ?_); rintro e w' ⟨rfl, rfl⟩) | (go_at_call 21; (with_reducible refine (refCompare_any _ _ HX.out HB.out _).mono ?_); rintro e w' ⟨rfl, rfl⟩) | (go_at_call 21; (with_reducible refine (refCompare_any _ _ HA.out HB.out _).mono ?_); rintro e w' ⟨rfl, rfl⟩) | (go_at_call 27; (with_reducible refine (clamp_at _ _ _ _ _ HX.out HA.out HB.out hm hr _).mono ?_); rintro e w' ⟨rfl, rfl⟩) | (go_at_call 15; (with_reducible refine (text_any _ HX.out _).mono ?_); rintro e w' ⟨rfl, hb1⟩) | (go_at_call 16; (with_reducible refine (refText_any _ HX.out _).mono ?_); rintro e w' ⟨rfl, hb1⟩) | (go_at_call 15; (with_reducible refine (text_any _ HA.out _).mono ?_); rintro e w' ⟨rfl, hb1⟩) | (go_at_call 16; (with_reducible refine (refText_any _ HA.out _).mono ?_); rintro e w' ⟨rfl, hb1⟩) | (go_at_call 15; (with_reducible refine (text_any _ HB.out _).mono ?_); rintro e w' ⟨rfl, hb1⟩) | (go_at_call 16; (with_reducible refine (refText_any _ HB.out _).mono ?_); rintro e w' ⟨rfl, hb1⟩))
      go_ret
      refine ⟨rfl, ?_⟩
      (repeat (first | exact Below.refl _ _ | assumption | refine below_alloc ?_ _ | refine below_drew ?_ | refine below_trans ?_ (by assumption)))

end Go.Proofs.Ytbiopkmnajkjpaa.Sc
