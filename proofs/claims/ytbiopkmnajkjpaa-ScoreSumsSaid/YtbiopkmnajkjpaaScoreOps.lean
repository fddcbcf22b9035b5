/-
  LAYER 2: the rest of package score's calls (Min, Max, Clamp, Neg, Best, Sum, Mean), and the statements' own helpers (of, all, told).
-/
import Derived.Test.YtbiopkmnajkjpaaScoreRef
namespace Go.Proofs.Ytbiopkmnajkjpaa.Sc
open Go.RowKit

theorem hexDigit_dg : ∀ d : Fin 16, dg (hexDigit d.val) = d.val := by decide
theorem hexDigit_ok : ∀ d : Fin 16, digOk ((hexDigit d.val).toNat : Int) = true := by decide

theorem dg_hex {d : Nat} (h : d < 16) : dg (hexDigit d) = d := hexDigit_dg ⟨d, h⟩

theorem hexT_ok (b : Nat) : allDig (hexT b) = true := by
  unfold allDig hexT
  rw [List.all_map, List.all_eq_true]
  intro x _
  exact hexDigit_ok ⟨b / 16 ^ (15 - x) % 16, Nat.mod_lt _ (by decide)⟩

theorem hexT_pre (b : Nat) (hb : b < 18446744073709551616) : ∀ m, m ≤ 16 → hv ((List.range m).map fun k => hexDigit (b / 16 ^ (15 - k) % 16)) = b / 16 ^ (16 - m) := by
  intro m
  induction m with
  | zero => intro _; rw [show hv ((List.range 0).map fun k => hexDigit (b / 16 ^ (15 - k) % 16)) = 0 from rfl]; omega
  | succ m ih =>
    intro h
    rw [List.range_succ, List.map_append, List.map_singleton, hv_snoc, ih (by omega), dg_hex (Nat.mod_lt _ (by decide))]
    have e1 : b / 16 ^ (16 - m) = b / 16 ^ (15 - m) / 16 := by
      rw [Nat.div_div_eq_div_mul, ← Nat.pow_succ]; congr 2; omega
    have e2 : 16 - (m + 1) = 15 - m := by omega
    rw [e1, e2]
    omega

theorem hexT_hv {b : Nat} (hb : b < 18446744073709551616) : hv (hexT b) = b := by
  have := hexT_pre b hb 16 (by omega)
  simpa [hexT] using this

theorem parseN_hex {b : Nat} (hb : b < 18446744073709551616) : parseN ⟨(hexT b).toArray⟩ = b := by
  unfold parseN
  rw [if_pos (by show (hexT b).toArray.size = 16; simp [hexT_len])]
  unfold parseV
  rw [if_pos (hexT_ok b)]
  exact hexT_hv hb
theorem parseOk_hex (b : Nat) : parseOk ⟨(hexT b).toArray⟩ = true := by
  unfold parseOk
  rw [decide_eq_true (by show (hexT b).toArray.size = 16; simp [hexT_len]), Bool.true_and]
  exact hexT_ok b

theorem of_any (b : Nat) (hb : b < 18446744073709551616) (w : World) :
    Calls Try.prog 19 #[.int .u64 (b : Int)] w fun e w' => e = .returned (.float .f64 b) ∧ Below w.heap.size w w' := by
  have HB := hid hb
  have H1 := hid (parseN_hex hb)
  have HL : (⟨(hexT b).toArray⟩ : ByteArray).size ≤ maxLen := by show (hexT b).toArray.size ≤ maxLen; rw [List.size_toArray, hexT_len]; decide
  have HS := hid HL
  clear HL
  clear hb
  go_enter Try.func19, Try.ntmps19
  go_wp2_with (first | (go_at_call 17; (with_reducible refine (refHex_any _ HB.out _).mono ?_); rintro e w' ⟨rfl, hb1⟩) | (go_at_call 12; (with_reducible refine (parse_any _ HS.out _).mono ?_); rintro e w' ⟨rfl, rfl⟩))
  go_ret
  exact ⟨ret_float H1.out, hb1⟩

theorem cmpB_le {a b : Nat} : decide (cmpB a b ≤ 0) = decide (row a ≤ row b) := by
  have := cmpB_cases a b
  rw [Bool.eq_iff_iff]; simp only [decide_eq_true_eq]; omega

def minB (a b : Nat) : Nat := if cmpB a b ≤ 0 then a else b
def maxB (a b : Nat) : Nat := if 0 ≤ cmpB a b then a else b
theorem minB_lt {a b : Nat} (ha : a < 18446744073709551616) (hb : b < 18446744073709551616) : minB a b < 18446744073709551616 := by unfold minB; split <;> omega
theorem maxB_lt {a b : Nat} (ha : a < 18446744073709551616) (hb : b < 18446744073709551616) : maxB a b < 18446744073709551616 := by unfold maxB; split <;> omega

theorem min_any (a b : Nat) (ha : a < 18446744073709551616) (hb : b < 18446744073709551616) (w : World) :
    Calls Try.prog 23 #[.float .f64 a, .float .f64 b] w fun e w' => e = .returned (.float .f64 (minB a b)) ∧ w = w' := by
  have HA := hid ha
  have HB := hid hb
  clear ha hb
  by_cases h : cmpB a b ≤ 0
  · have e := hid (show a = minB a b by unfold minB; rw [if_pos h])
    go_enter Try.func23, Try.ntmps23
    go_wp2_with (first | (go_at_call 22; (with_reducible refine (compare_any _ _ HA.out HB.out _).mono ?_); rintro e w' ⟨rfl, rfl⟩))
    go_ret
    exact ⟨ret_float e.out, rfl⟩
  · have e := hid (show b = minB a b by unfold minB; rw [if_neg h])
    go_enter Try.func23, Try.ntmps23
    go_wp2_with (first | (go_at_call 22; (with_reducible refine (compare_any _ _ HA.out HB.out _).mono ?_); rintro e w' ⟨rfl, rfl⟩))
    go_ret
    exact ⟨ret_float e.out, rfl⟩

theorem max_any (a b : Nat) (ha : a < 18446744073709551616) (hb : b < 18446744073709551616) (w : World) :
    Calls Try.prog 24 #[.float .f64 a, .float .f64 b] w fun e w' => e = .returned (.float .f64 (maxB a b)) ∧ w = w' := by
  have HA := hid ha
  have HB := hid hb
  clear ha hb
  by_cases h : 0 ≤ cmpB a b
  · have e := hid (show a = maxB a b by unfold maxB; rw [if_pos h])
    go_enter Try.func24, Try.ntmps24
    go_wp2_with (first | (go_at_call 22; (with_reducible refine (compare_any _ _ HA.out HB.out _).mono ?_); rintro e w' ⟨rfl, rfl⟩))
    go_ret
    exact ⟨ret_float e.out, rfl⟩
  · have e := hid (show b = maxB a b by unfold maxB; rw [if_neg h])
    go_enter Try.func24, Try.ntmps24
    go_wp2_with (first | (go_at_call 22; (with_reducible refine (compare_any _ _ HA.out HB.out _).mono ?_); rintro e w' ⟨rfl, rfl⟩))
    go_ret
    exact ⟨ret_float e.out, rfl⟩

theorem clamp_any (x a b : Nat) (hx : x < 18446744073709551616) (ha : a < 18446744073709551616) (hb : b < 18446744073709551616) (w : World) :
    Calls Try.prog 27 #[.float .f64 x, .float .f64 a, .float .f64 b] w fun e w' => e = .returned (.float .f64 (minB (maxB x a) b)) ∧ w = w' := by
  have HX := hid hx
  have HA := hid ha
  have HB := hid hb
  clear ha hb hx
  go_enter Try.func27, Try.ntmps27
  go_wp2_with (first | (go_at_call 24; (with_reducible refine (max_any _ _ HX.out HA.out _).mono ?_); rintro e w' ⟨rfl, rfl⟩) | (go_at_call 23; (with_reducible refine (min_any _ _ (maxB_lt HX.out HA.out) HB.out _).mono ?_); rintro e w' ⟨rfl, rfl⟩))
  go_ret
  exact ⟨rfl, rfl⟩

theorem xor_sign {b : Nat} (hb : b < 18446744073709551616) : bits BinOp.xor IntKind.u64 (b : Int) 9223372036854775808 = ((flip b : Nat) : Int) := by
  have := u64_xor_nat b 9223372036854775808 hb (by decide)
  rw [xor_top hb] at this
  exact this

theorem neg_any (b : Nat) (hb : b < 18446744073709551616) (w : World) :
    Calls Try.prog 28 #[.float .f64 b] w fun e w' => e = .returned (.float .f64 (flip b)) ∧ w = w' := by
  have hx := xor_sign hb
  clear hb
  go_enter Try.func28, Try.ntmps28
  go_wp2
  go_ret
  exact ⟨rfl, rfl⟩

end Go.Proofs.Ytbiopkmnajkjpaa.Sc
