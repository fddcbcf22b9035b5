/-
  LAYER 2, THE CODE's OWN CALLS: contracts of package score's functions and of what they call in math and cmp, over plain functions of a number's bits.
-/
import Derived.Test.YtbiopkmnajkjpaaRows
import Derived.Test.YtbiopkmnajkjpaaScoreBits
import Derived.Test.YtbiopkmnajkjpaaKit

namespace Go.Proofs.Ytbiopkmnajkjpaa.Sc
open Go.RowKit


def digV (c : Int) : Int := if 48 ≤ c ∧ c ≤ 57 then c - 48 else if 97 ≤ c ∧ c ≤ 102 then c - 87 else 0
def digOk (c : Int) : Bool := decide (48 ≤ c ∧ c ≤ 57) || decide (97 ≤ c ∧ c ≤ 102)

theorem digOk_t {c : Int} (h : 48 ≤ c ∧ c ≤ 57 ∨ 97 ≤ c ∧ c ≤ 102) : digOk c = true := by
  unfold digOk; rw [← Bool.decide_or]; exact decide_eq_true h
theorem digOk_f {c : Int} (h : ¬ (48 ≤ c ∧ c ≤ 57 ∨ 97 ≤ c ∧ c ≤ 102)) : digOk c = false := by
  unfold digOk; rw [← Bool.decide_or]; exact decide_eq_false h


theorem digit_any (c : Int) (h0 : 0 ≤ c) (h1 : c ≤ 255) (w : World) :
    Calls Try.prog 31 #[.int .u8 c] w fun e w' => e = .returned (.tuple #[.int .u64 (digV c), .bool (digOk c)]) ∧ w = w' := by
  by_cases a : 48 ≤ c
  · by_cases b : c ≤ 57
    · go_enter Try.func31, Try.ntmps31
      go_wp2
      go_ret2
      exact ⟨ret_tup (int_eq (by unfold digV; rw [if_pos ⟨a, b⟩])) (bool_eq ((digOk_t (by omega)).symm)), rfl⟩
    · by_cases d : 97 ≤ c
      · by_cases e : c ≤ 102
        · go_enter Try.func31, Try.ntmps31
          go_wp2
          go_ret2
          exact ⟨ret_tup (int_eq (by unfold digV; rw [if_neg (by omega), if_pos ⟨d, e⟩]; omega)) (bool_eq ((digOk_t (by omega)).symm)), rfl⟩
        · go_enter Try.func31, Try.ntmps31
          go_wp2
          go_ret2
          exact ⟨ret_tup (int_eq (by unfold digV; rw [if_neg (by omega), if_neg (by omega)])) (bool_eq ((digOk_f (by omega)).symm)), rfl⟩
      · go_enter Try.func31, Try.ntmps31
        go_wp2
        go_ret2
        exact ⟨ret_tup (int_eq (by unfold digV; rw [if_neg (by omega), if_neg (by omega)])) (bool_eq ((digOk_f (by omega)).symm)), rfl⟩
  · go_enter Try.func31, Try.ntmps31
    go_wp2
    go_ret2
    exact ⟨ret_tup (int_eq (by unfold digV; rw [if_neg (by omega), if_neg (by omega)])) (bool_eq ((digOk_f (by omega)).symm)), rfl⟩

theorem isNaN_val (b : Nat) : (FloatKind.f64.format.order b b != some .eq) = isNan b := by
  show (Ieee.double.order b b != some .eq) = isNan b
  rw [order_pos]
  cases h : isNan b <;> simp [compare, compareOfLessAndEq]

theorem isNaN_any (b : Nat) (w : World) :
    Calls Try.prog 34 #[.float .f64 b] w fun e w' => e = .returned (.bool (isNan b)) ∧ w = w' := by
  go_enter Try.func34, Try.ntmps34
  go_wp2
  go_ret
  exact ⟨ret_bool (isNaN_val b), rfl⟩

theorem cmpNaN_any (b : Nat) (w : World) :
    Calls Try.prog 42 #[.float .f64 b] w fun e w' => e = .returned (.bool (isNan b)) ∧ w = w' := by
  go_enter Try.func42, Try.ntmps42
  go_wp2
  go_ret
  exact ⟨ret_bool (isNaN_val b), rfl⟩

@[go_sem] theorem run_bits (b : Nat) (w : World) : (callFunc 33 #[.float .f64 b]).run Try.prog w = .ok (.value (.int .u64 (b : Int))) w := by kernel_rfl
@[go_sem] theorem run_frombits (b : Nat) (w : World) : (callFunc 32 #[.int .u64 (b : Int)]).run Try.prog w = .ok (.value (.float .f64 b)) w := by kernel_rfl
@[go_sem] theorem run_negf (b : Nat) (w : World) : (Op.unary .neg (.float .f64 b)).run Try.prog w = .ok (.float .f64 (Op.negFloat .f64 b)) w := rfl

theorem isInf_neg (b : Nat) (hb : b < 18446744073709551616) (w : World) :
    Calls Try.prog 35 #[.float .f64 b, .int .i64 (-1)] w fun e w' => e = .returned (.bool (isNI b)) ∧ w = w' := by
  go_enter Try.func35, Try.ntmps35
  go_wp2
  go_ret
  exact ⟨ret_bool (gt_max_neg hb), rfl⟩

theorem isInf_pos (b : Nat) (hb : b < 18446744073709551616) (w : World) :
    Calls Try.prog 35 #[.float .f64 b, .int .i64 1] w fun e w' => e = .returned (.bool (isPI b)) ∧ w = w' := by
  go_enter Try.func35, Try.ntmps35
  go_wp2
  go_ret
  exact ⟨ret_bool (gt_max hb), rfl⟩

theorem signbit_any (b : Nat) (hb : b < 18446744073709551616) (w : World) :
    Calls Try.prog 36 #[.float .f64 b] w fun e w' => e = .returned (.bool (isTop b)) ∧ w = w' := by
  have H : decide (wrap64 (b : Int) < 0) = isTop b := by
    unfold isTop; rw [Bool.eq_iff_iff]; simp only [decide_eq_true_eq]; unfold wrap64; omega
  have H' := hid H
  clear H
  go_enter Try.func36, Try.ntmps36
  go_wp2
  go_ret
  exact ⟨ret_bool H'.out, rfl⟩

theorem kind_nan {b : Nat} (h1 : isNan b = true) : kind b = 0 := by unfold kind; rw [if_pos h1]
theorem kind_ni {b : Nat} (h1 : isNan b = false) (h2 : isNI b = true) : kind b = 1 := by
  unfold isNI at h2; unfold kind; rw [if_neg (by simp [h1]), if_pos (by simpa using h2)]
theorem kind_pi {b : Nat} (h1 : isNan b = false) (h2 : isNI b = false) (h3 : isPI b = true) : kind b = 6 := by
  unfold isNI at h2; unfold isPI at h3; unfold kind; rw [if_neg (by simp [h1]), if_neg (by simpa using h2), if_pos (by simpa using h3)]
theorem kind_rest {b : Nat} (h1 : isNan b = false) (h2 : isNI b = false) (h3 : isPI b = false) :
    kind b = if b = 9223372036854775808 then 3 else if b = 0 then 4 else if 9223372036854775808 ≤ b then 2 else 5 := by
  unfold isNI at h2; unfold isPI at h3; unfold kind; rw [if_neg (by simp [h1]), if_neg (by simpa using h2), if_neg (by simpa using h3)]
theorem kind_lt {b : Nat} (hb : b < 18446744073709551616) (h1 : isNan b = false) (h2 : isNI b = false) (h3 : isPI b = false) (h4 : (FloatKind.f64.format.order b 0 == some Ordering.lt) = true) : kind b = 2 := by
  have := (lt_zero hb).symm.trans h4
  rw [h1] at this; simp at this
  rw [kind_rest h1 h2 h3, if_neg (by omega), if_neg (by omega), if_pos (by omega)]
theorem kind_gt {b : Nat} (hb : b < 18446744073709551616) (h1 : isNan b = false) (h2 : isNI b = false) (h3 : isPI b = false) (h5 : (FloatKind.f64.format.order b 0 == some Ordering.gt) = true) : kind b = 5 := by
  have := (gt_zero hb).symm.trans h5
  rw [h1] at this; simp at this
  rw [kind_rest h1 h2 h3, if_neg (by omega), if_neg (by omega), if_neg (by omega)]
theorem kind_zero {b : Nat} (hb : b < 18446744073709551616) (h1 : isNan b = false) (h2 : isNI b = false) (h3 : isPI b = false) (h4 : (FloatKind.f64.format.order b 0 == some Ordering.lt) = false)
    (h5 : (FloatKind.f64.format.order b 0 == some Ordering.gt) = false) : kind b = if isTop b then 3 else 4 := by
  have x := (lt_zero hb).symm.trans h4
  have y := (gt_zero hb).symm.trans h5
  rw [h1] at x y; simp at x y
  rw [kind_rest h1 h2 h3]
  unfold isTop
  by_cases k : 9223372036854775808 ≤ b
  · rw [if_pos (by omega), if_pos (by simpa using k)]
  · rw [if_neg (by omega), if_pos (by omega), if_neg (by simpa using k)]

theorem kind_any (b : Nat) (hb : b < 18446744073709551616) (w : World) :
    Calls Try.prog 18 #[.float .f64 b] w fun e w' => e = .returned (.int .i64 (kind b)) ∧ w = w' := by
  have HB := hid hb
  clear hb
  go_enter Try.func18, Try.ntmps18
  cases h1 : isNan b
  · cases h2 : isNI b
    · cases h3 : isPI b
      · cases h4 : (FloatKind.f64.format.order b 0 == some Ordering.lt)
        · cases h5 : (FloatKind.f64.format.order b 0 == some Ordering.gt)
          · cases h6 : isTop b
            · go_wp2_with (first | (go_at_call 34; (with_reducible refine (isNaN_any _ _).mono ?_); rintro e w' ⟨rfl, rfl⟩) | (go_at_call 35; (with_reducible refine (isInf_neg _ HB.out _).mono ?_); rintro e w' ⟨rfl, rfl⟩) | (go_at_call 35; (with_reducible refine (isInf_pos _ HB.out _).mono ?_); rintro e w' ⟨rfl, rfl⟩) | (go_at_call 36; (with_reducible refine (signbit_any _ HB.out _).mono ?_); rintro e w' ⟨rfl, rfl⟩))
              go_ret
              exact ⟨ret_int (by rw [kind_zero HB.out h1 h2 h3 h4 h5, h6]; rfl), rfl⟩
            · go_wp2_with (first | (go_at_call 34; (with_reducible refine (isNaN_any _ _).mono ?_); rintro e w' ⟨rfl, rfl⟩) | (go_at_call 35; (with_reducible refine (isInf_neg _ HB.out _).mono ?_); rintro e w' ⟨rfl, rfl⟩) | (go_at_call 35; (with_reducible refine (isInf_pos _ HB.out _).mono ?_); rintro e w' ⟨rfl, rfl⟩) | (go_at_call 36; (with_reducible refine (signbit_any _ HB.out _).mono ?_); rintro e w' ⟨rfl, rfl⟩))
              go_ret
              exact ⟨ret_int (by rw [kind_zero HB.out h1 h2 h3 h4 h5, h6]; rfl), rfl⟩
          · go_wp2_with (first | (go_at_call 34; (with_reducible refine (isNaN_any _ _).mono ?_); rintro e w' ⟨rfl, rfl⟩) | (go_at_call 35; (with_reducible refine (isInf_neg _ HB.out _).mono ?_); rintro e w' ⟨rfl, rfl⟩) | (go_at_call 35; (with_reducible refine (isInf_pos _ HB.out _).mono ?_); rintro e w' ⟨rfl, rfl⟩) | (go_at_call 36; (with_reducible refine (signbit_any _ HB.out _).mono ?_); rintro e w' ⟨rfl, rfl⟩))
            go_ret
            exact ⟨ret_int ((kind_gt HB.out h1 h2 h3 h5).symm), rfl⟩
        · go_wp2_with (first | (go_at_call 34; (with_reducible refine (isNaN_any _ _).mono ?_); rintro e w' ⟨rfl, rfl⟩) | (go_at_call 35; (with_reducible refine (isInf_neg _ HB.out _).mono ?_); rintro e w' ⟨rfl, rfl⟩) | (go_at_call 35; (with_reducible refine (isInf_pos _ HB.out _).mono ?_); rintro e w' ⟨rfl, rfl⟩) | (go_at_call 36; (with_reducible refine (signbit_any _ HB.out _).mono ?_); rintro e w' ⟨rfl, rfl⟩))
          go_ret
          exact ⟨ret_int ((kind_lt HB.out h1 h2 h3 h4).symm), rfl⟩
      · go_wp2_with (first | (go_at_call 34; (with_reducible refine (isNaN_any _ _).mono ?_); rintro e w' ⟨rfl, rfl⟩) | (go_at_call 35; (with_reducible refine (isInf_neg _ HB.out _).mono ?_); rintro e w' ⟨rfl, rfl⟩) | (go_at_call 35; (with_reducible refine (isInf_pos _ HB.out _).mono ?_); rintro e w' ⟨rfl, rfl⟩) | (go_at_call 36; (with_reducible refine (signbit_any _ HB.out _).mono ?_); rintro e w' ⟨rfl, rfl⟩))
        go_ret
        exact ⟨ret_int ((kind_pi h1 h2 h3).symm), rfl⟩
    · go_wp2_with (first | (go_at_call 34; (with_reducible refine (isNaN_any _ _).mono ?_); rintro e w' ⟨rfl, rfl⟩) | (go_at_call 35; (with_reducible refine (isInf_neg _ HB.out _).mono ?_); rintro e w' ⟨rfl, rfl⟩) | (go_at_call 35; (with_reducible refine (isInf_pos _ HB.out _).mono ?_); rintro e w' ⟨rfl, rfl⟩) | (go_at_call 36; (with_reducible refine (signbit_any _ HB.out _).mono ?_); rintro e w' ⟨rfl, rfl⟩))
      go_ret
      exact ⟨ret_int ((kind_ni h1 h2).symm), rfl⟩
  · go_wp2_with (first | (go_at_call 34; (with_reducible refine (isNaN_any _ _).mono ?_); rintro e w' ⟨rfl, rfl⟩) | (go_at_call 35; (with_reducible refine (isInf_neg _ HB.out _).mono ?_); rintro e w' ⟨rfl, rfl⟩) | (go_at_call 35; (with_reducible refine (isInf_pos _ HB.out _).mono ?_); rintro e w' ⟨rfl, rfl⟩) | (go_at_call 36; (with_reducible refine (signbit_any _ HB.out _).mono ?_); rintro e w' ⟨rfl, rfl⟩))
    go_ret
    exact ⟨ret_int ((kind_nan h1).symm), rfl⟩

theorem cmpInt_any (a b : Int) (w : World) :
    Calls Try.prog 38 #[.int .i64 a, .int .i64 b] w fun e w' => e = .returned (.int .i64 (cmpI a b)) ∧ w = w' := by
  have n1 : (a == a) = true := by simp
  rcases Int.lt_trichotomy a b with h | h | h
  · go_enter Try.func38, Try.ntmps38
    go_wp2
    go_ret
    exact ⟨ret_int (cmpI_lt (by omega)), rfl⟩
  · subst h
    go_enter Try.func38, Try.ntmps38
    go_wp2
    go_ret
    exact ⟨ret_int (cmpI_eq (by omega) (by omega)), rfl⟩
  · go_enter Try.func38, Try.ntmps38
    go_wp2
    go_ret
    exact ⟨ret_int (cmpI_gt (by omega)), rfl⟩

/-- cmp.Compare of two that are no NaN -/
theorem cmpF_num (a b : Nat) (na : isNan a = false) (nb : isNan b = false) (w : World) :
    Calls Try.prog 39 #[.float .f64 a, .float .f64 b] w fun e w' => e = .returned (.int .i64 (cmpI (pos a) (pos b))) ∧ w = w' := by
  have HL : (FloatKind.f64.format.order a b == some Ordering.lt) = decide (pos a < pos b) := by
    show (Ieee.double.order a b == some Ordering.lt) = _; rw [order_lt, na, nb]; simp
  have HG : (FloatKind.f64.format.order a b == some Ordering.gt) = decide (pos b < pos a) := by
    show (Ieee.double.order a b == some Ordering.gt) = _; rw [order_gt, na, nb]; simp
  by_cases h : pos a < pos b
  · have h' : (FloatKind.f64.format.order a b == some Ordering.lt) = true := by rw [HL]; exact decide_eq_true h
    clear HL HG
    have HH := hid h
    clear h
    go_enter Try.func39, Try.ntmps39
    go_wp2_with (go_at_call 42; (with_reducible refine (cmpNaN_any _ _).mono ?_); rintro e w' ⟨rfl, rfl⟩)
    go_ret
    exact ⟨ret_int (cmpI_lt HH.out), rfl⟩
  · have h' : (FloatKind.f64.format.order a b == some Ordering.lt) = false := by rw [HL]; exact decide_eq_false h
    by_cases g : pos b < pos a
    · have g' : (FloatKind.f64.format.order a b == some Ordering.gt) = true := by rw [HG]; exact decide_eq_true g
      clear HL HG
      have HH := hid h
      have GG := hid g
      clear h g
      go_enter Try.func39, Try.ntmps39
      go_wp2_with (go_at_call 42; (with_reducible refine (cmpNaN_any _ _).mono ?_); rintro e w' ⟨rfl, rfl⟩)
      go_ret
      exact ⟨ret_int (cmpI_gt GG.out), rfl⟩
    · have g' : (FloatKind.f64.format.order a b == some Ordering.gt) = false := by rw [HG]; exact decide_eq_false g
      clear HL HG
      have HH := hid h
      have GG := hid g
      clear h g
      go_enter Try.func39, Try.ntmps39
      go_wp2_with (go_at_call 42; (with_reducible refine (cmpNaN_any _ _).mono ?_); rintro e w' ⟨rfl, rfl⟩)
      go_ret
      exact ⟨ret_int (cmpI_eq (by have := HH.out; omega) (by have := GG.out; omega)), rfl⟩

theorem cmpF_nan (a b : Nat) (na : isNan a = true) (nb : isNan b = true) (w : World) :
    Calls Try.prog 39 #[.float .f64 a, .float .f64 b] w fun e w' => e = .returned (.int .i64 0) ∧ w = w' := by
  go_enter Try.func39, Try.ntmps39
  go_wp2_with (go_at_call 42; (with_reducible refine (cmpNaN_any _ _).mono ?_); rintro e w' ⟨rfl, rfl⟩)
  go_ret
  exact ⟨rfl, rfl⟩

theorem compare_any (a b : Nat) (ha : a < 18446744073709551616) (hb : b < 18446744073709551616) (w : World) :
    Calls Try.prog 22 #[.float .f64 a, .float .f64 b] w fun e w' => e = .returned (.int .i64 (cmpB a b)) ∧ w = w' := by
  cases h : (cmpI (kind a) (kind b) != 0)
  · have h' : cmpI (kind a) (kind b) = 0 := by simpa using h
    have D := hid (cmpB_same ha hb h')
    have HA := hid ha
    have HB := hid hb
    clear ha hb h'
    rcases D.out with ⟨na, nb, e⟩ | ⟨na, nb, e⟩
    · have E := hid e
      clear e D
      go_enter Try.func22, Try.ntmps22
      go_wp2_with (first | (go_at_call 18; (with_reducible refine (kind_any _ HA.out _).mono ?_); rintro e w' ⟨rfl, rfl⟩) | (go_at_call 18; (with_reducible refine (kind_any _ HB.out _).mono ?_); rintro e w' ⟨rfl, rfl⟩) | (go_at_call 38; (with_reducible refine (cmpInt_any _ _ _).mono ?_); rintro e w' ⟨rfl, rfl⟩) | (go_at_call 39; (with_reducible refine (cmpF_nan _ _ na nb _).mono ?_); rintro e w' ⟨rfl, rfl⟩))
      go_ret
      exact ⟨ret_int E.out.symm, rfl⟩
    · have E := hid e
      clear e D
      go_enter Try.func22, Try.ntmps22
      go_wp2_with (first | (go_at_call 18; (with_reducible refine (kind_any _ HA.out _).mono ?_); rintro e w' ⟨rfl, rfl⟩) | (go_at_call 18; (with_reducible refine (kind_any _ HB.out _).mono ?_); rintro e w' ⟨rfl, rfl⟩) | (go_at_call 38; (with_reducible refine (cmpInt_any _ _ _).mono ?_); rintro e w' ⟨rfl, rfl⟩) | (go_at_call 39; (with_reducible refine (cmpF_num _ _ na nb _).mono ?_); rintro e w' ⟨rfl, rfl⟩))
      go_ret
      exact ⟨ret_int E.out, rfl⟩
  · have E := hid (cmpB_kind ha hb (by simpa using h))
    have HA := hid ha
    have HB := hid hb
    clear ha hb
    go_enter Try.func22, Try.ntmps22
    go_wp2_with (first | (go_at_call 18; (with_reducible refine (kind_any _ HA.out _).mono ?_); rintro e w' ⟨rfl, rfl⟩) | (go_at_call 18; (with_reducible refine (kind_any _ HB.out _).mono ?_); rintro e w' ⟨rfl, rfl⟩) | (go_at_call 38; (with_reducible refine (cmpInt_any _ _ _).mono ?_); rintro e w' ⟨rfl, rfl⟩))
    go_ret
    exact ⟨ret_int E.out, rfl⟩

end Go.Proofs.Ytbiopkmnajkjpaa.Sc
