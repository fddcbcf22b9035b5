/-
  PLAIN MATHEMATICS OF LAYER 2: what a number is by its bits, where it stands in the row, how the model's order of floats follows from bits. No program is imported.
-/
import Derived.Laws.Cover2
import Derived.Laws.FloatArith
namespace Go.Proofs.Ytbiopkmnajkjpaa.Sc
open Ieee

def isNan (b : Nat) : Bool := decide (9218868437227405312 < b % 9223372036854775808)

def rung (b : Nat) : Nat := b % 9223372036854775808
def sgn (b : Nat) : Bool := b / 9223372036854775808 % 2 == 1

def mg (r : Nat) : Nat := if r < 4503599627370496 then r else 4503599627370496 + r % 4503599627370496
def ex (r : Nat) : Nat := if r < 4503599627370496 then 0 else r / 4503599627370496 - 1

theorem read_double (b : Nat) : double.read b =
    (if rung b < 9218868437227405312 then .number (sgn b) (mg (rung b)) (double.leastPlace + (ex (rung b) : Nat))
     else if rung b = 9218868437227405312 then .infinity (sgn b) else .nan (sgn b) (rung b - 9218868437227405312)) := by
  have h1 : double.signWeight = 9223372036854775808 := by decide
  have h2 : double.binade = 4503599627370496 := by decide
  have h3 : double.infRung = 9218868437227405312 := by decide
  unfold Format.read
  simp only [h1, h2, h3]
  unfold rung sgn mg ex
  generalize double.leastPlace = lp
  split
  · rw [if_pos (by omega)]; simp
  · rfl

theorem ex_mono {r s : Nat} (h : r ≤ s) : ex r ≤ ex s := by
  unfold ex; split <;> split <;> omega

theorem mag_lt {r s : Nat} (h : r < s) : mg r < mg s * 2 ^ (ex s - ex r) := by
  have hm := ex_mono (Nat.le_of_lt h)
  by_cases he : ex s = ex r
  · rw [he, Nat.sub_self, Nat.pow_zero, Nat.mul_one]
    unfold ex at he; unfold mg
    by_cases h1 : s < 4503599627370496
    · have h2 : r < 4503599627370496 := by omega
      rw [if_pos h1, if_pos h2]; exact h
    · by_cases h2 : r < 4503599627370496
      · rw [if_neg h1, if_pos h2]; omega
      · rw [if_neg h1, if_neg h2] at he
        rw [if_neg h1, if_neg h2]; omega
  · obtain ⟨d, hd⟩ : ∃ d, ex s - ex r = d + 1 := ⟨ex s - ex r - 1, by omega⟩
    rw [hd]
    have hs : 4503599627370496 ≤ mg s := by
      unfold ex at he hd; unfold mg
      split
      · rename_i h1; simp [h1] at hd
      · omega
    have hr : mg r < 9007199254740992 := by unfold mg; split <;> omega
    have hp : 1 ≤ 2 ^ d := Nat.one_le_two_pow
    have : mg s * 1 ≤ mg s * 2 ^ d := Nat.mul_le_mul_left _ hp
    rw [Nat.pow_succ, ← Nat.mul_assoc]
    omega

/-- where a number that is none of the NaNs stands, with its sign -/
def pos (b : Nat) : Int := if sgn b then -(rung b : Int) else (rung b : Int)

theorem cmp_of {a b c d : Int} (h1 : a < b ↔ c < d) (h2 : a = b ↔ c = d) : compare a b = compare c d := by
  simp only [compare, compareOfLessAndEq, h1, h2]

theorem shl (a n : Nat) : a <<< n = a * 2 ^ n := Nat.shiftLeft_eq a n

theorem signed_cmp (s t : Bool) (x y r q : Nat) (hlt : r < q → x < y) (hgt : q < r → y < x) (heq : r = q → x = y) :
    compare (if s then -(x : Int) else (x : Int)) (if t then -(y : Int) else (y : Int)) = compare (if s then -(r : Int) else (r : Int)) (if t then -(q : Int) else (q : Int)) ∨ (r = 0 ∧ x ≠ 0) ∨ (q = 0 ∧ y ≠ 0) ∨ (x = 0 ∧ r ≠ 0) ∨ (y = 0 ∧ q ≠ 0) := by
  by_cases h : (r = 0 ∧ x ≠ 0) ∨ (q = 0 ∧ y ≠ 0) ∨ (x = 0 ∧ r ≠ 0) ∨ (y = 0 ∧ q ≠ 0)
  · exact .inr h
  · left
    have h1 : r = 0 ↔ x = 0 := by constructor <;> intro e <;> omega
    have h2 : q = 0 ↔ y = 0 := by constructor <;> intro e <;> omega
    have h3 : r < q ↔ x < y := by
      constructor
      · exact hlt
      · intro e; rcases Nat.lt_trichotomy r q with g | g | g
        · exact g
        · have := heq g; omega
        · have := hgt g; omega
    have h4 : r = q ↔ x = y := by
      constructor
      · exact heq
      · intro e; rcases Nat.lt_trichotomy r q with g | g | g
        · have := hlt g; omega
        · exact g
        · have := hgt g; omega
    cases s <;> cases t <;> simp only [if_true, if_false, Bool.false_eq_true] <;> apply cmp_of <;> constructor <;> intro e <;> omega

theorem mg_zero {r : Nat} : mg r = 0 ↔ r = 0 := by unfold mg; split <;> omega

/-- the model's order of two numbers is that of their places -/
theorem order_pos (a b : Nat) : double.order a b = if isNan a || isNan b then none else some (compare (pos a) (pos b)) := by
  have ra : rung a < 9223372036854775808 := Nat.mod_lt _ (by decide)
  have rb : rung b < 9223372036854775808 := Nat.mod_lt _ (by decide)
  have na : isNan a = decide (9218868437227405312 < rung a) := rfl
  have nb : isNan b = decide (9218868437227405312 < rung b) := rfl
  unfold Format.order
  rw [read_double, read_double, na, nb]
  have key : ∀ (n : Int) (s t : Bool) (r q : Nat), compare (signed s (mg r) (n + (ex r : Nat) - min (n + (ex r : Nat)) (n + (ex q : Nat))).toNat) (signed t (mg q) (n + (ex q : Nat) - min (n + (ex r : Nat)) (n + (ex q : Nat))).toNat) = compare (if s then -(r : Int) else (r : Int)) (if t then -(q : Int) else (q : Int)) := by
    intro n s t r q
    have e1 : (n + (ex r : Nat) - min (n + (ex r : Nat)) (n + (ex q : Nat))).toNat = ex r - min (ex r) (ex q) := by omega
    have e2 : (n + (ex q : Nat) - min (n + (ex r : Nat)) (n + (ex q : Nat))).toNat = ex q - min (ex r) (ex q) := by omega
    rw [e1, e2]
    unfold signed
    rw [shl, shl]
    have z1 : ∀ k, mg r * 2 ^ k = 0 ↔ r = 0 := fun k => by
      rw [Nat.mul_eq_zero, mg_zero]; constructor
      · rintro (h | h)
        · exact h
        · have := Nat.two_pow_pos k; omega
      · exact .inl
    have z2 : ∀ k, mg q * 2 ^ k = 0 ↔ q = 0 := fun k => by
      rw [Nat.mul_eq_zero, mg_zero]; constructor
      · rintro (h | h)
        · exact h
        · have := Nat.two_pow_pos k; omega
      · exact .inl
    have z1' := z1 (ex r - min (ex r) (ex q))
    have z2' := z2 (ex q - min (ex r) (ex q))
    rcases signed_cmp s t (mg r * 2 ^ (ex r - min (ex r) (ex q))) (mg q * 2 ^ (ex q - min (ex r) (ex q))) r q
      (fun h => by
        have hm := ex_mono (Nat.le_of_lt h)
        have := mag_lt h
        rw [Nat.min_eq_left hm, Nat.sub_self, Nat.pow_zero, Nat.mul_one]; exact this)
      (fun h => by
        have hm := ex_mono (Nat.le_of_lt h)
        have := mag_lt h
        rw [Nat.min_eq_right hm, Nat.sub_self, Nat.pow_zero, Nat.mul_one]; exact this)
      (fun h => by subst h; rfl) with h | h | h | h | h
    · exact h
    · exact absurd (z1'.2 h.1) h.2
    · exact absurd (z2'.2 h.1) h.2
    · exact absurd (z1'.1 h.1) h.2
    · exact absurd (z2'.1 h.1) h.2
  unfold pos
  generalize double.leastPlace = lp at *
  generalize rung a = r at *
  generalize rung b = q at *
  generalize sgn a = s at *
  generalize sgn b = t at *
  by_cases h1 : 9218868437227405312 < r
  · rw [if_neg (by omega), if_neg (by omega)]; simp [Datum.order, h1]
  · by_cases h2 : 9218868437227405312 < q
    · rw [if_neg (show ¬ q < 9218868437227405312 by omega), if_neg (show ¬ q = 9218868437227405312 by omega)]
      simp only [h2, decide_true, Bool.or_true, if_true]
      split <;> (try split) <;> rfl
    · simp only [h1, h2, decide_false, Bool.or_false, Bool.false_eq_true, if_false]
      by_cases h3 : r = 9218868437227405312
      · by_cases h4 : q = 9218868437227405312
        · rw [if_neg (by omega), if_pos h3, if_neg (by omega), if_pos h4, h3, h4]
          cases s <;> cases t <;> rfl
        · rw [if_neg (by omega), if_pos h3, if_pos (show q < 9218868437227405312 by omega)]
          simp only [Datum.order]
          cases s <;> cases t <;> simp only [if_true, if_false, Bool.false_eq_true] <;> congr 1 <;> symm <;> simp only [compare, compareOfLessAndEq] <;> (first | rw [if_pos (by omega)] | (rw [if_neg (by omega), if_neg (by omega)]))
      · by_cases h4 : q = 9218868437227405312
        · rw [if_pos (show r < 9218868437227405312 by omega), if_neg (show ¬ q < 9218868437227405312 by omega), if_pos h4]
          simp only [Datum.order]
          cases s <;> cases t <;> simp only [if_true, if_false, Bool.false_eq_true] <;> congr 1 <;> symm <;> simp only [compare, compareOfLessAndEq] <;> (first | rw [if_pos (by omega)] | (rw [if_neg (by omega), if_neg (by omega)]))
        · rw [if_pos (show r < 9218868437227405312 by omega), if_pos (show q < 9218868437227405312 by omega)]
          simp only [Datum.order]
          rw [key]

theorem order_gt (a b : Nat) : (double.order a b == some .gt) = (!isNan a && !isNan b && decide (pos b < pos a)) := by
  rw [order_pos]
  cases isNan a <;> cases isNan b <;> simp [compare, compareOfLessAndEq]
  rw [Bool.eq_iff_iff]; simp
  by_cases h : pos a < pos b
  · simp [h]; omega
  · by_cases k : pos a = pos b
    · simp [k]
    · simp [h, k]; omega

theorem order_lt (a b : Nat) : (double.order a b == some .lt) = (!isNan a && !isNan b && decide (pos a < pos b)) := by
  rw [order_pos]
  cases isNan a <;> cases isNan b <;> simp only [compare, compareOfLessAndEq, Bool.or_false, Bool.or_true, if_true, if_false, Bool.false_eq_true, Bool.not_true, Bool.not_false, Bool.false_and, Bool.true_and, Bool.and_false] <;> (try rfl)
  by_cases h : pos a < pos b
  · simp [h]
  · by_cases k : pos a = pos b
    · simp [k]
    · simp [h, k]

theorem order_eq (a b : Nat) : (double.order a b == some .eq) = (!isNan a && !isNan b && decide (pos a = pos b)) := by
  rw [order_pos]
  cases isNan a <;> cases isNan b <;> simp [compare, compareOfLessAndEq]
  rw [Bool.eq_iff_iff]; simp
  by_cases h : pos a < pos b
  · simp [h]; omega
  · by_cases k : pos a = pos b
    · simp [k]
    · simp [h, k]

/-- pos, by cases of the sign bit -/
theorem pos_low {b : Nat} (h : b < 9223372036854775808) : pos b = b := by
  unfold pos sgn rung
  rw [if_neg (by rw [Nat.div_eq_of_lt h]; decide), Nat.mod_eq_of_lt h]
theorem pos_high {b : Nat} (h : 9223372036854775808 ≤ b) (hb : b < 18446744073709551616) : pos b = 9223372036854775808 - (b : Int) := by
  have e : b / 9223372036854775808 = 1 := by omega
  have m : b % 9223372036854775808 = b - 9223372036854775808 := by omega
  unfold pos sgn rung
  rw [e, m]; simp; omega
theorem isNan_low {b : Nat} (h : b < 9223372036854775808) : isNan b = decide (9218868437227405312 < b) := by
  unfold isNan; rw [Nat.mod_eq_of_lt h]
theorem isNan_high {b : Nat} (h : 9223372036854775808 ≤ b) (hb : b < 18446744073709551616) : isNan b = decide (18442240474082181120 < b) := by
  unfold isNan
  have m : b % 9223372036854775808 = b - 9223372036854775808 := by omega
  rw [m]; congr 1; apply propext; omega

theorem gt_max {b : Nat} (hb : b < 18446744073709551616) : (double.order b 9218868437227405311 == some .gt) = decide (b = 9218868437227405312) := by
  rw [order_gt, pos_low (b := 9218868437227405311) (by decide), isNan_low (b := 9218868437227405311) (by decide), Bool.eq_iff_iff]
  by_cases h : b < 9223372036854775808
  · rw [pos_low h, isNan_low h]; simp; omega
  · rw [pos_high (by omega) hb, isNan_high (by omega) hb]; simp; omega

/-- the sign bit turned -/
def flip (b : Nat) : Nat := if b < 9223372036854775808 then b + 9223372036854775808 else b - 9223372036854775808

theorem xor_top {b : Nat} (hb : b < 18446744073709551616) : b ^^^ 9223372036854775808 = flip b := by
  have h1 : (b ^^^ 9223372036854775808) % 2 ^ 63 = b % 2 ^ 63 := by
    rw [Nat.xor_mod_two_pow]; rw [show 9223372036854775808 % 2 ^ 63 = 0 from by decide, Nat.xor_zero]
  have h2 : (b ^^^ 9223372036854775808) / 2 ^ 63 = b / 2 ^ 63 ^^^ 1 := by
    rw [Nat.xor_div_two_pow]
  unfold flip
  by_cases h : b < 9223372036854775808
  · rw [if_pos h]
    rw [show b / 2 ^ 63 = 0 from by omega] at h2
    simp only [Nat.zero_xor] at h2
    omega
  · rw [if_neg h]
    rw [show b / 2 ^ 63 = 1 from by omega] at h2
    simp only [Nat.xor_self] at h2
    omega

theorem negFloat_flip {b : Nat} (hb : b < 18446744073709551616) : Op.negFloat .f64 b = flip b := xor_top hb
theorem flip_lt {b : Nat} (hb : b < 18446744073709551616) : flip b < 18446744073709551616 := by unfold flip; split <;> omega
theorem flip_flip {b : Nat} (hb : b < 18446744073709551616) : flip (flip b) = b := by unfold flip; split <;> split <;> omega

theorem gt_max_neg {b : Nat} (hb : b < 18446744073709551616) : (double.order (Op.negFloat .f64 b) 9218868437227405311 == some .gt) = decide (b = 18442240474082181120) := by
  rw [negFloat_flip hb, gt_max (flip_lt hb), Bool.eq_iff_iff]
  unfold flip
  split <;> simp <;> omega

def cmpI (a b : Int) : Int := if a < b then -1 else if b < a then 1 else 0
theorem cmpI_lt {a b : Int} (h : a < b) : -1 = cmpI a b := by unfold cmpI; rw [if_pos h]
theorem cmpI_gt {a b : Int} (h : b < a) : 1 = cmpI a b := by unfold cmpI; rw [if_neg (by omega), if_pos h]
theorem cmpI_eq {a b : Int} (h : ¬ a < b) (h' : ¬ b < a) : 0 = cmpI a b := by unfold cmpI; rw [if_neg h, if_neg h']

def isNI (b : Nat) : Bool := decide (b = 18442240474082181120)
def isPI (b : Nat) : Bool := decide (b = 9218868437227405312)
def isTop (b : Nat) : Bool := decide (9223372036854775808 ≤ b)

/-- what a number is -/
def kind (b : Nat) : Int :=
  if isNan b then 0 else if b = 18442240474082181120 then 1 else if b = 9218868437227405312 then 6
  else if b = 9223372036854775808 then 3 else if b = 0 then 4 else if 9223372036854775808 ≤ b then 2 else 5

theorem kind_nan' {b : Nat} (h1 : isNan b = true) : kind b = 0 := by unfold kind; rw [if_pos h1]

theorem lt_zero {b : Nat} (hb : b < 18446744073709551616) : (double.order b 0 == some .lt) = (!isNan b && decide (9223372036854775808 < b)) := by
  rw [order_lt, pos_low (b := 0) (by decide), isNan_low (b := 0) (by decide), Bool.eq_iff_iff]
  by_cases h : b < 9223372036854775808
  · rw [pos_low h]; simp; omega
  · rw [pos_high (by omega) hb]; simp; omega
theorem gt_zero {b : Nat} (hb : b < 18446744073709551616) : (double.order b 0 == some .gt) = (!isNan b && decide (0 < b ∧ b < 9223372036854775808)) := by
  rw [order_gt, pos_low (b := 0) (by decide), isNan_low (b := 0) (by decide), Bool.eq_iff_iff]
  by_cases h : b < 9223372036854775808
  · rw [pos_low h]; simp; omega
  · rw [pos_high (by omega) hb]; simp; omega

/-- where it stands in the row, by the document: below, NaNs alike -/
def row (b : Nat) : Nat := if isNan b then 0 else if 9223372036854775808 ≤ b then 18446744073709551615 - b else b + 9223372036854775808
def cmpB (a b : Nat) : Int := if row a < row b then -1 else if row b < row a then 1 else 0

theorem kind_row {b : Nat} (hb : b < 18446744073709551616) :
    (isNan b = true ∧ kind b = 0 ∧ row b = 0) ∨
    (isNan b = false ∧ ((row b < 9223372036854775808 ∧ pos b = (row b : Int) - 9223372036854775807) ∨ (9223372036854775808 ≤ row b ∧ pos b = (row b : Int) - 9223372036854775808)) ∧
      ((kind b = 1 ∧ row b = 4503599627370495) ∨ (kind b = 2 ∧ 4503599627370495 < row b ∧ row b < 9223372036854775807) ∨ (kind b = 3 ∧ row b = 9223372036854775807) ∨
       (kind b = 4 ∧ row b = 9223372036854775808) ∨ (kind b = 5 ∧ 9223372036854775808 < row b ∧ row b < 18442240474082181120) ∨ (kind b = 6 ∧ row b = 18442240474082181120))) := by
  cases h : isNan b
  · right
    refine ⟨rfl, ?_⟩
    have hr : row b = if 9223372036854775808 ≤ b then 18446744073709551615 - b else b + 9223372036854775808 := by unfold row; rw [h]; rfl
    have hk : kind b = if b = 18442240474082181120 then 1 else if b = 9218868437227405312 then 6
      else if b = 9223372036854775808 then 3 else if b = 0 then 4 else if 9223372036854775808 ≤ b then 2 else 5 := by unfold kind; rw [h]; rfl
    by_cases k : 9223372036854775808 ≤ b
    · have hp := pos_high k hb
      rw [isNan_high k hb] at h
      simp only [decide_eq_false_iff_not] at h
      rw [if_pos k] at hr
      rw [hr, hp]
      refine ⟨.inl (by omega), ?_⟩
      rw [hk]
      by_cases e1 : b = 18442240474082181120
      · left; rw [if_pos e1]; omega
      · rw [if_neg e1, if_neg (by omega)]
        by_cases e2 : b = 9223372036854775808
        · right; right; left; rw [if_pos e2]; omega
        · right; left; rw [if_neg e2, if_neg (by omega), if_pos k]; omega
    · have hp := pos_low (b := b) (by omega)
      rw [isNan_low (by omega)] at h
      simp only [decide_eq_false_iff_not] at h
      rw [if_neg k] at hr
      rw [hr, hp]
      refine ⟨.inr (by omega), ?_⟩
      rw [hk, if_neg (by omega)]
      by_cases e1 : b = 9218868437227405312
      · right; right; right; right; right; rw [if_pos e1]; omega
      · rw [if_neg e1, if_neg (by omega)]
        by_cases e2 : b = 0
        · right; right; right; left; rw [if_pos e2]; omega
        · right; right; right; right; left; rw [if_neg e2, if_neg k]; omega
  · left; exact ⟨rfl, kind_nan' h, by unfold row; rw [if_pos h]⟩

theorem row_eq {a b : Nat} (ha : a < 18446744073709551616) (hb : b < 18446744073709551616) (h : row a = row b) : (kind a = 0 ∧ kind b = 0) ∨ (a = b ∧ kind a ≠ 0) := by
  rcases kind_row ha with ⟨p1, p2, p3⟩ | ⟨p1, p⟩ <;> rcases kind_row hb with ⟨q1, q2, q3⟩ | ⟨q1, q⟩
  · exact .inl ⟨p2, q2⟩
  · exact absurd h (by clear p1 q1; omega)
  · exact absurd h (by clear p1 q1; omega)
  · right
    have ra : row a = if 9223372036854775808 ≤ a then 18446744073709551615 - a else a + 9223372036854775808 := by unfold row; rw [p1]; rfl
    have rb : row b = if 9223372036854775808 ≤ b then 18446744073709551615 - b else b + 9223372036854775808 := by unfold row; rw [q1]; rfl
    refine ⟨?_, by clear ra rb h; omega⟩
    clear p q
    by_cases k : 9223372036854775808 ≤ a <;> by_cases m : 9223372036854775808 ≤ b
    · rw [if_pos k] at ra; rw [if_pos m] at rb; omega
    · rw [if_pos k] at ra; rw [if_neg m] at rb; omega
    · rw [if_neg k] at ra; rw [if_pos m] at rb; omega
    · rw [if_neg k] at ra; rw [if_neg m] at rb; omega

theorem isNan_flip {b : Nat} (hb : b < 18446744073709551616) : isNan (flip b) = isNan b := by
  unfold isNan
  have : flip b % 9223372036854775808 = b % 9223372036854775808 := by unfold flip; split <;> omega
  rw [this]
theorem pos_flip {b : Nat} (hb : b < 18446744073709551616) : pos (flip b) = - pos b := by
  unfold flip
  by_cases h : b < 9223372036854775808
  · have e := pos_high (b := b + 9223372036854775808) (by omega) (by omega)
    rw [if_pos h, e, pos_low h]; omega
  · have e := pos_low (b := b - 9223372036854775808) (by omega)
    have f := pos_high (b := b) (by omega) hb
    rw [if_neg h, e, f]; omega
theorem row_flip {b : Nat} (hb : b < 18446744073709551616) (hn : isNan b = false) : row (flip b) = 18446744073709551615 - row b := by
  have hf := isNan_flip hb
  rw [hn] at hf
  unfold row
  rw [hn, hf]
  unfold flip
  by_cases h : b < 9223372036854775808
  · rw [if_pos h]
    simp only [Bool.false_eq_true, if_false]
    rw [if_pos (by omega), if_neg (by omega)] <;> omega
  · rw [if_neg h]
    simp only [Bool.false_eq_true, if_false]
    rw [if_neg (by omega), if_pos (by omega)] <;> omega
theorem kind_flip_nan {b : Nat} (hb : b < 18446744073709551616) (h : kind b = 0) : kind (flip b) = 0 := by
  rcases kind_row hb with ⟨p1, _, _⟩ | ⟨_, p⟩
  · exact kind_nan' (by rw [isNan_flip hb, p1])
  · omega
theorem kind_flip {b : Nat} (hb : b < 18446744073709551616) (h : kind b ≠ 0) : kind (flip b) + kind b = 7 := by
  rcases kind_row hb with ⟨p1, p2, _⟩ | ⟨p1, p⟩
  · exact absurd p2 h
  · have hr := row_flip hb p1
    have hf := isNan_flip hb
    rw [p1] at hf
    rcases kind_row (flip_lt hb) with ⟨q1, _, _⟩ | ⟨_, q⟩
    · rw [hf] at q1; cases q1
    · clear hf p1 h
      omega

theorem kind_bits {b : Nat} (hb : b < 18446744073709551616) :
    (b / 4503599627370496 % 2048 = 2047 ∧ b % 4503599627370496 ≠ 0 ∧ kind b = 0) ∨
    (b / 4503599627370496 % 2048 = 2047 ∧ b % 4503599627370496 = 0 ∧ b / 9223372036854775808 = 1 ∧ kind b = 1) ∨
    (b / 4503599627370496 % 2048 = 2047 ∧ b % 4503599627370496 = 0 ∧ b / 9223372036854775808 = 0 ∧ kind b = 6) ∨
    (b / 4503599627370496 % 2048 = 0 ∧ b % 4503599627370496 = 0 ∧ b / 9223372036854775808 = 1 ∧ kind b = 3) ∨
    (b / 4503599627370496 % 2048 = 0 ∧ b % 4503599627370496 = 0 ∧ b / 9223372036854775808 = 0 ∧ kind b = 4) ∨
    (b / 4503599627370496 % 2048 < 2047 ∧ ¬ (b / 4503599627370496 % 2048 = 0 ∧ b % 4503599627370496 = 0) ∧ b / 9223372036854775808 = 1 ∧ kind b = 2) ∨
    (b / 4503599627370496 % 2048 < 2047 ∧ ¬ (b / 4503599627370496 % 2048 = 0 ∧ b % 4503599627370496 = 0) ∧ b / 9223372036854775808 = 0 ∧ kind b = 5) := by
  have e : b = 9223372036854775808 * (b / 9223372036854775808) + 4503599627370496 * (b / 4503599627370496 % 2048) + b % 4503599627370496 := by omega
  have e1 : b / 4503599627370496 % 2048 < 2048 := Nat.mod_lt _ (by decide)
  have e2 : b % 4503599627370496 < 4503599627370496 := Nat.mod_lt _ (by decide)
  have e3 : b / 9223372036854775808 < 2 := by omega
  generalize b / 9223372036854775808 = T at *
  generalize b / 4503599627370496 % 2048 = P at *
  generalize b % 4503599627370496 = R at *
  by_cases k : 9223372036854775808 ≤ b
  · have hn := isNan_high k hb
    by_cases h : 18442240474082181120 < b
    · rw [decide_eq_true h] at hn
      exact .inl ⟨by omega, by omega, kind_nan' hn⟩
    · rw [decide_eq_false h] at hn
      have hk : kind b = if b = 18442240474082181120 then 1 else if b = 9218868437227405312 then 6
        else if b = 9223372036854775808 then 3 else if b = 0 then 4 else if 9223372036854775808 ≤ b then 2 else 5 := by unfold kind; rw [hn]; rfl
      by_cases f1 : b = 18442240474082181120
      · rw [if_pos f1] at hk; clear hn; exact (.inr (.inl ⟨by omega, by omega, by omega, hk⟩))
      · by_cases f2 : b = 9223372036854775808
        · rw [if_neg f1, if_neg (by clear hk; omega), if_pos f2] at hk; clear hn; exact (.inr (.inr (.inr (.inl ⟨by omega, by omega, by omega, hk⟩))))
        · rw [if_neg f1, if_neg (by clear hk; omega), if_neg f2, if_neg (by clear hk; omega), if_pos k] at hk; clear hn; exact (.inr (.inr (.inr (.inr (.inr (.inl ⟨by omega, by omega, by omega, hk⟩))))))
  · have hn := isNan_low (b := b) (by omega)
    by_cases h : 9218868437227405312 < b
    · rw [decide_eq_true h] at hn
      exact .inl ⟨by omega, by omega, kind_nan' hn⟩
    · rw [decide_eq_false h] at hn
      have hk : kind b = if b = 18442240474082181120 then 1 else if b = 9218868437227405312 then 6
        else if b = 9223372036854775808 then 3 else if b = 0 then 4 else if 9223372036854775808 ≤ b then 2 else 5 := by unfold kind; rw [hn]; rfl
      by_cases f1 : b = 9218868437227405312
      · rw [if_neg (by clear hk; omega), if_pos f1] at hk; clear hn; exact (.inr (.inr (.inl ⟨by omega, by omega, by omega, hk⟩)))
      · by_cases f2 : b = 0
        · rw [if_neg (by clear hk; omega), if_neg f1, if_neg (by clear hk; omega), if_pos f2] at hk; clear hn; exact (.inr (.inr (.inr (.inr (.inl ⟨by omega, by omega, by omega, hk⟩)))))
        · rw [if_neg (by clear hk; omega), if_neg f1, if_neg (by clear hk; omega), if_neg f2, if_neg k] at hk; clear hn; exact (.inr (.inr (.inr (.inr (.inr (.inr ⟨by omega, by omega, by omega, hk⟩))))))

theorem cmpB_lt {a b : Nat} (h : row a < row b) : cmpB a b = -1 := by unfold cmpB; rw [if_pos h]
theorem cmpB_gt {a b : Nat} (h : row b < row a) : cmpB a b = 1 := by unfold cmpB; rw [if_neg (by omega), if_pos h]
theorem cmpB_eq {a b : Nat} (h : row a = row b) : cmpB a b = 0 := by unfold cmpB; rw [if_neg (by omega), if_neg (by omega)]
theorem cmpI_cases (a b : Int) : (a < b ∧ cmpI a b = -1) ∨ (b < a ∧ cmpI a b = 1) ∨ (a = b ∧ cmpI a b = 0) := by
  rcases Int.lt_trichotomy a b with h | h | h
  · exact .inl ⟨h, (cmpI_lt h).symm⟩
  · exact .inr (.inr ⟨h, (cmpI_eq (by omega) (by omega)).symm⟩)
  · exact .inr (.inl ⟨h, (cmpI_gt h).symm⟩)
theorem cmpB_cases (a b : Nat) : (row a < row b ∧ cmpB a b = -1) ∨ (row b < row a ∧ cmpB a b = 1) ∨ (row a = row b ∧ cmpB a b = 0) := by
  rcases Nat.lt_trichotomy (row a) (row b) with h | h | h
  · exact .inl ⟨h, cmpB_lt h⟩
  · exact .inr (.inr ⟨h, cmpB_eq h⟩)
  · exact .inr (.inl ⟨h, cmpB_gt h⟩)

theorem cmpB_kind {a b : Nat} (ha : a < 18446744073709551616) (hb : b < 18446744073709551616) (h : cmpI (kind a) (kind b) ≠ 0) : cmpI (kind a) (kind b) = cmpB a b := by
  have x := cmpI_cases (kind a) (kind b)
  have y := cmpB_cases a b
  have p := kind_row ha
  have q := kind_row hb
  generalize cmpI (kind a) (kind b) = c at *
  generalize cmpB a b = d at *
  omega

theorem cmpB_same {a b : Nat} (ha : a < 18446744073709551616) (hb : b < 18446744073709551616) (h : cmpI (kind a) (kind b) = 0) :
    (isNan a = true ∧ isNan b = true ∧ cmpB a b = 0) ∨ (isNan a = false ∧ isNan b = false ∧ cmpI (pos a) (pos b) = cmpB a b) := by
  have x := cmpI_cases (kind a) (kind b)
  have y := cmpB_cases a b
  have z := cmpI_cases (pos a) (pos b)
  have p := kind_row ha
  have q := kind_row hb
  rcases p with ⟨p1, p2, p3⟩ | ⟨p1, p⟩ <;> rcases q with ⟨q1, q2, q3⟩ | ⟨q1, q⟩
  · exact .inl ⟨p1, q1, by omega⟩
  · omega
  · omega
  · exact .inr ⟨p1, q1, by omega⟩

end Go.Proofs.Ytbiopkmnajkjpaa.Sc
