/-
  LAYER 13: Luby's row in plain mathematics: by halves, and as the document lays it. No program is imported.
-/
import Derived.Test.YtbjllcjjibjgoaaKit
import Derived.Lib.ItoaNum
namespace Go.Proofs.Ytbjllcjjibjgoaa.Hp

theorem log_le {n : Nat} (h : n ≠ 0) : 2 ^ n.log2 ≤ n := Nat.log2_self_le h
theorem log_lt (n : Nat) : n < 2 ^ (n.log2 + 1) := Nat.lt_log2_self
/-- the number with so many powers of two under it -/
theorem log_of {n j : Nat} (h1 : 2 ^ j ≤ n) (h2 : n < 2 ^ (j + 1)) : n.log2 = j := by
  have h0 : n ≠ 0 := by have := Nat.two_pow_pos j; omega
  exact (Nat.log2_eq_iff h0).2 ⟨h1, h2⟩

/-- the n-th number of the row, by halves -/
def luby (n : Nat) : Nat :=
  if h : n = 0 then 0
  else if h2 : n = 2 ^ n.log2 + (2 ^ n.log2 - 1) then 2 ^ n.log2
  else luby (n - (2 ^ n.log2 - 1))
termination_by n
decreasing_by
  have h1 := log_le h
  have h3 : 2 ≤ 2 ^ n.log2 := by
    rcases Nat.eq_zero_or_pos n.log2 with h0 | h0
    · exfalso
      have h4 := log_lt n
      rw [h0] at h4 h2
      omega
    · exact (Nat.pow_le_pow_right (n := 2) (by decide) h0 : 2 ^ 1 ≤ 2 ^ n.log2)
  omega

theorem luby_zero : luby 0 = 0 := by unfold luby; rfl
theorem luby_full (j : Nat) : luby (2 ^ j + (2 ^ j - 1)) = 2 ^ j := by
  have hp := Nat.two_pow_pos j
  have hl : (2 ^ j + (2 ^ j - 1)).log2 = j := log_of (by omega) (by rw [Nat.pow_succ]; omega)
  unfold luby
  rw [hl, dif_neg (by omega), dif_pos rfl]
theorem luby_part {n j : Nat} (h1 : 2 ^ j ≤ n) (h2 : n + 1 < 2 ^ (j + 1)) : luby n = luby (n - (2 ^ j - 1)) := by
  have hp := Nat.two_pow_pos j
  have hl : n.log2 = j := log_of h1 (by omega)
  rw [Nat.pow_succ] at h2
  rw [luby, hl, dif_neg (by omega), dif_neg (by omega)]
theorem luby_step {n : Nat} (h : n ≠ 0) : (n = 2 ^ n.log2 + (2 ^ n.log2 - 1) → luby n = 2 ^ n.log2) ∧ (n ≠ 2 ^ n.log2 + (2 ^ n.log2 - 1) → luby n = luby (n - (2 ^ n.log2 - 1)) ∧ n - (2 ^ n.log2 - 1) < n ∧ 1 ≤ n - (2 ^ n.log2 - 1)) := by
  have h1 := log_le h
  have h4 := log_lt n
  rw [Nat.pow_succ] at h4
  refine ⟨fun e => ?_, fun e => ⟨?_, ?_, by omega⟩⟩
  · rw [luby, dif_neg h, dif_pos e]
  · rw [luby, dif_neg h, dif_neg e]
  · rcases Nat.eq_zero_or_pos n.log2 with h0 | h0
    · exfalso
      rw [h0] at h4 e
      omega
    · have : 2 ^ 1 ≤ 2 ^ n.log2 := Nat.pow_le_pow_right (by decide) h0
      omega

theorem bitLen_log {n : Nat} (h : n ≠ 0) (hn : n < 18446744073709551616) : Lib.bitLen n = n.log2 + 1 := by
  obtain ⟨h1, h2, h3⟩ := Lib.bitLenAux_bounds 64 n hn h
  show Lib.bitLenAux 64 n = _
  have := log_of h2 (by rw [Nat.sub_add_cancel h1]; exact h3)
  omega

/-- behind the row's part of 2^k - 1 numbers it comes again, and ends with 2^k -/
theorem luby_turn {k i : Nat} (h1 : 1 ≤ i) (h2 : i ≤ 2 ^ k - 1) : luby (2 ^ k - 1 + i) = luby i := by
  have hp := Nat.two_pow_pos k
  have h3 : luby (2 ^ k - 1 + i) = luby (2 ^ k - 1 + i - (2 ^ k - 1)) := luby_part (by omega) (by rw [Nat.pow_succ]; omega)
  rw [h3, Nat.add_sub_cancel_left]
theorem luby_end (k : Nat) : luby (2 * (2 ^ k - 1) + 1) = 2 ^ k := by
  have hp := Nat.two_pow_pos k
  rw [show 2 * (2 ^ k - 1) + 1 = 2 ^ k + (2 ^ k - 1) by omega]
  exact luby_full k

/-- the row as the document lays it: what is there once more, and the next power of two -/
def row : Nat → List Nat
  | 0 => []
  | k + 1 => row k ++ row k ++ [2 ^ k]
theorem row_len (k : Nat) : (row k).length = 2 ^ k - 1 := by
  induction k with
  | zero => rfl
  | succ k ih =>
    have := Nat.two_pow_pos k
    simp [row, ih, Nat.pow_succ]; omega
theorem row_get (k i : Nat) (h : i < 2 ^ k - 1) : (row k).getD i 0 = luby (i + 1) := by
  induction k generalizing i with
  | zero => omega
  | succ k ih =>
    have hp := Nat.two_pow_pos k
    have hl := row_len k
    rw [Nat.pow_succ] at h
    unfold row
    rw [List.getD_eq_getElem?_getD]
    by_cases h1 : i < 2 ^ k - 1
    · rw [List.getElem?_append_left (by simp; omega), List.getElem?_append_left (by omega), ← List.getD_eq_getElem?_getD]
      exact ih i h1
    · by_cases h2 : i < 2 * (2 ^ k - 1)
      · rw [List.getElem?_append_left (by simp; omega), List.getElem?_append_right (by omega), ← List.getD_eq_getElem?_getD, hl, ih _ (by omega)]
        have := luby_turn (k := k) (i := i - (2 ^ k - 1) + 1) (by omega) (by omega)
        rw [← this]
        congr 1; omega
      · rw [List.getElem?_append_right (by simp; omega)]
        have e : i + 1 = 2 * (2 ^ k - 1) + 1 := by omega
        rw [e, luby_end]
        simp only [List.length_append, hl]
        rw [show i - (2 ^ k - 1 + (2 ^ k - 1)) = 0 by omega]; rfl
end Go.Proofs.Ytbjllcjjibjgoaa.Hp
