/-
  LAYER 6, PLAIN MATHEMATICS: labels as bits. No program is imported.
-/
import Derived.Test.YtmfmgenmnikhbaaDoorRuns
namespace Go.Proofs.YtmfmgenmnikhbaaDoor.Mk

def isL (c : UInt8) : Bool := decide (97 ≤ c.toNat) && decide (c.toNat ≤ 122)
/-- one label's bit -/
def lb (c : UInt8) : Nat := 2 ^ (c.toNat - 97)
/-- the bits of all of them -/
def lsum (l : List UInt8) : Nat := l.foldl (fun n c => n + lb c) 0
/-- letters, each above the one ahead of it -/
def rises : List UInt8 → Bool
  | [] => true
  | [c] => isL c
  | c :: d :: r => isL c && decide (c.toNat < d.toNat) && rises (d :: r)
def okL (l : List UInt8) : Bool := (l == [45]) || (!l.isEmpty && rises l)
def numL (l : List UInt8) : Nat := if l = [45] then 0 else if okL l then lsum l else 0

theorem lsum_snoc (l : List UInt8) (c : UInt8) : lsum (l ++ [c]) = lsum l + lb c := by unfold lsum; rw [List.foldl_append]; rfl

/-- all letters that n has, rising -/
def labs (n : Nat) : List UInt8 := ((List.range 26).filter fun i => n.testBit i).map fun i => UInt8.ofNat (97 + i)
def textV (n : Nat) : List UInt8 := if labs n = [] then [45] else labs n

theorem rises_snoc {l : List UInt8} {d : UInt8} (h : rises l = true) (hd : isL d = true) (hl : ∀ c, l.getLast? = some c → c.toNat < d.toNat) : rises (l ++ [d]) = true := by
  induction l with
  | nil => exact hd
  | cons c l ih =>
    cases l with
    | nil =>
      have := hl c rfl
      have hc : isL c = true := h
      show (isL c && decide (c.toNat < d.toNat) && isL d) = true
      rw [hc, hd, decide_eq_true this]; rfl
    | cons e r =>
      unfold rises at h
      simp only [Bool.and_eq_true] at h
      show (isL c && decide (c.toNat < e.toNat) && rises (e :: (r ++ [d]))) = true
      have := ih h.2 (fun c hc => hl c (by simpa using hc))
      rw [List.cons_append] at this
      rw [h.1.1, h.1.2, this]; rfl
theorem rises_init {l : List UInt8} {d : UInt8} (h : rises (l ++ [d]) = true) : rises l = true ∧ isL d = true ∧ ∀ c, l.getLast? = some c → c.toNat < d.toNat := by
  induction l with
  | nil => exact ⟨rfl, h, by intro c hc; cases hc⟩
  | cons c l ih =>
    cases l with
    | nil =>
      have h : (isL c && decide (c.toNat < d.toNat) && isL d) = true := h
      simp only [Bool.and_eq_true, decide_eq_true_eq] at h
      exact ⟨h.1.1, h.2, by intro x hx; simp at hx; subst hx; exact h.1.2⟩
    | cons e r =>
      have h : (isL c && decide (c.toNat < e.toNat) && rises (e :: (r ++ [d]))) = true := h
      simp only [Bool.and_eq_true] at h
      have := ih (by rw [List.cons_append]; exact h.2)
      refine ⟨?_, this.2.1, fun x hx => this.2.2 x (by simpa using hx)⟩
      unfold rises
      rw [h.1.1, h.1.2, this.1]; rfl
theorem rises_take {l : List UInt8} (h : rises l = true) : ∀ k, rises (l.take k) = true := by
  suffices H : ∀ (n : Nat) (l : List UInt8), l.length = n → rises l = true → ∀ k, rises (l.take k) = true from H _ l rfl h
  intro n
  induction n with
  | zero => intro l hl h k; rw [List.eq_nil_of_length_eq_zero hl]; simp [rises]
  | succ n ih =>
    intro l hl h k
    rcases List.eq_nil_or_concat l with rfl | ⟨l', d, rfl⟩
    · simp [rises]
    · rw [List.concat_eq_append] at *
      have hl' : l'.length = n := by simpa using hl
      have h' := (rises_init h).1
      rcases Nat.lt_or_ge k (l'.length + 1) with hk | hk
      · rw [List.take_append_of_le_length (by omega)]
        exact ih l' hl' h' k
      · rw [List.take_of_length_le (by simp; omega)]; exact h

/-- the sum of rising letters: below twice the last one's bit, and no less than that -/
theorem lsum_last : ∀ (l : List UInt8) {c : UInt8}, rises l = true → l.getLast? = some c → lb c ≤ lsum l ∧ lsum l < 2 * lb c ∧ isL c = true := by
  suffices H : ∀ (n : Nat) (l : List UInt8), l.length = n → ∀ {c : UInt8}, rises l = true → l.getLast? = some c → lb c ≤ lsum l ∧ lsum l < 2 * lb c ∧ isL c = true from fun l => H _ l rfl
  intro n
  induction n with
  | zero => intro l hl c _ h; rw [List.eq_nil_of_length_eq_zero hl] at h; cases h
  | succ n ih =>
    intro l hl c h hc
    obtain ⟨l', rfl⟩ := List.getLast?_eq_some_iff.1 hc
    have hl' : l'.length = n := by simpa using hl
    obtain ⟨h1, h2, h3⟩ := rises_init h
    rw [lsum_snoc]
    rcases List.eq_nil_or_concat l' with rfl | ⟨m, d, rfl⟩
    · refine ⟨by simp [lsum], ?_, h2⟩
      have : 0 < lb c := Nat.two_pow_pos _
      simp [lsum]; omega
    · rw [List.concat_eq_append] at *
      have hd : (m ++ [d]).getLast? = some d := by simp
      obtain ⟨a, b, e⟩ := ih _ hl' h1 hd
      have hlt := h3 d hd
      unfold isL at e
      simp only [Bool.and_eq_true, decide_eq_true_eq] at e
      have hp : 2 * lb d ≤ lb c := by
        unfold lb
        rw [← Nat.pow_succ']
        exact Nat.pow_le_pow_right (by decide) (by omega)
      exact ⟨by omega, by omega, h2⟩
theorem lb_lt {c : UInt8} (h : isL c = true) : lb c ≤ 33554432 := by
  unfold isL at h
  simp only [Bool.and_eq_true, decide_eq_true_eq] at h
  unfold lb
  exact Nat.le_trans (Nat.pow_le_pow_right (by decide) (by omega : c.toNat - 97 ≤ 25)) (by decide)
theorem lsum_lt {l : List UInt8} (h : rises l = true) : lsum l < 67108864 := by
  cases hc : l.getLast? with
  | none => have := List.getLast?_eq_none_iff.1 hc; subst this; decide
  | some c => have := lsum_last l h hc; have := lb_lt this.2.2; omega
theorem lsum_pos {l : List UInt8} (h : rises l = true) (hne : l ≠ []) : 0 < lsum l := by
  cases hc : l.getLast? with
  | none => exact absurd (List.getLast?_eq_none_iff.1 hc) hne
  | some c => have := (lsum_last l h hc).1; have : 0 < lb c := Nat.two_pow_pos _; omega
/-- a letter's bit is above all that are ahead just if the letter is -/
theorem lb_le {l : List UInt8} {d : UInt8} (h : rises l = true) (hd : isL d = true) : (lb d ≤ lsum l) ↔ ¬ (∀ c, l.getLast? = some c → c.toNat < d.toNat) := by
  cases hc : l.getLast? with
  | none =>
    have := List.getLast?_eq_none_iff.1 hc; subst this
    have : 0 < lb d := Nat.two_pow_pos _
    simp [lsum]; omega
  | some c =>
    obtain ⟨a, b, e⟩ := lsum_last l h hc
    unfold isL at e hd
    simp only [Bool.and_eq_true, decide_eq_true_eq] at e hd
    constructor
    · intro hle hall
      have hlt := hall c rfl
      have : 2 * lb c ≤ lb d := by
        unfold lb; rw [← Nat.pow_succ']; exact Nat.pow_le_pow_right (by decide) (by omega)
      omega
    · intro hn
      have : ¬ c.toNat < d.toNat := fun h => hn (by intro x hx; cases hx; exact h)
      have : lb d ≤ lb c := by unfold lb; exact Nat.pow_le_pow_right (by decide) (by omega)
      omega

/-- the letters of the first m bits -/
def labsTo (m n : Nat) : List UInt8 := ((List.range m).filter fun i => n.testBit i).map fun i => UInt8.ofNat (97 + i)
theorem labsTo_succ (m n : Nat) : labsTo (m + 1) n = labsTo m n ++ if n.testBit m then [UInt8.ofNat (97 + m)] else [] := by
  unfold labsTo
  rw [List.range_succ, List.filter_append, List.map_append]
  cases h : n.testBit m <;> simp [h]
theorem labsTo_low {k n : Nat} (h : n < 2 ^ k) : ∀ d, labsTo (k + d) n = labsTo k n := by
  intro d
  induction d with
  | zero => rfl
  | succ d ih =>
    rw [← Nat.add_assoc, labsTo_succ, ih]
    have : n.testBit (k + d) = false := Nat.testBit_lt_two_pow (Nat.lt_of_lt_of_le h (Nat.pow_le_pow_right (by decide) (by omega)))
    rw [this]; simp
theorem labsTo_add {k n : Nat} (m : Nat) (hm : m ≤ k) : labsTo m (2 ^ k + n) = labsTo m n := by
  induction m with
  | zero => rfl
  | succ m ih =>
    rw [labsTo_succ, labsTo_succ, ih (by omega), Nat.testBit_two_pow_add_gt (by omega)]
theorem ofNat_to {i : Nat} (h : i < 26) : (UInt8.ofNat (97 + i)).toNat = 97 + i := by
  show (97 + i) % 256 = 97 + i; omega
theorem mod_bit (n m : Nat) : n % 2 ^ (m + 1) = n % 2 ^ m + 2 ^ m * (n.testBit m).toNat := by
  rw [Nat.mod_pow_succ, Nat.testBit_eq_decide_div_mod_eq]
  have := Nat.mod_lt (n / 2 ^ m) (by decide : 0 < 2)
  generalize n / 2 ^ m % 2 = b at *
  have : b = 0 ∨ b = 1 := by omega
  rcases this with rfl | rfl <;> simp
theorem labs_rises (n : Nat) : ∀ m, m ≤ 26 → rises (labsTo m n) = true ∧ lsum (labsTo m n) = n % 2 ^ m ∧ ∀ c, (labsTo m n).getLast? = some c → c.toNat < 97 + m := by
  intro m
  induction m with
  | zero => intro _; refine ⟨rfl, by rw [Nat.pow_zero, Nat.mod_one]; rfl, by intro c h; cases h⟩
  | succ m ih =>
    intro hm
    obtain ⟨a, b, c⟩ := ih (by omega)
    rw [labsTo_succ, mod_bit]
    cases hb : n.testBit m
    · simp only [Bool.false_eq_true, if_false, List.append_nil, Bool.toNat_false, Nat.mul_zero, Nat.add_zero]
      exact ⟨a, b, fun x hx => by have := c x hx; omega⟩
    · simp only [if_true, Bool.toNat_true, Nat.mul_one]
      have ho := ofNat_to (i := m) (by omega)
      refine ⟨rises_snoc a ?_ ?_, ?_, ?_⟩
      · unfold isL; rw [ho]; simp; omega
      · intro x hx; rw [ho]; exact c x hx
      · rw [lsum_snoc, b]
        unfold lb; rw [ho, Nat.add_sub_cancel_left]
      · intro x hx
        rw [List.getLast?_concat, Option.some.injEq] at hx
        rw [← hx, ho]; omega
theorem labs_to (n : Nat) : labs n = labsTo 26 n := rfl
theorem labs_sum (n : Nat) : lsum (labs n) = n % 67108864 := (labs_rises n 26 (by omega)).2.1
theorem labs_lsum : ∀ (l : List UInt8), rises l = true → labs (lsum l) = l := by
  suffices H : ∀ (n : Nat) (l : List UInt8), l.length = n → rises l = true → labs (lsum l) = l from fun l => H _ l rfl
  intro n
  induction n with
  | zero => intro l hl _; rw [List.eq_nil_of_length_eq_zero hl]; decide
  | succ n ih =>
    intro l hl h
    rcases List.eq_nil_or_concat l with rfl | ⟨m, d, rfl⟩
    · simp at hl
    · rw [List.concat_eq_append] at *
      have hl' : m.length = n := by simpa using hl
      obtain ⟨h1, h2, h3⟩ := rises_init h
      have hlt : lsum m < 2 ^ (d.toNat - 97) := by
        rcases Nat.lt_or_ge (lsum m) (lb d) with h' | h'
        · exact h'
        · exact absurd h3 ((lb_le h1 h2).1 h')
      have hd := h2
      unfold isL at hd
      simp only [Bool.and_eq_true, decide_eq_true_eq] at hd
      have hih := ih m hl' h1
      rw [labs_to] at hih ⊢
      rw [lsum_snoc]
      unfold lb
      generalize hk : d.toNat - 97 = k at *
      have e1 := labsTo_low hlt (26 - k)
      rw [show k + (26 - k) = 26 from by omega, hih] at e1
      have hlt2 : lsum m + 2 ^ k < 2 ^ (k + 1) := by rw [Nat.pow_succ]; omega
      have e2 := labsTo_low hlt2 (26 - (k + 1))
      rw [show k + 1 + (26 - (k + 1)) = 26 from by omega] at e2
      rw [e2, labsTo_succ, Nat.add_comm (lsum m), labsTo_add k (Nat.le_refl k), ← e1, Nat.testBit_two_pow_add_eq, Nat.testBit_lt_two_pow hlt]
      simp only [Bool.not_false, if_true]
      congr 2
      apply UInt8.toNat_inj.1
      rw [ofNat_to (by omega)]; omega

theorem text_of {l : List UInt8} (h : okL l = true) : textV (numL l) = l := by
  unfold numL
  by_cases h1 : l = [45]
  · rw [if_pos h1, h1]; decide
  · rw [if_neg h1, if_pos h]
    unfold okL at h
    rw [show (l == [45]) = false from by simpa using h1, Bool.false_or, Bool.and_eq_true] at h
    unfold textV
    rw [labs_lsum l h.2]
    have : l ≠ [] := by intro e; rw [e] at h; simp at h
    rw [if_neg this]
theorem textV_ok (n : Nat) : okL (textV n) = true ∧ numL (textV n) = n % 67108864 := by
  unfold textV
  have hr := (labs_rises n 26 (by omega)).1
  have hs := labs_sum n
  rw [← labs_to] at hr
  by_cases h : labs n = []
  · rw [if_pos h]
    rw [h] at hs
    exact ⟨rfl, by rw [← hs]; rfl⟩
  · rw [if_neg h]
    have hok : okL (labs n) = true := by
      unfold okL; rw [hr]; simp [h]
    refine ⟨hok, ?_⟩
    unfold numL
    rw [if_neg, if_pos hok, hs]
    intro e
    rw [e] at hr; revert hr; decide
theorem num_lt (l : List UInt8) : numL l < 67108864 := by
  unfold numL
  split
  · decide
  · split
    · rename_i h1 h
      unfold okL at h
      rw [show (l == [45]) = false from by simpa using h1, Bool.false_or, Bool.and_eq_true] at h
      exact lsum_lt h.2
    · decide
theorem labs_len (n : Nat) : (labs n).length ≤ 26 := by
  unfold labs
  rw [List.length_map]
  exact Nat.le_trans (List.length_filter_le _ _) (by simp)
theorem textV_len (n : Nat) : (textV n).length ≤ 26 := by
  unfold textV; split
  · decide
  · exact labs_len n
end Go.Proofs.YtmfmgenmnikhbaaDoor.Mk
