/-
  PLAIN MATHEMATICS: a number's decimal digits. Of a word that is a number they are the word. No program is imported.
-/
import Derived.Test.YtejigbhcpejijaaLinesNumber
namespace Go.Proofs.Ytejigbhcpejijaa.Ln

def chr (d : Nat) : UInt8 := UInt8.ofNat (48 + d % 10)
def decS (n : Nat) : List UInt8 := if n < 10 then [chr n] else decS (n / 10) ++ [chr n]
decreasing_by omega

theorem decS_small {n : Nat} (h : n < 10) : decS n = [chr n] := by rw [decS]; simp [h]
theorem decS_big {n : Nat} (h : ¬ n < 10) : decS n = decS (n / 10) ++ [chr n] := by rw [decS]; simp [h]

theorem chr_dig {c : UInt8} {a : Nat} (h : dgB c = true) : chr (10 * a + (c.toNat - 48)) = c := by
  unfold dgB at h
  simp only [Bool.and_eq_true, decide_eq_true_eq] at h
  unfold chr
  apply UInt8.toNat_inj.1
  rw [UInt8.toNat_ofNat']
  have := c.toNat_lt
  omega

theorem digV_snoc (l : List UInt8) (c : UInt8) : digV (l ++ [c]) = 10 * digV l + (c.toNat - 48) := by
  unfold digV; rw [List.foldl_append]; rfl
theorem dig_fold (l : List UInt8) : ∀ a : Nat, a ≤ l.foldl (fun n c => 10 * n + (c.toNat - 48)) a := by
  induction l with
  | nil => intro a; exact Nat.le_refl _
  | cons c l ih => intro a; rw [List.foldl_cons]; exact Nat.le_trans (show a ≤ 10 * a + (c.toNat - 48) by omega) (ih _)

theorem digV_pos {c : UInt8} {l : List UInt8} (hc : dgB c = true) (h : c ≠ 48) : 1 ≤ digV (c :: l) := by
  unfold dgB at hc
  simp only [Bool.and_eq_true, decide_eq_true_eq] at hc
  have h0 : c.toNat ≠ 48 := fun e => h (UInt8.toNat_inj.1 e)
  have := dig_fold l (10 * 0 + (c.toNat - 48))
  unfold digV
  rw [List.foldl_cons]
  omega

theorem decS_digits : ∀ (n : Nat) (l : List UInt8), l.length = n → l ≠ [] → (∀ c, c ∈ l → dgB c = true) → (l.length = 1 ∨ l.head? ≠ some 48) → decS (digV l) = l := by
  intro n
  induction n with
  | zero => intro l h1 h2; exact absurd (List.eq_nil_of_length_eq_zero h1) h2
  | succ n ih =>
    intro l h1 h2 h3 h4
    obtain ⟨v, c, rfl⟩ : ∃ v c, l = v ++ [c] := ⟨l.dropLast, l.getLast h2, (List.dropLast_concat_getLast h2).symm⟩
    have hc := h3 c (by simp)
    rw [digV_snoc]
    by_cases hv : v = []
    · subst hv
      have e : digV [] = 0 := rfl
      rw [e]
      have hc' := hc
      unfold dgB at hc'
      simp only [Bool.and_eq_true, decide_eq_true_eq] at hc'
      rw [decS_small (by omega), chr_dig hc]; rfl
    · have hvl : v.length = n := by simpa using h1
      have hhead : (v ++ [c]).head? = v.head? := by
        cases v with
        | nil => exact absurd rfl hv
        | cons a v => rfl
      have hn48 : v.head? ≠ some 48 := by
        rcases h4 with h | h
        · rw [List.length_append, List.length_singleton] at h
          exact absurd (List.eq_nil_of_length_eq_zero (by omega)) hv
        · rwa [hhead] at h
      have hpos : 1 ≤ digV v := by
        cases v with
        | nil => exact absurd rfl hv
        | cons a v =>
          refine digV_pos (h3 a (by simp)) ?_
          rintro rfl
          exact hn48 rfl
      have hc' := hc
      unfold dgB at hc'
      simp only [Bool.and_eq_true, decide_eq_true_eq] at hc'
      rw [decS_big (by omega), chr_dig hc, show (10 * digV v + (c.toNat - 48)) / 10 = digV v by omega, ih v hvl hv (fun c hc => h3 c (by simp [hc])) (.inr hn48)]

theorem run_all' {p : UInt8 → Bool} {l : List UInt8} (h : run p l 0 = l.length) : ∀ c, c ∈ l → p c = true := by
  intro c hc
  obtain ⟨i, hi, rfl⟩ := List.getElem_of_mem hc
  obtain ⟨c', h1, h2⟩ := run_mem (p := p) (l := l) (a := 0) (i := i) (by omega)
  rw [Nat.zero_add, List.getElem?_eq_getElem hi] at h1
  cases h1
  exact h2

theorem numN_dec {l : List UInt8} (h : numB l = true) : decS (numN l) = l := by
  have hh := h
  obtain ⟨h1, h2, h3, h4⟩ := of_decide_eq_true hh
  unfold numN
  rw [h, if_pos rfl]
  refine decS_digits _ l rfl (List.length_pos_iff.1 h1) (run_all' h4) ?_
  by_cases h5 : l.length = 1
  · exact .inl h5
  · right
    intro h6
    apply h3
    refine ⟨by omega, ?_⟩
    rw [← List.head?_eq_getElem?]; exact h6
theorem numN_lt {l : List UInt8} (h : numB l = true) : numN l < 1000000000 := by
  obtain ⟨h1, h2, h3, h4⟩ := of_decide_eq_true h
  unfold numN
  rw [h, if_pos rfl]
  have key : ∀ k, k ≤ l.length → digV (l.take k) < 10 ^ k := by
    intro k
    induction k with
    | zero => intro _; simp [digV]
    | succ k ih =>
      intro hk
      have hk' : k < l.length := by omega
      exact digV_lt (List.getElem?_eq_getElem hk') (run_all' h4 _ (List.getElem_mem hk')) (ih (by omega))
  have := key l.length (Nat.le_refl _)
  rw [List.take_of_length_le (Nat.le_refl _)] at this
  exact Nat.lt_of_lt_of_le this (Nat.le_trans (Nat.pow_le_pow_right (by decide) h2) (by decide))

/-- the loop's view: what is still to be written ahead of what is -/
theorem dec_step {n : Nat} (h : ¬ n < 10) (s : List UInt8) : decS n ++ s = decS (n / 10) ++ (chr n :: s) := by rw [decS_big h]; simp

end Go.Proofs.Ytejigbhcpejijaa.Ln
