/-
  PLAIN MATHEMATICS: a text as a number, a number's decimal digits. No program is imported.
-/
import Derived.Test.YtjiofenpalokoaaGreatDoorRuns
import Derived.Lib.Atoi
import Derived.Lib.ItoaNum
namespace Go.Proofs.YtjiofenpalokoaaGreatDoor.Nu
open Go.Proofs.YtjiofenpalokoaaGreatDoor

def dgB (c : UInt8) : Bool := decide (48 ≤ c.toNat) && decide (c.toNat ≤ 57)
def digV (l : List UInt8) : Nat := l.foldl (fun n c => 10 * n + (c.toNat - 48)) 0
def numB (l : List UInt8) : Bool := decide (1 ≤ l.length ∧ l.length ≤ 9 ∧ ¬ (1 < l.length ∧ l[0]? = some 48) ∧ run dgB l 0 = l.length)
def numN (l : List UInt8) : Nat := if numB l then digV l else 0

theorem digV_next {l : List UInt8} {k : Nat} {c : UInt8} (h : l[k]? = some c) : digV (l.take (k + 1)) = 10 * digV (l.take k) + (c.toNat - 48) := by
  unfold digV
  rw [List.take_add_one, h, List.foldl_append]; rfl
theorem digV_lt {l : List UInt8} {k : Nat} {c : UInt8} (h : l[k]? = some c) (hc : dgB c = true) (hk : digV (l.take k) < 10 ^ k) : digV (l.take (k + 1)) < 10 ^ (k + 1) := by
  rw [digV_next h, Nat.pow_succ]
  unfold dgB at hc
  simp only [Bool.and_eq_true, decide_eq_true_eq] at hc
  omega
theorem pow8 {k : Nat} (h : k ≤ 8) : 10 ^ k ≤ 100000000 := Nat.le_trans (Nat.pow_le_pow_right (by decide) h) (by decide)
theorem num_off {l : List UInt8} {k : Nat} {c : UInt8} (hr : run dgB l 0 = k + run dgB l k) (h : l[k]? = some c) (hc : dgB c = false) : numB l = false := by
  apply decide_eq_false
  rintro ⟨_, _, _, h'⟩
  rw [hr, run_no h hc] at h'
  have : k < l.length := by
    rcases Nat.lt_or_ge k l.length with h'' | h''
    · exact h''
    · rw [List.getElem?_eq_none h''] at h; cases h
  omega

theorem dgB_int (c : UInt8) : dgB c = (decide (48 ≤ (c.toNat : Int)) && decide ((c.toNat : Int) ≤ 57)) := by
  unfold dgB
  rw [Bool.eq_iff_iff]; simp; omega

def chr (d : Nat) : UInt8 := UInt8.ofNat (48 + d % 10)
def decS (n : Nat) : List UInt8 := if n < 10 then [chr n] else decS (n / 10) ++ [chr n]
decreasing_by omega

theorem decS_small {n : Nat} (h : n < 10) : decS n = [chr n] := by rw [decS]; simp [h]
theorem decS_big {n : Nat} (h : ¬ n < 10) : decS n = decS (n / 10) ++ [chr n] := by rw [decS]; simp [h]

theorem chr_dig {c : UInt8} {a : Nat} (h : dgB c = true) : chr (10 * a + (c.toNat - 48)) = c := by
  unfold dgB at h
  simp only [Bool.and_eq_true, decide_eq_true_eq] at h
  unfold chr
  apply UInt8.toNat_inj.1
  rw [UInt8.toNat_ofNat']
  have := c.toNat_lt
  omega

theorem digV_snoc (l : List UInt8) (c : UInt8) : digV (l ++ [c]) = 10 * digV l + (c.toNat - 48) := by
  unfold digV; rw [List.foldl_append]; rfl
theorem dig_fold (l : List UInt8) : ∀ a : Nat, a ≤ l.foldl (fun n c => 10 * n + (c.toNat - 48)) a := by
  induction l with
  | nil => intro a; exact Nat.le_refl _
  | cons c l ih => intro a; rw [List.foldl_cons]; exact Nat.le_trans (show a ≤ 10 * a + (c.toNat - 48) by omega) (ih _)

theorem digV_pos {c : UInt8} {l : List UInt8} (hc : dgB c = true) (h : c ≠ 48) : 1 ≤ digV (c :: l) := by
  unfold dgB at hc
  simp only [Bool.and_eq_true, decide_eq_true_eq] at hc
  have h0 : c.toNat ≠ 48 := fun e => h (UInt8.toNat_inj.1 e)
  have := dig_fold l (10 * 0 + (c.toNat - 48))
  unfold digV
  rw [List.foldl_cons]
  omega

theorem decS_digits : ∀ (n : Nat) (l : List UInt8), l.length = n → l ≠ [] → (∀ c, c ∈ l → dgB c = true) → (l.length = 1 ∨ l.head? ≠ some 48) → decS (digV l) = l := by
  intro n
  induction n with
  | zero => intro l h1 h2; exact absurd (List.eq_nil_of_length_eq_zero h1) h2
  | succ n ih =>
    intro l h1 h2 h3 h4
    obtain ⟨v, c, rfl⟩ : ∃ v c, l = v ++ [c] := ⟨l.dropLast, l.getLast h2, (List.dropLast_concat_getLast h2).symm⟩
    have hc := h3 c (by simp)
    rw [digV_snoc]
    by_cases hv : v = []
    · subst hv
      have e : digV [] = 0 := rfl
      rw [e]
      have hc' := hc
      unfold dgB at hc'
      simp only [Bool.and_eq_true, decide_eq_true_eq] at hc'
      rw [decS_small (by omega), chr_dig hc]; rfl
    · have hvl : v.length = n := by simpa using h1
      have hhead : (v ++ [c]).head? = v.head? := by
        cases v with
        | nil => exact absurd rfl hv
        | cons a v => rfl
      have hn48 : v.head? ≠ some 48 := by
        rcases h4 with h | h
        · rw [List.length_append, List.length_singleton] at h
          exact absurd (List.eq_nil_of_length_eq_zero (by omega)) hv
        · rwa [hhead] at h
      have hpos : 1 ≤ digV v := by
        cases v with
        | nil => exact absurd rfl hv
        | cons a v =>
          refine digV_pos (h3 a (by simp)) ?_
          rintro rfl
          exact hn48 rfl
      have hc' := hc
      unfold dgB at hc'
      simp only [Bool.and_eq_true, decide_eq_true_eq] at hc'
      rw [decS_big (by omega), chr_dig hc, show (10 * digV v + (c.toNat - 48)) / 10 = digV v by omega, ih v hvl hv (fun c hc => h3 c (by simp [hc])) (.inr hn48)]

theorem run_all' {p : UInt8 → Bool} {l : List UInt8} (h : run p l 0 = l.length) : ∀ c, c ∈ l → p c = true := fun c hc => List.all_eq_true.1 (run_all.1 h) c hc

theorem numN_dec {l : List UInt8} (h : numB l = true) : decS (numN l) = l := by
  have hh := h
  obtain ⟨h1, h2, h3, h4⟩ := of_decide_eq_true hh
  unfold numN
  rw [h, if_pos rfl]
  refine decS_digits _ l rfl (List.length_pos_iff.1 h1) (run_all' h4) ?_
  by_cases h5 : l.length = 1
  · exact .inl h5
  · right
    intro h6
    apply h3
    refine ⟨by omega, ?_⟩
    rw [← List.head?_eq_getElem?]; exact h6
theorem numN_lt {l : List UInt8} (h : numB l = true) : numN l < 1000000000 := by
  obtain ⟨h1, h2, h3, h4⟩ := of_decide_eq_true h
  unfold numN
  rw [h, if_pos rfl]
  have key : ∀ k, k ≤ l.length → digV (l.take k) < 10 ^ k := by
    intro k
    induction k with
    | zero => intro _; simp [digV]
    | succ k ih =>
      intro hk
      have hk' : k < l.length := by omega
      exact digV_lt (List.getElem?_eq_getElem hk') (run_all' h4 _ (List.getElem_mem hk')) (ih (by omega))
  have := key l.length (Nat.le_refl _)
  rw [List.take_of_length_le (Nat.le_refl _)] at this
  exact Nat.lt_of_lt_of_le this (Nat.le_trans (Nat.pow_le_pow_right (by decide) h2) (by decide))

/-- the loop's view: what is still to be written ahead of what is -/
theorem dec_step {n : Nat} (h : ¬ n < 10) (s : List UInt8) : decS n ++ s = decS (n / 10) ++ (chr n :: s) := by rw [decS_big h]; simp

theorem chr_int (n : Nat) : (48 + ((n : Int) % 10)) = ((chr n).toNat : Int) := by
  unfold chr
  rw [UInt8.toNat_ofNat']
  have : n % 10 < 10 := Nat.mod_lt _ (by decide)
  omega
theorem dec_len : ∀ (k n : Nat), n ≤ k → (decS n).length ≤ n + 1 := by
  intro k
  induction k with
  | zero => intro n h; rw [decS_small (by omega)]; simp
  | succ k ih =>
    intro n h
    by_cases hn : n < 10
    · rw [decS_small hn]; simp
    · rw [decS_big hn, List.length_append, List.length_singleton]
      have := ih (n / 10) (by omega)
      omega


theorem dec_same (u : Nat) : Lib.decDigits u = decS u := by
  induction u using Nat.strongRecOn with
  | _ u ih =>
    rw [Lib.decDigits]
    by_cases h : u < 10
    · rw [dif_pos h, decS_small h]; unfold chr; rw [Nat.mod_eq_of_lt h]
    · rw [dif_neg h, decS_big h, ih (u / 10) (by omega)]; rfl
theorem itoa_same (u : Nat) : Lib.itoa (u : Int) = decS u := by
  unfold Lib.itoa; rw [if_neg (by omega), Int.toNat_natCast, dec_same]

theorem dig_decFrom : ∀ (l : List UInt8) (a : Nat), (∀ c, c ∈ l → dgB c = true) → Lib.decFrom a l = some (l.foldl (fun n c => 10 * n + (c.toNat - 48)) a) := by
  intro l
  induction l with
  | nil => intro a _; rfl
  | cons c l ih =>
    intro a h
    have hc := h c (by simp)
    unfold dgB at hc
    simp only [Bool.and_eq_true, decide_eq_true_eq] at hc
    unfold Lib.decFrom Lib.digitVal
    rw [if_pos hc]
    simp only [List.foldl_cons]
    rw [ih _ (fun c' h' => h c' (by simp [h'])), Nat.mul_comm a 10]
theorem atoi_dig {l : List UInt8} (h0 : l ≠ []) (h : ∀ c, c ∈ l → dgB c = true) : Lib.atoi l = some (digV l : Int) := by
  cases l with
  | nil => exact absurd rfl h0
  | cons b r =>
    have hb := h b (by simp)
    unfold dgB at hb
    simp only [Bool.and_eq_true, decide_eq_true_eq] at hb
    have h1 : (b == 45) = false := by rw [beq_eq_false_iff_ne]; rintro rfl; simp at hb
    have h2 : (b == 43) = false := by rw [beq_eq_false_iff_ne]; rintro rfl; simp at hb
    show (if b == 45 then _ else if b == 43 then _ else _) = _
    rw [h1, h2]
    simp only [Bool.false_eq_true, if_false]
    unfold Lib.decNat
    rw [if_neg (by simp), dig_decFrom _ 0 h]
    rfl

theorem decS_len : ∀ (k n : Nat), n < 10 ^ (k + 1) → (decS n).length ≤ k + 1 := by
  intro k
  induction k with
  | zero => intro n h; rw [decS_small (by omega)]; simp
  | succ k ih =>
    intro n h
    by_cases hn : n < 10
    · rw [decS_small hn]; simp
    · rw [decS_big hn, List.length_append, List.length_singleton]
      rw [Nat.pow_succ] at h
      have := ih (n / 10) (by omega)
      omega
theorem chr_ok (n : Nat) : dgB (chr n) = true := by
  unfold dgB chr
  rw [UInt8.toNat_ofNat']
  have : n % 10 < 10 := Nat.mod_lt _ (by decide)
  simp only [Bool.and_eq_true, decide_eq_true_eq]
  omega
theorem decS_all : ∀ (k n : Nat), n < 10 ^ (k + 1) → ∀ c, c ∈ decS n → dgB c = true := by
  intro k
  induction k with
  | zero => intro n h c hc; rw [decS_small (by omega)] at hc; simp at hc; subst hc; exact chr_ok n
  | succ k ih =>
    intro n h c hc
    by_cases hn : n < 10
    · rw [decS_small hn] at hc; simp at hc; subst hc; exact chr_ok n
    · rw [decS_big hn, List.mem_append] at hc
      rw [Nat.pow_succ] at h
      rcases hc with hc | hc
      · exact ih _ (by omega) c hc
      · simp at hc; subst hc; exact chr_ok n
theorem decS_head : ∀ (k n : Nat), n < 10 ^ (k + 1) → 10 ≤ n → (decS n).head? ≠ some 48 := by
  intro k
  induction k with
  | zero => intro n h h'; omega
  | succ k ih =>
    intro n h h'
    rw [decS_big (by omega)]
    rw [Nat.pow_succ] at h
    by_cases hn : n / 10 < 10
    · rw [decS_small hn]
      intro hx
      simp only [List.singleton_append, List.head?_cons, Option.some.injEq] at hx
      unfold chr at hx
      have := congrArg UInt8.toNat hx
      rw [UInt8.toNat_ofNat'] at this
      have e : (48 : UInt8).toNat = 48 := rfl
      omega
    · have := ih (n / 10) (by omega) (by omega)
      intro hx
      apply this
      have hne : decS (n / 10) ≠ [] := by rw [decS_big (by omega)]; simp
      cases hd : decS (n / 10) with
      | nil => exact absurd hd hne
      | cons x xs => rw [hd] at hx; exact hx
theorem decS_digV : ∀ (k n : Nat), n < 10 ^ (k + 1) → digV (decS n) = n := by
  intro k
  induction k with
  | zero =>
    intro n h
    have h : n < 10 := by omega
    rw [decS_small h]
    unfold digV chr
    simp only [List.foldl_cons, List.foldl_nil]
    rw [UInt8.toNat_ofNat']; omega
  | succ k ih =>
    intro n h
    by_cases hn : n < 10
    · rw [decS_small hn]
      unfold digV chr
      simp only [List.foldl_cons, List.foldl_nil]
      rw [UInt8.toNat_ofNat']; omega
    · rw [decS_big hn, digV_snoc]
      rw [Nat.pow_succ] at h
      rw [ih _ (by omega)]
      unfold chr
      rw [UInt8.toNat_ofNat']; omega
theorem decS_ne (n : Nat) : decS n ≠ [] := by
  by_cases h : n < 10
  · rw [decS_small h]; simp
  · rw [decS_big h]; simp
/-- a number of at most six digits is what its digits say -/
theorem num_of_dec {n : Nat} (h : n < 1000000) : numB (decS n) = true ∧ (decS n).length ≤ 6 ∧ numN (decS n) = n := by
  have h6 : n < 10 ^ (5 + 1) := by simpa using h
  have hl := decS_len 5 n h6
  have ha := decS_all 5 n h6
  have hb : numB (decS n) = true := by
    apply decide_eq_true
    refine ⟨List.length_pos_iff.2 (decS_ne n), by omega, ?_, run_all.2 (List.all_eq_true.2 ha)⟩
    rintro ⟨h1, h2⟩
    by_cases hn : n < 10
    · rw [decS_small hn] at h1; simp at h1
    · rw [← List.head?_eq_getElem?] at h2
      exact decS_head 5 n h6 (by omega) h2
  refine ⟨hb, hl, ?_⟩
  unfold numN
  rw [hb, if_pos rfl, decS_digV 5 n h6]
/-- digits without a 0 ahead: of two the longer one is the greater one; of as many the first that differs decides -/
theorem numB_iff {l : List UInt8} : numB l = true ↔ 1 ≤ l.length ∧ l.length ≤ 9 ∧ ¬ (1 < l.length ∧ l[0]? = some 48) ∧ l.all dgB = true := by
  unfold numB
  rw [decide_eq_true_iff, run_all]
end Go.Proofs.YtjiofenpalokoaaGreatDoor.Nu
