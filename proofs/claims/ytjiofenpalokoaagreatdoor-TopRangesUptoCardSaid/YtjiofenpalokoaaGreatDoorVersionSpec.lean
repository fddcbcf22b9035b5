/-
  LAYER 3, PLAIN MATHEMATICS: texts cut at each such byte, versions' texts. No program is imported.
-/
import Derived.Test.YtjiofenpalokoaaGreatDoorNumSpec
import Derived.Lib.Split
import Derived.Lib.Bytealg
namespace Go.Proofs.YtjiofenpalokoaaGreatDoor.Vs
open Go.Proofs.YtjiofenpalokoaaGreatDoor Go.Proofs.YtjiofenpalokoaaGreatDoor.Nu

def fore (c : UInt8) (l : List UInt8) : List UInt8 := l.takeWhile (· != c)
def aft (c : UInt8) (l : List UInt8) : List UInt8 := (l.dropWhile (· != c)).drop 1

/-- a text, cut at each such byte -/
def cutA (c : UInt8) (done : List (List UInt8)) (cur : List UInt8) : List UInt8 → List (List UInt8)
  | [] => done ++ [cur]
  | x :: l => if x == c then cutA c (done ++ [cur]) [] l else cutA c done (cur ++ [x]) l
def cutl (c : UInt8) (l : List UInt8) : List (List UInt8) := cutA c [] [] l

theorem cutA_done (c : UInt8) : ∀ (l cur : List UInt8) (done : List (List UInt8)), cutA c done cur l = done ++ cutA c [] cur l := by
  intro l
  induction l with
  | nil => intro cur done; simp [cutA]
  | cons x l ih =>
    intro cur done
    unfold cutA
    by_cases h : (x == c) = true
    · rw [if_pos h, if_pos h, ih [] (done ++ [cur]), ih [] ([] ++ [cur])]; simp
    · rw [if_neg h, if_neg h, ih _ done]
theorem cutA_no (c : UInt8) : ∀ (l cur : List UInt8), c ∉ l → cutA c [] cur l = [cur ++ l] := by
  intro l
  induction l with
  | nil => intro cur _; simp [cutA]
  | cons x l ih =>
    intro cur h
    unfold cutA
    rw [if_neg (by simp; rintro rfl; exact h (by simp)), ih _ (fun h' => h (by simp [h']))]; simp
theorem cutA_hit (c : UInt8) : ∀ (a cur r : List UInt8), c ∉ a → cutA c [] cur (a ++ c :: r) = (cur ++ a) :: cutl c r := by
  intro a
  induction a with
  | nil => intro cur r _; rw [List.nil_append, cutA, if_pos (by simp), cutA_done]; simp [cutl]
  | cons x a ih =>
    intro cur r h
    rw [List.cons_append, cutA, if_neg (by simp; rintro rfl; exact h (by simp)), ih _ _ (fun h' => h (by simp [h']))]; simp
theorem cutl_no {c : UInt8} {l : List UInt8} (h : c ∉ l) : cutl c l = [l] := by unfold cutl; rw [cutA_no c l [] h]; rfl
theorem cutl_hit {c : UInt8} {a r : List UInt8} (h : c ∉ a) : cutl c (a ++ c :: r) = a :: cutl c r := by
  rw [show cutl c (a ++ c :: r) = cutA c [] [] (a ++ c :: r) from rfl, cutA_hit c a [] r h]; rfl

/-- the pieces with that byte between -/
def joinl (c : UInt8) : List (List UInt8) → List UInt8
  | [] => []
  | [p] => p
  | p :: q :: ps => p ++ c :: joinl c (q :: ps)
theorem splits {c : UInt8} : ∀ (l : List UInt8), c ∈ l → ∃ a r, l = a ++ c :: r ∧ c ∉ a := by
  intro l
  induction l with
  | nil => intro h; simp at h
  | cons x l ih =>
    intro h
    by_cases hx : x = c
    · subst hx; exact ⟨[], l, rfl, by simp⟩
    · have h' : c ∈ l := by rcases List.mem_cons.1 h with h | h; exact absurd h.symm hx; exact h
      obtain ⟨a, r, rfl, ha⟩ := ih h'
      exact ⟨x :: a, r, rfl, by simp [ha]; exact fun e => hx e.symm⟩
theorem cutl_ne (c : UInt8) (l : List UInt8) : cutl c l ≠ [] := by
  by_cases h : c ∈ l
  · obtain ⟨a, r, rfl, ha⟩ := splits l h; rw [cutl_hit ha]; simp
  · rw [cutl_no h]; simp
theorem joinl_cons {c : UInt8} {p : List UInt8} {ps : List (List UInt8)} (h : ps ≠ []) : joinl c (p :: ps) = p ++ c :: joinl c ps := by
  cases ps with
  | nil => exact absurd rfl h
  | cons q ps => rfl
theorem join_cut (c : UInt8) : ∀ (n : Nat) (l : List UInt8), l.length ≤ n → joinl c (cutl c l) = l := by
  intro n
  induction n with
  | zero => intro l h; obtain rfl := List.eq_nil_of_length_eq_zero (Nat.le_zero.1 h); rfl
  | succ n ih =>
    intro l hl
    by_cases h : c ∈ l
    · obtain ⟨a, r, rfl, ha⟩ := splits l h
      rw [cutl_hit ha, joinl_cons (cutl_ne c r), ih r (by simp at hl; omega)]
    · rw [cutl_no h]; rfl
theorem join_cutl (c : UInt8) (l : List UInt8) : joinl c (cutl c l) = l := join_cut c l.length l (Nat.le_refl _)
theorem cutl_mem (c : UInt8) : ∀ (n : Nat) (l : List UInt8), l.length ≤ n → ∀ p, p ∈ cutl c l → c ∉ p ∧ p.length ≤ l.length := by
  intro n
  induction n with
  | zero =>
    intro l h p hp; obtain rfl := List.eq_nil_of_length_eq_zero (Nat.le_zero.1 h)
    rw [cutl_no (by simp)] at hp; simp at hp; subst hp; simp
  | succ n ih =>
    intro l hl p hp
    by_cases h : c ∈ l
    · obtain ⟨a, r, rfl, ha⟩ := splits l h
      rw [cutl_hit ha] at hp
      rcases List.mem_cons.1 hp with rfl | hp
      · exact ⟨ha, by simp⟩
      · have := ih r (by simp at hl; omega) p hp
        exact ⟨this.1, by simp; omega⟩
    · rw [cutl_no h] at hp; simp at hp; subst hp; exact ⟨h, Nat.le_refl _⟩
theorem cutl_join {c : UInt8} : ∀ {ps : List (List UInt8)}, ps ≠ [] → (∀ p, p ∈ ps → c ∉ p) → cutl c (joinl c ps) = ps := by
  intro ps
  induction ps with
  | nil => intro h; exact absurd rfl h
  | cons p ps ih =>
    intro _ h
    by_cases hp : ps = []
    · subst hp; exact cutl_no (h p (by simp))
    · rw [joinl_cons hp, cutl_hit (h p (by simp)), ih hp (fun q hq => h q (by simp [hq]))]
theorem cutl_len (c : UInt8) : ∀ (n : Nat) (l : List UInt8), l.length ≤ n → (cutl c l).length ≤ l.length + 1 := by
  intro n
  induction n with
  | zero => intro l h; obtain rfl := List.eq_nil_of_length_eq_zero (Nat.le_zero.1 h); rw [cutl_no (by simp)]; simp
  | succ n ih =>
    intro l hl
    by_cases h : c ∈ l
    · obtain ⟨a, r, rfl, ha⟩ := splits l h
      rw [cutl_hit ha, List.length_cons]
      have := ih r (by simp at hl; omega)
      simp; omega
    · rw [cutl_no h]; simp

/-! the library's cut, so many times at most -/
theorem index_no {c : UInt8} : ∀ {l : List UInt8}, c ∉ l → Lib.index l [c] = -1 := by
  intro l
  induction l with
  | nil => intro _; rfl
  | cons x l ih =>
    intro h
    have hx : ([c] : List UInt8).isPrefixOf (x :: l) = false := by
      simp [List.isPrefixOf]; intro e; exact absurd (by simp [e]) h
    unfold Lib.index
    rw [hx, ih (fun h' => h (by simp [h']))]; rfl
theorem index_hit {c : UInt8} : ∀ {a r : List UInt8}, c ∉ a → Lib.index (a ++ c :: r) [c] = a.length := by
  intro a
  induction a with
  | nil => intro r _; simp [Lib.index, List.isPrefixOf]
  | cons x a ih =>
    intro r h
    have hx : ([c] : List UInt8).isPrefixOf (x :: (a ++ c :: r)) = false := by
      simp [List.isPrefixOf]; intro e; exact absurd (by simp [e]) h
    rw [List.cons_append]
    unfold Lib.index
    rw [hx, ih (fun h' => h (by simp [h']))]
    have : ((a.length : Int) == -1) = false := by rw [beq_eq_false_iff_ne]; omega
    simp [this]
theorem splitK_cut (c : UInt8) : ∀ (k : Nat) (l : List UInt8), ((cutl c l).length ≤ k + 1 → Lib.splitK [c] 0 k l = cutl c l) ∧ (k + 1 < (cutl c l).length → (Lib.splitK [c] 0 k l).length = k + 1) := by
  intro k
  induction k with
  | zero =>
    intro l
    refine ⟨fun h => ?_, fun h => rfl⟩
    by_cases hc : c ∈ l
    · obtain ⟨a, r, rfl, ha⟩ := splits l hc
      rw [cutl_hit ha, List.length_cons] at h
      exact absurd (List.eq_nil_of_length_eq_zero (by omega)) (cutl_ne c r)
    · rw [cutl_no hc]; rfl
  | succ k ih =>
    intro l
    by_cases hc : c ∈ l
    · obtain ⟨a, r, rfl, ha⟩ := splits l hc
      have e : Lib.splitK [c] 0 (k + 1) (a ++ c :: r) = a :: Lib.splitK [c] 0 k r := by
        unfold Lib.splitK
        rw [index_hit ha]
        have h1 : ((a.length : Int) == -1) = false := by rw [beq_eq_false_iff_ne]; omega
        rw [h1]
        simp only [Bool.false_eq_true, if_false, Int.toNat_natCast, Nat.add_zero, List.length_singleton]
        rw [List.take_left', show (a ++ c :: r).drop (a.length + 1) = r by rw [← List.drop_drop, List.drop_left]; rfl]
        cases k <;> rfl
        rfl
      rw [cutl_hit ha, e, List.length_cons, List.length_cons]
      obtain ⟨i1, i2⟩ := ih r
      exact ⟨fun h => by rw [i1 (by omega)], fun h => by rw [i2 (by omega)]⟩
    · have e : Lib.splitK [c] 0 (k + 1) l = [l] := by
        unfold Lib.splitK; rw [index_no hc]; rfl
      rw [cutl_no hc, e]
      exact ⟨fun _ => rfl, fun h => by simp at h⟩
/-- at most n pieces, of a text's bytes -/
theorem splitN_cut (c : UInt8) (n : Nat) (hn : 1 ≤ n) (s : ByteArray) :
    ((cutl c s.data.toList).length ≤ n → Lib.splitB ⟨#[c]⟩ 0 (min n (s.size + 1) - 1) s = (cutl c s.data.toList).map fun p => ⟨p.toArray⟩) ∧
    (n < (cutl c s.data.toList).length → (Lib.splitB ⟨#[c]⟩ 0 (min n (s.size + 1) - 1) s).length = n) := by
  have hd := Lib.splitB_data ⟨#[c]⟩ 0 (min n (s.size + 1) - 1) s
  have hl := cutl_len c _ s.data.toList (Nat.le_refl _)
  have hs : s.data.toList.length = s.size := by simp
  obtain ⟨h1, h2⟩ := splitK_cut c (min n (s.size + 1) - 1) s.data.toList
  have hcc : (⟨#[c]⟩ : ByteArray).data.toList = [c] := rfl
  rw [hcc] at hd
  constructor
  · intro h
    rw [h1 (by omega)] at hd
    rw [← hd, List.map_map]
    rw [List.map_congr_left (g := id) (fun x _ => by apply ByteArray.ext; simp)]
    simp
  · intro h
    have := congrArg List.length hd
    rw [List.length_map, h2 (by omega)] at this
    rw [this]; omega
end Go.Proofs.YtjiofenpalokoaaGreatDoor.Vs
