/-
  LAYER 4, PLAIN MATHEMATICS: a sign ahead of a version's text is a range of one comparison.
-/
import Derived.Test.YtjiofenpalokoaaGreatDoorSpecMath
namespace Go.Proofs.YtjiofenpalokoaaGreatDoor.Sp
open Go.Proofs.YtjiofenpalokoaaGreatDoor Go.Proofs.YtjiofenpalokoaaGreatDoor.Nu Go.Proofs.YtjiofenpalokoaaGreatDoor.Vs

theorem mem_cutl {c x : UInt8} (hx : x ≠ c) : ∀ (n : Nat) (l : List UInt8), l.length ≤ n → x ∈ l → ∃ p, p ∈ cutl c l ∧ x ∈ p := by
  intro n
  induction n with
  | zero => intro l h hm; obtain rfl := List.eq_nil_of_length_eq_zero (Nat.le_zero.1 h); simp at hm
  | succ n ih =>
    intro l hl hm
    by_cases h : c ∈ l
    · obtain ⟨a, r, rfl, ha⟩ := splits l h
      rw [cutl_hit ha]
      rcases List.mem_append.1 hm with h1 | h1
      · exact ⟨a, by simp, h1⟩
      · rcases List.mem_cons.1 h1 with h2 | h2
        · exact absurd h2 hx
        · obtain ⟨p, h3, h4⟩ := ih r (by simp at hl; omega) h2
          exact ⟨p, by simp [h3], h4⟩
    · rw [cutl_no h]; exact ⟨l, by simp, hm⟩
theorem pre_no {p : List UInt8} (h : p = [] ∨ preV p = true) {x : UInt8} (hx : pB x = false) (h46 : x ≠ 46) : x ∉ p := by
  rcases h with rfl | h
  · simp
  · intro hm
    obtain ⟨q, h1, h2⟩ := mem_cutl h46 _ p (Nat.le_refl _) hm
    unfold preV at h
    simp only [Bool.and_eq_true] at h
    have h3 := List.all_eq_true.1 h.2 q h1
    unfold partV at h3
    simp only [Bool.and_eq_true] at h3
    have := List.all_eq_true.1 h3.1.2 x h2
    rw [hx] at this; cases this
/-- no such byte stands in a version's text -/
theorem ver_no {l : List UInt8} (h : verV l = true) {x : UInt8} (hx : pB x = false) (h46 : x ≠ 46) (h45 : x ≠ 45) : x ∉ l := by
  obtain ⟨t1, t2, t3, t4, t5, _⟩ := text_of h
  have hd : dgB x = false := by
    unfold pB at hx
    simp only [Bool.or_eq_false_iff] at hx
    exact hx.1.1
  rw [← t1]
  unfold textV textN
  intro hm
  have n0 := dec_no _ t2 x hd
  have n1 := dec_no _ t3 x hd
  have n2 := dec_no _ t4 x hd
  have n3 := pre_no t5 hx h46
  rcases List.mem_append.1 hm with hm | hm
  · rcases List.mem_append.1 hm with hm | hm
    · exact n0 hm
    · rcases List.mem_cons.1 hm with hm | hm
      · exact h46 hm
      · rcases List.mem_append.1 hm with hm | hm
        · exact n1 hm
        · rcases List.mem_cons.1 hm with hm | hm
          · exact h46 hm
          · exact n2 hm
  · split at hm
    · simp at hm
    · rcases List.mem_cons.1 hm with hm | hm
      · exact h45 hm
      · exact n3 hm
theorem numB_head {l : List UInt8} (h : numB l = true) : ∃ d r, l = d :: r ∧ dgB d = true := by
  obtain ⟨a, _, _, d⟩ := numB_iff.1 h
  cases l with
  | nil => simp at a
  | cons c r => exact ⟨c, r, rfl, List.all_eq_true.1 d c (by simp)⟩
/-- a version's text begins with a digit -/
theorem ver_head {l : List UInt8} (h : verV l = true) : ∃ d r, l = d :: r ∧ dgB d = true := by
  unfold verV at h
  simp only [Bool.and_eq_true] at h
  obtain ⟨a, b, c, hc, ha, _, _⟩ := nums_three h.1
  obtain ⟨d, r, rfl, hd⟩ := numB_head (numV_of ha).1
  have hj := join_cutl 46 (fore 45 l)
  rw [hc] at hj
  have h1 : fore 45 l = d :: (r ++ 46 :: joinl 46 [b, c]) := hj.symm
  cases l with
  | nil => simp [fore] at h1
  | cons x l =>
    unfold fore at h1
    rw [List.takeWhile_cons] at h1
    split at h1
    · injection h1 with e _
      exact ⟨x, l, rfl, by rw [e]; exact hd⟩
    · cases h1
theorem ver_not {c : UInt8} {l : List UInt8} (h : dgB c = false) : verV (c :: l) = false := by
  rw [← Bool.not_eq_true]
  intro hv
  obtain ⟨d, r, e, hd⟩ := ver_head hv
  injection e with e1 _
  rw [e1, hd] at h; cases h

/-- the six signs of the law, in its order -/
def opI : Nat → Nat
  | 0 => 0
  | 1 => 1
  | 2 => 2
  | 3 => 5
  | 4 => 4
  | _ => 3
theorem dg_ne {d : UInt8} (h : dgB d = true) : (61 : UInt8) ≠ d ∧ (33 : UInt8) ≠ d ∧ (60 : UInt8) ≠ d ∧ (62 : UInt8) ≠ d ∧ (126 : UInt8) ≠ d ∧ (94 : UInt8) ≠ d := by
  refine ⟨?_, ?_, ?_, ?_, ?_, ?_⟩ <;> (rintro rfl; simp [dgB] at h)
theorem compOf_sign {l : List UInt8} (hv : verV l = true) : ∀ i, i < 6 → compOf (sgn (opI i) ++ l) = some (ofV (opI i) l) := by
  obtain ⟨d, r, rfl, hd⟩ := ver_head hv
  have v61 : verV (61 :: d :: r) = false := ver_not (by decide)
  intro i hi
  have ways : i = 0 ∨ i = 1 ∨ i = 2 ∨ i = 3 ∨ i = 4 ∨ i = 5 := by omega
  rcases ways with rfl | rfl | rfl | rfl | rfl | rfl <;> simp [compOf, opI, sgn, firstHit, hit, List.isPrefixOf, hv, v61]
theorem rngOf_sign {l : List UInt8} (hv : verV l = true) (hl : l.length ≤ 70) {i : Nat} (hi : i < 6) : rngOf (sgn (opI i) ++ l) = some [[ofV (opI i) l]] := by
  have hs : (124 : UInt8) ∉ sgn (opI i) ∧ (44 : UInt8) ∉ sgn (opI i) ∧ (sgn (opI i)).length ≤ 2 := by
    have ways : i = 0 ∨ i = 1 ∨ i = 2 ∨ i = 3 ∨ i = 4 ∨ i = 5 := by omega
    rcases ways with rfl | rfl | rfl | rfl | rfl | rfl <;> decide
  have h1 : (124 : UInt8) ∉ sgn (opI i) ++ l := by
    intro h
    rcases List.mem_append.1 h with h | h
    · exact hs.1 h
    · exact ver_no hv (by decide) (by decide) (by decide) h
  have h2 : (44 : UInt8) ∉ sgn (opI i) ++ l := by
    intro h
    rcases List.mem_append.1 h with h | h
    · exact hs.2.1 h
    · exact ver_no hv (by decide) (by decide) (by decide) h
  have ha : altOf (sgn (opI i) ++ l) = some [ofV (opI i) l] := by
    unfold altOf
    rw [cutl_no h2, if_pos (by simp)]
    simp only [allOf, compOf_sign hv i hi]
  unfold rngOf
  rw [cutl_no h1, if_pos ⟨by rw [List.length_append]; have := hs.2.2; omega, by simp⟩]
  simp only [allOf, ha]
theorem rngHas_sign {l : List UInt8} {i : Nat} (hi : i < 6) (x y z : Nat) : rngHas [[ofV (opI i) l]] x y z [] = okOp (opI i) (cmpV [x, y, z] [nth l 0, nth l 1, nth l 2] [] (aft 45 l)) := by
  have ways : i = 0 ∨ i = 1 ∨ i = 2 ∨ i = 3 ∨ i = 4 ∨ i = 5 := by omega
  rcases ways with rfl | rfl | rfl | rfl | rfl | rfl <;> simp [rngHas, altHas, compHas, ofV, opI]
end Go.Proofs.YtjiofenpalokoaaGreatDoor.Sp
