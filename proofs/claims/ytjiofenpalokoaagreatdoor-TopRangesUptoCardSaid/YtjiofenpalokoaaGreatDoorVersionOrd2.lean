/-
  LAYER 3, PLAIN MATHEMATICS: versions stand in one row; a release above what has parts behind the same numbers; one part more is higher. No program is imported.
-/
import Derived.Test.YtjiofenpalokoaaGreatDoorVersionOrd
namespace Go.Proofs.YtjiofenpalokoaaGreatDoor.Vs
open Go.Proofs.YtjiofenpalokoaaGreatDoor Go.Proofs.YtjiofenpalokoaaGreatDoor.Nu

theorem cmpV_cmp : Cmp (fun _ => True) (fun (x y : List Nat × List UInt8) => cmpV x.1 y.1 x.2 y.2) where
  vals x y := by
    unfold cmpV
    split
    · exact cmpB_cmp.vals _ _
    · exact (cmpL_cmp ci_cmp).vals _ _
  anti x y := by
    unfold cmpV
    have h1 := cmpB_cmp.anti x.2 y.2
    have h2 := (cmpL_cmp ci_cmp).anti x.1 y.1
    by_cases h : x.1 = y.1
    · rw [if_pos h, if_pos h.symm, h1]
    · rw [if_neg h, if_neg (Ne.symm h), h2]
  eq x y _ _ h := by
    unfold cmpV at h
    split at h
    · rename_i h'
      exact Prod.ext h' (cmpB_cmp.eq _ _ trivial trivial h)
    · rename_i h'
      exact absurd ((cmpL_cmp ci_cmp).eq _ _ (fun _ _ => trivial) (fun _ _ => trivial) h) h'
  trans x y z _ _ _ h1 h2 := by
    unfold cmpV at *
    have L := cmpL_cmp ci_cmp
    by_cases e1 : x.1 = y.1
    · rw [if_pos e1] at h1
      by_cases e2 : y.1 = z.1
      · rw [if_pos e2] at h2
        rw [if_pos (e1.trans e2)]
        exact cmpB_cmp.trans _ _ _ trivial trivial trivial h1 h2
      · rw [if_neg e2] at h2
        rw [if_neg (by rw [e1]; exact e2), e1]; exact h2
    · rw [if_neg e1] at h1
      have l1 : cmpL ci x.1 y.1 < 0 := by
        rcases L.vals x.1 y.1 with e | e | e
        · omega
        · exact absurd (L.eq _ _ (fun _ _ => trivial) (fun _ _ => trivial) e) e1
        · omega
      have l2 : cmpL ci y.1 z.1 ≤ 0 := by
        by_cases e2 : y.1 = z.1
        · rw [e2, L.self]; omega
        · rw [if_neg e2] at h2; exact h2
      have l3 := L.lt_le (fun _ _ => trivial) (fun _ _ => trivial) (fun _ _ => trivial) l1 l2
      by_cases e3 : x.1 = z.1
      · rw [e3, L.self] at l3; omega
      · rw [if_neg e3]; omega

/-- a release stands above what has something behind the same numbers -/
theorem cmpB_rel {p : List UInt8} (h : p ≠ []) : cmpB p [] = -1 := by
  unfold cmpB; rw [if_neg h, if_neg h, if_pos rfl]
theorem cutl_snoc {c : UInt8} (q : List UInt8) (hq : c ∉ q) : ∀ (n : Nat) (l : List UInt8), l.length ≤ n → cutl c (l ++ c :: q) = cutl c l ++ [q] := by
  intro n
  induction n with
  | zero => intro l h; obtain rfl := List.eq_nil_of_length_eq_zero (Nat.le_zero.1 h); rw [List.nil_append, show c :: q = [] ++ c :: q from rfl, cutl_hit (by simp), cutl_no hq, cutl_no (by simp)]; rfl
  | succ n ih =>
    intro l hl
    by_cases h : c ∈ l
    · obtain ⟨a, r, rfl, ha⟩ := splits l h
      rw [List.append_assoc, List.cons_append, cutl_hit ha, ih r (by simp at hl; omega), cutl_hit ha]; rfl
    · rw [cutl_hit h, cutl_no h, cutl_no hq]; rfl
/-- one part more is higher -/
theorem cmpB_more {p q : List UInt8} (h : p ≠ []) (hq : (46 : UInt8) ∉ q) : cmpB p (p ++ 46 :: q) = -1 := by
  unfold cmpB
  have hne : p ≠ p ++ 46 :: q := by intro e; have := congrArg List.length e; simp at this
  rw [if_neg hne, if_neg h, if_neg (by simp), cutl_snoc q hq _ p (Nat.le_refl _)]
  exact cmpL_app cmpP_cmp.self _ _
end Go.Proofs.YtjiofenpalokoaaGreatDoor.Vs
