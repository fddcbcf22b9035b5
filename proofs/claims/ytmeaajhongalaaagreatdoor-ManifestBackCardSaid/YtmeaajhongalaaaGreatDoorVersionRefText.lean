/-
  LAYER 3, THE DOCUMENT'S Text.
-/
import Derived.Test.YtmeaajhongalaaaGreatDoorVersionRel
import Derived.Test.YtmeaajhongalaaaGreatDoorVersionRefParse
import Derived.Lib.QuietBelow
namespace Go.Proofs.YtmeaajhongalaaaGreatDoor.Vs
open Go.RowKit Go.Sort
open Go.Proofs.YtmeaajhongalaaaGreatDoor Go.Proofs.YtmeaajhongalaaaGreatDoor.Nu

def tailT : List (List UInt8) → List UInt8
  | [] => []
  | p :: ps => 45 :: joinl 46 (p :: ps)
theorem joinl_snoc (c : UInt8) (q : List UInt8) : ∀ ps : List (List UInt8), ps ≠ [] → joinl c (ps ++ [q]) = joinl c ps ++ c :: q := by
  intro ps
  induction ps with
  | nil => intro h; exact absurd rfl h
  | cons p ps ih =>
    intro _
    by_cases h : ps = []
    · subst h; rfl
    · rw [List.cons_append, joinl_cons (by simp), joinl_cons h, ih h]; simp
theorem tail_one (q : List UInt8) : tailT [q] = 45 :: q := rfl
theorem tail_snoc (q : List UInt8) {ps : List (List UInt8)} (h : ps ≠ []) : tailT (ps ++ [q]) = tailT ps ++ 46 :: q := by
  cases ps with
  | nil => exact absurd rfl h
  | cons p ps =>
    show 45 :: joinl 46 ((p :: ps) ++ [q]) = 45 :: joinl 46 (p :: ps) ++ 46 :: q
    rw [joinl_snoc 46 q _ (by simp)]; rfl

end Go.Proofs.YtmeaajhongalaaaGreatDoor.Vs
