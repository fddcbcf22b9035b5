/-
  LAYER 5, PACKAGE name: Check, Glob, Match, Weight.
-/
import Derived.Test.YtmeaajhongalaaaGreatDoorNameWalks
namespace Go.Proofs.YtmeaajhongalaaaGreatDoor.Nm
open Go.RowKit

def okU (l : List UInt8) : Bool := !scp l || plain (scopeV l)
theorem rest_lt {l : List UInt8} (h : scp l = true) : (restV l).length < l.length := by
  obtain ⟨h1, _, _⟩ := scp_split h
  unfold restV
  rw [if_pos h]
  have := congrArg List.length h1
  rw [List.length_cons, List.length_append, List.length_cons] at this
  omega
theorem scope_len (l : List UInt8) : (scopeV l).length ≤ l.length := by
  unfold scopeV
  split
  · have := fore_le 47 l; rw [List.length_drop]; omega
  · exact Nat.zero_le _
theorem rest_len (l : List UInt8) : (restV l).length ≤ l.length := by
  cases h : scp l
  · unfold restV; rw [h]; exact Nat.le_refl _
  · exact Nat.le_of_lt (rest_lt h)
theorem rest_no {l : List UInt8} (h : scp l = false) : restV l = l := by unfold restV; rw [h]; rfl
theorem rest_ne {l : List UInt8} (h : scp l = true) : (restV l == l) = false := by
  rw [beq_eq_false_iff_ne]
  intro e
  have := rest_lt h
  rw [e] at this; omega

theorem unscoped_any (l : List UInt8) (hs : l.length ≤ 140737488355328) (w : World) :
    Calls Tryz.prog 118 #[.string ⟨l.toArray⟩] w (Gives (.tuple #[.string ⟨(restV l).toArray⟩, .bool (okU l)]) w) := by
  have HC := fun w => hid (show Calls Tryz.prog 155 #[.string ⟨l.toArray⟩] w (Gives (.tuple #[.string ⟨(scopeV l).toArray⟩, .string ⟨(restV l).toArray⟩]) w) from split_any l hs w)
  cases h : scp l
  · have hr := rest_no h
    rw [hr] at HC ⊢
    have HV := hid (show okU l = true by unfold okU; rw [h]; rfl)
    generalize scopeV l = A at HC
    go_enter Tryz.func118, Tryz.ntmps118
    go_wp2_with (go_at_call 155; (with_reducible refine ((HC _).out).mono ?_); rintro e w' ⟨rfl, hb⟩)
    go_ret2
    exact gives rfl (by rw [HV.out]; rfl) hb
  · have hr := rest_ne h
    have HV := hid (show okU l = plain (scopeV l) by unfold okU; rw [h]; rfl)
    have HP := fun w => hid (plain_any (scopeV l) (by have := scope_len l; omega) w)
    generalize scopeV l = A at HC HP HV
    generalize restV l = B at HC hr ⊢
    generalize plain A = p at HP HV
    go_enter Tryz.func118, Tryz.ntmps118
    go_wp2_with (first | (go_at_call 155; (with_reducible refine ((HC _).out).mono ?_); rintro e w' ⟨rfl, hb⟩) | (go_at_call 70; (with_reducible refine ((HP _).out).mono ?_); rintro e w' ⟨rfl, hb2⟩))
    go_ret2
    exact gives rfl (by rw [HV.out]; rfl) (below_trans hb hb2)

theorem check_eq (l : List UInt8) : checkV l = (okU l && plain (restV l)) := by
  unfold checkV okU scopeV restV
  cases h : scp l <;> simp

theorem check_any (l : List UInt8) (hs : l.length ≤ 140737488355328) (w : World) :
    Calls Tryz.prog 61 #[.string ⟨l.toArray⟩] w (Gives (.bool (checkV l)) w) := by
  have HU := fun w => hid (unscoped_any l hs w)
  have HP := fun w => hid (plain_any (restV l) (by have := rest_len l; omega) w)
  have HV := hid (check_eq l)
  generalize restV l = B at HU HP HV
  generalize plain B = p at HP HV
  cases ho : okU l
  · rw [ho] at HU HV
    go_enter Tryz.func61, Tryz.ntmps61
    go_wp2_with (first | (go_at_call 118; (with_reducible refine ((HU _).out).mono ?_); rintro e w' ⟨rfl, hb⟩))
    go_ret
    exact gives rfl (bool_eq HV.out.symm) hb
  · rw [ho] at HU HV
    go_enter Tryz.func61, Tryz.ntmps61
    go_wp2_with (first | (go_at_call 118; (with_reducible refine ((HU _).out).mono ?_); rintro e w' ⟨rfl, hb⟩) | (go_at_call 70; (with_reducible refine ((HP _).out).mono ?_); rintro e w' ⟨rfl, hb2⟩))
    go_ret
    exact gives rfl (bool_eq (by rw [HV.out]; rfl)) (below_trans hb hb2)

theorem letters_opens (l : List UInt8) : letters l = (l.isEmpty || opensV l) := by
  unfold opensV
  cases l with
  | nil => rfl
  | cons x l => simp
theorem openG_eq (l : List UInt8) : openG l = (okU l && ((restV l).isEmpty || opensV (restV l))) := by
  rw [← letters_opens]
  unfold openG okU scopeV restV
  cases h : scp l <;> simp
theorem glob_star {l : List UInt8} (h : star l = true) : globV l = (okU l.dropLast && ((restV l.dropLast).isEmpty || opensV (restV l.dropLast))) := by
  unfold globV; rw [h, if_pos rfl, openG_eq]
theorem glob_plain {l : List UInt8} (h : star l = false) : globV l = checkV l := by
  unfold globV; rw [h]; rfl

def fitsV (g s : List UInt8) : Bool := if star g then globV g && g.dropLast.isPrefixOf s else g == s
theorem match_fits (g s : List UInt8) : matchV g s = (checkV s && fitsV g s) := by
  unfold matchV fitsV
  cases hst : star g
  · simp only [Bool.false_eq_true, if_false]
    cases he : (g == s)
    · simp
    · have : g = s := by simpa using he
      subst this
      rw [glob_plain hst]; simp
  · simp only [if_true]
    cases globV g <;> cases checkV s <;> simp

end Go.Proofs.YtmeaajhongalaaaGreatDoor.Nm
