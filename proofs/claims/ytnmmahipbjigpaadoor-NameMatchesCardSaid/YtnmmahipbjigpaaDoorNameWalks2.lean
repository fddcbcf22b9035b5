/-
  LAYER 5, PACKAGE name: Check, Glob, Match, Weight.
-/
import Derived.Test.YtnmmahipbjigpaaDoorNameWalks
namespace Go.Proofs.YtnmmahipbjigpaaDoor.Nm
open Go.RowKit

def okU (l : List UInt8) : Bool := !scp l || plain (scopeV l)
theorem rest_lt {l : List UInt8} (h : scp l = true) : (restV l).length < l.length := by
  obtain ⟨h1, _, _⟩ := scp_split h
  unfold restV
  rw [if_pos h]
  have := congrArg List.length h1
  rw [List.length_cons, List.length_append, List.length_cons] at this
  omega
theorem scope_len (l : List UInt8) : (scopeV l).length ≤ l.length := by
  unfold scopeV
  split
  · have := fore_le 47 l; rw [List.length_drop]; omega
  · exact Nat.zero_le _
theorem rest_len (l : List UInt8) : (restV l).length ≤ l.length := by
  cases h : scp l
  · unfold restV; rw [h]; exact Nat.le_refl _
  · exact Nat.le_of_lt (rest_lt h)
theorem rest_no {l : List UInt8} (h : scp l = false) : restV l = l := by unfold restV; rw [h]; rfl
theorem rest_ne {l : List UInt8} (h : scp l = true) : (restV l == l) = false := by
  rw [beq_eq_false_iff_ne]
  intro e
  have := rest_lt h
  rw [e] at this; omega

theorem unscoped_any (l : List UInt8) (hs : l.length ≤ 140737488355328) (w : World) :
    Calls Tryd.prog 29 #[.string ⟨l.toArray⟩] w (Gives (.tuple #[.string ⟨(restV l).toArray⟩, .bool (okU l)]) w) := by
  have HC := fun w => hid (show Calls Tryd.prog 9 #[.string ⟨l.toArray⟩] w (Gives (.tuple #[.string ⟨(scopeV l).toArray⟩, .string ⟨(restV l).toArray⟩]) w) from split_any l hs w)
  cases h : scp l
  · have hr := rest_no h
    rw [hr] at HC ⊢
    have HV := hid (show okU l = true by unfold okU; rw [h]; rfl)
    generalize scopeV l = A at HC
    go_enter Tryd.func29, Tryd.ntmps29
    go_wp2_with (go_at_call 9; (with_reducible refine ((HC _).out).mono ?_); rintro e w' ⟨rfl, hb⟩)
    go_ret2
    exact gives rfl (by rw [HV.out]; rfl) hb
  · have hr := rest_ne h
    have HV := hid (show okU l = plain (scopeV l) by unfold okU; rw [h]; rfl)
    have HP := fun w => hid (plain_any (scopeV l) (by have := scope_len l; omega) w)
    generalize scopeV l = A at HC HP HV
    generalize restV l = B at HC hr ⊢
    generalize plain A = p at HP HV
    go_enter Tryd.func29, Tryd.ntmps29
    go_wp2_with (first | (go_at_call 9; (with_reducible refine ((HC _).out).mono ?_); rintro e w' ⟨rfl, hb⟩) | (go_at_call 11; (with_reducible refine ((HP _).out).mono ?_); rintro e w' ⟨rfl, hb2⟩))
    go_ret2
    exact gives rfl (by rw [HV.out]; rfl) (below_trans hb hb2)

theorem check_eq (l : List UInt8) : checkV l = (okU l && plain (restV l)) := by
  unfold checkV okU scopeV restV
  cases h : scp l <;> simp

theorem check_any (l : List UInt8) (hs : l.length ≤ 140737488355328) (w : World) :
    Calls Tryd.prog 13 #[.string ⟨l.toArray⟩] w (Gives (.bool (checkV l)) w) := by
  have HU := fun w => hid (unscoped_any l hs w)
  have HP := fun w => hid (plain_any (restV l) (by have := rest_len l; omega) w)
  have HV := hid (check_eq l)
  generalize restV l = B at HU HP HV
  generalize plain B = p at HP HV
  cases ho : okU l
  · rw [ho] at HU HV
    go_enter Tryd.func13, Tryd.ntmps13
    go_wp2_with (first | (go_at_call 29; (with_reducible refine ((HU _).out).mono ?_); rintro e w' ⟨rfl, hb⟩))
    go_ret
    exact gives rfl (bool_eq HV.out.symm) hb
  · rw [ho] at HU HV
    go_enter Tryd.func13, Tryd.ntmps13
    go_wp2_with (first | (go_at_call 29; (with_reducible refine ((HU _).out).mono ?_); rintro e w' ⟨rfl, hb⟩) | (go_at_call 11; (with_reducible refine ((HP _).out).mono ?_); rintro e w' ⟨rfl, hb2⟩))
    go_ret
    exact gives rfl (bool_eq (by rw [HV.out]; rfl)) (below_trans hb hb2)

theorem letters_opens (l : List UInt8) : letters l = (l.isEmpty || opensV l) := by
  unfold opensV
  cases l with
  | nil => rfl
  | cons x l => simp
theorem openG_eq (l : List UInt8) : openG l = (okU l && ((restV l).isEmpty || opensV (restV l))) := by
  rw [← letters_opens]
  unfold openG okU scopeV restV
  cases h : scp l <;> simp
theorem glob_star {l : List UInt8} (h : star l = true) : globV l = (okU l.dropLast && ((restV l.dropLast).isEmpty || opensV (restV l.dropLast))) := by
  unfold globV; rw [h, if_pos rfl, openG_eq]
theorem glob_plain {l : List UInt8} (h : star l = false) : globV l = checkV l := by
  unfold globV; rw [h]; rfl

theorem cutStar (l : List UInt8) (hs : l.length ≤ 140737488355328) (w : World) :
    Calls Tryd.prog 31 #[.string ⟨l.toArray⟩, .string ⟨#[42]⟩] w (Gives (.tuple #[.string ⟨(if star l then l.dropLast else l).toArray⟩, .bool (star l)]) w) := cutSuf_one l hs 42 w

set_option maxHeartbeats 1000000 in
theorem glob_any (l : List UInt8) (hs : l.length ≤ 140737488355328) (w : World) :
    Calls Tryd.prog 15 #[.string ⟨l.toArray⟩] w (Gives (.bool (globV l)) w) := by
  have HC := fun w => hid (cutStar l hs w)
  cases hst : star l
  · rw [hst] at HC
    simp only [Bool.false_eq_true, if_false] at HC
    have HK := fun w => hid (check_any l hs w)
    have HV := hid (glob_plain hst)
    generalize checkV l = c at HK HV
    go_enter Tryd.func15, Tryd.ntmps15
    go_wp2_with (first | (go_at_call 31; (with_reducible refine ((HC _).out).mono ?_); rintro e w' ⟨rfl, hb⟩) | (go_at_call 13; (with_reducible refine ((HK _).out).mono ?_); rintro e w' ⟨rfl, hb2⟩))
    go_ret
    exact gives rfl (bool_eq HV.out.symm) (below_trans hb hb2)
  · rw [hst] at HC
    simp only [if_true] at HC
    have hdl : l.dropLast.length ≤ 140737488355328 := by rw [List.length_dropLast]; omega
    have HV := hid (glob_star hst)
    generalize l.dropLast = d at HC HV hdl
    have HU := fun w => hid (unscoped_any d hdl w)
    have HO := fun w => hid (opens_list (restV d) (by have := rest_len d; omega) w)
    generalize restV d = B at HU HO HV
    generalize opensV B = o at HO HV
    cases ho : okU d
    · rw [ho] at HU HV
      go_enter Tryd.func15, Tryd.ntmps15
      go_wp2_with (first | (go_at_call 31; (with_reducible refine ((HC _).out).mono ?_); rintro e w' ⟨rfl, hb⟩) | (go_at_call 29; (with_reducible refine ((HU _).out).mono ?_); rintro e w' ⟨rfl, hb2⟩))
      go_ret
      exact gives rfl (bool_eq HV.out.symm) (below_trans hb hb2)
    · rw [ho] at HU HV
      cases he : B.isEmpty
      · rw [he] at HV
        go_enter Tryd.func15, Tryd.ntmps15
        go_wp2_with (first | (go_at_call 31; (with_reducible refine ((HC _).out).mono ?_); rintro e w' ⟨rfl, hb⟩) | (go_at_call 29; (with_reducible refine ((HU _).out).mono ?_); rintro e w' ⟨rfl, hb2⟩) | (go_at_call 26; (with_reducible refine ((HO _).out).mono ?_); rintro e w' ⟨rfl, hb3⟩))
        go_ret
        exact gives rfl (bool_eq (by rw [HV.out]; rfl)) (below_trans (below_trans hb hb2) hb3)
      · rw [he] at HV
        go_enter Tryd.func15, Tryd.ntmps15
        go_wp2_with (first | (go_at_call 31; (with_reducible refine ((HC _).out).mono ?_); rintro e w' ⟨rfl, hb⟩) | (go_at_call 29; (with_reducible refine ((HU _).out).mono ?_); rintro e w' ⟨rfl, hb2⟩) | (go_at_call 26; (with_reducible refine ((HO _).out).mono ?_); rintro e w' ⟨rfl, hb3⟩))
        go_ret
        exact gives rfl (bool_eq (by rw [HV.out]; rfl)) (below_trans hb hb2)

def fitsV (g s : List UInt8) : Bool := if star g then globV g && g.dropLast.isPrefixOf s else g == s
theorem match_fits (g s : List UInt8) : matchV g s = (checkV s && fitsV g s) := by
  unfold matchV fitsV
  cases hst : star g
  · simp only [Bool.false_eq_true, if_false]
    cases he : (g == s)
    · simp
    · have : g = s := by simpa using he
      subst this
      rw [glob_plain hst]; simp
  · simp only [if_true]
    cases globV g <;> cases checkV s <;> simp

set_option maxHeartbeats 1000000 in
theorem fits_any (g s : List UInt8) (hg : g.length ≤ 140737488355328) (w : World) :
    Calls Tryd.prog 33 #[.string ⟨g.toArray⟩, .string ⟨s.toArray⟩] w (Gives (.bool (fitsV g s)) w) := by
  have HC := fun w => hid (cutStar g hg w)
  cases hst : star g
  · rw [hst] at HC
    simp only [Bool.false_eq_true, if_false] at HC
    have HV := hid (show fitsV g s = (g == s) by unfold fitsV; rw [hst]; rfl)
    go_enter Tryd.func33, Tryd.ntmps33
    go_wp2_with (first | (go_at_call 31; (with_reducible refine ((HC _).out).mono ?_); rintro e w' ⟨rfl, hb⟩))
    go_ret
    exact gives rfl (bool_eq HV.out.symm) hb
  · rw [hst] at HC
    simp only [if_true] at HC
    have HV := hid (show fitsV g s = (globV g && g.dropLast.isPrefixOf s) by unfold fitsV; rw [hst]; rfl)
    have HG := fun w => hid (glob_any g hg w)
    generalize g.dropLast = d at HC HV
    have HP := fun w => hid (hasPre_any s d w)
    generalize d.isPrefixOf s = p at HP HV
    cases hq : globV g
    · rw [hq] at HG HV
      go_enter Tryd.func33, Tryd.ntmps33
      go_wp2_with (first | (go_at_call 31; (with_reducible refine ((HC _).out).mono ?_); rintro e w' ⟨rfl, hb⟩) | (go_at_call 15; (with_reducible refine ((HG _).out).mono ?_); rintro e w' ⟨rfl, hb2⟩))
      go_ret
      exact gives rfl (bool_eq HV.out.symm) (below_trans hb hb2)
    · rw [hq] at HG HV
      go_enter Tryd.func33, Tryd.ntmps33
      go_wp2_with (first | (go_at_call 31; (with_reducible refine ((HC _).out).mono ?_); rintro e w' ⟨rfl, hb⟩) | (go_at_call 15; (with_reducible refine ((HG _).out).mono ?_); rintro e w' ⟨rfl, hb2⟩) | (go_at_call 39; (with_reducible refine ((HP _).out).mono ?_); rintro e w' ⟨rfl, hb3⟩))
      go_ret
      exact gives rfl (bool_eq (by rw [HV.out]; rfl)) (below_trans (below_trans hb hb2) hb3)

theorem match_any (g s : List UInt8) (hg : g.length ≤ 140737488355328) (hs : s.length ≤ 140737488355328) (w : World) :
    Calls Tryd.prog 17 #[.string ⟨g.toArray⟩, .string ⟨s.toArray⟩] w (Gives (.bool (matchV g s)) w) := by
  have HK := fun w => hid (check_any s hs w)
  have HF := fun w => hid (fits_any g s hg w)
  have HV := hid (match_fits g s)
  generalize fitsV g s = f at HF HV
  cases hc : checkV s
  · rw [hc] at HK HV
    go_enter Tryd.func17, Tryd.ntmps17
    go_wp2_with (first | (go_at_call 13; (with_reducible refine ((HK _).out).mono ?_); rintro e w' ⟨rfl, hb⟩))
    go_ret
    exact gives rfl (bool_eq HV.out.symm) hb
  · rw [hc] at HK HV
    go_enter Tryd.func17, Tryd.ntmps17
    go_wp2_with (first | (go_at_call 13; (with_reducible refine ((HK _).out).mono ?_); rintro e w' ⟨rfl, hb⟩) | (go_at_call 33; (with_reducible refine ((HF _).out).mono ?_); rintro e w' ⟨rfl, hb2⟩))
    go_ret
    exact gives rfl (bool_eq (by rw [HV.out]; rfl)) (below_trans hb hb2)

theorem weight_any (g : List UInt8) (hg : g.length ≤ 140737488355328) (w : World) :
    Calls Tryd.prog 19 #[.string ⟨g.toArray⟩] w (Gives (.int .i64 (weightV g)) w) := by
  have HG := fun w => hid (glob_any g hg w)
  have HC := fun w => hid (cutStar g hg w)
  cases hq : globV g
  · rw [hq] at HG
    have HV := hid (show weightV g = -1 by unfold weightV; rw [hq]; rfl)
    go_enter Tryd.func19, Tryd.ntmps19
    go_wp2_with (first | (go_at_call 15; (with_reducible refine ((HG _).out).mono ?_); rintro e w' ⟨rfl, hb⟩))
    go_ret
    exact gives rfl (int_eq HV.out.symm) hb
  · rw [hq] at HG
    cases hst : star g
    · rw [hst] at HC
      simp only [Bool.false_eq_true, if_false] at HC
      have HV := hid (show weightV g = 2 * (g.length : Int) + 1 by unfold weightV; rw [hq, hst]; rfl)
      go_enter Tryd.func19, Tryd.ntmps19
      go_wp2_with (first | (go_at_call 15; (with_reducible refine ((HG _).out).mono ?_); rintro e w' ⟨rfl, hb⟩) | (go_at_call 31; (with_reducible refine ((HC _).out).mono ?_); rintro e w' ⟨rfl, hb2⟩))
      go_ret
      exact gives rfl (int_eq (by rw [HV.out])) (below_trans hb hb2)
    · rw [hst] at HC
      simp only [if_true] at HC
      have hdl := hid (show weightV g = 2 * (g.dropLast.length : Int) by
        have e := congrArg List.length (getLast_split hst)
        rw [List.length_append] at e
        simp only [List.length_cons, List.length_nil] at e
        unfold weightV; rw [hq, hst]; simp only [if_true]; omega)
      have hdb : g.dropLast.length ≤ 140737488355328 := by rw [List.length_dropLast]; omega
      generalize g.dropLast = d at HC hdl hdb
      go_enter Tryd.func19, Tryd.ntmps19
      go_wp2_with (first | (go_at_call 15; (with_reducible refine ((HG _).out).mono ?_); rintro e w' ⟨rfl, hb⟩) | (go_at_call 31; (with_reducible refine ((HC _).out).mono ?_); rintro e w' ⟨rfl, hb2⟩))
      go_ret
      exact gives rfl (int_eq (by rw [hdl.out])) (below_trans hb hb2)
end Go.Proofs.YtnmmahipbjigpaaDoor.Nm
