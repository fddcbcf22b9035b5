/-
  LAYER 5, THE DOCUMENT's ANSWERS: what fits, how much a pattern says.
-/
import Derived.Test.YtnmmahipbjigpaaDoorNameRef2
namespace Go.Proofs.YtnmmahipbjigpaaDoor.Nm
open Go.RowKit

theorem rglob (l : List UInt8) (hs : l.length ≤ 140737488355328) (w : World) :
    Calls Tryd.prog 16 #[.string ⟨l.toArray⟩] w (GivesQ (.bool (globV l)) w) :=
  refGlob_any ⟨l.toArray⟩ (by show l.toArray.size ≤ _; simpa using hs) w
theorem rstar (l : List UInt8) (hs : l.length ≤ 140737488355328) (w : World) :
    Calls Tryd.prog 32 #[.string ⟨l.toArray⟩] w fun e w' => e = .returned (.bool (star l)) ∧ w = w' :=
  refStar_any ⟨l.toArray⟩ (by show l.toArray.size ≤ _; simpa using hs) w
theorem rsplit (l : List UInt8) (hs : l.length ≤ 140737488355328) (w : World) :
    Calls Tryd.prog 10 #[.string ⟨l.toArray⟩] w (GivesQ (splitV l) w) :=
  refSplit_any ⟨l.toArray⟩ (by show l.toArray.size ≤ _; simpa using hs) w

theorem take_ext (l : List UInt8) (n : Nat) : (⟨l.toArray⟩ : ByteArray).extract 0 n = ⟨(l.take n).toArray⟩ := by
  rw [extract_eq]; simp
theorem pre_take (p s : List UInt8) : p.isPrefixOf s = (decide (p.length ≤ s.length) && (s.take p.length == p)) := by
  rw [Bool.eq_iff_iff, List.isPrefixOf_iff_prefix, List.prefix_iff_eq_take]
  simp only [Bool.and_eq_true, decide_eq_true_eq, beq_iff_eq]
  constructor
  · intro h
    refine ⟨?_, h.symm⟩
    rw [h, List.length_take]; omega
  · rintro ⟨_, h⟩; exact h.symm

set_option maxHeartbeats 1000000 in
theorem rmatch (g s : List UInt8) (hg : g.length ≤ 140737488355328) (hs : s.length ≤ 140737488355328) (w : World) :
    Calls Tryd.prog 18 #[.string ⟨g.toArray⟩, .string ⟨s.toArray⟩] w (GivesQ (.bool (matchV g s)) w) := by
  have HG := fun w => hid (rglob g hg w)
  cases hg1 : globV g
  · have HV := hid (show matchV g s = false by unfold matchV; rw [hg1]; rfl)
    rw [hg1] at HG
    clear hg1
    go_enter Tryd.func18, Tryd.ntmps18
    go_wp2_with (first | (go_at_call 16; (with_reducible refine ((HG _).out).mono ?_); rintro e w' ⟨rfl, hb⟩))
    go_ret
    exact givesQ rfl (bool_eq HV.out.symm) hb
  have HC := fun w => hid (rcheck s hs w)
  rw [hg1] at HG
  cases hc1 : checkV s
  · have HV := hid (show matchV g s = false by unfold matchV; rw [hc1, Bool.and_false]; rfl)
    rw [hc1] at HC
    clear hc1 hg1
    go_enter Tryd.func18, Tryd.ntmps18
    go_wp2_with (first | (go_at_call 16; (with_reducible refine ((HG _).out).mono ?_); rintro e w' ⟨rfl, hb⟩) | (go_at_call 14; (with_reducible refine ((HC _).out).mono ?_); rintro e w' ⟨rfl, hb2⟩))
    go_ret
    exact givesQ rfl (bool_eq HV.out.symm) (Qt.trans hb hb2)
  have HT := fun w => hid (rstar g hg w)
  rw [hc1] at HC
  cases hst : star g
  · have HV := hid (show matchV g s = (g == s) by unfold matchV; rw [hg1, hc1, hst]; rfl)
    rw [hst] at HT
    clear hc1 hg1 hst
    go_enter Tryd.func18, Tryd.ntmps18
    go_wp2_with (first | (go_at_call 16; (with_reducible refine ((HG _).out).mono ?_); rintro e w' ⟨rfl, hb⟩) | (go_at_call 14; (with_reducible refine ((HC _).out).mono ?_); rintro e w' ⟨rfl, hb2⟩) | (go_at_call 32; (with_reducible refine ((HT _).out).mono ?_); rintro e w' ⟨rfl, rfl⟩))
    go_ret
    exact givesQ rfl (bool_eq HV.out.symm) (Qt.trans hb hb2)
  · have e := congrArg List.length (getLast_split hst)
    rw [List.length_append] at e
    simp only [List.length_cons, List.length_nil] at e
    have HV := hid (show matchV g s = (decide (g.dropLast.length ≤ s.length) && (s.take g.dropLast.length == g.dropLast)) by unfold matchV; rw [hg1, hc1, hst, if_pos rfl, pre_take]; rfl)
    have hd : g.dropLast = g.take g.dropLast.length := by rw [List.dropLast_eq_take]; simp
    rw [hst] at HT
    generalize hn : g.dropLast.length = n at *
    rw [hd] at HV
    have x1 := take_ext g n
    have x2 := take_ext s n
    have hgl : (g.length : Int) - 1 = (n : Int) := by omega
    have hnl : n ≤ g.length := by omega
    clear hc1 hg1 hst e hd hn
    by_cases hns : (n : Int) ≤ (s.length : Int)
    · have HV' := hid (show matchV g s = (s.take n == g.take n) by rw [HV.out, decide_eq_true (by omega)]; rfl)
      generalize g.take n = A at *
      generalize s.take n = B at *
      go_enter Tryd.func18, Tryd.ntmps18
      go_wp2_with (first | (go_at_call 16; (with_reducible refine ((HG _).out).mono ?_); rintro e w' ⟨rfl, hb⟩) | (go_at_call 14; (with_reducible refine ((HC _).out).mono ?_); rintro e w' ⟨rfl, hb2⟩) | (go_at_call 32; (with_reducible refine ((HT _).out).mono ?_); rintro e w' ⟨rfl, rfl⟩))
      go_quiet (fail)
      go_wp2
      go_ret
      exact givesQ rfl (bool_eq HV'.out.symm) (Qt.drew (Qt.trans hb hb2) _)
    · have HV' := hid (show matchV g s = false by rw [HV.out, decide_eq_false (by omega)]; rfl)
      have hnd : decide (n ≤ s.length) = false := decide_eq_false (by omega)
      go_enter Tryd.func18, Tryd.ntmps18
      go_wp2_with (first | (go_at_call 16; (with_reducible refine ((HG _).out).mono ?_); rintro e w' ⟨rfl, hb⟩) | (go_at_call 14; (with_reducible refine ((HC _).out).mono ?_); rintro e w' ⟨rfl, hb2⟩) | (go_at_call 32; (with_reducible refine ((HT _).out).mono ?_); rintro e w' ⟨rfl, rfl⟩))
      go_quiet (fail)
      go_wp2
      go_ret
      exact givesQ rfl (bool_eq HV'.out.symm) (Qt.drew (Qt.trans hb hb2) _)

theorem rweight (g : List UInt8) (hg : g.length ≤ 140737488355328) (w : World) :
    Calls Tryd.prog 20 #[.string ⟨g.toArray⟩] w (GivesQ (.int .i64 (weightV g)) w) := by
  have HG := fun w => hid (rglob g hg w)
  have HT := fun w => hid (rstar g hg w)
  cases hq : globV g
  · rw [hq] at HG
    have HV := hid (show weightV g = -1 by unfold weightV; rw [hq]; rfl)
    go_enter Tryd.func20, Tryd.ntmps20
    go_wp2_with (first | (go_at_call 16; (with_reducible refine ((HG _).out).mono ?_); rintro e w' ⟨rfl, hb⟩))
    go_ret
    exact givesQ rfl (int_eq HV.out.symm) hb
  · rw [hq] at HG
    cases hst : star g
    · rw [hst] at HT
      have HV := hid (show weightV g = 2 * (g.length : Int) + 1 by unfold weightV; rw [hq, hst]; rfl)
      go_enter Tryd.func20, Tryd.ntmps20
      go_wp2_with (first | (go_at_call 16; (with_reducible refine ((HG _).out).mono ?_); rintro e w' ⟨rfl, hb⟩) | (go_at_call 32; (with_reducible refine ((HT _).out).mono ?_); rintro e w' ⟨rfl, rfl⟩))
      go_ret
      exact givesQ rfl (int_eq (by rw [HV.out])) hb
    · rw [hst] at HT
      have HV := hid (show weightV g = 2 * ((g.length : Int) - 1) by unfold weightV; rw [hq, hst]; rfl)
      go_enter Tryd.func20, Tryd.ntmps20
      go_wp2_with (first | (go_at_call 16; (with_reducible refine ((HG _).out).mono ?_); rintro e w' ⟨rfl, hb⟩) | (go_at_call 32; (with_reducible refine ((HT _).out).mono ?_); rintro e w' ⟨rfl, rfl⟩))
      go_ret
      exact givesQ rfl (int_eq (by rw [HV.out])) hb
end Go.Proofs.YtnmmahipbjigpaaDoor.Nm
