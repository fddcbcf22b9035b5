/-
  LAYER 5, THE DOCUMENT's ANSWERS: names, patterns, what fits, how much that says.
-/
import Derived.Test.YtafnohojnjpfcaaGreatDoorNameRef
namespace Go.Proofs.YtafnohojnjpfcaaGreatDoor.Nm
open Go.RowKit

theorem listS (s : ByteArray) (hs : s.size ≤ 140737488355328) : s.data.toList.length ≤ 140737488355328 := by simpa using hs

set_option maxHeartbeats 1000000 in
theorem stroke_any (s : ByteArray) (hs : s.size ≤ 140737488355328) (w : World) :
    Calls Tryz.prog 131 #[.string s] w fun e w' => e = .returned (.int .i64 ((fore 47 s.data.toList).length : Nat)) ∧ w = w' := by
  have hlen := hid (show s.data.toList.length = s.size by simp)
  have HR := hid (show run (· != 47) s.data.toList 0 = (fore 47 s.data.toList).length from run_fore 47 s.data.toList)
  generalize (fore 47 s.data.toList).length = R at HR ⊢
  go_enter Tryz.func131, Tryz.ntmps131
  go_wp2_with fail
  go_loop [3] (fun v => ∃ k : Nat, k ≤ s.size ∧ v = .int .i64 k ∧ Hid (run (· != 47) s.data.toList 0 = k + run (· != 47) s.data.toList k)) (fun v => s.size - (intOf v).toNat)
  case atStart => exact ⟨0, by omega, rfl, hid (by simp)⟩
  case round =>
    obtain ⟨k, hk, rfl, hkr⟩ := hrel
    by_cases hlt : k < s.size
    · have hb := hid (byte_at s k hlt)
      have hcc : (s[k].toNat : Int) ≤ 255 := by have := s[k].toNat_lt; omega
      by_cases h1 : (s[k].toNat : Int) = 47
      · have h1' : ((s[k].toNat : Int) == 47) = true := by rw [h1]; rfl
        have hr := hid (run_no (p := (· != 47)) hb.out (by simp [← UInt8.toNat_inj]; omega))
        clear h1 hb
        go_wp2_with fail
        go_ret
        exact ⟨ret_int (by rw [← HR.out, hkr.out, hr.out]; rfl), rfl⟩
      · have h1' : ((s[k].toNat : Int) == 47) = false := by rw [beq_eq_false_iff_ne]; exact h1
        have hr := hid (run_yes (p := (· != 47)) hb.out (by simp [← UInt8.toNat_inj]; omega))
        clear h1 hb
        go_wp2_with fail
        go_round
        case rel => exact ⟨k + 1, by omega, by go_num, hid (by rw [hkr.out, hr.out]; omega)⟩
        case measure => simp [intOf]; omega
    · have hr := hid (run_end (p := (· != 47)) (l := s.data.toList) (a := k) (by rw [hlen.out]; omega))
      go_wp2_with fail
      go_ret
      exact ⟨ret_int (by rw [← HR.out, hkr.out, hr.out]; omega), rfl⟩

/-- what @ and a stroke come to, byte by byte -/
theorem head_at (s : ByteArray) (hz : 0 < s.size) : (s.data.toList.head? == some 64) = ((s[0].toNat : Int) == 64) := by
  rw [List.head?_eq_getElem?, byte_at s 0 hz, Bool.eq_iff_iff]
  simp [← UInt8.toNat_inj]; omega
theorem scp_no1 {s : ByteArray} (h : (fore 47 s.data.toList).length = s.size) : scp s.data.toList = false := by
  unfold scp; rw [decide_eq_false (by simp; omega)]; simp
theorem scp_no2 {s : ByteArray} (hz : 0 < s.size) (h : ((s[0].toNat : Int) == 64) = false) : scp s.data.toList = false := by
  unfold scp; rw [head_at s hz, h]; rfl
theorem scp_yes {s : ByteArray} (hn : (fore 47 s.data.toList).length < s.size) (h : ((s[0].toNat : Int) == 64) = true) : scp s.data.toList = true := by
  unfold scp; rw [head_at s (by omega), h, decide_eq_true (by simpa using hn)]; rfl
theorem scope_ext {s : ByteArray} (h : scp s.data.toList = true) : s.extract 1 (fore 47 s.data.toList).length = ⟨(scopeV s.data.toList).toArray⟩ ∧ 1 ≤ (fore 47 s.data.toList).length := by
  obtain ⟨h1, _, h3⟩ := scp_split h
  constructor
  · rw [extract_eq]
    unfold scopeV
    rw [if_pos h]
    congr 2
    have : (s.data.toList.drop 1).take ((fore 47 s.data.toList).length - 1) = ((s.data.toList.take (fore 47 s.data.toList).length).drop 1) := by rw [List.drop_take]
    rw [this]
    congr 1
    exact Cb.fore_take 47 _
  · rw [← h3]; simp
theorem rest_ext {s : ByteArray} (h : scp s.data.toList = true) : s.extract ((fore 47 s.data.toList).length + 1) s.size = ⟨(restV s.data.toList).toArray⟩ := by
  rw [extract_eq]
  unfold restV
  rw [if_pos h]
  have e : s.data.toList.drop ((fore 47 s.data.toList).length + 1) = aft 47 s.data.toList := Cb.aft_drop 47 s.data.toList
  rw [e, List.take_of_length_le]
  rw [← e, List.length_drop]; simp

def scpd (l : List UInt8) : Bool := scp l && plain (scopeV l)
theorem check_ref (l : List UInt8) : checkV l = if scpd l then plain (restV l) else plain l := by
  unfold checkV scpd scopeV restV
  cases h : scp l
  · simp
  · simp only [if_true, Bool.true_and]
    cases hp : plain ((fore 47 l).drop 1)
    · have hh : l.head? = some 64 := by unfold scp at h; simp only [Bool.and_eq_true] at h; simpa using h.1
      simp [plain_of (head64_plain hh)]
    · simp
theorem open_ref (l : List UInt8) : openG l = if scpd l then letters (restV l) else letters l := by
  unfold openG scpd scopeV restV
  cases h : scp l
  · simp
  · simp only [if_true, Bool.true_and]
    cases hp : plain ((fore 47 l).drop 1)
    · have hh : l.head? = some 64 := by unfold scp at h; simp only [Bool.and_eq_true] at h; simpa using h.1
      simp [head64_plain hh]
    · simp

theorem refLetters_s (s : ByteArray) (hs : s.size ≤ 140737488355328) (w : World) :
    Calls Tryz.prog 129 #[.string s] w (GivesQ (.bool (letters s.data.toList)) w) := refLetters_any s (by unfold maxLen; omega) w
theorem last_at (s : ByteArray) (c : UInt8) (hj : s.size - 1 < s.size) : lastIs c s.data.toList = ((s[s.size - 1].toNat : Int) == (c.toNat : Int)) := by
  have e : s.data.toList.getLast? = some s[s.size - 1] := by
    rw [List.getLast?_eq_getElem?]
    have := byte_at s (s.size - 1) hj
    rw [← this]; simp
  unfold lastIs
  rw [e, Bool.eq_iff_iff]
  simp [← UInt8.toNat_inj]; omega
theorem last_none {s : ByteArray} (c : UInt8) (hz : s.size = 0) : lastIs c s.data.toList = false := by
  have : s.data.toList = [] := List.eq_nil_of_length_eq_zero (by simpa using hz)
  rw [this]; rfl

set_option maxHeartbeats 1000000 in
theorem refPlain_any (s : ByteArray) (hs : s.size ≤ 140737488355328) (w : World) :
    Calls Tryz.prog 71 #[.string s] w (GivesQ (.bool (plain s.data.toList)) w) := by
  have HL := fun w => hid (refLetters_s s hs w)
  by_cases h0 : s.size = 0
  · have HV := hid (show plain s.data.toList = false by
      rw [List.eq_nil_of_length_eq_zero (by simpa using h0 : s.data.toList.length = 0)]; rfl)
    have h0' : (s.size : Int) ≤ 0 := by omega
    clear h0
    go_enter Tryz.func71, Tryz.ntmps71
    go_wp2_with (first | (go_at_call 129; (with_reducible refine ((HL _).out).mono ?_); rintro e w' ⟨rfl, hb⟩))
    go_ret
    exact givesQ rfl (bool_eq HV.out.symm) (Qt.refl _)
  · have hz : 0 < s.size := by omega
    have hj : s.size - 1 < s.size := by omega
    have hjI : (s.size : Int) - 1 = ((s.size - 1 : Nat) : Int) := by omega
    have hl := last_at s 45 hj
    have hcc : (s[s.size - 1].toNat : Int) ≤ 255 := by have := s[s.size - 1].toNat_lt; omega
    have hne : s.data.toList.isEmpty = false := by
      cases h : s.data.toList with
      | nil => have := congrArg List.length h; simp at this; exact absurd this (by rintro rfl; exact h0 rfl)
      | cons _ _ => rfl
    have HV := hid (show plain s.data.toList = (letters s.data.toList && !((s[s.size - 1].toNat : Int) == 45)) by
      unfold plain; rw [hl, hne]; rfl)
    clear hl hne
    cases hlt : letters s.data.toList
    · rw [hlt] at HL HV
      clear hlt
      go_enter Tryz.func71, Tryz.ntmps71
      go_wp2_with (first | (go_at_call 129; (with_reducible refine ((HL _).out).mono ?_); rintro e w' ⟨rfl, hb⟩))
      go_ret
      exact givesQ rfl (bool_eq HV.out.symm) hb
    · rw [hlt] at HL HV
      clear hlt
      generalize hn : s.size - 1 = n at *
      have HN := hid hn
      clear hn
      have hjI' := hid hjI
      go_enter Tryz.func71, Tryz.ntmps71
      go_wp2_with (first | (go_at_call 129; (with_reducible refine ((HL _).out).mono ?_); rintro e w' ⟨rfl, hb⟩))
      go_ret
      exact givesQ rfl (bool_eq (by rw [HV.out]; rfl)) hb
theorem rplain (l : List UInt8) (hs : l.length ≤ 140737488355328) (w : World) :
    Calls Tryz.prog 71 #[.string ⟨l.toArray⟩] w (GivesQ (.bool (plain l)) w) :=
  refPlain_any ⟨l.toArray⟩ (by show l.toArray.size ≤ _; simpa using hs) w

theorem lenS (s : ByteArray) : s.data.toList.length = s.size := by simp

set_option maxHeartbeats 1000000 in
theorem refScoped_any (s : ByteArray) (hs : s.size ≤ 140737488355328) (w : World) :
    Calls Tryz.prog 130 #[.string s] w (GivesQ (.bool (scpd s.data.toList)) w) := by
  have HS := fun w => hid (stroke_any s hs w)
  have hle : (fore 47 s.data.toList).length ≤ s.size := by have := fore_le 47 s.data.toList; simpa using this
  by_cases hn : (fore 47 s.data.toList).length = s.size
  · have HV := hid (show scpd s.data.toList = false by unfold scpd; rw [scp_no1 hn]; rfl)
    have hn' : ¬ ((fore 47 s.data.toList).length : Int) < (s.size : Int) := by omega
    generalize (fore 47 s.data.toList).length = R at HS hn' hle
    clear hn
    go_enter Tryz.func130, Tryz.ntmps130
    go_wp2_with (go_at_call 131; (with_reducible refine ((HS _).out).mono ?_); rintro e w' ⟨rfl, rfl⟩)
    go_ret
    exact givesQ rfl (bool_eq HV.out.symm) (Qt.refl _)
  · have hz : 0 < s.size := by omega
    have hcc : (s[0].toNat : Int) ≤ 255 := by have := s[0].toNat_lt; omega
    have hn' : ((fore 47 s.data.toList).length : Int) < (s.size : Int) := by omega
    cases h64 : ((s[0].toNat : Int) == 64)
    · have HV := hid (show scpd s.data.toList = false by unfold scpd; rw [scp_no2 hz h64]; rfl)
      generalize (fore 47 s.data.toList).length = R at HS hn' hle hn
      clear hn
      go_enter Tryz.func130, Tryz.ntmps130
      go_wp2_with (go_at_call 131; (with_reducible refine ((HS _).out).mono ?_); rintro e w' ⟨rfl, rfl⟩)
      go_ret
      exact givesQ rfl (bool_eq HV.out.symm) (Qt.refl _)
    · have hsc := scp_yes (by omega) h64
      obtain ⟨x1, x0⟩ := scope_ext hsc
      have HV := hid (show scpd s.data.toList = plain (scopeV s.data.toList) by unfold scpd; rw [hsc]; rfl)
      have HP := fun w => hid (rplain (scopeV s.data.toList) (by have := scope_len s.data.toList; have := lenS s; omega) w)
      generalize (fore 47 s.data.toList).length = R at HS hn' hle hn x0 x1
      generalize scopeV s.data.toList = A at x1 HV HP
      generalize plain A = p at HV HP
      clear hsc hn
      go_enter Tryz.func130, Tryz.ntmps130
      go_wp2_with (first | (go_at_call 131; (with_reducible refine ((HS _).out).mono ?_); rintro e w' ⟨rfl, rfl⟩) | (go_at_call 71; (with_reducible refine ((HP _).out).mono ?_); rintro e w' ⟨rfl, hb⟩))
      go_ret
      exact givesQ rfl (bool_eq HV.out.symm) hb

theorem stroke_lt {s : ByteArray} (h : scpd s.data.toList = true) : (fore 47 s.data.toList).length < s.size ∧ scp s.data.toList = true := by
  unfold scpd at h
  simp only [Bool.and_eq_true] at h
  have h1 := h.1
  unfold scp at h1
  simp only [Bool.and_eq_true, decide_eq_true_eq] at h1
  exact ⟨by have := lenS s; omega, h.1⟩

set_option maxHeartbeats 1000000 in
theorem refCheck_any (s : ByteArray) (hs : s.size ≤ 140737488355328) (w : World) :
    Calls Tryz.prog 72 #[.string s] w (GivesQ (.bool (checkV s.data.toList)) w) := by
  have HC := fun w => hid (refScoped_any s hs w)
  have HV := hid (check_ref s.data.toList)
  cases hsc : scpd s.data.toList
  · rw [hsc] at HC HV
    have HP := fun w => hid (refPlain_any s hs w)
    simp only [Bool.false_eq_true, if_false] at HV
    generalize plain s.data.toList = p at HV HP
    clear hsc
    go_enter Tryz.func72, Tryz.ntmps72
    go_wp2_with (first | (go_at_call 130; (with_reducible refine ((HC _).out).mono ?_); rintro e w' ⟨rfl, hb1⟩) | (go_at_call 71; (with_reducible refine ((HP _).out).mono ?_); rintro e w' ⟨rfl, hb⟩))
    go_ret
    exact givesQ rfl (bool_eq HV.out.symm) (Qt.trans hb1 hb)
  · rw [hsc] at HC HV
    obtain ⟨hlt, hs1⟩ := stroke_lt hsc
    have HS := fun w => hid (stroke_any s hs w)
    have x2 := rest_ext hs1
    simp only [if_true] at HV
    have HP := fun w => hid (rplain (restV s.data.toList) (by have := rest_len s.data.toList; have := lenS s; omega) w)
    generalize (fore 47 s.data.toList).length = R at HS hlt x2
    generalize restV s.data.toList = A at x2 HV HP
    generalize plain A = p at HV HP
    clear hsc hs1
    go_enter Tryz.func72, Tryz.ntmps72
    go_wp2_with (first | (go_at_call 131; (with_reducible refine ((HS _).out).mono ?_); rintro e w' ⟨rfl, rfl⟩) | (go_at_call 130; (with_reducible refine ((HC _).out).mono ?_); rintro e w' ⟨rfl, hb1⟩) | (go_at_call 71; (with_reducible refine ((HP _).out).mono ?_); rintro e w' ⟨rfl, hb⟩))
    go_ret
    exact givesQ rfl (bool_eq HV.out.symm) (Qt.trans hb1 hb)

theorem refStar_any (s : ByteArray) (hs : s.size ≤ 140737488355328) (w : World) :
    Calls Tryz.prog 136 #[.string s] w fun e w' => e = .returned (.bool (star s.data.toList)) ∧ w = w' := by
  by_cases h0 : s.size = 0
  · have HV := hid (show star s.data.toList = false from last_none 42 h0)
    have h0' : (s.size : Int) ≤ 0 := by omega
    clear h0
    go_enter Tryz.func136, Tryz.ntmps136
    go_wp2
    go_ret
    exact ⟨ret_bool HV.out.symm, rfl⟩
  · have hz : 0 < s.size := by omega
    have hj : s.size - 1 < s.size := by omega
    have hjI : (s.size : Int) - 1 = ((s.size - 1 : Nat) : Int) := by omega
    have HV := hid (show star s.data.toList = ((s[s.size - 1].toNat : Int) == 42) from last_at s 42 hj)
    have hcc : (s[s.size - 1].toNat : Int) ≤ 255 := by have := s[s.size - 1].toNat_lt; omega
    generalize hn : s.size - 1 = n at *
    have HN := hid hn
    clear hn
    go_enter Tryz.func136, Tryz.ntmps136
    go_wp2
    go_ret
    exact ⟨ret_bool HV.out.symm, rfl⟩

theorem rcheck (l : List UInt8) (hs : l.length ≤ 140737488355328) (w : World) :
    Calls Tryz.prog 72 #[.string ⟨l.toArray⟩] w (GivesQ (.bool (checkV l)) w) :=
  refCheck_any ⟨l.toArray⟩ (by show l.toArray.size ≤ _; simpa using hs) w
theorem rscoped (l : List UInt8) (hs : l.length ≤ 140737488355328) (w : World) :
    Calls Tryz.prog 130 #[.string ⟨l.toArray⟩] w (GivesQ (.bool (scpd l)) w) :=
  refScoped_any ⟨l.toArray⟩ (by show l.toArray.size ≤ _; simpa using hs) w
theorem rstroke (l : List UInt8) (hs : l.length ≤ 140737488355328) (w : World) :
    Calls Tryz.prog 131 #[.string ⟨l.toArray⟩] w fun e w' => e = .returned (.int .i64 ((fore 47 l).length : Nat)) ∧ w = w' :=
  stroke_any ⟨l.toArray⟩ (by show l.toArray.size ≤ _; simpa using hs) w
theorem drop_ext {s : ByteArray} : s.extract 0 (s.size - 1) = ⟨s.data.toList.dropLast.toArray⟩ := by
  rw [extract_eq, List.dropLast_eq_take]; simp
theorem rest_ext' {l : List UInt8} (h : scp l = true) : (⟨l.toArray⟩ : ByteArray).extract ((fore 47 l).length + 1) l.length = ⟨(restV l).toArray⟩ := by
  have h2 := rest_ext (s := ⟨l.toArray⟩) h
  rw [show (⟨l.toArray⟩ : ByteArray).size = l.length from (by show l.toArray.size = _; simp)] at h2
  exact h2

set_option maxHeartbeats 1000000 in
theorem refGlob_any (s : ByteArray) (hs : s.size ≤ 140737488355328) (w : World) :
    Calls Tryz.prog 77 #[.string s] w (GivesQ (.bool (globV s.data.toList)) w) := by
  have HT := fun w => hid (refStar_any s hs w)
  cases hst : star s.data.toList
  · have HV := hid (glob_plain hst)
    rw [hst] at HT
    have HC := fun w => hid (refCheck_any s hs w)
    generalize checkV s.data.toList = c at HV HC
    clear hst
    go_enter Tryz.func77, Tryz.ntmps77
    go_wp2_with (first | (go_at_call 136; (with_reducible refine ((HT _).out).mono ?_); rintro e w' ⟨rfl, rfl⟩) | (go_at_call 72; (with_reducible refine ((HC _).out).mono ?_); rintro e w' ⟨rfl, hb⟩))
    go_ret
    exact givesQ rfl (bool_eq HV.out.symm) hb
  · have hz : 0 < s.size := by
      rcases Nat.eq_zero_or_pos s.size with h | h
      · have := last_none 42 h; unfold star at hst; rw [hst] at this; cases this
      · exact h
    have HV := hid (show globV s.data.toList = (if scpd s.data.toList.dropLast then letters (restV s.data.toList.dropLast) else letters s.data.toList.dropLast) by
      unfold globV; rw [hst, if_pos rfl, open_ref])
    have hjI : (s.size : Int) - 1 = ((s.size - 1 : Nat) : Int) := by omega
    have x1 := drop_ext (s := s)
    have hdl : s.data.toList.dropLast.length ≤ 140737488355328 := by rw [List.length_dropLast]; have := lenS s; omega
    have hj : s.size - 1 ≤ s.size := by omega
    rw [hst] at HT
    generalize s.data.toList.dropLast = d at HV x1 hdl
    generalize hn : s.size - 1 = n at *
    have HN := hid hn
    clear hn
    have HC := fun w => hid (rscoped d hdl w)
    cases hsc : scpd d
    · rw [hsc] at HC HV
      simp only [Bool.false_eq_true, if_false] at HV
      have HL := fun w => hid (rletters d hdl w)
      generalize letters d = p at HL HV
      clear hsc hst
      go_enter Tryz.func77, Tryz.ntmps77
      go_wp2_with (first | (go_at_call 136; (with_reducible refine ((HT _).out).mono ?_); rintro e w' ⟨rfl, rfl⟩) | (go_at_call 130; (with_reducible refine ((HC _).out).mono ?_); rintro e w' ⟨rfl, hb⟩) | (go_at_call 129; (with_reducible refine ((HL _).out).mono ?_); rintro e w' ⟨rfl, hb2⟩))
      go_ret
      exact givesQ rfl (bool_eq HV.out.symm) (Qt.trans hb hb2)
    · rw [hsc] at HC HV
      simp only [if_true] at HV
      obtain ⟨hlt0, hs1⟩ := stroke_lt (s := ⟨d.toArray⟩) hsc
      have hlt : (fore 47 d).length < d.length := by
        have : (fore 47 d).length < d.toArray.size := hlt0
        simpa using this
      have HS := fun w => hid (rstroke d hdl w)
      have x2 := rest_ext' (l := d) hs1
      have HL := fun w => hid (rletters (restV d) (by have := rest_len d; omega) w)
      generalize (fore 47 d).length = R at HS hlt x2
      generalize restV d = B at HL HV x2
      generalize letters B = p at HL HV
      clear hsc hst hlt0 hs1
      go_enter Tryz.func77, Tryz.ntmps77
      go_wp2_with (first | (go_at_call 136; (with_reducible refine ((HT _).out).mono ?_); rintro e w' ⟨rfl, rfl⟩) | (go_at_call 130; (with_reducible refine ((HC _).out).mono ?_); rintro e w' ⟨rfl, hb⟩) | (go_at_call 131; (with_reducible refine ((HS _).out).mono ?_); rintro e w' ⟨rfl, rfl⟩) | (go_at_call 129; (with_reducible refine ((HL _).out).mono ?_); rintro e w' ⟨rfl, hb2⟩))
      go_ret
      exact givesQ rfl (bool_eq HV.out.symm) (Qt.trans hb hb2)
end Go.Proofs.YtafnohojnjpfcaaGreatDoor.Nm
