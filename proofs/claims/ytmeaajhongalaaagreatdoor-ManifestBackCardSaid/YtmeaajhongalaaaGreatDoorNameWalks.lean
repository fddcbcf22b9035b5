/-
  LAYER 5, PACKAGE name: contracts of its calls over plain functions of a text's bytes.
-/
import Derived.Test.YtmeaajhongalaaaGreatDoorIA
import Derived.Test.YtmeaajhongalaaaGreatDoorShelf
namespace Go.Proofs.YtmeaajhongalaaaGreatDoor.Nm
open Go.RowKit

/-- what a call comes to that gives v, and makes memory of its own at most -/
def Gives (v : Value) (w : World) (e : Ending) (w' : World) : Prop := e = .returned v ∧ Below w.heap.size w w'
theorem gives {v v' : Value} {w w' : World} {e : Ending} (he : e = .returned v') (h : v' = v) (hb : Below w.heap.size w w') : Gives v w e w' := ⟨by rw [he, h], hb⟩

theorem info256 : (Tryz.prog.info? (Tryz.lays161_ren.t 116)).map (fun i => (i.zero, i.size)) = some (some (.agg (Array.replicate 256 (.bool false))), 256) := by kernel_rfl

def plainB : List UInt8 := [97, 98, 99, 100, 101, 102, 103, 104, 105, 106, 107, 108, 109, 110, 111, 112, 113, 114, 115, 116, 117, 118, 119, 120, 121, 122, 48, 49, 50, 51, 52, 53, 54, 55, 56, 57, 45]
theorem plainB_ok (c : UInt8) : plainB.contains c = okN c := by
  have h : ((List.range 256).all fun n => plainB.contains (UInt8.ofNat n) == okN (UInt8.ofNat n)) = true := by decide +kernel
  have := List.all_eq_true.1 h c.toNat (List.mem_range.2 c.toNat_lt)
  simpa using this

theorem trim_any (s : ByteArray) (w : World) :
    Calls Tryz.prog 159 #[.string s, .string ⟨#[97, 98, 99, 100, 101, 102, 103, 104, 105, 106, 107, 108, 109, 110, 111, 112, 113, 114, 115, 116, 117, 118, 119, 120, 121, 122, 48, 49, 50, 51, 52, 53, 54, 55, 56, 57, 45]⟩] w (Gives (.string ⟨(Lib.trimLeftS s.data.toList plainB).toArray⟩) w) :=
  Any.strings_TrimLeft_laid Tryz.lays161 info256 s ⟨plainB.toArray⟩ w (by decide) (ascii_of_all (by decide +kernel))

theorem trim_nil (l : List UInt8) : (Lib.trimLeftS l plainB).isEmpty = l.all okN := by
  unfold Lib.trimLeftS
  rw [show (fun x => plainB.contains x) = okN from funext plainB_ok]
  induction l with
  | nil => rfl
  | cons c l ih =>
    rw [List.dropWhile_cons, List.all_cons]
    cases h : okN c
    · rfl
    · simpa using ih

def opensV (l : List UInt8) : Bool := !l.isEmpty && letters l

set_option maxHeartbeats 1000000 in
theorem opens_any (s : ByteArray) (hs : s.size ≤ maxLen) (w : World) :
    Calls Tryz.prog 125 #[.string s] w (Gives (.bool (opensV s.data.toList)) w) := by
  unfold maxLen at hs
  have hlen := hid (show s.data.toList.length = s.size by simp)
  by_cases h0 : s.size = 0
  · obtain rfl : s = ByteArray.empty := by
      apply ByteArray.ext; apply Array.eq_empty_of_size_eq_zero; exact h0
    go_enter Tryz.func125, Tryz.ntmps125
    go_wp2
    go_ret
    exact ⟨rfl, Below.refl _ _⟩
  · have hq : (s.toList == []) = false := by
      rw [ByteArray.toList_eq, beq_eq_false_iff_ne]
      intro h; apply h0
      have := congrArg List.length h
      simpa using this
    have hne := hid (show s.data.toList ≠ [] by intro h; have := congrArg List.length h; rw [hlen.out] at this; exact h0 this)
    by_cases h20 : s.size ≤ 20
    · have hz : 0 < s.size := by omega
      have hb := byte_at s 0 hz
      have hl : s.data.toList.head? = some s[0] := by rw [List.head?_eq_getElem?]; exact hb
      have hd := hid (show headL s.data.toList = isL s[0] by
        cases hx : s.data.toList with
        | nil => rw [hx] at hl; cases hl
        | cons c t => rw [hx] at hl; cases hl; rfl)
      have hi := hid (show isL s[0] = (decide (97 ≤ (s[0].toNat : Int)) && decide ((s[0].toNat : Int) ≤ 122)) by unfold isL; rw [Bool.eq_iff_iff]; simp; omega)
      have hcc : (s[0].toNat : Int) ≤ 255 := by have := s[0].toNat_lt; omega
      have HV := hid (show opensV s.data.toList = (isL s[0] && s.data.toList.all okN) by
        unfold opensV letters
        rw [hd.out, decide_eq_true (by rw [hlen.out]; exact h20)]
        cases hx : s.data.toList with
        | nil => exact absurd hx hne.out
        | cons c t => simp)
      have HT := hid (trim_any s)
      have HN := hid (trim_nil s.data.toList)
      clear hb hl
      by_cases h1 : (s[0].toNat : Int) < 97
      · go_enter Tryz.func125, Tryz.ntmps125
        go_wp2_with fail
        go_ret
        exact gives rfl (bool_eq (by rw [HV.out, hi.out, decide_eq_false (by omega)]; rfl)) (Below.refl _ _)
      · by_cases h2 : (122 : Int) < s[0].toNat
        · go_enter Tryz.func125, Tryz.ntmps125
          go_wp2_with fail
          go_ret
          exact gives rfl (bool_eq (by rw [HV.out, hi.out, decide_eq_false (p := (s[0].toNat : Int) ≤ 122) (by omega), Bool.and_false]; rfl)) (Below.refl _ _)
        · have HV2 := hid (show opensV s.data.toList = (Lib.trimLeftS s.data.toList plainB).isEmpty by
            rw [HV.out, hi.out, decide_eq_true (by omega), decide_eq_true (by omega), HN.out]; rfl)
          clear hd hi HV HN hne
          generalize Lib.trimLeftS s.data.toList plainB = T at HT HV2
          go_enter Tryz.func125, Tryz.ntmps125
          go_wp2_with (go_at_call 159; (with_reducible refine (HT.out _).mono ?_); rintro e w' ⟨rfl, hb'⟩)
          go_ret
          exact gives rfl (bool_eq HV2.out.symm) hb'
    · have HV := hid (show opensV s.data.toList = false by
        unfold opensV letters
        rw [decide_eq_false (by rw [hlen.out]; exact h20)]; simp)
      go_enter Tryz.func125, Tryz.ntmps125
      go_wp2_with fail
      go_ret
      exact gives rfl (bool_eq HV.out.symm) (Below.refl _ _)

theorem opens_list (l : List UInt8) (hs : l.length ≤ 140737488355328) (w : World) :
    Calls Tryz.prog 125 #[.string ⟨l.toArray⟩] w (Gives (.bool (opensV l)) w) :=
  opens_any ⟨l.toArray⟩ (by show l.toArray.size ≤ maxLen; unfold maxLen; simp; omega) w

theorem sizeL (l : List UInt8) (hs : l.length ≤ 140737488355328) : (⟨l.toArray⟩ : ByteArray).size ≤ 9223372036854775807 := by
  show l.toArray.size ≤ _; simp; omega
theorem suf_one (c : UInt8) (l : List UInt8) : Lib.hasSuffix l [c] = lastIs c l := by
  unfold Lib.hasSuffix lastIs
  rw [Bool.eq_iff_iff, List.isSuffixOf_iff_suffix]
  constructor
  · rintro ⟨t, rfl⟩; simp
  · intro h
    have h : l.getLast? = some c := by simpa using h
    obtain ⟨ys, rfl⟩ := List.getLast?_eq_some_iff.1 h
    exact ⟨ys, rfl⟩
theorem hasSuf_one (l : List UInt8) (hs : l.length ≤ 140737488355328) (c : UInt8) (w : World) :
    Calls Tryz.prog 126 #[.string ⟨l.toArray⟩, .string ⟨#[c]⟩] w (Gives (.bool (lastIs c l)) w) := by
  refine (Any.strings_HasSuffix Tryz.lays100 ⟨l.toArray⟩ ⟨#[c]⟩ w (sizeL l hs)).mono ?_
  rintro e w' ⟨rfl, hw⟩
  exact gives rfl (bool_eq (suf_one c l)) (below_of hw.symm)
theorem hasPre_any (l p : List UInt8) (w : World) :
    Calls Tryz.prog 152 #[.string ⟨l.toArray⟩, .string ⟨p.toArray⟩] w (Gives (.bool (p.isPrefixOf l)) w) := by
  refine (Any.strings_HasPrefix Tryz.lays99 ⟨l.toArray⟩ ⟨p.toArray⟩ w).mono ?_
  rintro e w' ⟨rfl, hw⟩
  exact gives rfl rfl (below_of hw.symm)
theorem cutPre_one (l : List UInt8) (c : UInt8) (w : World) :
    Calls Tryz.prog 189 #[.string ⟨l.toArray⟩, .string ⟨#[c]⟩] w (Gives (.tuple #[.string ⟨(if l.head? == some c then l.tail else l).toArray⟩, .bool (l.head? == some c)]) w) := by
  refine (Any.strings_CutPrefix Tryz.lays103 ⟨l.toArray⟩ ⟨#[c]⟩ w).mono ?_
  rintro e w' ⟨rfl, hw⟩
  refine gives rfl ?_ (below_of hw.symm)
  have h : Lib.hasPrefix l [c] = (l.head? == some c) := by
    unfold Lib.hasPrefix
    cases l with
    | nil => rfl
    | cons x l =>
      rw [Bool.eq_iff_iff]
      constructor <;> intro h <;> simp [List.isPrefixOf] at h ⊢ <;> exact h.symm
  show Value.tuple #[.string ⟨(Lib.trimPrefix l [c]).toArray⟩, .bool (Lib.hasPrefix l [c])] = _
  unfold Lib.trimPrefix
  rw [h]
  simp [List.drop_one]
theorem plain_opens (l : List UInt8) : plain l = (opensV l && !lastIs 45 l) := rfl

theorem plain_any (l : List UInt8) (hs : l.length ≤ 140737488355328) (w : World) :
    Calls Tryz.prog 70 #[.string ⟨l.toArray⟩] w (Gives (.bool (plain l)) w) := by
  have HO := fun w => hid (opens_list l hs w)
  have HS := fun w => hid (hasSuf_one l hs 45 w)
  have HP := hid (plain_opens l)
  cases ho : opensV l
  · rw [ho] at HO HP
    go_enter Tryz.func70, Tryz.ntmps70
    go_wp2_with (go_at_call 125; (with_reducible refine ((HO _).out).mono ?_); rintro e w' ⟨rfl, hb⟩)
    go_ret
    exact gives rfl (bool_eq HP.out.symm) hb
  · rw [ho] at HO HP
    go_enter Tryz.func70, Tryz.ntmps70
    go_wp2_with (first | (go_at_call 125; (with_reducible refine ((HO _).out).mono ?_); rintro e w' ⟨rfl, hb⟩) | (go_at_call 126; (with_reducible refine ((HS _).out).mono ?_); rintro e w' ⟨rfl, hb2⟩))
    go_ret
    exact gives rfl (bool_eq HP.out.symm) (below_trans hb hb2)

theorem scp_cons (t : List UInt8) : scp (64 :: t) = decide ((fore 47 t).length < t.length) ∧ fore 47 (64 :: t) = 64 :: fore 47 t ∧ aft 47 (64 :: t) = aft 47 t := by
  have h1 : fore 47 (64 :: t) = 64 :: fore 47 t := by unfold fore; rw [List.takeWhile_cons]; rfl
  have h2 : aft 47 (64 :: t) = aft 47 t := by unfold aft; rw [List.dropWhile_cons]; rfl
  refine ⟨?_, h1, h2⟩
  unfold scp
  rw [h1]
  simp

def splitV (l : List UInt8) : Value := .tuple #[.string ⟨(scopeV l).toArray⟩, .string ⟨(restV l).toArray⟩]
theorem splitV_no {l : List UInt8} (h : scp l = false) : splitV l = .tuple #[.string ⟨#[]⟩, .string ⟨l.toArray⟩] := by
  unfold splitV scopeV restV; rw [h]; rfl
theorem split_any (l : List UInt8) (hs : l.length ≤ 140737488355328) (w : World) :
    Calls Tryz.prog 155 #[.string ⟨l.toArray⟩] w (Gives (splitV l) w) := by
  have HC := fun w => hid (cutPre_one l 64 w)
  cases hh : (l.head? == some 64)
  · rw [hh] at HC
    have HV := hid (splitV_no (show scp l = false by unfold scp; rw [hh]; rfl))
    go_enter Tryz.func155, Tryz.ntmps155
    go_wp2_with (go_at_call 189; (with_reducible refine ((HC _).out).mono ?_); rintro e w' ⟨rfl, hb⟩)
    go_ret2
    exact gives rfl HV.out.symm hb
  · obtain ⟨t, rfl⟩ : ∃ t, l = 64 :: t := by
      cases l with
      | nil => cases hh
      | cons x t => exact ⟨t, by simp at hh; rw [hh]⟩
    rw [hh] at HC
    simp only [if_true, List.tail_cons] at HC
    obtain ⟨s1, s2, s3⟩ := scp_cons t
    have HK := fun w => hid (Cb.cut_any ⟨t.toArray⟩ (by show t.toArray.size ≤ maxLen; unfold maxLen; simp at hs ⊢; omega) 47 w)
    have HK' : ∀ w, Hid (Calls Tryz.prog 129 #[.string ⟨t.toArray⟩, .string ⟨#[47]⟩] w (Gives (.tuple #[.string ⟨(fore 47 t).toArray⟩, .string ⟨(aft 47 t).toArray⟩, .bool (decide ((fore 47 t).length < t.length))]) w)) := HK
    clear HK hh
    cases hd : decide ((fore 47 t).length < t.length)
    · rw [hd] at HK' s1
      have HV := hid (splitV_no s1)
      clear s1 s2 s3
      generalize fore 47 t = A at HK'
      generalize aft 47 t = B at HK'
      go_enter Tryz.func155, Tryz.ntmps155
      go_wp2_with (first | (go_at_call 189; (with_reducible refine ((HC _).out).mono ?_); rintro e w' ⟨rfl, hb⟩) | (go_at_call 129; (with_reducible refine ((HK' _).out).mono ?_); rintro e w' ⟨rfl, hb2⟩))
      go_ret2
      exact gives rfl HV.out.symm (below_trans hb hb2)
    · rw [hd] at HK' s1
      have HV := hid (show splitV (64 :: t) = .tuple #[.string ⟨(fore 47 t).toArray⟩, .string ⟨(aft 47 t).toArray⟩] by
        unfold splitV scopeV restV
        rw [s1, if_pos rfl, if_pos rfl, s2, s3]; rfl)
      clear s1 s2 s3
      generalize fore 47 t = A at HK' HV
      generalize aft 47 t = B at HK' HV
      go_enter Tryz.func155, Tryz.ntmps155
      go_wp2_with (first | (go_at_call 189; (with_reducible refine ((HC _).out).mono ?_); rintro e w' ⟨rfl, hb⟩) | (go_at_call 129; (with_reducible refine ((HK' _).out).mono ?_); rintro e w' ⟨rfl, hb2⟩))
      go_ret2
      exact gives rfl HV.out.symm (below_trans hb hb2)
end Go.Proofs.YtmeaajhongalaaaGreatDoor.Nm
