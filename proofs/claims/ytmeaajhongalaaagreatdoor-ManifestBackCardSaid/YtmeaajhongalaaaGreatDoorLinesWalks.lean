/-
  LAYER 1: the small calls of package lines (blank, skip, odd) and of the library's Cut at one byte.
-/
import Derived.Test.YtmeaajhongalaaaGreatDoorRows
import Derived.Test.YtmeaajhongalaaaGreatDoorIA
import Derived.Deep.QuietTactic
import Derived.BigQuiet
import Derived.WalkSmall
namespace Go.Proofs.YtmeaajhongalaaaGreatDoor.Ln
open Go.RowKit

theorem isBl_int (c : UInt8) : isBl c = (decide ((c.toNat : Int) = 32) || decide ((c.toNat : Int) = 9)) := by
  have h1 : (c == 32) = decide ((c.toNat : Int) = 32) := by rw [Bool.eq_iff_iff]; simp [← UInt8.toNat_inj]; omega
  have h2 : (c == 9) = decide ((c.toNat : Int) = 9) := by rw [Bool.eq_iff_iff]; simp [← UInt8.toNat_inj]; omega
  unfold isBl; rw [h1, h2]

theorem blank_any (c : UInt8) (w : World) :
    Calls Tryz.prog 196 #[.int .u8 (c.toNat : Int)] w fun e w' => e = .returned (.bool (isBl c)) ∧ w = w' := by
  have hb := hid (isBl_int c)
  have hc : (c.toNat : Int) ≤ 255 := by have := c.toNat_lt; omega
  by_cases h1 : (c.toNat : Int) = 32
  · have e : ((c.toNat : Int) == 32) = true := by simpa using h1
    have h1' := hid h1
    clear h1
    go_enter Tryz.func196, Tryz.ntmps196
    go_wp2
    go_ret
    exact ⟨ret_bool (by rw [hb.out, h1'.out]; rfl), rfl⟩
  · have e : ((c.toNat : Int) == 32) = false := by simpa using h1
    have h1' := hid h1
    clear h1
    go_enter Tryz.func196, Tryz.ntmps196
    go_wp2
    go_ret
    refine ⟨ret_bool ?_, rfl⟩
    rw [hb.out, decide_eq_false h1'.out, Bool.false_or]
    rfl

theorem byte_at (s : ByteArray) (k : Nat) (h : k < s.size) : s.data.toList[k]? = some s[k] := by
  rw [List.getElem?_eq_getElem (by simpa using h)]; rfl

theorem skip_any (s : ByteArray) (hs : s.size ≤ maxLen) (a : Nat) (ha : a ≤ s.size) (t : Bool) (w : World) :
    Calls Tryz.prog 162 #[.string s, .int .i64 (a : Int), .bool t] w fun e w' => e = .returned (.int .i64 ((a + run (fun c => isBl c == t) s.data.toList a : Nat) : Int)) ∧ w = w' := by
  unfold maxLen at hs
  have HQ := hid (rfl : (a + run (fun c => isBl c == t) s.data.toList a) = (a + run (fun c => isBl c == t) s.data.toList a))
  generalize hr : a + run (fun c => isBl c == t) s.data.toList a = r at *
  have HR := hid hr
  clear hr HQ
  go_enter Tryz.func162, Tryz.ntmps162
  go_wp2_with fail
  go_loop [1] (fun v => ∃ k : Nat, k ≤ s.size ∧ v = .int .i64 k ∧ k + run (fun c => isBl c == t) s.data.toList k = r) (fun v => s.size - (intOf v).toNat)
  case atStart => exact ⟨a, ha, rfl, HR.out⟩
  case round =>
    obtain ⟨k, hk, rfl, hkr⟩ := hrel
    have hkr' := hid hkr
    clear hkr ha
    by_cases hlt : k < s.size
    · have hb := hid (byte_at s k hlt)
      cases hq : (isBl s[k] == t)
      · have hb' := hid (run_no (p := fun c => isBl c == t) hb.out hq)
        clear hb
        go_wp2_with (go_at_call 196; (with_reducible refine (blank_any _ _).mono ?_); rintro e w' ⟨rfl, rfl⟩)
        go_ret
        exact ⟨ret_int (by rw [← hkr'.out, hb'.out]; rfl), rfl⟩
      · have hb' := hid (run_yes (p := fun c => isBl c == t) hb.out hq)
        clear hb
        go_wp2_with (go_at_call 196; (with_reducible refine (blank_any _ _).mono ?_); rintro e w' ⟨rfl, rfl⟩)
        go_round
        case rel => exact ⟨k + 1, by omega, by go_num, by rw [← hkr'.out, hb'.out]; omega⟩
        case measure => simp [intOf]; omega
    · have hb' := hid (run_end (p := fun c => isBl c == t) (l := s.data.toList) (a := k) (by simp; omega))
      go_wp2_with fail
      go_ret
      exact ⟨ret_int (by rw [← hkr'.out, hb'.out]; rfl), rfl⟩

theorem run_congr {p q : UInt8 → Bool} (h : ∀ c, p c = q c) (l : List UInt8) (a : Nat) : run p l a = run q l a := by
  rw [show p = q from funext h]
theorem skip_t (l : List UInt8) (hs : l.length ≤ 1099511627776) (a : Nat) (ha : a ≤ l.length) (w : World) :
    Calls Tryz.prog 162 #[.string ⟨l.toArray⟩, .int .i64 (a : Int), .bool true] w fun e w' => e = .returned (.int .i64 ((a + run isBl l a : Nat) : Int)) ∧ w = w' := by
  have h := skip_any ⟨l.toArray⟩ (by show l.toArray.size ≤ maxLen; unfold maxLen; simp; omega) a (by show a ≤ l.toArray.size; simpa using ha) true w
  rwa [run_congr (q := isBl) (by intro c; simp)] at h
theorem skip_t0 (l : List UInt8) (hs : l.length ≤ 1099511627776) (w : World) :
    Calls Tryz.prog 162 #[.string ⟨l.toArray⟩, .int .i64 0, .bool true] w fun e w' => e = .returned (.int .i64 ((run isBl l 0 : Nat) : Int)) ∧ w = w' := by
  have h := skip_t l hs 0 (by omega) w
  rwa [Nat.zero_add] at h
theorem skip_f (l : List UInt8) (hs : l.length ≤ 1099511627776) (a : Nat) (ha : a ≤ l.length) (w : World) :
    Calls Tryz.prog 162 #[.string ⟨l.toArray⟩, .int .i64 (a : Int), .bool false] w fun e w' => e = .returned (.int .i64 ((a + run (fun c => !isBl c) l a : Nat) : Int)) ∧ w = w' := by
  have h := skip_any ⟨l.toArray⟩ (by show l.toArray.size ≤ maxLen; unfold maxLen; simp; omega) a (by show a ≤ l.toArray.size; simpa using ha) false w
  rwa [run_congr (q := fun c => !isBl c) (by intro c; simp)] at h

theorem okB_int (c : UInt8) : okB c = (decide (33 ≤ (c.toNat : Int)) && decide ((c.toNat : Int) ≤ 126)) := by
  unfold okB
  rw [Bool.eq_iff_iff]; simp; omega

def oddV (l : List UInt8) : Int := if run okB l 0 < l.length then run okB l 0 else -1

theorem odd_any (s : ByteArray) (hs : s.size ≤ maxLen) (w : World) :
    Calls Tryz.prog 163 #[.string s] w fun e w' => e = .returned (.int .i64 (oddV s.data.toList)) ∧ w = w' := by
  unfold maxLen at hs
  go_enter Tryz.func163, Tryz.ntmps163
  go_wp2_with fail
  go_loop [3] (fun v => ∃ k : Nat, k ≤ s.size ∧ v = .int .i64 k ∧ run okB s.data.toList 0 = k + run okB s.data.toList k) (fun v => s.size - (intOf v).toNat)
  case atStart => exact ⟨0, by omega, rfl, by simp⟩
  case round =>
    obtain ⟨k, hk, rfl, hkr⟩ := hrel
    have hkr' := hid hkr
    clear hkr
    by_cases hlt : k < s.size
    · have hb := hid (byte_at s k hlt)
      have hi := hid (okB_int s[k])
      have hcc : (s[k].toNat : Int) ≤ 255 := by have := s[k].toNat_lt; omega
      by_cases h1 : (s[k].toNat : Int) < 33
      · have hb' := hid (run_no (p := okB) hb.out (by rw [hi.out, decide_eq_false (by omega)]; rfl))
        clear hb
        go_wp2_with fail
        go_ret
        exact ⟨ret_int (by unfold oddV; rw [hkr'.out, hb'.out, if_pos (by simp; omega)]; rfl), rfl⟩
      · by_cases h2 : (s[k].toNat : Int) ≤ 126
        · have hb' := hid (run_yes (p := okB) hb.out (by rw [hi.out, decide_eq_true (by omega), decide_eq_true h2]; rfl))
          clear hb
          go_wp2_with fail
          go_round
          case rel => exact ⟨k + 1, by omega, by go_num, by rw [hkr'.out, hb'.out]; omega⟩
          case measure => simp [intOf]; omega
        · have hb' := hid (run_no (p := okB) hb.out (by rw [hi.out, decide_eq_false h2, Bool.and_false]))
          clear hb
          go_wp2_with fail
          go_ret
          exact ⟨ret_int (by unfold oddV; rw [hkr'.out, hb'.out, if_pos (by simp; omega)]; rfl), rfl⟩
    · have hb' := hid (run_end (p := okB) (l := s.data.toList) (a := k) (by simp; omega))
      go_wp2_with fail
      go_ret
      exact ⟨ret_int (by unfold oddV; rw [hkr'.out, hb'.out, if_neg (by simp; omega)]), rfl⟩

theorem odd_list (l : List UInt8) (hs : l.length ≤ 1099511627776) (w : World) :
    Calls Tryz.prog 163 #[.string ⟨l.toArray⟩] w fun e w' => e = .returned (.int .i64 (oddV l)) ∧ w = w' :=
  odd_any ⟨l.toArray⟩ (by show l.toArray.size ≤ maxLen; unfold maxLen; simp; omega) w

/-! ### the library's Cut at one byte -/
theorem indexByte_fore (c : UInt8) : ∀ l : List UInt8, Lib.indexByte l c = if (fore c l).length < l.length then ((fore c l).length : Int) else -1 := by
  intro l
  induction l with
  | nil => rfl
  | cons x l ih =>
    unfold Lib.indexByte
    unfold fore
    rw [List.takeWhile_cons]
    by_cases h : x = c
    · subst h; simp
    · have h' : (x == c) = false := by simpa using h
      have h'' : (x != c) = true := by simpa using h
      rw [h', h'']
      unfold fore at ih
      simp only [Bool.false_eq_true, if_false, if_true, List.length_cons]
      by_cases k : (List.takeWhile (fun x => x != c) l).length < l.length
      · rw [if_pos k] at ih
        rw [ih, if_neg (by simp), if_pos (by omega)]
        omega
      · rw [if_neg k] at ih
        rw [ih, if_pos (by simp), if_neg (by omega)]

@[go_sem] theorem run_ibs (s : ByteArray) (c : Int) (w : World) : (callFunc 230 #[.string s, .int .u8 c]).run Tryz.prog w = .ok (.value (.int .i64 (Lib.indexByte s.data.toList c.toNat.toUInt8))) w := by
  rw [run_callFunc_extern (e := Extern.BytealgIndexByte.indexByte) Tryz.func230 (by kernel_rfl) (by kernel_rfl) (by kernel_rfl) (by kernel_rfl), Lib.run_indexByteString]
  rfl

theorem indexByte_any (s : ByteArray) (c : Int) (w : World) :
    Calls Tryz.prog 216 #[.string s, .int .u8 c] w fun e w' => e = .returned (.int .i64 (Lib.indexByte s.data.toList c.toNat.toUInt8)) ∧ w = w' := by
  go_enter Tryz.func216, Tryz.ntmps216
  go_wp2
  go_ret
  exact ⟨rfl, rfl⟩

theorem index_one (s : ByteArray) (c : UInt8) (w : World) :
    Calls Tryz.prog 195 #[.string s, .string ⟨#[c]⟩] w fun e w' => e = .returned (.int .i64 (Lib.indexByte s.data.toList c)) ∧ w = w' := by
  have hz := hid (fun (h : ([c] == s.toList) = true) => by
    have h : [c] = s.toList := by simpa using h
    rw [ByteArray.toList_eq] at h
    rw [← h]; simp [Lib.indexByte] : ([c] == s.toList) = true → Lib.indexByte s.data.toList c = 0)
  cases hq : ([c] == s.toList)
  · go_enter Tryz.func195, Tryz.ntmps195
    go_wp2_with (go_at_call 216; (with_reducible refine (indexByte_any _ _ _).mono ?_); rintro e w' ⟨rfl, rfl⟩)
    go_ret
    exact ⟨ret_int (by congr 1), rfl⟩
  · have hz' := hid (hz.out hq)
    go_enter Tryz.func195, Tryz.ntmps195
    go_wp2_with (go_at_call 216; (with_reducible refine (indexByte_any _ _ _).mono ?_); rintro e w' ⟨rfl, rfl⟩)
    go_ret
    exact ⟨ret_int hz'.out.symm, rfl⟩

theorem indexByte_no {s : ByteArray} {c : UInt8} (h : ¬ (fore c s.data.toList).length < s.size) : Lib.indexByte s.data.toList c = -1 := by
  rw [indexByte_fore, if_neg (by simpa using h)]
theorem indexByte_yes {s : ByteArray} {c : UInt8} (h : (fore c s.data.toList).length < s.size) : Lib.indexByte s.data.toList c = ((fore c s.data.toList).length : Nat) := by
  rw [indexByte_fore, if_pos (by simpa using h)]
theorem fore_all {c : UInt8} {l : List UInt8} (h : ¬ (fore c l).length < l.length) : fore c l = l ∧ aft c l = [] := by
  have e := List.takeWhile_append_dropWhile (p := (· != c)) (l := l)
  have e2 := congrArg List.length e
  rw [List.length_append] at e2
  unfold fore at *
  have hd : (l.dropWhile (· != c)).length = 0 := by omega
  have hd := List.eq_nil_of_length_eq_zero hd
  rw [hd, List.append_nil] at e
  refine ⟨e, ?_⟩
  unfold aft; rw [hd]; rfl
theorem fore_take (c : UInt8) (l : List UInt8) : l.take (fore c l).length = fore c l := (List.prefix_iff_eq_take.1 (List.takeWhile_prefix _)).symm
theorem drop_while (p : UInt8 → Bool) (l : List UInt8) : l.drop (l.takeWhile p).length = l.dropWhile p := by
  induction l with
  | nil => rfl
  | cons x l ih =>
    rw [List.takeWhile_cons, List.dropWhile_cons]
    cases p x
    · rfl
    · simpa using ih
theorem aft_drop (c : UInt8) (l : List UInt8) : l.drop ((fore c l).length + 1) = aft c l := by
  unfold fore aft
  rw [← List.drop_drop, drop_while]

theorem extract_eq (s : ByteArray) (a b : Nat) : s.extract a b = ⟨((s.data.toList.drop a).take (b - a)).toArray⟩ := by
  apply ByteArray.ext
  apply Array.toList_inj.1
  rw [Lib.extract_data]

def CutIs (c : UInt8) (l : List UInt8) (w : World) (e : Ending) (w' : World) : Prop :=
  ∃ f, e = .returned (.tuple #[.string ⟨(fore c l).toArray⟩, .string ⟨(aft c l).toArray⟩, .bool f]) ∧ Below w.heap.size w w'
theorem str_eq {s t : ByteArray} (h : s = t) : Value.string s = .string t := by rw [h]
theorem ret_tup3 {a b c a' b' c' : Value} (h : a = a') (k : b = b') (m : c = c') : Ending.returned (.tuple #[a, b, c]) = Ending.returned (.tuple #[a', b', c']) := by rw [h, k, m]
theorem bytes_self (s : ByteArray) : s = ⟨s.data.toList.toArray⟩ := rfl

theorem cutl_any (s : ByteArray) (hs : s.size ≤ maxLen) (c : UInt8) (w : World) :
    Calls Tryz.prog 161 #[.string s, .string ⟨#[c]⟩] w (CutIs c s.data.toList w) := by
  unfold maxLen at hs
  by_cases h : (fore c s.data.toList).length < s.size
  · have hi := indexByte_yes h
    have H1 := hid (fore_take c s.data.toList)
    have H2 := hid (aft_drop c s.data.toList)
    have hz := hid (show s.data.toList.length = s.size by simp)
    generalize (fore c s.data.toList).length = n at h hi H1 H2
    go_enter Tryz.func161, Tryz.ntmps161
    go_wp2_with (go_at_call 195; (with_reducible refine (index_one _ _ _).mono ?_); rintro e w' ⟨rfl, rfl⟩)
    go_quiet (fail)
    go_wp2
    go_ret3
    refine ⟨true, ret_tup3 (str_eq ?_) (str_eq ?_) rfl, below_drewN' (Below.refl _ _) _⟩
    · rw [← H1.out, extract_eq]; simp
    · rw [← H2.out, extract_eq, List.take_of_length_le]; simp
  · have hi := indexByte_no h
    have H := hid (fore_all (c := c) (l := s.data.toList) (by simpa using h))
    go_enter Tryz.func161, Tryz.ntmps161
    go_wp2_with (go_at_call 195; (with_reducible refine (index_one _ _ _).mono ?_); rintro e w' ⟨rfl, rfl⟩)
    go_ret3
    refine ⟨false, ret_tup3 (str_eq ?_) (str_eq ?_) rfl, Below.refl _ _⟩
    · rw [H.out.1]
    · rw [H.out.2]

theorem cut_any (s : ByteArray) (hs : s.size ≤ maxLen) (c : UInt8) (w : World) :
    Calls Tryz.prog 129 #[.string s, .string ⟨#[c]⟩] w (CutIs c s.data.toList w) := by
  have h := hid (cutl_any s hs c w)
  clear hs
  go_enter Tryz.func129, Tryz.ntmps129
  go_wp2_with fail
  refine h.out.mono ?_
  rintro e w' ⟨f, rfl, hb⟩
  go_wp2_with fail
  go_ret3
  exact ⟨f, rfl, hb⟩

end Go.Proofs.YtmeaajhongalaaaGreatDoor.Ln
