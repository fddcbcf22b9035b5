/-
  THE LIBRARY's Cut AT ONE BYTE.
-/
import Derived.Test.YtjiofenpalokoaaGreatDoorRows
import Derived.Test.YtjiofenpalokoaaGreatDoorKit
import Derived.Test.YtjiofenpalokoaaGreatDoorRuns
import Derived.Deep.QuietTactic
import Derived.BigQuiet
import Derived.WalkSmall
namespace Go.Proofs.YtjiofenpalokoaaGreatDoor.Cb
open Go.RowKit

def fore (c : UInt8) (l : List UInt8) : List UInt8 := l.takeWhile (· != c)
def aft (c : UInt8) (l : List UInt8) : List UInt8 := (l.dropWhile (· != c)).drop 1

theorem indexByte_fore (c : UInt8) : ∀ l : List UInt8, Lib.indexByte l c = if (fore c l).length < l.length then ((fore c l).length : Int) else -1 := by
  intro l
  induction l with
  | nil => rfl
  | cons x l ih =>
    unfold Lib.indexByte
    unfold fore
    rw [List.takeWhile_cons]
    by_cases h : x = c
    · subst h; simp
    · have h' : (x == c) = false := by simpa using h
      have h'' : (x != c) = true := by simpa using h
      rw [h', h'']
      unfold fore at ih
      simp only [Bool.false_eq_true, if_false, if_true, List.length_cons]
      by_cases k : (List.takeWhile (fun x => x != c) l).length < l.length
      · rw [if_pos k] at ih
        rw [ih, if_neg (by simp), if_pos (by omega)]
        omega
      · rw [if_neg k] at ih
        rw [ih, if_pos (by simp), if_neg (by omega)]

@[go_sem] theorem run_ibs (s : ByteArray) (c : Int) (w : World) : (callFunc 113 #[.string s, .int .u8 c]).run Tryz.prog w = .ok (.value (.int .i64 (Lib.indexByte s.data.toList c.toNat.toUInt8))) w := by
  rw [run_callFunc_extern (e := Extern.BytealgIndexByte.indexByte) Tryz.func113 (by kernel_rfl) (by kernel_rfl) (by kernel_rfl) (by kernel_rfl), Lib.run_indexByteString]
  rfl

theorem indexByte_any (s : ByteArray) (c : Int) (w : World) :
    Calls Tryz.prog 93 #[.string s, .int .u8 c] w fun e w' => e = .returned (.int .i64 (Lib.indexByte s.data.toList c.toNat.toUInt8)) ∧ w = w' := by
  go_enter Tryz.func93, Tryz.ntmps93
  go_wp2
  go_ret
  exact ⟨rfl, rfl⟩

theorem index_one (s : ByteArray) (c : UInt8) (w : World) :
    Calls Tryz.prog 79 #[.string s, .string ⟨#[c]⟩] w fun e w' => e = .returned (.int .i64 (Lib.indexByte s.data.toList c)) ∧ w = w' := by
  have hz := hid (fun (h : ([c] == s.toList) = true) => by
    have h : [c] = s.toList := by simpa using h
    rw [ByteArray.toList_eq] at h
    rw [← h]; simp [Lib.indexByte] : ([c] == s.toList) = true → Lib.indexByte s.data.toList c = 0)
  cases hq : ([c] == s.toList)
  · go_enter Tryz.func79, Tryz.ntmps79
    go_wp2_with (go_at_call 93; (with_reducible refine (indexByte_any _ _ _).mono ?_); rintro e w' ⟨rfl, rfl⟩)
    go_ret
    exact ⟨ret_int (by congr 1), rfl⟩
  · have hz' := hid (hz.out hq)
    go_enter Tryz.func79, Tryz.ntmps79
    go_wp2_with (go_at_call 93; (with_reducible refine (indexByte_any _ _ _).mono ?_); rintro e w' ⟨rfl, rfl⟩)
    go_ret
    exact ⟨ret_int hz'.out.symm, rfl⟩

theorem indexByte_no {s : ByteArray} {c : UInt8} (h : ¬ (fore c s.data.toList).length < s.size) : Lib.indexByte s.data.toList c = -1 := by
  rw [indexByte_fore, if_neg (by simpa using h)]
theorem indexByte_yes {s : ByteArray} {c : UInt8} (h : (fore c s.data.toList).length < s.size) : Lib.indexByte s.data.toList c = ((fore c s.data.toList).length : Nat) := by
  rw [indexByte_fore, if_pos (by simpa using h)]
theorem fore_all {c : UInt8} {l : List UInt8} (h : ¬ (fore c l).length < l.length) : fore c l = l ∧ aft c l = [] := by
  have e := List.takeWhile_append_dropWhile (p := (· != c)) (l := l)
  have e2 := congrArg List.length e
  rw [List.length_append] at e2
  unfold fore at *
  have hd : (l.dropWhile (· != c)).length = 0 := by omega
  have hd := List.eq_nil_of_length_eq_zero hd
  rw [hd, List.append_nil] at e
  refine ⟨e, ?_⟩
  unfold aft; rw [hd]; rfl
theorem fore_take (c : UInt8) (l : List UInt8) : l.take (fore c l).length = fore c l := (List.prefix_iff_eq_take.1 (List.takeWhile_prefix _)).symm
theorem drop_while (p : UInt8 → Bool) (l : List UInt8) : l.drop (l.takeWhile p).length = l.dropWhile p := by
  induction l with
  | nil => rfl
  | cons x l ih =>
    rw [List.takeWhile_cons, List.dropWhile_cons]
    cases p x
    · rfl
    · simpa using ih
theorem aft_drop (c : UInt8) (l : List UInt8) : l.drop ((fore c l).length + 1) = aft c l := by
  unfold fore aft
  rw [← List.drop_drop, drop_while]

/-- what Cut at one byte comes to: the two parts, and whether the byte was there -/
def CutIs (c : UInt8) (l : List UInt8) (w : World) (e : Ending) (w' : World) : Prop :=
  e = .returned (.tuple #[.string ⟨(fore c l).toArray⟩, .string ⟨(aft c l).toArray⟩, .bool (decide ((fore c l).length < l.length))]) ∧ Below w.heap.size w w'
theorem str_eq {s t : ByteArray} (h : s = t) : Value.string s = .string t := by rw [h]
theorem ret_tup3 {a b c a' b' c' : Value} (h : a = a') (k : b = b') (m : c = c') : Ending.returned (.tuple #[a, b, c]) = Ending.returned (.tuple #[a', b', c']) := by rw [h, k, m]

theorem cutl_any (s : ByteArray) (hs : s.size ≤ maxLen) (c : UInt8) (w : World) :
    Calls Tryz.prog 65 #[.string s, .string ⟨#[c]⟩] w (CutIs c s.data.toList w) := by
  unfold maxLen at hs
  by_cases h : (fore c s.data.toList).length < s.size
  · have hi := indexByte_yes h
    have hd := hid (show decide ((fore c s.data.toList).length < s.data.toList.length) = true from decide_eq_true (by simpa using h))
    have H1 := hid (fore_take c s.data.toList)
    have H2 := hid (aft_drop c s.data.toList)
    have hz := hid (show s.data.toList.length = s.size by simp)
    generalize (fore c s.data.toList).length = n at h hi H1 H2
    go_enter Tryz.func65, Tryz.ntmps65
    go_wp2_with (go_at_call 79; (with_reducible refine (index_one _ _ _).mono ?_); rintro e w' ⟨rfl, rfl⟩)
    go_quiet (fail)
    go_wp2
    go_ret3
    refine ⟨ret_tup3 (str_eq ?_) (str_eq ?_) (bool_eq hd.out.symm), below_drewN' (Below.refl _ _) _⟩
    · rw [← H1.out, extract_eq]; simp
    · rw [← H2.out, extract_eq, List.take_of_length_le]; simp
  · have hi := indexByte_no h
    have hd := hid (show decide ((fore c s.data.toList).length < s.data.toList.length) = false from decide_eq_false (by simpa using h))
    have H := hid (fore_all (c := c) (l := s.data.toList) (by simpa using h))
    go_enter Tryz.func65, Tryz.ntmps65
    go_wp2_with (go_at_call 79; (with_reducible refine (index_one _ _ _).mono ?_); rintro e w' ⟨rfl, rfl⟩)
    go_ret3
    refine ⟨ret_tup3 (str_eq ?_) (str_eq ?_) (bool_eq hd.out.symm), Below.refl _ _⟩
    · rw [H.out.1]
    · rw [H.out.2]

theorem cut_any (s : ByteArray) (hs : s.size ≤ maxLen) (c : UInt8) (w : World) :
    Calls Tryz.prog 42 #[.string s, .string ⟨#[c]⟩] w (CutIs c s.data.toList w) := by
  have h := hid (cutl_any s hs c w)
  clear hs
  go_enter Tryz.func42, Tryz.ntmps42
  go_wp2_with fail
  refine h.out.mono ?_
  rintro e w' ⟨rfl, hb⟩
  go_wp2_with fail
  go_ret3
  exact ⟨rfl, hb⟩

end Go.Proofs.YtjiofenpalokoaaGreatDoor.Cb
