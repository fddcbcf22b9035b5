/-
  PLAIN MATHEMATICS: how many of the bytes from a place on are so. No program is imported.
-/
import Derived.Laws.Externs
import Derived.Lib.Bytealg
namespace Go.Proofs.YtjiofenpalokoaaGreatDoor

/-- how many of the bytes from that place on are so -/
def run (p : UInt8 → Bool) (l : List UInt8) (a : Nat) : Nat := ((l.drop a).takeWhile p).length

theorem run_le (p : UInt8 → Bool) (l : List UInt8) (a : Nat) (h : a ≤ l.length) : a + run p l a ≤ l.length := by
  unfold run
  have := (List.takeWhile_sublist p (l := l.drop a)).length_le
  rw [List.length_drop] at this
  omega
theorem run_yes {p : UInt8 → Bool} {l : List UInt8} {a : Nat} {c : UInt8} (h : l[a]? = some c) (hp : p c = true) : run p l a = run p l (a + 1) + 1 := by
  unfold run
  have ha := (List.getElem?_eq_some_iff.1 h).1
  rw [List.drop_eq_getElem_cons ha]
  have e : l[a] = c := (List.getElem?_eq_some_iff.1 h).2
  rw [e, List.takeWhile_cons, hp]
  rfl
theorem run_no {p : UInt8 → Bool} {l : List UInt8} {a : Nat} {c : UInt8} (h : l[a]? = some c) (hp : p c = false) : run p l a = 0 := by
  unfold run
  have ha := (List.getElem?_eq_some_iff.1 h).1
  rw [List.drop_eq_getElem_cons ha]
  have e : l[a] = c := (List.getElem?_eq_some_iff.1 h).2
  rw [e, List.takeWhile_cons, hp]
  rfl
theorem run_end {p : UInt8 → Bool} {l : List UInt8} {a : Nat} (h : l.length ≤ a) : run p l a = 0 := by
  unfold run; rw [List.drop_eq_nil_of_le h]; rfl
/-- all are so just if the run from the beginning is the whole -/
theorem run_all {p : UInt8 → Bool} {l : List UInt8} : (run p l 0 = l.length) ↔ l.all p = true := by
  unfold run
  rw [List.drop_zero]
  induction l with
  | nil => simp
  | cons x l ih =>
    rw [List.takeWhile_cons, List.all_cons]
    cases p x
    · simp
    · simpa using ih
theorem run_fore (c : UInt8) (l : List UInt8) : run (· != c) l 0 = (l.takeWhile (· != c)).length := by
  unfold run; rw [List.drop_zero]

theorem byte_at (s : ByteArray) (k : Nat) (h : k < s.size) : s.data.toList[k]? = some s[k] := by
  rw [List.getElem?_eq_getElem (by simpa using h)]; rfl
theorem extract_eq (s : ByteArray) (a b : Nat) : s.extract a b = ⟨((s.data.toList.drop a).take (b - a)).toArray⟩ := by
  apply ByteArray.ext
  apply Array.toList_inj.1
  rw [Lib.extract_data]
end Go.Proofs.YtjiofenpalokoaaGreatDoor
