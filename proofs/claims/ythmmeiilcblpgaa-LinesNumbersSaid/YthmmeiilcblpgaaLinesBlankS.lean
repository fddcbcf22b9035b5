/-
  LAYER 1: what the text comes to that LinesBlanks lays out.
-/
import Derived.Test.YthmmeiilcblpgaaLinesWord
namespace Go.Proofs.Ythmmeiilcblpgaa.Ln
open Go.RowKit

theorem run_all {p : UInt8 → Bool} {l : List UInt8} (h : run p l 0 = l.length) : ∀ c, c ∈ l → p c = true := by
  intro c hc
  obtain ⟨i, hi, rfl⟩ := List.getElem_of_mem hc
  obtain ⟨c', h1, h2⟩ := run_mem (p := p) (l := l) (a := 0) (i := i) (by omega)
  rw [Nat.zero_add, List.getElem?_eq_getElem hi] at h1
  cases h1
  exact h2

theorem wordV_ok {w : List UInt8} (h : wordV w = true) : w ≠ [] ∧ w.length ≤ 80 ∧ (∀ c, c ∈ w → okB c = true) ∧ (35 : UInt8) ∉ w ∧ (10 : UInt8) ∉ w := by
  obtain ⟨h1, h2, h3⟩ := of_decide_eq_true h
  have hw := run_all h3
  refine ⟨List.length_pos_iff.1 h1, h2, fun c hc => ?_, fun hc => ?_, fun hc => ?_⟩
  · have := hw c hc
    unfold wB at this
    rw [Bool.and_eq_true] at this
    exact this.1
  · have := hw _ hc
    revert this; decide
  · have := hw _ hc
    revert this; decide

/-- the gap that LinesBlanks lays: a blank, and so many tabs -/
def gapOf (n : Nat) : List UInt8 := 32 :: List.replicate n 9
def pieceOf (x : List UInt8 × Nat) : Piece := (gapOf x.2, x.1)
theorem gapOf_bl (n : Nat) : ∀ c, c ∈ gapOf n → isBl c = true := by
  intro c hc
  unfold gapOf at hc
  rcases List.mem_cons.1 hc with rfl | h
  · rfl
  · rw [List.eq_of_mem_replicate h]; rfl

theorem lineOf_none : lineOf [] = .ok ([], []) := by kernel_rfl

theorem rdC_empty {most no : Nat} {l : List UInt8} {out : List LineS} (h : ¬ most < no) : rdC most (10 :: l) no out = rdC most l (no + 1) out := by
  rw [rdC_ok (ws := []) (cs := []) (by simp) h (by rw [show fore 10 (10 :: l) = [] from fore_cut (l := []) (by simp)]; exact lineOf_none)]
  rw [show aft 10 (10 :: l) = l from aft_cut (l := []) (by simp), if_pos rfl]

theorem blanks_read (xs : List (List UInt8 × Nat)) (hne : xs ≠ []) (hn : xs.length ≤ 20) (hw : ∀ x, x ∈ xs → wordV x.1 = true) (rem : List UInt8) (hr : (10 : UInt8) ∉ rem) :
    rdC 800 (10 :: (txt (xs.map pieceOf) ++ 32 :: 35 :: rem) ++ 10 :: 10 :: 35 :: 32 :: rem) 1 [] = .ok [(2, xs.map (·.1), colsOf 0 (xs.map pieceOf))] := by
  have hok : ∀ p, p ∈ xs.map pieceOf → Piece.ok p := by
    intro p hp
    obtain ⟨x, hx, rfl⟩ := List.mem_map.1 hp
    obtain ⟨a, b, c, d, e⟩ := wordV_ok (hw x hx)
    exact ⟨gapOf_bl _, a, b, c⟩
  have h35 : (35 : UInt8) ∉ txt (xs.map pieceOf) := txt_no (by decide) hok (by
    intro p hp
    obtain ⟨x, hx, rfl⟩ := List.mem_map.1 hp
    exact (wordV_ok (hw x hx)).2.2.2.1)
  have h10 : (10 : UInt8) ∉ txt (xs.map pieceOf) := txt_no (by decide) hok (by
    intro p hp
    obtain ⟨x, hx, rfl⟩ := List.mem_map.1 hp
    exact (wordV_ok (hw x hx)).2.2.2.2)
  have hl10 : (10 : UInt8) ∉ txt (xs.map pieceOf) ++ 32 :: 35 :: rem := by
    intro h
    rcases List.mem_append.1 h with h | h
    · exact h10 h
    · rcases List.mem_cons.1 h with h | h
      · exact absurd h (by decide)
      · rcases List.mem_cons.1 h with h | h
        · exact absurd h (by decide)
        · exact hr h
  rw [List.cons_append, rdC_empty (by decide)]
  have hline : lineOf (txt (xs.map pieceOf) ++ 32 :: 35 :: rem) = .ok (xs.map (·.1), colsOf 0 (xs.map pieceOf)) := by
    unfold lineOf
    have e : txt (xs.map pieceOf) ++ 32 :: 35 :: rem = (txt (xs.map pieceOf) ++ [32]) ++ 35 :: rem := by simp
    rw [e, fore_cut (by
      intro h
      rcases List.mem_append.1 h with h | h
      · exact h35 h
      · exact absurd (List.mem_singleton.1 h) (by decide))]
    rw [spC_pieces (tail := [32]) (by intro c hc; rw [List.mem_singleton.1 hc]; rfl) (xs.map pieceOf) _ 0 [] [] (by omega) (by simp) hok (by
      intro p hp
      obtain ⟨x, hx, rfl⟩ := List.mem_map.1 (List.mem_of_mem_tail hp)
      simp [pieceOf, gapOf]) (by simp; omega)]
    simp [pieceOf, Function.comp_def]
  rw [rdC_ok (ws := xs.map (·.1)) (cs := colsOf 0 (xs.map pieceOf)) (by simp) (by decide) (by rw [fore_cut hl10]; exact hline)]
  rw [aft_cut hl10, if_neg (by simpa using hne), rdC_empty (by decide)]
  have hl : (10 : UInt8) ∉ 35 :: 32 :: rem := by
    intro h
    rcases List.mem_cons.1 h with h | h
    · exact absurd h (by decide)
    · rcases List.mem_cons.1 h with h | h
      · exact absurd h (by decide)
      · exact hr h
  rw [rdC_ok (ws := []) (cs := []) (by simp) (by decide) (by rw [fore_none hl]; unfold lineOf; rw [show fore 35 (35 :: 32 :: rem) = [] from fore_cut (l := []) (by simp)]; kernel_rfl), if_pos rfl]
  rw [show aft 10 (35 :: 32 :: rem) = [] from by
    have hf := fore_none hl
    unfold fore at hf
    unfold aft
    have := List.takeWhile_append_dropWhile (p := (· != (10 : UInt8))) (l := 35 :: 32 :: rem)
    rw [hf] at this
    have h2 := List.append_right_eq_self.1 this
    rw [h2]; rfl]
  rfl

end Go.Proofs.Ythmmeiilcblpgaa.Ln
