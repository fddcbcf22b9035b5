/-
  LAYER 1: what the text comes to that LinesNumbers lays out.
-/
import Derived.Test.YthmmeiilcblpgaaLinesBlankS
namespace Go.Proofs.Ythmmeiilcblpgaa.Ln
open Go.RowKit

theorem aft_none {c : UInt8} {l : List UInt8} (h : c ∉ l) : aft c l = [] := by
  have hf := fore_none h
  unfold fore at hf
  unfold aft
  have := List.takeWhile_append_dropWhile (p := (· != c)) (l := l)
  rw [hf] at this
  have h2 := List.append_right_eq_self.1 this
  rw [h2]; rfl

theorem numbers_read (W : List UInt8) (h : wordV W = true) : readS (120 :: 32 :: W) = .ok [(1, [[120], W], [1, 3])] := by
  obtain ⟨h1, h2, h3, h4, h5⟩ := wordV_ok h
  have e : 120 :: 32 :: W = txt [([], [120]), ([32], W)] := by simp [txt]
  have h35 : (35 : UInt8) ∉ 120 :: 32 :: W := by
    intro hm
    rcases List.mem_cons.1 hm with hm | hm
    · exact absurd hm (by decide)
    · rcases List.mem_cons.1 hm with hm | hm
      · exact absurd hm (by decide)
      · exact h4 hm
  have h10 : (10 : UInt8) ∉ 120 :: 32 :: W := by
    intro hm
    rcases List.mem_cons.1 hm with hm | hm
    · exact absurd hm (by decide)
    · rcases List.mem_cons.1 hm with hm | hm
      · exact absurd hm (by decide)
      · exact h5 hm
  unfold readS
  rw [if_neg (by simp; omega)]
  have hl : lineOf (120 :: 32 :: W) = .ok ([[120], W], [1, 3]) := by
    unfold lineOf
    rw [fore_none h35]
    rw [spC_pieces (tail := []) (by intro c hc; cases hc) [([], [120]), ([32], W)] _ 0 [] [] (by omega) (by rw [List.append_nil, e]; rfl) ?_ ?_ (by simp)]
    · simp [colsOf]
    · intro p hp
      rcases List.mem_cons.1 hp with rfl | hp
      · refine ⟨(by intro c hc; cases hc), by simp, by simp, ?_⟩
        intro c hc
        rw [List.mem_singleton.1 hc]; rfl
      · rw [List.mem_singleton.1 hp]
        exact ⟨by intro c hc; rw [List.mem_singleton.1 hc]; rfl, h1, h2, h3⟩
    · intro p hp
      simp at hp
      subst hp
      simp
  rw [rdC_ok (ws := [[120], W]) (cs := [1, 3]) (by simp) (by decide) (by rw [fore_none h10]; exact hl), aft_none h10, if_neg (by simp), rdC_nil]
  rfl

end Go.Proofs.Ythmmeiilcblpgaa.Ln
