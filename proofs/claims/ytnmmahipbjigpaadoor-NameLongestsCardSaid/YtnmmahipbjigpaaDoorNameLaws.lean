/-
  LAYER 5: the laws.
-/
import Derived.Test.YtnmmahipbjigpaaDoorNameLong
import Derived.RegionDies
namespace Go.Proofs.YtnmmahipbjigpaaDoor.Nm
open Go.RowKit

theorem cells_new3 (w : World) (a b c : List UInt8) (t : TypeId) : CellsAt (w.alloc (.cells #[.string ⟨a.toArray⟩, .string ⟨b.toArray⟩, .string ⟨c.toArray⟩] t)) w.heap.size 0 [a, b, c] := by
  have h := Blk.new w [.string ⟨a.toArray⟩, .string ⟨b.toArray⟩, .string ⟨c.toArray⟩] t
  refine ⟨h.lt, ?_⟩
  intro k hk
  match k, hk with
  | 0, _ => exact h.cell 0 rfl
  | 1, _ => exact h.cell 1 rfl
  | 2, _ => exact h.cell 2 rfl
  | k + 3, h => simp at h; omega

set_option maxRecDepth 100000 in
set_option maxHeartbeats 2000000 in
theorem named_any (w : World) : Calls Tryd.prog 8 #[] w (Gives (.bool true) w) := by
  have e1 : scopeV [64, 108, 105, 98, 47, 99, 111, 114, 101, 45, 120] = [108, 105, 98] := by decide +kernel
  have e2 : restV [64, 108, 105, 98, 47, 99, 111, 114, 101, 45, 120] = [99, 111, 114, 101, 45, 120] := by decide +kernel
  have e3 : checkV [64, 108, 105, 98, 47, 99, 111, 114, 101, 45, 120] = true := by decide +kernel
  have e4 : globV [42, 97] = false := by decide +kernel
  have e5 : longV [64, 108, 105, 98, 47, 99, 111, 114, 101, 45, 120] [[42], [64, 108, 105, 98, 47, 99, 111, 114, 101, 45, 42], [64, 108, 105, 98, 47, 42]] 3 = 1 := by decide +kernel
  have H1 := fun w => hid (show Calls Tryd.prog 9 #[.string ⟨#[64, 108, 105, 98, 47, 99, 111, 114, 101, 45, 120]⟩] w (Gives (.tuple #[.string ⟨#[108, 105, 98]⟩, .string ⟨#[99, 111, 114, 101, 45, 120]⟩]) w) from by
    have := split_any [64, 108, 105, 98, 47, 99, 111, 114, 101, 45, 120] (by decide) w
    unfold splitV at this; rwa [e1, e2] at this)
  have H2 := fun w => hid (show Calls Tryd.prog 13 #[.string ⟨#[64, 108, 105, 98, 47, 99, 111, 114, 101, 45, 120]⟩] w (Gives (.bool true) w) from by
    have := check_any [64, 108, 105, 98, 47, 99, 111, 114, 101, 45, 120] (by decide) w
    rwa [e3] at this)
  have H3 := fun w => hid (show Calls Tryd.prog 15 #[.string ⟨#[42, 97]⟩] w (Gives (.bool false) w) from by
    have := glob_any [42, 97] (by decide) w
    rwa [e4] at this)
  have H4 : ∀ (B : Nat) w, Hid (CellsAt w B 0 [[42], [64, 108, 105, 98, 47, 99, 111, 114, 101, 45, 42], [64, 108, 105, 98, 47, 42]]) → Hid (Calls Tryd.prog 21 #[.string ⟨#[64, 108, 105, 98, 47, 99, 111, 114, 101, 45, 120]⟩, .slice (some ⟨B, 0, none⟩) 3 3] w (Gives (.int .i64 1) w)) := fun B w hc => hid (by
    have := longest_any [64, 108, 105, 98, 47, 99, 111, 114, 101, 45, 120] (by decide) [[42], [64, 108, 105, 98, 47, 99, 111, 114, 101, 45, 42], [64, 108, 105, 98, 47, 42]] (by intro k hk; match k, hk with | 0, _ => decide | 1, _ => decide | 2, _ => decide | k + 3, h => simp at h; omega) (by decide) B 0 3 w hc.out
    rwa [show ([[42], [64, 108, 105, 98, 47, 99, 111, 114, 101, 45, 42], [64, 108, 105, 98, 47, 42]] : List (List UInt8)).length = 3 from rfl, e5] at this)
  clear e1 e2 e3 e4 e5
  go_enter Tryd.func8, Tryd.ntmps8
  go_wp2_with (first | (go_at_call 9; (with_reducible refine ((H1 _).out).mono ?_); rintro e w' ⟨rfl, hb1⟩) | (go_at_call 13; (with_reducible refine ((H2 _).out).mono ?_); rintro e w' ⟨rfl, hb2⟩) | (go_at_call 15; (with_reducible refine ((H3 _).out).mono ?_); rintro e w' ⟨rfl, hb3⟩))
  refine (H4 _ _ (hid (cells_new3 _ _ _ _ _))).out.mono ?_
  rintro e w' ⟨rfl, hb4⟩
  go_wp2_with fail
  go_ret
  exact gives rfl rfl (below_trans (below_alloc (below_trans (below_trans hb1 hb2) hb3) _) hb4)

/-- what a law comes to -/
def LawOk (w : World) (e : Ending) (w' : World) : Prop := e = .returned (.bool true) ∧ Below w.heap.size w w'

set_option maxHeartbeats 2000000 in
theorem law_checks (l : List UInt8) (hl : l.length ≤ 140737488355328) (w : World) : Calls Tryd.prog 3 #[.string ⟨l.toArray⟩] w (LawOk w) := by
  have HN := fun w => hid (named_any w)
  by_cases h500 : (500 : Int) < (l.length : Int)
  · go_enter Tryd.func3, Tryd.ntmps3
    go_wp2_with (first | (go_at_call 8; (with_reducible refine ((HN _).out).mono ?_); rintro e w' ⟨rfl, hb1⟩))
    go_ret
    exact ⟨rfl, hb1⟩
  · have hl' : l.length ≤ 140737488355328 := by omega
    have C1 := fun w => hid (show Calls Tryd.prog 9 #[.string ⟨l.toArray⟩] w (Gives (.tuple #[.string ⟨(scopeV l).toArray⟩, .string ⟨(restV l).toArray⟩]) w) from split_any l hl' w)
    have R1 := fun w => hid (show Calls Tryd.prog 10 #[.string ⟨l.toArray⟩] w (Gives (.tuple #[.string ⟨(scopeV l).toArray⟩, .string ⟨(restV l).toArray⟩]) w) from loud (rsplit l hl' w))
    have C2 := fun w => hid (plain_any l hl' w)
    have R2 := fun w => hid (loud (rplain l hl' w))
    have C3 := fun w => hid (check_any l hl' w)
    have R3 := fun w => hid (loud (rcheck l hl' w))
    have C4 := fun w => hid (glob_any l hl' w)
    have R4 := fun w => hid (loud (rglob l hl' w))
    generalize scopeV l = A at C1 R1
    generalize restV l = B at C1 R1
    generalize plain l = p at C2 R2
    generalize checkV l = q at C3 R3
    generalize globV l = r at C4 R4
    go_enter Tryd.func3, Tryd.ntmps3
    go_wp2_with (first | (go_at_call 8; (with_reducible refine ((HN _).out).mono ?_); rintro e w' ⟨rfl, hb1⟩) | (go_at_call 9; (with_reducible refine ((C1 _).out).mono ?_); rintro e w' ⟨rfl, hb2⟩) | (go_at_call 10; (with_reducible refine ((R1 _).out).mono ?_); rintro e w' ⟨rfl, hb3⟩) | (go_at_call 11; (with_reducible refine ((C2 _).out).mono ?_); rintro e w' ⟨rfl, hb4⟩) | (go_at_call 12; (with_reducible refine ((R2 _).out).mono ?_); rintro e w' ⟨rfl, hb5⟩) | (go_at_call 13; (with_reducible refine ((C3 _).out).mono ?_); rintro e w' ⟨rfl, hb6⟩) | (go_at_call 14; (with_reducible refine ((R3 _).out).mono ?_); rintro e w' ⟨rfl, hb7⟩) | (go_at_call 15; (with_reducible refine ((C4 _).out).mono ?_); rintro e w' ⟨rfl, hb8⟩) | (go_at_call 16; (with_reducible refine ((R4 _).out).mono ?_); rintro e w' ⟨rfl, hb9⟩))
    go_ret
    exact ⟨rfl, below_trans (below_trans (below_trans (below_trans (below_trans (below_trans (below_trans (below_trans hb2 hb3) hb1) hb4) hb5) hb6) hb7) hb8) hb9⟩

set_option maxHeartbeats 2000000 in
theorem law_matches (g l : List UInt8) (hg : g.length ≤ 140737488355328) (hl : l.length ≤ 140737488355328) (w : World) : Calls Tryd.prog 4 #[.string ⟨g.toArray⟩, .string ⟨l.toArray⟩] w (LawOk w) := by
  have HN := fun w => hid (named_any w)
  by_cases h500 : (500 : Int) < (g.length : Int)
  · go_enter Tryd.func4, Tryd.ntmps4
    go_wp2_with (first | (go_at_call 8; (with_reducible refine ((HN _).out).mono ?_); rintro e w' ⟨rfl, hb1⟩))
    go_ret
    exact ⟨rfl, hb1⟩
  by_cases h501 : (500 : Int) < (l.length : Int)
  · go_enter Tryd.func4, Tryd.ntmps4
    go_wp2_with (first | (go_at_call 8; (with_reducible refine ((HN _).out).mono ?_); rintro e w' ⟨rfl, hb1⟩))
    go_ret
    exact ⟨rfl, hb1⟩
  · have C1 := fun w => hid (match_any g l hg hl w)
    have R1 := fun w => hid (loud (rmatch g l hg hl w))
    have C2 := fun w => hid (weight_any g hg w)
    have R2 := fun w => hid (loud (rweight g hg w))
    generalize matchV g l = p at C1 R1
    generalize weightV g = q at C2 R2
    go_enter Tryd.func4, Tryd.ntmps4
    go_wp2_with (first | (go_at_call 8; (with_reducible refine ((HN _).out).mono ?_); rintro e w' ⟨rfl, hb1⟩) | (go_at_call 17; (with_reducible refine ((C1 _).out).mono ?_); rintro e w' ⟨rfl, hb2⟩) | (go_at_call 18; (with_reducible refine ((R1 _).out).mono ?_); rintro e w' ⟨rfl, hb3⟩) | (go_at_call 19; (with_reducible refine ((C2 _).out).mono ?_); rintro e w' ⟨rfl, hb4⟩) | (go_at_call 20; (with_reducible refine ((R2 _).out).mono ?_); rintro e w' ⟨rfl, hb5⟩))
    go_ret
    exact ⟨rfl, below_trans (below_trans (below_trans (below_trans hb1 hb2) hb3) hb4) hb5⟩

set_option maxHeartbeats 4000000 in
theorem law_ranks (g h l : List UInt8) (hg : g.length ≤ 140737488355328) (hh : h.length ≤ 140737488355328) (hl : l.length ≤ 140737488355328) (w : World) : Calls Tryd.prog 6 #[.string ⟨g.toArray⟩, .string ⟨h.toArray⟩, .string ⟨l.toArray⟩] w (LawOk w) := by
  have HN := fun w => hid (named_any w)
  by_cases h500 : (100 : Int) < (g.length : Int)
  · go_enter Tryd.func6, Tryd.ntmps6
    go_wp2_with (first | (go_at_call 8; (with_reducible refine ((HN _).out).mono ?_); rintro e w' ⟨rfl, hb1⟩))
    go_ret
    exact ⟨rfl, hb1⟩
  by_cases h501 : (100 : Int) < (h.length : Int)
  · go_enter Tryd.func6, Tryd.ntmps6
    go_wp2_with (first | (go_at_call 8; (with_reducible refine ((HN _).out).mono ?_); rintro e w' ⟨rfl, hb1⟩))
    go_ret
    exact ⟨rfl, hb1⟩
  by_cases h502 : (100 : Int) < (l.length : Int)
  · go_enter Tryd.func6, Tryd.ntmps6
    go_wp2_with (first | (go_at_call 8; (with_reducible refine ((HN _).out).mono ?_); rintro e w' ⟨rfl, hb1⟩))
    go_ret
    exact ⟨rfl, hb1⟩
  have C1 := fun w => hid (match_any g l hg hl w)
  have C2 := fun w => hid (match_any h l hh hl w)
  have W1 := fun w => hid (weight_any g hg w)
  have W2 := fun w => hid (weight_any h hh w)
  have HR := hid (@weight_rank g h l)
  cases m1 : matchV g l
  · rw [m1] at C1
    clear HR
    go_enter Tryd.func6, Tryd.ntmps6
    go_wp2_with (first | (go_at_call 8; (with_reducible refine ((HN _).out).mono ?_); rintro e w' ⟨rfl, hb1⟩) | (go_at_call 17; (with_reducible refine ((C1 _).out).mono ?_); rintro e w' ⟨rfl, hb2⟩))
    go_ret
    exact ⟨rfl, below_trans hb1 hb2⟩
  cases m2 : matchV h l
  · rw [m1] at C1
    rw [m2] at C2
    clear HR
    go_enter Tryd.func6, Tryd.ntmps6
    go_wp2_with (first | (go_at_call 8; (with_reducible refine ((HN _).out).mono ?_); rintro e w' ⟨rfl, hb1⟩) | (go_at_call 17; (with_reducible refine ((C1 _).out).mono ?_); rintro e w' ⟨rfl, hb2⟩) | (go_at_call 17; (with_reducible refine ((C2 _).out).mono ?_); rintro e w' ⟨rfl, hb3⟩))
    go_ret
    exact ⟨rfl, below_trans (below_trans hb1 hb2) hb3⟩
  have HR' := HR.out m1 m2
  rw [m1] at C1
  rw [m2] at C2
  clear HR m1 m2
  cases he : (g == h)
  · have hne : (weightV g != weightV h) = true := bne_iff_ne.2 (HR' (by simpa using he))
    clear HR'
    generalize weightV g = wg at *
    generalize weightV h = wh at *
    go_enter Tryd.func6, Tryd.ntmps6
    go_wp2_with (first | (go_at_call 8; (with_reducible refine ((HN _).out).mono ?_); rintro e w' ⟨rfl, hb1⟩) | (go_at_call 17; (with_reducible refine ((C1 _).out).mono ?_); rintro e w' ⟨rfl, hb2⟩) | (go_at_call 17; (with_reducible refine ((C2 _).out).mono ?_); rintro e w' ⟨rfl, hb3⟩) | (go_at_call 19; (with_reducible refine ((W1 _).out).mono ?_); rintro e w' ⟨rfl, hb4⟩) | (go_at_call 19; (with_reducible refine ((W2 _).out).mono ?_); rintro e w' ⟨rfl, hb5⟩))
    go_ret
    exact ⟨rfl, below_trans (below_trans (below_trans (below_trans hb1 hb2) hb3) hb4) hb5⟩
  · clear HR'
    go_enter Tryd.func6, Tryd.ntmps6
    go_wp2_with (first | (go_at_call 8; (with_reducible refine ((HN _).out).mono ?_); rintro e w' ⟨rfl, hb1⟩) | (go_at_call 17; (with_reducible refine ((C1 _).out).mono ?_); rintro e w' ⟨rfl, hb2⟩) | (go_at_call 17; (with_reducible refine ((C2 _).out).mono ?_); rintro e w' ⟨rfl, hb3⟩))
    go_ret
    exact ⟨rfl, below_trans (below_trans hb1 hb2) hb3⟩
end Go.Proofs.YtnmmahipbjigpaaDoor.Nm
