/-
  LAYER 13: the law's own play of the document's example answers true; a nil heap.
-/
import Derived.Test.YtbjllcjjibjgoaaHeapNew
import Derived.Test.YtbjllcjjibjgoaaLuby
namespace Go.Proofs.Ytbjllcjjibjgoaa.Hp
open Go.RowKit Go.Proofs.Ytbjllcjjibjgoaa.Ln

theorem below_only {m : Hm} {w w1 w2 : World} (h : Below w.heap.size w w1) (hm : ∀ b, m.own b → w.heap.size ≤ b) (ho : Only m.own w1 w2) : Below w.heap.size w w2 :=
  h.trans (ho.below (B := w.heap.size) h.size (fun b hb hx => by have := hm b hx; omega))

def s0 : List Nat := List.replicate 5 0
def s1 : List Nat := bumpS 4 s0 3 5
def i0 : List Bool := allIn 4
def i1 : List Bool := popI 4 s1 i0
def i2 : List Bool := popI 4 s1 i1

theorem luby7 : luby 7 = 4 := luby_full 2

set_option maxHeartbeats 1000000 in
theorem popped_any (w : World) :
    Calls Try.prog 9 #[] w fun e w' => e = .returned (.bool true) ∧ Below w.heap.size w w' := by
  have L7 := hid (luby_any 7 (by decide))
  rw [luby7] at L7
  go_enter Try.func9, Try.ntmps9
  go_wp2_with fail
  refine (new_any 4 (by decide) w).mono ?_
  rintro e w1 ⟨m, rfl, hb, hown, hh⟩
  have HN := hid (And.intro hb (And.intro hown hh))
  clear hb hown hh
  go_wp2_with fail
  refine (bump_at HN.out.2.2 3 5).mono ?_
  rintro e w2 ⟨rfl, ho, hh⟩
  have H2 := hid (And.intro (below_only HN.out.1 HN.out.2.1 ho) (show Heap w2 m 4 s1 i0 from hh))
  clear ho hh
  rw [show bumpB 4 (List.replicate (4 + 1) 0) 3 5 = false by decide]
  go_wp2_with fail
  refine (pop_at H2.out.2).mono ?_
  rintro e w3 ⟨rfl, ho, hh⟩
  have H3 := hid (And.intro (below_only H2.out.1 HN.out.2.1 ho) (show Heap w3 m 4 s1 i1 from hh))
  clear ho hh
  rw [show best 4 s1 i0 = 3 by decide]
  go_wp2_with fail
  refine (pop_at H3.out.2).mono ?_
  rintro e w4 ⟨rfl, ho, hh⟩
  have H4 := hid (And.intro (below_only H3.out.1 HN.out.2.1 ho) (show Heap w4 m 4 s1 i2 from hh))
  clear ho hh
  rw [show best 4 s1 i1 = 1 by decide]
  have C1 := hid (len_at H4.out.2)
  rw [show cnt i2 = 2 by decide] at C1
  have C2 := hid (has_at H4.out.2 3)
  rw [show isV 4 i2 3 = false by decide] at C2
  have C3 := hid (has_at H4.out.2 4)
  rw [show isV 4 i2 4 = true by decide] at C3
  have C4 := hid (score_at H4.out.2 3)
  rw [show scoreV 4 s1 3 = 5 by decide] at C4
  go_wp2_with fail
  refine C1.out.mono ?_
  rintro e w' ⟨rfl, rfl⟩
  go_wp2_with fail
  refine C2.out.mono ?_
  rintro e w' ⟨rfl, rfl⟩
  go_wp2_with fail
  refine C3.out.mono ?_
  rintro e w' ⟨rfl, rfl⟩
  go_wp2_with fail
  refine C4.out.mono ?_
  rintro e w' ⟨rfl, rfl⟩
  go_wp2_with fail
  refine (L7.out _).mono ?_
  rintro e w' ⟨rfl, rfl⟩
  go_wp2_with fail
  go_ret
  exact ⟨rfl, H4.out.1⟩

theorem law_nils (v by' : Int) (w : World) :
    Calls Try.prog 7 #[.int .i64 v, .int .i64 by'] w fun e w' => e = .returned (.bool true) ∧ Below w.heap.size w w' := by
  go_enter Try.func7, Try.ntmps7
  go_wp2_with (first | (go_at_call 12; (with_reducible refine (push_nil _ _).mono ?_); rintro e w' ⟨rfl, rfl⟩) | (go_at_call 14; (with_reducible refine (pop_nil _).mono ?_); rintro e w' ⟨rfl, rfl⟩) | (go_at_call 19; (with_reducible refine (len_nil _).mono ?_); rintro e w' ⟨rfl, rfl⟩) | (go_at_call 20; (with_reducible refine (has_nil _ _).mono ?_); rintro e w' ⟨rfl, rfl⟩) | (go_at_call 21; (with_reducible refine (score_nil _ _).mono ?_); rintro e w' ⟨rfl, rfl⟩) | (go_at_call 16; (with_reducible refine (bump_nil _ _ _).mono ?_); rintro e w' ⟨rfl, rfl⟩) | (go_at_call 9; (with_reducible refine (popped_any _).mono ?_); rintro e w' ⟨rfl, hb⟩))
  go_ret
  exact ⟨rfl, by assumption⟩
end Go.Proofs.Ytbjllcjjibjgoaa.Hp
