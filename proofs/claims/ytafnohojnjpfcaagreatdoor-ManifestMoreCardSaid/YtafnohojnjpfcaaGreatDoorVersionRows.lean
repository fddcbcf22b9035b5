/-
  LAYER 3: a version's parts in memory, as the document reads them: small facts.
-/
import Derived.Test.YtafnohojnjpfcaaGreatDoorVersionRefParse
import Derived.Test.YtafnohojnjpfcaaGreatDoorVersionCmpL
namespace Go.Proofs.YtafnohojnjpfcaaGreatDoor.Vs
open Go.RowKit
open Go.Proofs.YtafnohojnjpfcaaGreatDoor Go.Proofs.YtafnohojnjpfcaaGreatDoor.Nu

/-- the version of a text; of a text that is none: 0.0.0 -/
def nO (l : List UInt8) (i : Nat) : Nat := if verV l then nth l i else 0
def preO (l : List UInt8) : List UInt8 := if verV l then aft 45 l else []
def rowO (l : List UInt8) : List (List UInt8) := if verV l then preL l else []

theorem PreAt.shape {w : World} {pv : Value} {Q : List (List UInt8)} (h : PreAt w pv Q) : ∃ a c, pv = .slice a Q.length c := by
  rcases h with ⟨h1, h2⟩ | ⟨g, c, _, h2, _⟩
  · exact ⟨_, _, by rw [h2, h1]; rfl⟩
  · exact ⟨_, _, h2⟩

theorem eight_cells {w W : World} {b c : Nat} {e f : TypeId} {x0 x1 x2 x3 y0 y1 y2 y3 : Value} (hx : Blk W b [x0, x1, x2, x3] e) (hy : Blk W c [y0, y1, y2, y3] f) (hbc : b ≠ c) (h0 : Below w.heap.size w W) (hb : w.heap.size ≤ b) (hc : w.heap.size ≤ c) (a0 a1 a2 a3 d0 d1 d2 d3 : Value) :
    ∀ V, V = ((((((((W.setCell ⟨b, 0, none⟩ a0).setCell ⟨b, 1, none⟩ a1).setCell ⟨b, 2, none⟩ a2).setCell ⟨b, 3, none⟩ a3).setCell ⟨c, 0, none⟩ d0).setCell ⟨c, 1, none⟩ d1).setCell ⟨c, 2, none⟩ d2).setCell ⟨c, 3, none⟩ d3) →
    (V.cell? ⟨b, 0, none⟩ = some a0 ∧ V.cell? ⟨b, 1, none⟩ = some a1 ∧ V.cell? ⟨b, 2, none⟩ = some a2 ∧ V.cell? ⟨b, 3, none⟩ = some a3 ∧ V.cell? ⟨c, 0, none⟩ = some d0 ∧ V.cell? ⟨c, 1, none⟩ = some d1 ∧ V.cell? ⟨c, 2, none⟩ = some d2 ∧ V.cell? ⟨c, 3, none⟩ = some d3) ∧ Below w.heap.size w V := by
  intro V hV
  subst hV
  have h1 := (((((((((hx.set 0 a0).set 1 a1).set 2 a2).set 3 a3).other (a := ⟨c, 0, none⟩) hbc d0).other (a := ⟨c, 1, none⟩) hbc d1).other (a := ⟨c, 2, none⟩) hbc d2).other (a := ⟨c, 3, none⟩) hbc d3))
  have h2 := ((((((((hy.other (a := ⟨b, 0, none⟩) hbc.symm a0).other (a := ⟨b, 1, none⟩) hbc.symm a1).other (a := ⟨b, 2, none⟩) hbc.symm a2).other (a := ⟨b, 3, none⟩) hbc.symm a3).set 0 d0).set 1 d1).set 2 d2).set 3 d3)
  exact ⟨⟨h1.cell 0 rfl, h1.cell 1 rfl, h1.cell 2 rfl, h1.cell 3 rfl, h2.cell 0 rfl, h2.cell 1 rfl, h2.cell 2 rfl, h2.cell 3 rfl⟩, setCells4 (setCells4 h0 hb) hc⟩

theorem cells_ne {W : World} {b g : Nat} {Q : List (List UInt8)} {k : IntKind} {x : Int} {r : List Value} {e : TypeId} (h : CellsAt W g 0 Q) (hQ : Q ≠ []) (hb : Blk W b (.int k x :: r) e) : b ≠ g := by
  rintro rfl
  have h1 := h.2 0 (List.length_pos_iff.2 hQ)
  have h2 := hb.cell 0 rfl
  rw [Nat.zero_add, h2] at h1
  cases h1
theorem PreAt.eight {W : World} {b c : Nat} {e f : TypeId} {k k' : IntKind} {x y : Int} {r r' : List Value} {pv : Value} {Q : List (List UInt8)} (h : PreAt W pv Q) (hx : Blk W b (.int k x :: r) e) (hy : Blk W c (.int k' y :: r') f) (a0 a1 a2 a3 d0 d1 d2 d3 : Value) :
    PreAt ((((((((W.setCell ⟨b, 0, none⟩ a0).setCell ⟨b, 1, none⟩ a1).setCell ⟨b, 2, none⟩ a2).setCell ⟨b, 3, none⟩ a3).setCell ⟨c, 0, none⟩ d0).setCell ⟨c, 1, none⟩ d1).setCell ⟨c, 2, none⟩ d2).setCell ⟨c, 3, none⟩ d3) pv Q := by
  rcases h with h | ⟨g, cc, h1, h2, h3, h4, h5⟩
  · exact .inl h
  · have n1 := cells_ne h5 h1 hx
    have n2 := cells_ne h5 h1 hy
    exact .inr ⟨g, cc, h1, h2, h3, h4, (((((((h5.other n1 a0).other n1 a1).other n1 a2).other n1 a3).other n2 d0).other n2 d1).other n2 d2).other n2 d3⟩

def rows (p : List UInt8) : List (List UInt8) := if p = [] then [] else cutl 46 p
theorem rowO_eq (l : List UInt8) : rowO l = rows (preO l) := by
  unfold rowO preO rows preL
  cases h : verV l
  · rfl
  · have h2 := (text_of h).2.2.2.2.2
    rw [if_pos rfl, if_pos rfl, h2]
    by_cases h3 : aft 45 l = []
    · rw [if_pos h3, decide_eq_false (by simpa using h3)]; rfl
    · rw [if_neg h3, decide_eq_true h3]; rfl
end Go.Proofs.YtafnohojnjpfcaaGreatDoor.Vs
