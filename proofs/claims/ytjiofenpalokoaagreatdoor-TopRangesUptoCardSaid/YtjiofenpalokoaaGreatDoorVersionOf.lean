/-
  LAYER 3, THE LAWS' own 'of': a version by the program and by the document, of one text.
-/
import Derived.Test.YtjiofenpalokoaaGreatDoorVersionCmpT
import Derived.Test.YtjiofenpalokoaaGreatDoorVersionRefParse
import Derived.RegionTactic
namespace Go.Proofs.YtjiofenpalokoaaGreatDoor.Vs
open Go.RowKit
open Go.Proofs.YtjiofenpalokoaaGreatDoor Go.Proofs.YtjiofenpalokoaaGreatDoor.Nu

/-- the version of a text; of a text that is none: 0.0.0 -/
def nO (l : List UInt8) (i : Nat) : Nat := if verV l then nth l i else 0
def preO (l : List UInt8) : List UInt8 := if verV l then aft 45 l else []
def rowO (l : List UInt8) : List (List UInt8) := if verV l then preL l else []
def OfIs (l : List UInt8) (w : World) (e : Ending) (w' : World) : Prop :=
  ∃ pv, e = .returned (.tuple #[verA (nO l 0) (nO l 1) (nO l 2) (preO l), rVal (nO l 0) (nO l 1) (nO l 2) pv]) ∧ PreAt w' pv (rowO l) ∧ Below w.heap.size w w'

theorem PreAt.shape {w : World} {pv : Value} {Q : List (List UInt8)} (h : PreAt w pv Q) : ∃ a c, pv = .slice a Q.length c := by
  rcases h with ⟨h1, h2⟩ | ⟨g, c, _, h2, _⟩
  · exact ⟨_, _, by rw [h2, h1]; rfl⟩
  · exact ⟨_, _, h2⟩

theorem eight_cells {w W : World} {b c : Nat} {e f : TypeId} {x0 x1 x2 x3 y0 y1 y2 y3 : Value} (hx : Blk W b [x0, x1, x2, x3] e) (hy : Blk W c [y0, y1, y2, y3] f) (hbc : b ≠ c) (h0 : Below w.heap.size w W) (hb : w.heap.size ≤ b) (hc : w.heap.size ≤ c) (a0 a1 a2 a3 d0 d1 d2 d3 : Value) :
    ∀ V, V = ((((((((W.setCell ⟨b, 0, none⟩ a0).setCell ⟨b, 1, none⟩ a1).setCell ⟨b, 2, none⟩ a2).setCell ⟨b, 3, none⟩ a3).setCell ⟨c, 0, none⟩ d0).setCell ⟨c, 1, none⟩ d1).setCell ⟨c, 2, none⟩ d2).setCell ⟨c, 3, none⟩ d3) →
    (V.cell? ⟨b, 0, none⟩ = some a0 ∧ V.cell? ⟨b, 1, none⟩ = some a1 ∧ V.cell? ⟨b, 2, none⟩ = some a2 ∧ V.cell? ⟨b, 3, none⟩ = some a3 ∧ V.cell? ⟨c, 0, none⟩ = some d0 ∧ V.cell? ⟨c, 1, none⟩ = some d1 ∧ V.cell? ⟨c, 2, none⟩ = some d2 ∧ V.cell? ⟨c, 3, none⟩ = some d3) ∧ Below w.heap.size w V := by
  intro V hV
  subst hV
  have h1 := (((((((((hx.set 0 a0).set 1 a1).set 2 a2).set 3 a3).other (a := ⟨c, 0, none⟩) hbc d0).other (a := ⟨c, 1, none⟩) hbc d1).other (a := ⟨c, 2, none⟩) hbc d2).other (a := ⟨c, 3, none⟩) hbc d3))
  have h2 := ((((((((hy.other (a := ⟨b, 0, none⟩) hbc.symm a0).other (a := ⟨b, 1, none⟩) hbc.symm a1).other (a := ⟨b, 2, none⟩) hbc.symm a2).other (a := ⟨b, 3, none⟩) hbc.symm a3).set 0 d0).set 1 d1).set 2 d2).set 3 d3)
  exact ⟨⟨h1.cell 0 rfl, h1.cell 1 rfl, h1.cell 2 rfl, h1.cell 3 rfl, h2.cell 0 rfl, h2.cell 1 rfl, h2.cell 2 rfl, h2.cell 3 rfl⟩, setCells4 (setCells4 h0 hb) hc⟩

theorem cells_ne {W : World} {b g : Nat} {Q : List (List UInt8)} {k : IntKind} {x : Int} {r : List Value} {e : TypeId} (h : CellsAt W g 0 Q) (hQ : Q ≠ []) (hb : Blk W b (.int k x :: r) e) : b ≠ g := by
  rintro rfl
  have h1 := h.2 0 (List.length_pos_iff.2 hQ)
  have h2 := hb.cell 0 rfl
  rw [Nat.zero_add, h2] at h1
  cases h1
theorem PreAt.eight {W : World} {b c : Nat} {e f : TypeId} {k k' : IntKind} {x y : Int} {r r' : List Value} {pv : Value} {Q : List (List UInt8)} (h : PreAt W pv Q) (hx : Blk W b (.int k x :: r) e) (hy : Blk W c (.int k' y :: r') f) (a0 a1 a2 a3 d0 d1 d2 d3 : Value) :
    PreAt ((((((((W.setCell ⟨b, 0, none⟩ a0).setCell ⟨b, 1, none⟩ a1).setCell ⟨b, 2, none⟩ a2).setCell ⟨b, 3, none⟩ a3).setCell ⟨c, 0, none⟩ d0).setCell ⟨c, 1, none⟩ d1).setCell ⟨c, 2, none⟩ d2).setCell ⟨c, 3, none⟩ d3) pv Q := by
  rcases h with h | ⟨g, cc, h1, h2, h3, h4, h5⟩
  · exact .inl h
  · have n1 := cells_ne h5 h1 hx
    have n2 := cells_ne h5 h1 hy
    exact .inr ⟨g, cc, h1, h2, h3, h4, (((((((h5.other n1 a0).other n1 a1).other n1 a2).other n1 a3).other n2 d0).other n2 d1).other n2 d2).other n2 d3⟩

set_option maxRecDepth 20000 in
set_option maxHeartbeats 2000000 in
theorem of_any (s : ByteArray) (hs : s.size < 4294967281) (w : World) (hm : MaxAt w) :
    Calls Tryz.prog 20 #[.string s] w (OfIs s.data.toList w) := by
  have HP := hid (parse_any s hs)
  have HR := hid (rparse_any s hs)
  unfold RParseIs at HR
  clear hs
  generalize s.data.toList = l at *
  cases hv : verV l
  · have hT : parseT l = .tuple #[.agg #[.int .i64 0, .int .i64 0, .int .i64 0, .string ⟨#[]⟩], .bool false] := by unfold parseT; rw [hv]; rfl
    have hF : Hid (∀ w', Below w.heap.size w w' → OfIs l w (.returned (.tuple #[.agg #[.int .i64 0, .int .i64 0, .int .i64 0, .string ⟨#[]⟩], .agg #[.int .i64 0, .int .i64 0, .int .i64 0, .slice none 0 0]])) w') := hid (fun w' h => by
      refine ⟨.slice none 0 0, ?_, .inl ⟨?_, rfl⟩, h⟩
      · unfold nO preO; rw [hv]; rfl
      · unfold rowO; rw [hv]; rfl)
    rw [hT] at HP
    rw [hv] at HR
    clear hT hv
    generalize OfIs l w = POST at hF ⊢
    obtain ⟨H2, H3⟩ := two_blk w [.int .i64 0, .int .i64 0, .int .i64 0, .string ⟨#[]⟩] [.int .i64 0, .int .i64 0, .int .i64 0, .slice none 0 0] 38 45
    have hb0 := below_alloc (below_alloc (Below.refl w.heap.size w) (.cells #[.int .i64 0, .int .i64 0, .int .i64 0, .string ⟨#[]⟩] 38)) (.cells #[.int .i64 0, .int .i64 0, .int .i64 0, .slice none 0 0] 45)
    replace H2 := hid H2
    replace H3 := hid H3
    replace hb0 := hid hb0
    go_enter Tryz.func20, Tryz.ntmps20
    go_wp2_with fail
    refine (HP.out _ (hm.below hb0.out)).mono ?_
    rintro e w1 ⟨rfl, hb1⟩
    replace H2 := hid ((H2.out.below hb1).alloc (.cells #[.int .i64 0, .int .i64 0, .int .i64 0, .string ⟨#[]⟩] 38))
    replace H3 := hid ((H3.out.below hb1).alloc (.cells #[.int .i64 0, .int .i64 0, .int .i64 0, .string ⟨#[]⟩] 38))
    replace hb0 := hid (below_alloc (below_trans hb0.out hb1) (.cells #[.int .i64 0, .int .i64 0, .int .i64 0, .string ⟨#[]⟩] 38))
    clear hb1
    go_wp2_with fail
    generalize w1.alloc (.cells #[.int .i64 0, .int .i64 0, .int .i64 0, .string ⟨#[]⟩] 38) = W1 at H2 H3 hb0 ⊢
    generalize w1.heap.size = b4
    refine (HR.out _).mono ?_
    rintro e w2 ⟨hb2, hcase⟩
    rcases hcase with ⟨_, rfl⟩ | ⟨h, _⟩
    · have E2 := (H2.out.below hb2).alloc (.cells #[.int .i64 0, .int .i64 0, .int .i64 0, .slice none 0 0] 45)
      have E3 := (H3.out.below hb2).alloc (.cells #[.int .i64 0, .int .i64 0, .int .i64 0, .slice none 0 0] 45)
      have E0 := below_alloc (below_trans hb0.out hb2) (.cells #[.int .i64 0, .int .i64 0, .int .i64 0, .slice none 0 0] 45)
      simp only [show rVal 0 0 0 (.slice none 0 0) = .agg #[.int .i64 0, .int .i64 0, .int .i64 0, .slice none 0 0] from rfl]
      have f2 := E2.free
      have f3 := E3.free
      have c20 := E2.cell 0 rfl
      have c21 := E2.cell 1 rfl
      have c22 := E2.cell 2 rfl
      have c23 := E2.cell 3 rfl
      have c30 := E3.cell 0 rfl
      have c31 := E3.cell 1 rfl
      have c32 := E3.cell 2 rfl
      have c33 := E3.cell 3 rfl
      replace E2 := hid E2
      replace E3 := hid E3
      replace E0 := hid E0
      clear H2 H3 hb0 hb2
      go_wp2_with fail
      obtain ⟨⟨q0, q1, q2, q3, q4, q5, q6, q7⟩, hbl⟩ := eight_cells E2.out E3.out (by omega) E0.out (Nat.le_refl _) (by omega) (.int .i64 0) (.int .i64 0) (.int .i64 0) (.string ⟨#[]⟩) (.int .i64 0) (.int .i64 0) (.int .i64 0) (.slice none 0 0) _ rfl
      exact bodyPost_ret (v := .tuple #[.agg #[.int .i64 0, .int .i64 0, .int .i64 0, .string ⟨#[]⟩], .agg #[.int .i64 0, .int .i64 0, .int .i64 0, .slice none 0 0]]) (by simp [results, Tryz.results20, go_sem, q0, q1, q2, q3, q4, q5, q6, q7]) rfl (hF.out _ hbl)
    · cases h
  · have hT : parseT l = .tuple #[.agg #[.int .i64 (nth l 0 : Int), .int .i64 (nth l 1 : Int), .int .i64 (nth l 2 : Int), .string ⟨(aft 45 l).toArray⟩], .bool true] := by unfold parseT; rw [hv]; rfl
    have hF : Hid (∀ pv w', PreAt w' pv (preL l) → Below w.heap.size w w' → OfIs l w (.returned (.tuple #[.agg #[.int .i64 (nth l 0 : Int), .int .i64 (nth l 1 : Int), .int .i64 (nth l 2 : Int), .string ⟨(aft 45 l).toArray⟩], .agg #[.int .i64 (nth l 0 : Int), .int .i64 (nth l 1 : Int), .int .i64 (nth l 2 : Int), pv]])) w') := hid (fun pv w' hp h => by
      refine ⟨pv, ?_, ?_, h⟩
      · unfold nO preO; rw [hv]; rfl
      · unfold rowO; rw [hv]; exact hp)
    rw [hT] at HP
    rw [hv] at HR
    clear hT hv
    generalize OfIs l w = POST at hF ⊢
    generalize hx0 : (nth l 0 : Int) = x0 at HP hF
    generalize hx1 : (nth l 1 : Int) = x1 at HP hF
    generalize hx2 : (nth l 2 : Int) = x2 at HP hF
    generalize (⟨(aft 45 l).toArray⟩ : ByteArray) = A at HP hF
    have HX0 := hid hx0
    have HX1 := hid hx1
    have HX2 := hid hx2
    clear hx0 hx1 hx2
    obtain ⟨H2, H3⟩ := two_blk w [.int .i64 0, .int .i64 0, .int .i64 0, .string ⟨#[]⟩] [.int .i64 0, .int .i64 0, .int .i64 0, .slice none 0 0] 38 45
    have hb0 := below_alloc (below_alloc (Below.refl w.heap.size w) (.cells #[.int .i64 0, .int .i64 0, .int .i64 0, .string ⟨#[]⟩] 38)) (.cells #[.int .i64 0, .int .i64 0, .int .i64 0, .slice none 0 0] 45)
    replace H2 := hid H2
    replace H3 := hid H3
    replace hb0 := hid hb0
    go_enter Tryz.func20, Tryz.ntmps20
    go_wp2_with fail
    refine (HP.out _ (hm.below hb0.out)).mono ?_
    rintro e w1 ⟨rfl, hb1⟩
    have L4 := hid (H3.out.below hb1).lt
    replace H2 := hid ((H2.out.below hb1).alloc (.cells #[.int .i64 x0, .int .i64 x1, .int .i64 x2, .string A] 38))
    replace H3 := hid ((H3.out.below hb1).alloc (.cells #[.int .i64 x0, .int .i64 x1, .int .i64 x2, .string A] 38))
    replace hb0 := hid (below_alloc (below_trans hb0.out hb1) (.cells #[.int .i64 x0, .int .i64 x1, .int .i64 x2, .string A] 38))
    have H4 := hid (Blk.new w1 [.int .i64 x0, .int .i64 x1, .int .i64 x2, .string A] 38)
    clear hb1
    go_wp2_with fail
    generalize w1.alloc (.cells [.int .i64 x0, .int .i64 x1, .int .i64 x2, .string A].toArray 38) = W1 at H2 H3 H4 hb0 ⊢
    generalize w1.heap.size = b4 at H4 L4 ⊢
    refine (HR.out _).mono ?_
    rintro e w2 ⟨hb2, hcase⟩
    rcases hcase with ⟨h, _⟩ | ⟨_, pv, rfl, hpre⟩
    · cases h
    · obtain ⟨pa, pc, rfl⟩ := hpre.shape
      simp only [show rVal (nth l 0) (nth l 1) (nth l 2) (.slice pa (preL l).length pc) = .agg #[.int .i64 (nth l 0 : Int), .int .i64 (nth l 1 : Int), .int .i64 (nth l 2 : Int), .slice pa (preL l).length pc] from rfl, HX0.out, HX1.out, HX2.out]
      generalize (preL l).length = pn at hpre hF ⊢
      replace hpre := hid (fun w' (h : Below w2.heap.size w2 w') => hpre.below h)
      have E2 := (H2.out.below hb2).alloc (.cells #[.int .i64 x0, .int .i64 x1, .int .i64 x2, .slice pa pn pc] 45)
      have E3 := (H3.out.below hb2).alloc (.cells #[.int .i64 x0, .int .i64 x1, .int .i64 x2, .slice pa pn pc] 45)
      have E4 := (H4.out.below hb2).alloc (.cells #[.int .i64 x0, .int .i64 x1, .int .i64 x2, .slice pa pn pc] 45)
      have E6 := Blk.new w2 [.int .i64 x0, .int .i64 x1, .int .i64 x2, .slice pa pn pc] 45
      have E0 := below_alloc (below_trans hb0.out hb2) (.cells #[.int .i64 x0, .int .i64 x1, .int .i64 x2, .slice pa pn pc] 45)
      have L6 := hid (H3.out.below hb2).lt
      have EP := hid (below_alloc (Below.refl w2.heap.size w2) (.cells #[.int .i64 x0, .int .i64 x1, .int .i64 x2, .slice pa pn pc] 45))
      clear H2 H3 H4 hb0 hb2 HX0 HX1 HX2
      replace E2 := hid E2
      replace E3 := hid E3
      replace E4 := hid E4
      replace E6 := hid E6
      replace E0 := hid E0
      go_wp2_with fail
      generalize w2.alloc (.cells [.int .i64 x0, .int .i64 x1, .int .i64 x2, .slice pa pn pc].toArray 45) = W3 at E2 E3 E4 E6 E0 EP ⊢
      generalize w2.heap.size = b6 at E6 L6 ⊢
      have n1 : ¬ b4 = w.heap.size := by have := L4.out; omega
      have n2 : ¬ b4 = w.heap.size + 1 := by have := L4.out; omega
      have n3 : ¬ b6 = w.heap.size := by have := L6.out; omega
      have n4 : ¬ b6 = w.heap.size + 1 := by have := L6.out; omega
      have m1 : ¬ w.heap.size = b4 := by have := L4.out; omega
      have m2 : ¬ w.heap.size + 1 = b4 := by have := L4.out; omega
      have m3 : ¬ w.heap.size = b6 := by have := L6.out; omega
      have m4 : ¬ w.heap.size + 1 = b6 := by have := L6.out; omega
      have f2 := E2.out.free
      have f3 := E3.out.free
      have c20 := E2.out.cell 0 rfl
      have c21 := E2.out.cell 1 rfl
      have c22 := E2.out.cell 2 rfl
      have c23 := E2.out.cell 3 rfl
      have c30 := E3.out.cell 0 rfl
      have c31 := E3.out.cell 1 rfl
      have c32 := E3.out.cell 2 rfl
      have c33 := E3.out.cell 3 rfl
      have c40 := E4.out.cell 0 rfl
      have c41 := E4.out.cell 1 rfl
      have c42 := E4.out.cell 2 rfl
      have c43 := E4.out.cell 3 rfl
      have c60 := E6.out.cell 0 rfl
      have c61 := E6.out.cell 1 rfl
      have c62 := E6.out.cell 2 rfl
      have c63 := E6.out.cell 3 rfl
      go_region
      all_goals
        go_wp2_with fail
        clear f2 f3 c20 c21 c22 c23 c30 c31 c32 c33 c40 c41 c42 c43 c60 c61 c62 c63
        first
          | (obtain ⟨⟨q0, q1, q2, q3, q4, q5, q6, q7⟩, hbl⟩ := eight_cells E2.out E3.out (by omega) E0.out (by omega) (by omega) (.int .i64 x0) (.int .i64 x1) (.int .i64 x2) (.string A) (.int .i64 x0) (.int .i64 x1) (.int .i64 x2) (.slice pa pn pc) _ rfl
             exact bodyPost_ret (v := .tuple #[.agg #[.int .i64 x0, .int .i64 x1, .int .i64 x2, .string A], .agg #[.int .i64 x0, .int .i64 x1, .int .i64 x2, .slice pa pn pc]]) (by simp [results, Tryz.results20, go_sem, q0, q1, q2, q3, q4, q5, q6, q7]) rfl (hF.out _ _ (((hpre.out _ EP.out).eight E2.out E3.out (.int .i64 x0) (.int .i64 x1) (.int .i64 x2) (.string A) (.int .i64 x0) (.int .i64 x1) (.int .i64 x2) (.slice pa pn pc)).below (below_drew (Below.refl _ _))) (below_drew hbl)))
          | (obtain ⟨⟨q0, q1, q2, q3, q4, q5, q6, q7⟩, hbl⟩ := eight_cells E3.out E2.out (by omega) E0.out (by omega) (by omega) (.int .i64 x0) (.int .i64 x1) (.int .i64 x2) (.slice pa pn pc) (.int .i64 x0) (.int .i64 x1) (.int .i64 x2) (.string A) _ rfl
             exact bodyPost_ret (v := .tuple #[.agg #[.int .i64 x0, .int .i64 x1, .int .i64 x2, .string A], .agg #[.int .i64 x0, .int .i64 x1, .int .i64 x2, .slice pa pn pc]]) (by simp [results, Tryz.results20, go_sem, q0, q1, q2, q3, q4, q5, q6, q7]) rfl (hF.out _ _ (((hpre.out _ EP.out).eight E3.out E2.out (.int .i64 x0) (.int .i64 x1) (.int .i64 x2) (.slice pa pn pc) (.int .i64 x0) (.int .i64 x1) (.int .i64 x2) (.string A)).below (below_drew (Below.refl _ _))) (below_drew hbl)))
end Go.Proofs.YtjiofenpalokoaaGreatDoor.Vs
