/-
  LAYER 4: what the law SpecHighests counts: the place of the highest so far.
-/
import Derived.Test.YtebhgcejcdgdbaaGreatDoorML
import Derived.Test.YtebhgcejcdgdbaaGreatDoorSpecTop
namespace Go.Proofs.YtebhgcejcdgdbaaGreatDoor.Sp
open Go.RowKit Go.Sort
open Go.Proofs.YtebhgcejcdgdbaaGreatDoor Go.Proofs.YtebhgcejcdgdbaaGreatDoor.Nu Go.Proofs.YtebhgcejcdgdbaaGreatDoor.Vs

theorem getD_app {α : Type} {l m : List α} {k : Nat} {d : α} (h : k < l.length) : (l ++ m).getD k d = l.getD k d := by
  rw [List.getD_eq_getElem?_getD, List.getD_eq_getElem?_getD, List.getElem?_append_left h]
theorem getD_last {α : Type} {l : List α} {x d : α} : (l ++ [x]).getD l.length d = x := by
  rw [List.getD_eq_getElem?_getD, List.getElem?_append_right (Nat.le_refl _), Nat.sub_self]; rfl
theorem hiT_app (rs : List (List CompT)) (vs us : List VerT) : ∀ k, k ≤ vs.length → hiT rs (vs ++ us) k = hiT rs vs k := by
  intro k
  induction k with
  | zero => intro _; rfl
  | succ k ih =>
    intro h
    have ih' := ih (by omega)
    unfold hiT
    rw [ih', getD_app (by omega)]
    cases hh : hiT rs vs k with
    | none => rfl
    | some g =>
      have := hiT_lt rs vs k g hh
      dsimp only
      rw [getD_app (by omega)]
/-- the place of the highest, or none: of what may be a range -/
def hiO (o : Option (List (List CompT))) (vs : List VerT) (k : Nat) : Option Nat := match o with
  | none => none
  | some rs => hiT rs vs k
def hasO (o : Option (List (List CompT))) (v : VerT) : Bool := match o with
  | none => false
  | some rs => hasT rs v
/-- what is held ahead of a round: the highest so far, and its place -/
def Best (o : Option (List (List CompT))) (vs : List VerT) (H : Option Nat) (b : VerT) : Prop := H = hiO o vs vs.length ∧ ∀ h, H = some h → h < vs.length ∧ vs.getD h zeroT = b
theorem Best.start (o : Option (List (List CompT))) : Best o [] none zeroT := ⟨by cases o <;> rfl, fun _ h => nomatch h⟩
theorem Best.no {o : Option (List (List CompT))} {vs : List VerT} {H : Option Nat} {b v : VerT} (h : Best o vs H b) (hn : hasO o v = false) : Best o (vs ++ [v]) H b := by
  refine ⟨?_, fun g hg => ?_⟩
  · rw [h.1, List.length_append, List.length_singleton]
    cases o with
    | none => rfl
    | some rs =>
      show hiT rs vs vs.length = hiT rs (vs ++ [v]) (vs.length + 1)
      have e : hasT rs v = false := hn
      rw [hiT, getD_last, if_neg (by rw [e]; decide), hiT_app rs vs [v] _ (Nat.le_refl _)]
  · obtain ⟨h1, h2⟩ := h.2 g hg
    exact ⟨by rw [List.length_append, List.length_singleton]; omega, by rw [getD_app h1]; exact h2⟩
theorem Best.first {o : Option (List (List CompT))} {vs : List VerT} {b v : VerT} (h : Best o vs none b) (hy : hasO o v = true) : Best o (vs ++ [v]) (some vs.length) v := by
  refine ⟨?_, fun g hg => ?_⟩
  · rw [List.length_append, List.length_singleton]
    cases o with
    | none => cases hy
    | some rs =>
      show some vs.length = hiT rs (vs ++ [v]) (vs.length + 1)
      have e : hasT rs v = true := hy
      have h1 : hiT rs vs vs.length = none := h.1.symm
      rw [hiT, getD_last, if_pos e, hiT_app rs vs [v] _ (Nat.le_refl _), h1]
  · injection hg with hg
    subst hg
    exact ⟨by rw [List.length_append, List.length_singleton]; omega, getD_last⟩
theorem Best.more {o : Option (List (List CompT))} {vs : List VerT} {g : Nat} {b v : VerT} (h : Best o vs (some g) b) (hy : hasO o v = true) (hc : 0 < cmpT v b) : Best o (vs ++ [v]) (some vs.length) v := by
  refine ⟨?_, fun g hg => ?_⟩
  · rw [List.length_append, List.length_singleton]
    cases o with
    | none => cases hy
    | some rs =>
      show some vs.length = hiT rs (vs ++ [v]) (vs.length + 1)
      have e : hasT rs v = true := hy
      have h1 : hiT rs vs vs.length = some g := h.1.symm
      obtain ⟨h2, h3⟩ := h.2 g rfl
      rw [hiT, getD_last, if_pos e, hiT_app rs vs [v] _ (Nat.le_refl _), h1]
      dsimp only
      rw [getD_app h2, h3, if_pos hc]
  · injection hg with hg
    subst hg
    exact ⟨by rw [List.length_append, List.length_singleton]; omega, getD_last⟩
theorem Best.less {o : Option (List (List CompT))} {vs : List VerT} {g : Nat} {b v : VerT} (h : Best o vs (some g) b) (hy : hasO o v = true) (hc : ¬ 0 < cmpT v b) : Best o (vs ++ [v]) (some g) b := by
  obtain ⟨h2, h3⟩ := h.2 g rfl
  refine ⟨?_, fun g' hg => ?_⟩
  · rw [List.length_append, List.length_singleton]
    cases o with
    | none => cases hy
    | some rs =>
      show some g = hiT rs (vs ++ [v]) (vs.length + 1)
      have e : hasT rs v = true := hy
      have h1 : hiT rs vs vs.length = some g := h.1.symm
      rw [hiT, getD_last, if_pos e, hiT_app rs vs [v] _ (Nat.le_refl _), h1]
      dsimp only
      rw [getD_app h2, h3, if_neg hc]
  · injection hg with hg
    subst hg
    exact ⟨by rw [List.length_append, List.length_singleton]; omega, by rw [getD_app h2]; exact h3⟩

theorem cellsV_int {vs : List VerT} : ∀ x, (cellsV vs)[0]? = some x → ¬ isStr x := by
  intro x hx
  cases vs with
  | nil => simp [cellsV] at hx
  | cons d ds =>
    have : x = .int .i64 (d.a : Int) := by
      unfold cellsV at hx
      rw [List.flatMap_cons] at hx
      simpa [verCells] using hx.symm
    subst this
    rintro ⟨t, h⟩; cases h
/-- the highest so far, stored in its place -/
theorem best_set {w2 W : World} {e : TypeId} {x0 x1 x2 x3 : Value} (hb : Blk W w2.heap.size [x0, x1, x2, x3] e) (a0 a1 a2 a3 : Value) : Blk ((((W.setCell ⟨w2.heap.size, 0, none⟩ a0).setCell ⟨w2.heap.size, 1, none⟩ a1).setCell ⟨w2.heap.size, 2, none⟩ a2).setCell ⟨w2.heap.size, 3, none⟩ a3) w2.heap.size [a0, a1, a2, a3] e := (((hb.set 0 a0).set 1 a1).set 2 a2).set 3 a3
theorem best_pre {W : World} {b : Nat} {e : TypeId} {k : IntKind} {x : Int} {r : List Value} {pv : Value} {Q : List (List UInt8)} (h : PreAt W pv Q) (hx : Blk W b (.int k x :: r) e) (a0 a1 a2 a3 : Value) :
    PreAt ((((W.setCell ⟨b, 0, none⟩ a0).setCell ⟨b, 1, none⟩ a1).setCell ⟨b, 2, none⟩ a2).setCell ⟨b, 3, none⟩ a3) pv Q := by
  rcases h with h | ⟨g, cc, h1, h2, h3, h4, h5⟩
  · exact .inl h
  · have n1 := cells_ne h5 h1 hx
    exact .inr ⟨g, cc, h1, h2, h3, h4, (((h5.other n1 a0).other n1 a1).other n1 a2).other n1 a3⟩
end Go.Proofs.YtebhgcejcdgdbaaGreatDoor.Sp
