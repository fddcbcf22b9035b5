/-
  ROWS IN MEMORY: slices that read as values, as numbers, as lists of numbers; the first place at which something holds. No program is imported.
-/
import Derived.Test.YtopneceicamakaaOnly
namespace Go.Proofs.Ytopneceicamakaa
open Go.RowKit Go.Proofs.Ytopneceicamakaa.Ln

/-- a slice that reads as those values -/
def Cells (w : World) (v : Value) (vs : List Value) : Prop :=
  ∃ a c, v = .slice a vs.length c ∧ vs.length ≤ c ∧ vs.length ≤ 17592186044416 ∧ (0 < vs.length → ∃ B o, a = some ⟨B, o, none⟩ ∧ B < w.heap.size ∧ ∀ j (h : j < vs.length), w.cell? ⟨B, o + j, none⟩ = some vs[j])
theorem Cells.below {w w' : World} {v : Value} {vs : List Value} (h : Cells w v vs) (hb : Below w.heap.size w w') : Cells w' v vs := by
  obtain ⟨a, c, h1, h2, h3, h4⟩ := h
  refine ⟨a, c, h1, h2, h3, fun hp => ?_⟩
  obtain ⟨B, o, e, hB, hc⟩ := h4 hp
  exact ⟨B, o, e, Nat.lt_of_lt_of_le hB hb.size, fun j hj => (hb.cell (p := ⟨B, o + j, none⟩) hB).trans (hc j hj)⟩
theorem Cells.only {w w' : World} {v : Value} {vs : List Value} (h : Cells w v vs) {F : Nat → Prop} (ho : Only F w w') (hF : ∀ b, b < w.heap.size → ¬ F b) : Cells w' v vs :=
  h.below (ho.below (Nat.le_refl _) hF)
theorem Cells.nil (w : World) (a : Option Addr) (c : Nat) : Cells w (.slice a 0 c) [] := ⟨a, c, rfl, Nat.zero_le _, by decide, fun h => absurd h (by decide)⟩

def intsV (l : List Int) : List Value := l.map (.int .i64)
def Ints (w : World) (v : Value) (l : List Int) : Prop := Cells w v (intsV l)
theorem Ints.below {w w' : World} {v : Value} {l : List Int} (h : Ints w v l) (hb : Below w.heap.size w w') : Ints w' v l := Cells.below h hb
theorem Ints.shape {w : World} {v : Value} {l : List Int} (h : Ints w v l) : ∃ a c, v = .slice a l.length c ∧ l.length ≤ c ∧ l.length ≤ 17592186044416 ∧ (0 < l.length → ∃ B o, a = some ⟨B, o, none⟩ ∧ B < w.heap.size ∧ ∀ j, j < l.length → w.cell? ⟨B, o + j, none⟩ = some (.int .i64 (l.getD j 0))) := by
  obtain ⟨a, c, h1, h2, h3, h4⟩ := h
  simp only [intsV, List.length_map] at h1 h2 h3 h4
  refine ⟨a, c, h1, h2, h3, fun hp => ?_⟩
  obtain ⟨B, o, e, hB, hc⟩ := h4 hp
  refine ⟨B, o, e, hB, fun j hj => ?_⟩
  rw [hc j hj, List.getElem_map, List.getD_eq_getElem?_getD, List.getElem?_eq_getElem hj]; rfl
/-- lists of numbers -/
def Lists (w : World) (v : Value) (ll : List (List Int)) : Prop := ∃ vs, Cells w v vs ∧ vs.length = ll.length ∧ ∀ j (h : j < vs.length) (k : j < ll.length), Ints w vs[j] ll[j]
theorem Lists.below {w w' : World} {v : Value} {ll : List (List Int)} (h : Lists w v ll) (hb : Below w.heap.size w w') : Lists w' v ll := by
  obtain ⟨vs, h1, h2, h3⟩ := h
  exact ⟨vs, h1.below hb, h2, fun j h k => (h3 j h k).below hb⟩

/-- the first place below n at which something holds, or -1 -/
def idxP (p : Nat → Bool) (n : Nat) : Int := match (List.range n).find? p with
  | some j => (j : Int)
  | none => -1
theorem idxP_some {p : Nat → Bool} {n j : Nat} (hj : j < n) (hp : p j = true) (hno : ∀ i, i < j → p i = false) : idxP p n = j := by
  unfold idxP
  have : (List.range n).find? p = some j := by
    rw [List.find?_range_eq_some]
    exact ⟨hp, by simpa using hj, fun i hi => by simp [hno i hi]⟩
  rw [this]
theorem idxP_none {p : Nat → Bool} {n : Nat} (hno : ∀ i, i < n → p i = false) : idxP p n = -1 := by
  unfold idxP
  have : (List.range n).find? p = none := by
    rw [List.find?_range_eq_none]
    exact fun i hi => by simp [hno i hi]
  rw [this]
theorem idxP_any (p : Nat → Bool) (n : Nat) : decide (0 ≤ idxP p n) = (List.range n).any p := by
  unfold idxP
  cases h : (List.range n).find? p with
  | none =>
    have : (List.range n).any p = false := by
      rw [List.any_eq_false]
      intro x hx
      have := List.find?_eq_none.1 h x hx
      simpa using this
    rw [this]; rfl
  | some j =>
    have h1 := List.find?_some h
    have h2 := List.mem_of_find?_eq_some h
    have : (List.range n).any p = true := List.any_eq_true.2 ⟨j, h2, h1⟩
    rw [this]
    exact decide_eq_true (by show (0 : Int) ≤ (j : Int); omega)
theorem any_list {α : Type} (l : List α) (d : α) (q : α → Bool) : (List.range l.length).any (fun j => q (l.getD j d)) = l.any q := by
  rw [Bool.eq_iff_iff, List.any_eq_true, List.any_eq_true]
  constructor
  · rintro ⟨j, hj, hq⟩
    have hj' : j < l.length := by simpa using hj
    refine ⟨l[j], List.getElem_mem _, ?_⟩
    rwa [List.getD_eq_getElem?_getD, List.getElem?_eq_getElem hj'] at hq
  · rintro ⟨x, hx, hq⟩
    obtain ⟨j, hj, rfl⟩ := List.mem_iff_getElem.1 hx
    refine ⟨j, by simpa using hj, ?_⟩
    rw [List.getD_eq_getElem?_getD, List.getElem?_eq_getElem hj]; exact hq

/-- a function value answers so at those values, in whatever world that has grown out of w; what it makes is new -/
def PredB (P : Program) (g : Nat) (lb : Array Value) (vs : List Value) (p : Nat → Bool) (w : World) : Prop :=
  ∀ (j : Nat) (h : j < vs.length) (W : World), Below w.heap.size w W → Calls P g (#[vs[j]] ++ lb) W fun e w' => e = .returned (.bool (p j)) ∧ Below W.heap.size W w'
end Go.Proofs.Ytopneceicamakaa
