/-
  LAYER 12: literals in order, each once, in plain mathematics. No program is imported.
-/
import Derived.Test.YtopneceicamakaaKit
import Derived.Lib.SlicesCompact
namespace Go.Proofs.Ytopneceicamakaa.Cf
open Go.Lib

/-- a literal's variable, as it is reckoned with 64 bits -/
def varR (x : Int) : Int := max x (Go.RowKit.wrap64 (-x))
def before (x y : Int) : Bool := decide (varR x < varR y ∨ (varR x = varR y ∧ x < y))
theorem before_iff {x y : Int} : before x y = true ↔ (varR x < varR y ∨ (varR x = varR y ∧ x < y)) := by unfold before; exact decide_eq_true_iff
theorem before_no {x y : Int} : before x y = false ↔ ¬ (varR x < varR y ∨ (varR x = varR y ∧ x < y)) := by unfold before; exact decide_eq_false_iff_not
theorem before_irr (x : Int) : before x x = false := by rw [before_no]; omega
theorem before_trans {x y z : Int} (h : before x y = true) (k : before y z = true) : before x z = true := by rw [before_iff] at *; omega
theorem before_asym {x y : Int} (h : before x y = true) : before y x = false := by rw [before_iff] at h; rw [before_no]; omega
theorem before_tot {x y : Int} (h : before x y = false) (k : before y x = false) : x = y := by
  rw [before_no] at h k
  by_cases e : varR x = varR y <;> omega

theorem uniq : ∀ a b : List Int, a.Pairwise (fun x y => before x y = true) → b.Pairwise (fun x y => before x y = true) → (∀ x, x ∈ a ↔ x ∈ b) → a = b
  | [], [], _, _, _ => rfl
  | [], y :: b, _, _, h => by have := (h y).2 (by simp); simp at this
  | x :: a, [], _, _, h => by have := (h x).1 (by simp); simp at this
  | x :: a, y :: b, ha, hb, h => by
    rw [List.pairwise_cons] at ha hb
    have hxy : x = y := by
      have h1 := (h x).1 (by simp)
      have h2 := (h y).2 (by simp)
      simp only [List.mem_cons] at h1 h2
      rcases h1 with h1 | h1
      · exact h1
      · rcases h2 with h2 | h2
        · exact h2.symm
        · have e1 := hb.1 x h1
          have e2 := ha.1 y h2
          rw [before_asym e1] at e2; cases e2
    subst hxy
    congr 1
    refine uniq a b ha.2 hb.2 (fun z => ?_)
    constructor
    · intro hz
      have := (h z).1 (by simp [hz])
      simp only [List.mem_cons] at this
      rcases this with e | e
      · exfalso; subst e; have := ha.1 z hz; rw [before_irr] at this; cases this
      · exact e
    · intro hz
      have := (h z).2 (by simp [hz])
      simp only [List.mem_cons] at this
      rcases this with e | e
      · exfalso; subst e; have := hb.1 z hz; rw [before_irr] at this; cases this
      · exact e

/-- x laid into a row that is in order -/
def insN (x : Int) (out : List Int) : List Int := if x ∈ out then out else (out.filter fun y => before y x) ++ x :: (out.filter fun y => before x y)
def normC (l : List Int) : List Int := l.foldl (fun out x => insN x out) []
def StrictS (l : List Int) : Prop := l.Pairwise (fun x y => before x y = true)

theorem insN_strict {x : Int} {out : List Int} (h : StrictS out) : StrictS (insN x out) ∧ ∀ z, z ∈ insN x out ↔ z = x ∨ z ∈ out := by
  unfold insN
  by_cases hx : x ∈ out
  · rw [if_pos hx]
    exact ⟨h, fun z => ⟨fun k => .inr k, fun k => k.elim (fun e => e ▸ hx) id⟩⟩
  · rw [if_neg hx]
    constructor
    · unfold StrictS
      rw [List.pairwise_append]
      refine ⟨h.filter _, ?_, ?_⟩
      · rw [List.pairwise_cons]
        exact ⟨fun y hy => (List.mem_filter.1 hy).2, h.filter _⟩
      · intro a ha b hb
        have ha' := (List.mem_filter.1 ha).2
        simp only [List.mem_cons] at hb
        rcases hb with rfl | hb
        · exact ha'
        · exact before_trans ha' (List.mem_filter.1 hb).2
    · intro z
      simp only [List.mem_append, List.mem_filter, List.mem_cons]
      constructor
      · rintro (⟨h1, _⟩ | rfl | ⟨h1, _⟩)
        · exact .inr h1
        · exact .inl rfl
        · exact .inr h1
      · rintro (rfl | hz)
        · exact .inr (.inl rfl)
        · cases hb : before z x
          · cases hb2 : before x z
            · exfalso; exact hx (by rw [before_tot hb2 hb]; exact hz)
            · exact .inr (.inr ⟨hz, rfl⟩)
          · exact .inl ⟨hz, rfl⟩
theorem foldN (l : List Int) : ∀ out, StrictS out → StrictS (l.foldl (fun out x => insN x out) out) ∧ ∀ z, z ∈ l.foldl (fun out x => insN x out) out ↔ z ∈ l ∨ z ∈ out := by
  induction l with
  | nil => intro out h; exact ⟨h, fun z => by simp⟩
  | cons x l ih =>
    intro out h
    obtain ⟨h1, h2⟩ := insN_strict (x := x) h
    obtain ⟨h3, h4⟩ := ih _ h1
    refine ⟨h3, fun z => ?_⟩
    rw [List.foldl_cons, h4, h2, List.mem_cons]
    constructor
    · rintro (a | b | c)
      · exact .inl (.inr a)
      · exact .inl (.inl b)
      · exact .inr c
    · rintro ((a | b) | c)
      · exact .inr (.inl a)
      · exact .inl b
      · exact .inr (.inr c)
theorem normC_strict (l : List Int) : StrictS (normC l) := (foldN l [] List.Pairwise.nil).1
theorem normC_mem (l : List Int) (z : Int) : z ∈ normC l ↔ z ∈ l := by
  have := (foldN l [] List.Pairwise.nil).2 z
  unfold normC; rw [this]; simp

/-- what is sorted, each once, is that -/
theorem compact_norm {l d : List Int} (hmem : ∀ x, x ∈ d ↔ x ∈ l) (hs : ∀ i j, i < j → j < d.length → before (d.getD j 0) (d.getD i 0) = false) : compact d = normC l := by
  have hget : ∀ j, j < d.length → d.toArray[j]! = d.getD j 0 := fun j hj => by
    rw [getElem!_pos d.toArray j (by simpa using hj), List.getD_eq_getElem?_getD, List.getElem?_eq_getElem hj]; simp
  have hkeep : ∀ j, j < d.length → (keeps d.toArray j = true ↔ (j = 0 ∨ d.getD j 0 ≠ d.getD (j - 1) 0)) := fun j hj => by
    unfold keeps
    by_cases h0 : j = 0
    · subst h0; simp
    · simp only [h0, false_or]
      rw [hget j hj, hget (j - 1) (by omega)]
      simp
  refine uniq _ _ ?_ (normC_strict l) (fun x => ?_)
  · unfold compact compactUpTo
    rw [List.pairwise_map]
    have hr : ((List.range d.length).filter (keeps d.toArray)).Pairwise (· < ·) := (List.pairwise_lt_range).filter _
    refine List.Pairwise.imp_of_mem (fun {a b} ha hb hab => ?_) hr
    have ha' := List.mem_filter.1 ha
    have hb' := List.mem_filter.1 hb
    have hal : a < d.length := by simpa using ha'.1
    have hbl : b < d.length := by simpa using hb'.1
    rw [hget a hal, hget b hbl]
    have hk := (hkeep b hbl).1 hb'.2
    have h1 := hs a b hab hbl
    cases h2 : before (d.getD a 0) (d.getD b 0)
    · exfalso
      have e := before_tot h2 h1
      have h3 := hs (b - 1) b (by omega) hbl
      have h4 : before (d.getD (b - 1) 0) (d.getD a 0) = false := by
        by_cases hab2 : a = b - 1
        · rw [← hab2]; exact before_irr _
        · exact hs a (b - 1) (by omega) (by omega)
      rw [e] at h4
      have := before_tot h4 h3
      rcases hk with hk | hk
      · omega
      · exact hk this.symm
    · rfl
  · rw [normC_mem, ← hmem]
    unfold compact compactUpTo
    rw [List.mem_map]
    constructor
    · rintro ⟨j, hj, rfl⟩
      have hjl : j < d.length := by simpa using (List.mem_filter.1 hj).1
      rw [hget j hjl, List.getD_eq_getElem?_getD, List.getElem?_eq_getElem hjl]
      exact List.getElem_mem _
    · intro hx
      obtain ⟨j, hj, rfl⟩ := List.mem_iff_getElem.1 hx
      induction j with
      | zero => exact ⟨0, List.mem_filter.2 ⟨by simpa using hj, (hkeep 0 hj).2 (.inl rfl)⟩, by rw [hget 0 hj, List.getD_eq_getElem?_getD, List.getElem?_eq_getElem hj]; rfl⟩
      | succ j ih =>
        by_cases hk : d.getD (j + 1) 0 = d.getD j 0
        · obtain ⟨i, hi1, hi2⟩ := ih (by omega) (List.getElem_mem _)
          refine ⟨i, hi1, ?_⟩
          rw [hi2]
          rw [List.getD_eq_getElem?_getD, List.getElem?_eq_getElem hj, List.getD_eq_getElem?_getD, List.getElem?_eq_getElem (by omega)] at hk
          exact hk.symm
        · exact ⟨j + 1, List.mem_filter.2 ⟨by simpa using hj, (hkeep (j + 1) hj).2 (.inr hk)⟩, by rw [hget (j + 1) hj, List.getD_eq_getElem?_getD, List.getElem?_eq_getElem hj]; rfl⟩

/-- are two neighbours contraries? -/
def adjT (r : List Int) : Bool := (List.range r.length).any fun i => decide (1 ≤ i) && (r.getD i 0 == - r.getD (i - 1) 0)
end Go.Proofs.Ytopneceicamakaa.Cf
