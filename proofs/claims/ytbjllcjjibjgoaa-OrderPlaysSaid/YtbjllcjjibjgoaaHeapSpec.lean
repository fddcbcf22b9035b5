/-
  LAYER 13: plain mathematics of a heap that lies in a list, of the places of what is in it, and of what goes out of it first. No program is imported.
-/
import Derived.Test.YtbjllcjjibjgoaaKit
namespace Go.Proofs.Ytbjllcjjibjgoaa.Hp

/-- a goes out ahead of b -/
def ahead (S : List Nat) (a b : Nat) : Prop := S.getD b 0 < S.getD a 0 ∨ (S.getD a 0 = S.getD b 0 ∧ a < b)
instance (S : List Nat) (a b : Nat) : Decidable (ahead S a b) := by unfold ahead; exact inferInstance
theorem ahead_trans {S : List Nat} {a b c : Nat} (h : ahead S a b) (k : ahead S b c) : ahead S a c := by unfold ahead at *; omega
theorem not_trans {S : List Nat} {a b c : Nat} (h : ¬ ahead S a b) (k : ¬ ahead S b c) : ¬ ahead S a c := by unfold ahead at *; omega
theorem not_of {S : List Nat} {a b : Nat} (h : ahead S a b) : ¬ ahead S b a := by unfold ahead at *; omega
theorem not_self (S : List Nat) (a : Nat) : ¬ ahead S a a := by unfold ahead; omega
theorem tot {S : List Nat} {a b : Nat} (h : ¬ ahead S a b) (k : ¬ ahead S b a) : a = b := by unfold ahead at *; omega

def cnt (I : List Bool) : Nat := (I.filter id).length

theorem cnt_le (I : List Bool) : cnt I ≤ I.length := List.length_filter_le _ _
theorem cnt_set {I : List Bool} : ∀ {v : Nat} (_ : v < I.length) (b : Bool), cnt (I.set v b) + (if I.getD v false = true then 1 else 0) = cnt I + (if b = true then 1 else 0) := by
  induction I with
  | nil => intro v h; simp at h
  | cons x I ih =>
    intro v h b
    cases v with
    | zero => cases x <;> cases b <;> simp [cnt]
    | succ v =>
      have := ih (v := v) (by simpa using h) b
      cases x <;> simp [cnt] at this ⊢ <;> omega
theorem cnt_head {I : List Bool} (h : I.getD 0 false = false) (hl : 0 < I.length) : cnt I + 1 ≤ I.length := by
  cases I with
  | nil => simp at hl
  | cons x I =>
    have : x = false := by simpa using h
    subst this
    have := List.length_filter_le id I
    simp [cnt]; omega
theorem cnt_room {I : List Bool} {v : Nat} (h0 : I.getD 0 false = false) (hv : 1 ≤ v) (hl : v < I.length) (hf : I.getD v false = false) : cnt I + 2 ≤ I.length := by
  have h1 := cnt_set (I := I) hl true
  have h2 := cnt_head (I := I.set v true) (by rw [List.getD_eq_getElem?_getD, List.getElem?_set_ne (by omega), ← List.getD_eq_getElem?_getD]; exact h0) (by simp; omega)
  rw [hf] at h1
  simp at h1 h2
  omega

def par (i : Nat) : Nat := (i - 1) / 2

theorem getD_set {α : Type} (l : List α) (i j : Nat) (a d : α) : (l.set i a).getD j d = if i = j ∧ j < l.length then a else l.getD j d := by
  rw [List.getD_eq_getElem?_getD, List.getD_eq_getElem?_getD, List.getElem?_set]
  by_cases h : i = j
  · subst h
    by_cases k : i < l.length
    · simp [k]
    · simp [k]
  · simp [h]

/-- where all that is in stands -/
structure Pl (N : Nat) (I : List Bool) (P : List Int) (T : List Nat) : Prop where
  lenI : I.length = N + 1
  lenP : P.length = N + 1
  zero : I.getD 0 false = false
  count : T.length = cnt I
  tree : ∀ i, i < T.length → 1 ≤ T.getD i 0 ∧ T.getD i 0 ≤ N ∧ P.getD (T.getD i 0) 0 = (i : Int)
  place : ∀ v, 1 ≤ v → v ≤ N → (I.getD v false = true ∧ 0 ≤ P.getD v 0 ∧ (P.getD v 0).toNat < T.length ∧ T.getD (P.getD v 0).toNat 0 = v) ∨ (I.getD v false = false ∧ P.getD v 0 = -1)

theorem Pl.inj {N : Nat} {I : List Bool} {P : List Int} {T : List Nat} (h : Pl N I P T) {i j : Nat} (hi : i < T.length) (hj : j < T.length) (e : T.getD i 0 = T.getD j 0) : i = j := by
  have h1 := (h.tree i hi).2.2
  have h2 := (h.tree j hj).2.2
  rw [e, h2] at h1
  omega
theorem Pl.isin {N : Nat} {I : List Bool} {P : List Int} {T : List Nat} (h : Pl N I P T) {i : Nat} (hi : i < T.length) : I.getD (T.getD i 0) false = true := by
  obtain ⟨h1, h2, h3⟩ := h.tree i hi
  rcases h.place _ h1 h2 with h' | h'
  · exact h'.1
  · rw [h'.2] at h3; omega
theorem Pl.small {N : Nat} {I : List Bool} {P : List Int} {T : List Nat} (h : Pl N I P T) : T.length ≤ N := by
  have h1 := cnt_head h.zero (by rw [h.lenI]; omega)
  rw [h.lenI, ← h.count] at h1
  omega

/-- two of the tree change places -/
theorem Pl.swap {N : Nat} {I : List Bool} {P : List Int} {T : List Nat} (h : Pl N I P T) {i j : Nat} (hi : i < T.length) (hj : j < T.length) (hne : i ≠ j) :
    Pl N I ((P.set (T.getD i 0) (j : Int)).set (T.getD j 0) (i : Int)) ((T.set i (T.getD j 0)).set j (T.getD i 0)) := by
  obtain ⟨i1, i2, i3⟩ := h.tree i hi
  obtain ⟨j1, j2, j3⟩ := h.tree j hj
  have hd : T.getD i 0 ≠ T.getD j 0 := fun e => hne (h.inj hi hj e)
  have lp := h.lenP
  have key : ∀ k, k < T.length → ((T.set i (T.getD j 0)).set j (T.getD i 0)).getD k 0 = if k = j then T.getD i 0 else if k = i then T.getD j 0 else T.getD k 0 := by
    intro k hk
    rw [getD_set, getD_set]
    simp only [List.length_set]
    by_cases hkj : k = j
    · subst hkj; simp [hk]
    · by_cases hki : k = i
      · subst hki; simp [hk, hkj, Ne.symm hkj]
      · simp [hkj, hki, Ne.symm hkj, Ne.symm hki]
  have keyP : ∀ v, v ≤ N → ((P.set (T.getD i 0) (j : Int)).set (T.getD j 0) (i : Int)).getD v 0 = if v = T.getD j 0 then (i : Int) else if v = T.getD i 0 then (j : Int) else P.getD v 0 := by
    intro v hv
    rw [getD_set, getD_set]
    simp only [List.length_set, lp]
    by_cases h1 : v = T.getD j 0
    · rw [if_pos ⟨h1.symm, by omega⟩, if_pos h1]
    · rw [if_neg (fun x => h1 x.1.symm), if_neg h1]
      by_cases h2 : v = T.getD i 0
      · rw [if_pos ⟨h2.symm, by omega⟩, if_pos h2]
      · rw [if_neg (fun x => h2 x.1.symm), if_neg h2]
  refine ⟨h.lenI, by simp [lp], h.zero, by simp [h.count], ?_, ?_⟩
  · intro k hk
    simp only [List.length_set] at hk
    rw [key k hk]
    by_cases hkj : k = j
    · subst hkj
      rw [if_pos rfl]
      refine ⟨i1, i2, ?_⟩
      rw [keyP _ i2, if_neg hd, if_pos rfl]
    · rw [if_neg hkj]
      by_cases hki : k = i
      · subst hki
        rw [if_pos rfl]
        exact ⟨j1, j2, by rw [keyP _ j2, if_pos rfl]⟩
      · rw [if_neg hki]
        obtain ⟨k1, k2, k3⟩ := h.tree k hk
        refine ⟨k1, k2, ?_⟩
        rw [keyP _ k2, if_neg (fun e => hkj (h.inj hk hj e)), if_neg (fun e => hki (h.inj hk hi e))]
        exact k3
  · intro v v1 v2
    rw [keyP v v2]
    by_cases hvj : v = T.getD j 0
    · left
      rw [if_pos hvj]
      refine ⟨by rw [hvj]; exact h.isin hj, by omega, by simp; omega, ?_⟩
      rw [Int.toNat_natCast, key i hi, if_neg hne, if_pos rfl, hvj]
    · rw [if_neg hvj]
      by_cases hvi : v = T.getD i 0
      · left
        rw [if_pos hvi]
        refine ⟨by rw [hvi]; exact h.isin hi, by omega, by simp; omega, ?_⟩
        rw [Int.toNat_natCast, key j hj, if_pos rfl, hvi]
      · rw [if_neg hvi]
        rcases h.place v v1 v2 with ⟨a, b, c, d⟩ | hh
        · left
          refine ⟨a, b, by simpa using c, ?_⟩
          rw [key _ c, if_neg (by intro e; rw [e] at d; exact hvj d.symm), if_neg (by intro e; rw [e] at d; exact hvi d.symm)]
          exact d
        · exact .inr hh

/-- the heap's order from a place on: what stands below a place that is not ahead of a -/
def From (S T : List Nat) (a : Nat) : Prop := ∀ i, 0 < i → i < T.length → a ≤ par i → ¬ ahead S (T.getD i 0) (T.getD (par i) 0)
/-- but at one place: what stands there may be ahead of what is above it -/
structure Up (S T : List Nat) (at' : Nat) : Prop where
  rest : ∀ i, 0 < i → i < T.length → i ≠ at' → ¬ ahead S (T.getD i 0) (T.getD (par i) 0)
  over : ∀ i, 0 < i → i < T.length → par i = at' → 0 < at' → ¬ ahead S (T.getD i 0) (T.getD (par at') 0)
/-- but at one place: what stands below it may be ahead of it -/
structure Down (S T : List Nat) (a at' : Nat) : Prop where
  rest : ∀ i, 0 < i → i < T.length → a ≤ par i → par i ≠ at' → ¬ ahead S (T.getD i 0) (T.getD (par i) 0)
  over : ∀ i, 0 < i → i < T.length → par i = at' → 0 < at' → a ≤ par at' → ¬ ahead S (T.getD i 0) (T.getD (par at') 0)

theorem swap_get {T : List Nat} {i j : Nat} (hi : i < T.length) (hj : j < T.length) (hne : i ≠ j) (k : Nat) :
    ((T.set i (T.getD j 0)).set j (T.getD i 0)).getD k 0 = if k = j then T.getD i 0 else if k = i then T.getD j 0 else T.getD k 0 := by
  rw [getD_set, getD_set]
  simp only [List.length_set]
  by_cases hkj : k = j
  · subst hkj; simp [hj]
  · by_cases hki : k = i
    · subst hki; simp [hi, hkj, Ne.symm hkj]
    · simp [hkj, hki, Ne.symm hkj, Ne.symm hki]

theorem Up.done {S T : List Nat} {at' : Nat} (h : Up S T at') (hs : at' = 0 ∨ ¬ ahead S (T.getD at' 0) (T.getD (par at') 0)) : From S T 0 := by
  intro i h0 hi _
  by_cases e : i = at'
  · subst e
    rcases hs with hs | hs
    · omega
    · exact hs
  · exact h.rest i h0 hi e

theorem Up.step {S T : List Nat} {at' : Nat} (h : Up S T at') (h0 : 0 < at') (hl : at' < T.length) (ha : ahead S (T.getD at' 0) (T.getD (par at') 0)) :
    Up S ((T.set at' (T.getD (par at') 0)).set (par at') (T.getD at' 0)) (par at') := by
  have hp : par at' < at' := by unfold par; omega
  have hg := swap_get (T := T) (i := at') (j := par at') hl (by omega) (by omega)
  constructor
  · intro i hi hil hne
    simp only [List.length_set] at hil
    have hpi : par i < i := by unfold par; omega
    rw [hg i, if_neg hne, hg (par i)]
    by_cases e : i = at'
    · subst e
      rw [if_pos rfl, if_pos rfl]
      exact not_of ha
    · rw [if_neg e]
      by_cases e1 : par i = par at'
      · rw [if_pos e1]
        have h1 := h.rest i hi hil e
        rw [e1] at h1
        exact not_trans h1 (not_of ha)
      · rw [if_neg e1]
        by_cases e2 : par i = at'
        · rw [if_pos e2]
          exact h.over i hi hil e2 h0
        · rw [if_neg e2]
          exact h.rest i hi hil e
  · intro i hi hil he hpos
    simp only [List.length_set] at hil
    have hpi : par i < i := by unfold par; omega
    have hpp : par (par at') < par at' := by unfold par at hpos ⊢; omega
    rw [hg i, if_neg (show ¬ i = par at' by omega), hg (par (par at')), if_neg (show ¬ par (par at') = par at' by omega), if_neg (show ¬ par (par at') = at' by omega)]
    have hup := h.rest (par at') hpos (by omega) (by omega)
    by_cases e : i = at'
    · rw [if_pos e]; exact hup
    · rw [if_neg e]
      have h1 := h.rest i hi hil e
      rw [he] at h1
      exact not_trans h1 hup

theorem Down.start {S T : List Nat} {a : Nat} (h : From S T (a + 1)) : Down S T a a := by
  constructor
  · intro i h0 hi ha hne; exact h i h0 hi (by omega)
  · intro i h0 hi he hp ha
    have : par a < a := by unfold par; omega
    omega
theorem Down.done {S T : List Nat} {a at' : Nat} (h : Down S T a at') (hs : ∀ i, 0 < i → i < T.length → par i = at' → ¬ ahead S (T.getD i 0) (T.getD at' 0)) : From S T a := by
  intro i h0 hi ha
  by_cases e : par i = at'
  · rw [e]; exact hs i h0 hi e
  · exact h.rest i h0 hi ha e

theorem Down.step {S T : List Nat} {a at' c : Nat} (h : Down S T a at') (haa : a ≤ at') (hc : c < T.length) (h0 : 0 < c) (hp : par c = at') (ha : ahead S (T.getD c 0) (T.getD at' 0))
    (hmost : ∀ i, 0 < i → i < T.length → par i = at' → ¬ ahead S (T.getD i 0) (T.getD c 0)) :
    Down S ((T.set at' (T.getD c 0)).set c (T.getD at' 0)) a c := by
  have hlt : at' < c := by unfold par at hp; omega
  have hg := swap_get (T := T) (i := at') (j := c) (by omega) hc (by omega)
  constructor
  · intro i hi hil hai hne
    simp only [List.length_set] at hil
    have hpi : par i < i := by unfold par; omega
    rw [hg (par i), if_neg hne, hg i]
    by_cases e1 : i = c
    · subst e1
      rw [if_pos rfl, if_pos hp]
      exact not_of ha
    · rw [if_neg e1]
      by_cases e2 : i = at'
      · subst e2
        rw [if_pos rfl, if_neg (by omega)]
        exact h.over c h0 hc hp (by omega) hai
      · rw [if_neg e2]
        by_cases e3 : par i = at'
        · rw [if_pos e3]
          exact hmost i hi hil e3
        · rw [if_neg e3]
          exact h.rest i hi hil hai e3
  · intro i hi hil he hcp hac
    simp only [List.length_set] at hil
    have hpi : par i < i := by unfold par; omega
    rw [hg i, if_neg (by omega), if_neg (by omega), hg (par c), if_neg (by omega), hp, if_pos rfl]
    have := h.rest i hi hil (by omega) (by omega)
    rw [he] at this
    exact this

/-- the first of all goes out first -/
theorem top {S T : List Nat} (h : From S T 0) : ∀ i, i < T.length → ¬ ahead S (T.getD i 0) (T.getD 0 0) := by
  intro i
  induction i using Nat.strongRecOn with
  | ind i ih =>
    intro hi
    by_cases h0 : i = 0
    · subst h0; exact not_self _ _
    · have hp : par i < i := by unfold par; omega
      exact not_trans (h i (by omega) hi (Nat.zero_le _)) (ih (par i) hp (by omega))

/-- what goes out next, by definition: the first of those with the greatest score; 0: none is in. k: how many variables have been looked at -/
def bestTo (S : List Nat) (I : List Bool) : Nat → Nat
  | 0 => 0
  | k + 1 => let a := bestTo S I k; if I.getD (k + 1) false = true ∧ (a = 0 ∨ S.getD a 0 < S.getD (k + 1) 0) then k + 1 else a
theorem bestTo_le (S : List Nat) (I : List Bool) (k : Nat) : bestTo S I k ≤ k := by
  induction k with
  | zero => exact Nat.le_refl _
  | succ k ih => unfold bestTo; simp only []; split <;> omega
theorem bestTo_some (S : List Nat) (I : List Bool) (k : Nat) (h : bestTo S I k ≠ 0) : I.getD (bestTo S I k) false = true ∧ ∀ v, 1 ≤ v → v ≤ k → I.getD v false = true → ¬ ahead S v (bestTo S I k) := by
  induction k with
  | zero => exact absurd rfl h
  | succ k ih =>
    unfold bestTo at h ⊢
    simp only [] at h ⊢
    have hle := bestTo_le S I k
    split
    · rename_i hc
      refine ⟨hc.1, fun v v1 v2 hv => ?_⟩
      by_cases e : v = k + 1
      · subst e; exact not_self _ _
      · rcases hc.2 with h0 | h0
        · exfalso
          have : ∀ j, j ≤ k → bestTo S I j = 0 → ∀ v, 1 ≤ v → v ≤ j → I.getD v false = false := by
            intro j
            induction j with
            | zero => intro _ _ v v1 v2; omega
            | succ j ihj =>
              intro hj hz v v1 v2
              unfold bestTo at hz
              simp only [] at hz
              split at hz
              · omega
              · rename_i hn
                by_cases ev : v = j + 1
                · subst ev
                  rw [hz] at hn
                  simp at hn
                  simpa using hn
                · exact ihj (by omega) hz v v1 (by omega)
          have := this k (Nat.le_refl _) h0 v v1 (by omega)
          rw [this] at hv; cases hv
        · by_cases hb : bestTo S I k = 0
          · exfalso
            have : ∀ j, j ≤ k → bestTo S I j = 0 → ∀ v, 1 ≤ v → v ≤ j → I.getD v false = false := by
              intro j
              induction j with
              | zero => intro _ _ v v1 v2; omega
              | succ j ihj =>
                intro hj hz v v1 v2
                unfold bestTo at hz
                simp only [] at hz
                split at hz
                · omega
                · rename_i hn
                  by_cases ev : v = j + 1
                  · subst ev
                    rw [hz] at hn
                    simp at hn
                    simpa using hn
                  · exact ihj (by omega) hz v v1 (by omega)
            have := this k (Nat.le_refl _) hb v v1 (by omega)
            rw [this] at hv; cases hv
          · have h1 := (ih hb).2 v v1 (by omega) hv
            unfold ahead at h1 ⊢
            omega
    · rename_i hn
      rw [if_neg hn] at h
      obtain ⟨h1, h2⟩ := ih h
      refine ⟨h1, fun v v1 v2 hv => ?_⟩
      by_cases e : v = k + 1
      · subst e
        have h3 : ¬ S.getD (bestTo S I k) 0 < S.getD (k + 1) 0 := fun x => hn ⟨hv, .inr x⟩
        unfold ahead; omega
      · exact h2 v v1 (by omega) hv
theorem bestTo_none (S : List Nat) (I : List Bool) (k : Nat) (h : bestTo S I k = 0) : ∀ v, 1 ≤ v → v ≤ k → I.getD v false = false := by
  induction k with
  | zero => intro v v1 v2; omega
  | succ k ih =>
    intro v v1 v2
    unfold bestTo at h
    simp only [] at h
    split at h
    · omega
    · rename_i hn
      by_cases ev : v = k + 1
      · subst ev
        rw [h] at hn
        simp at hn
        simpa using hn
      · exact ih h v v1 (by omega)

def best (N : Nat) (S : List Nat) (I : List Bool) : Nat := bestTo S I N

theorem best_top {N : Nat} {S : List Nat} {I : List Bool} {P : List Int} {T : List Nat} (h : Pl N I P T) (hf : From S T 0) (hl : 0 < T.length) : best N S I = T.getD 0 0 := by
  obtain ⟨t1, t2, _⟩ := h.tree 0 hl
  have hin := h.isin hl
  have hb : bestTo S I N ≠ 0 := fun e => by
    have := bestTo_none S I N e _ t1 t2
    rw [this] at hin; cases hin
  obtain ⟨b1, b2⟩ := bestTo_some S I N hb
  have hle := bestTo_le S I N
  refine tot ?_ (b2 _ t1 t2 hin)
  rcases h.place (bestTo S I N) (by omega) hle with ⟨_, p0, p1, p2⟩ | ⟨p, _⟩
  · have := top hf _ p1
    rw [p2] at this
    exact this
  · rw [p] at b1; cases b1
theorem best_none {N : Nat} {S : List Nat} {I : List Bool} {P : List Int} {T : List Nat} (h : Pl N I P T) (hl : T.length = 0) : best N S I = 0 := by
  by_cases hb : bestTo S I N = 0
  · exact hb
  · obtain ⟨b1, _⟩ := bestTo_some S I N hb
    have hle := bestTo_le S I N
    rcases h.place (bestTo S I N) (by omega) hle with ⟨_, p0, p1, p2⟩ | ⟨p, _⟩
    · omega
    · rw [p] at b1; cases b1

/-- one more is in: at the end -/
theorem Pl.push {N : Nat} {I : List Bool} {P : List Int} {T : List Nat} (h : Pl N I P T) {v : Nat} (v1 : 1 ≤ v) (v2 : v ≤ N) (hv : I.getD v false = false) :
    Pl N (I.set v true) (P.set v (T.length : Int)) (T ++ [v]) := by
  have lI := h.lenI
  have lP := h.lenP
  have hnot : ∀ i, i < T.length → T.getD i 0 ≠ v := fun i hi e => by
    have := h.isin hi
    rw [e, hv] at this; cases this
  have happ : ∀ i, (T ++ [v]).getD i 0 = if i < T.length then T.getD i 0 else if i = T.length then v else 0 := by
    intro i
    rw [List.getD_eq_getElem?_getD]
    by_cases h1 : i < T.length
    · rw [List.getElem?_append_left h1, if_pos h1, List.getD_eq_getElem?_getD]
    · rw [List.getElem?_append_right (by omega), if_neg h1]
      by_cases h2 : i = T.length
      · rw [if_pos h2, h2, Nat.sub_self]; rfl
      · rw [if_neg h2, List.getElem?_eq_none (by simp; omega)]; rfl
  refine ⟨by simp [lI], by simp [lP], by rw [getD_set, if_neg (by omega)]; exact h.zero, ?_, ?_, ?_⟩
  · have := cnt_set (I := I) (v := v) (by omega) true
    rw [hv] at this
    simp at this ⊢
    rw [this, h.count]
  · intro i hi
    simp at hi
    rw [happ]
    by_cases h1 : i < T.length
    · rw [if_pos h1]
      obtain ⟨a, b, c⟩ := h.tree i h1
      refine ⟨a, b, ?_⟩
      rw [getD_set, if_neg (fun x => hnot i h1 x.1.symm)]; exact c
    · rw [if_neg h1, if_pos (by omega)]
      refine ⟨v1, v2, ?_⟩
      rw [getD_set, if_pos ⟨rfl, by omega⟩]; omega
  · intro u u1 u2
    rw [getD_set, getD_set]
    by_cases e : v = u
    · subst e
      rw [if_pos ⟨rfl, by omega⟩, if_pos ⟨rfl, by omega⟩]
      left
      refine ⟨rfl, by omega, by simp, ?_⟩
      rw [Int.toNat_natCast, happ, if_neg (by omega), if_pos rfl]
    · rw [if_neg (fun x => e x.1), if_neg (fun x => e x.1)]
      rcases h.place u u1 u2 with ⟨a, b, c, d⟩ | hh
      · left
        exact ⟨a, b, by rw [List.length_append]; omega, by rw [happ, if_pos c]; exact d⟩
      · exact .inr hh
theorem Up.push {S T : List Nat} (h : From S T 0) (v : Nat) : Up S (T ++ [v]) T.length := by
  have happ : ∀ i, i < T.length → (T ++ [v]).getD i 0 = T.getD i 0 := by
    intro i hi
    rw [List.getD_eq_getElem?_getD, List.getElem?_append_left hi, ← List.getD_eq_getElem?_getD]
  constructor
  · intro i h0 hi hne
    simp at hi
    have hp : par i < i := by unfold par; omega
    rw [happ i (by omega), happ (par i) (by omega)]
    exact h i h0 (by omega) (Nat.zero_le _)
  · intro i h0 hi he hpos
    simp at hi
    have hp : par i < i := by unfold par; omega
    omega

/-- the first goes out: the last takes its place -/
theorem Pl.pop {N : Nat} {I : List Bool} {P : List Int} {T : List Nat} (h : Pl N I P T) (hl : 0 < T.length) :
    Pl N (I.set (T.getD 0 0) false) ((P.set (T.getD (T.length - 1) 0) 0).set (T.getD 0 0) (-1)) ((T.set 0 (T.getD (T.length - 1) 0)).take (T.length - 1)) := by
  have lI := h.lenI
  have lP := h.lenP
  obtain ⟨t1, t2, t3⟩ := h.tree 0 hl
  obtain ⟨l1, l2, l3⟩ := h.tree (T.length - 1) (by omega)
  have hin := h.isin hl
  have hget : ∀ i, i < T.length - 1 → ((T.set 0 (T.getD (T.length - 1) 0)).take (T.length - 1)).getD i 0 = if i = 0 then T.getD (T.length - 1) 0 else T.getD i 0 := by
    intro i hi
    rw [List.getD_eq_getElem?_getD, List.getElem?_take_of_lt hi, ← List.getD_eq_getElem?_getD, getD_set]
    by_cases e : i = 0
    · subst e; rw [if_pos ⟨rfl, hl⟩, if_pos rfl]
    · rw [if_neg (fun x => e x.1.symm), if_neg e]
  have hP : ∀ v, v ≤ N → ((P.set (T.getD (T.length - 1) 0) 0).set (T.getD 0 0) (-1)).getD v 0 = if v = T.getD 0 0 then -1 else if v = T.getD (T.length - 1) 0 then 0 else P.getD v 0 := by
    intro v hv
    rw [getD_set, getD_set]
    simp only [List.length_set, lP]
    by_cases h1 : v = T.getD 0 0
    · rw [if_pos ⟨h1.symm, by omega⟩, if_pos h1]
    · rw [if_neg (fun x => h1 x.1.symm), if_neg h1]
      by_cases h2 : v = T.getD (T.length - 1) 0
      · rw [if_pos ⟨h2.symm, by omega⟩, if_pos h2]
      · rw [if_neg (fun x => h2 x.1.symm), if_neg h2]
  have hlen : ((T.set 0 (T.getD (T.length - 1) 0)).take (T.length - 1)).length = T.length - 1 := by simp
  refine ⟨by simp [lI], by simp [lP], by rw [getD_set, if_neg (by omega)]; exact h.zero, ?_, ?_, ?_⟩
  · rw [hlen]
    have := cnt_set (I := I) (v := T.getD 0 0) (by omega) false
    rw [hin] at this
    simp at this
    have := h.count
    simp
    omega
  · intro i hi
    rw [hlen] at hi
    rw [hget i hi]
    by_cases e : i = 0
    · subst e
      rw [if_pos rfl]
      refine ⟨l1, l2, ?_⟩
      rw [hP _ l2, if_neg (fun x => by have := h.inj (i := T.length - 1) (j := 0) (by omega) hl x; omega), if_pos rfl]; rfl
    · rw [if_neg e]
      obtain ⟨a, b, c⟩ := h.tree i (by omega)
      refine ⟨a, b, ?_⟩
      rw [hP _ b, if_neg (fun x => e (h.inj (by omega) hl x)), if_neg (fun x => by have := h.inj (i := i) (j := T.length - 1) (by omega) (by omega) x; omega)]
      exact c
  · intro v v1 v2
    rw [hP v v2, getD_set, hlen]
    by_cases e : v = T.getD 0 0
    · rw [if_pos e, if_pos ⟨e.symm, by omega⟩]
      exact .inr ⟨rfl, rfl⟩
    · rw [if_neg e, if_neg (fun x => e x.1.symm)]
      by_cases e2 : v = T.getD (T.length - 1) 0
      · rw [if_pos e2]
        left
        have hne : T.length - 1 ≠ 0 := fun x => e (by rw [e2, x])
        refine ⟨by rw [e2]; exact h.isin (by omega), by omega, by simp; omega, ?_⟩
        rw [show (0 : Int).toNat = 0 from rfl, hget 0 (by omega), if_pos rfl]; exact e2.symm
      · rw [if_neg e2]
        rcases h.place v v1 v2 with ⟨a, b, c, d⟩ | hh
        · left
          have hne : (P.getD v 0).toNat ≠ T.length - 1 := fun x => e2 (by rw [← d, x])
          have hne0 : (P.getD v 0).toNat ≠ 0 := fun x => e (by rw [← d, x])
          refine ⟨a, b, by omega, ?_⟩
          rw [hget _ (by omega), if_neg hne0]; exact d
        · exact .inr hh
theorem From.pop {S T : List Nat} (h : From S T 0) : From S ((T.set 0 (T.getD (T.length - 1) 0)).take (T.length - 1)) 1 := by
  have hget : ∀ i, 0 < i → i < T.length - 1 → ((T.set 0 (T.getD (T.length - 1) 0)).take (T.length - 1)).getD i 0 = T.getD i 0 := by
    intro i h0 hi
    rw [List.getD_eq_getElem?_getD, List.getElem?_take_of_lt hi, ← List.getD_eq_getElem?_getD, getD_set, if_neg (by omega)]
  intro i h0 hi hp
  simp at hi
  have hpi : par i < i := by unfold par; omega
  rw [hget i h0 (by omega), hget (par i) (by omega) (by omega)]
  exact h i h0 (by omega) (Nat.zero_le _)

/-- a score is greater: its place alone may be wrong -/
theorem Up.bump {N : Nat} {S T : List Nat} {I : List Bool} {P : List Int} (hp : Pl N I P T) (h : From S T 0) {v x : Nat} (hx : S.getD v 0 ≤ x) (hv : v < S.length) (hi : I.getD v false = true) (v1 : 1 ≤ v) (v2 : v ≤ N) :
    Up (S.set v x) T (P.getD v 0).toNat := by
  obtain ⟨_, p0, p1, p2⟩ : I.getD v false = true ∧ 0 ≤ P.getD v 0 ∧ (P.getD v 0).toNat < T.length ∧ T.getD (P.getD v 0).toNat 0 = v := by
    rcases hp.place v v1 v2 with hh | hh
    · exact hh
    · rw [hh.1] at hi; cases hi
  generalize hk : (P.getD v 0).toNat = k at *
  have hg : ∀ u, (S.set v x).getD u 0 = if u = v then x else S.getD u 0 := by
    intro u
    rw [getD_set]
    by_cases e : u = v
    · subst e; rw [if_pos ⟨rfl, hv⟩, if_pos rfl]
    · rw [if_neg (fun y => e y.1.symm), if_neg e]
  have up : ∀ a b, a ≠ v → ¬ ahead S a b → ¬ ahead (S.set v x) a b := by
    intro a b ha hn
    unfold ahead at *
    rw [hg a, hg b, if_neg ha]
    by_cases e : b = v
    · subst e; rw [if_pos rfl]; omega
    · rw [if_neg e]; exact hn
  constructor
  · intro i h0 hi' hne
    exact up _ _ (fun e => hne (hp.inj hi' p1 (by rw [e, p2]))) (h i h0 hi' (Nat.zero_le _))
  · intro i h0 hi' he hpos
    have hpi : par i < i := by unfold par; omega
    have hpk : par k < k := by unfold par; omega
    refine up _ _ (fun e => by have := hp.inj hi' p1 (by rw [e, p2]); omega) ?_
    have h1 := h i h0 hi' (Nat.zero_le _)
    have h2 := h k hpos p1 (Nat.zero_le _)
    rw [he] at h1
    exact not_trans h1 h2
theorem From.bump {N : Nat} {S T : List Nat} {I : List Bool} {P : List Int} (hp : Pl N I P T) (h : From S T 0) {v x : Nat} (hi : I.getD v false = false) : From (S.set v x) T 0 := by
  have hg : ∀ k, k < T.length → (S.set v x).getD (T.getD k 0) 0 = S.getD (T.getD k 0) 0 := by
    intro k hk
    rw [getD_set, if_neg]
    rintro ⟨e, _⟩
    have := hp.isin hk
    rw [← e, hi] at this; cases this
  intro i h0 hi' _
  have hpi : par i < i := by unfold par; omega
  have := h i h0 hi' (Nat.zero_le _)
  unfold ahead at *
  rw [hg i hi', hg (par i) (by omega)]
  exact this

theorem From.all {S T : List Nat} : From S T T.length := by
  intro i h0 hi ha
  have hpi : par i < i := by unfold par; omega
  omega
end Go.Proofs.Ytbjllcjjibjgoaa.Hp
