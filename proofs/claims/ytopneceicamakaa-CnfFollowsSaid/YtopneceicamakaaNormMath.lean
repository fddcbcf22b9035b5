/-
  LAYER 12: the document's way of laying literals in order, and of finding contraries, in plain mathematics.
-/
import Derived.Test.YtopneceicamakaaCnfDocHas
import Derived.Test.YtopneceicamakaaCnfTaut
namespace Go.Proofs.Ytopneceicamakaa.Cf
open Go.RowKit Go.Proofs.Ytopneceicamakaa Go.Proofs.Ytopneceicamakaa.Ln

theorem strict_get {r : List Int} (h : StrictS r) {i j : Nat} (hij : i < j) (hj : j < r.length) : before (r.getD i 0) (r.getD j 0) = true := by
  have := List.pairwise_iff_getElem.1 h i j (by omega) hj hij
  rwa [List.getD_eq_getElem?_getD, List.getElem?_eq_getElem (by omega : i < r.length), List.getD_eq_getElem?_getD, List.getElem?_eq_getElem hj]

theorem mem_getD {r : List Int} {i : Nat} (h : i < r.length) : r.getD i 0 ∈ r := by
  rw [List.getD_eq_getElem?_getD, List.getElem?_eq_getElem h]; exact List.getElem_mem _

/-- x is laid in ahead of all that it stands ahead of -/
theorem insN_at {out : List Int} {x : Int} {k : Nat} (hs : StrictS out) (hx : x ∉ out) (hk : k ≤ out.length)
    (h1 : ∀ j, k ≤ j → j < out.length → before x (out.getD j 0) = true) (h2 : 0 < k → before x (out.getD (k - 1) 0) = false) :
    insN x out = out.take k ++ x :: out.drop k := by
  have hlo : ∀ j, j < k → before (out.getD j 0) x = true := by
    intro j hj
    have h3 := h2 (by omega)
    have hne : out.getD (k - 1) 0 ≠ x := fun e => hx (e ▸ mem_getD (by omega))
    have h4 : before (out.getD (k - 1) 0) x = true := by
      cases hb : before (out.getD (k - 1) 0) x
      · exact absurd (before_tot hb h3) hne
      · rfl
    by_cases e : j = k - 1
    · rw [e]; exact h4
    · exact before_trans (strict_get hs (by omega : j < k - 1) (by omega)) h4
  have htake : ∀ y ∈ out.take k, before y x = true := by
    intro y hy
    obtain ⟨j, hj, rfl⟩ := List.mem_iff_getElem.1 hy
    rw [List.length_take] at hj
    have := hlo j (by omega)
    rw [List.getD_eq_getElem?_getD, List.getElem?_eq_getElem (by omega : j < out.length)] at this
    rw [List.getElem_take]; exact this
  have hdrop : ∀ y ∈ out.drop k, before x y = true := by
    intro y hy
    obtain ⟨j, hj, rfl⟩ := List.mem_iff_getElem.1 hy
    rw [List.length_drop] at hj
    have := h1 (k + j) (by omega) (by omega)
    rw [List.getD_eq_getElem?_getD, List.getElem?_eq_getElem (by omega : k + j < out.length)] at this
    rw [List.getElem_drop]; exact this
  have e1 : (out.filter fun y => before y x) = out.take k := by
    conv => lhs; rw [← List.take_append_drop k out]
    rw [List.filter_append, List.filter_eq_self.2 htake, List.filter_eq_nil_iff.2 (fun y hy => by rw [before_asym (hdrop y hy)]; exact Bool.false_ne_true), List.append_nil]
  have e2 : (out.filter fun y => before x y) = out.drop k := by
    conv => lhs; rw [← List.take_append_drop k out]
    rw [List.filter_append, List.filter_eq_self.2 hdrop, List.filter_eq_nil_iff.2 (fun y hy => by rw [before_asym (htake y hy)]; exact Bool.false_ne_true), List.nil_append]
  unfold insN
  rw [if_neg hx, e1, e2]

theorem insN_in {out : List Int} {x : Int} (hx : x ∈ out) : insN x out = out := by unfold insN; rw [if_pos hx]

/-- the row behind one literal more -/
theorem normC_take {l : List Int} {m : Nat} (hm : m < l.length) : normC (l.take (m + 1)) = insN (l.getD m 0) (normC (l.take m)) := by
  unfold normC
  rw [List.take_add_one, List.foldl_append, List.getD_eq_getElem?_getD, List.getElem?_eq_getElem hm]
  rfl
theorem normC_full (l : List Int) : normC (l.take l.length) = normC l := by rw [List.take_length]

theorem varI_eq {x y : Int} (h : varI x = varI y) : x = y ∨ x = -y := by
  unfold varI at h
  split at h <;> split at h <;> omega

/-- contraries stand side by side -/
theorem adj_taut {l : List Int} (h : litsOk l) : adjT (normC l) = tautD l := by
  have hs := normC_strict l
  have hmem := normC_mem l
  have hr : ∀ x ∈ normC l, x ≠ 0 ∧ -9223372036854775807 ≤ x ∧ x ≤ 9223372036854775807 := fun x hx => h x ((hmem x).1 hx)
  cases ht : tautD l
  · refine adjT_no (fun k h1 hk => ?_)
    cases hb : ((normC l).getD k 0 == -(normC l).getD (k - 1) 0)
    · rfl
    · exfalso
      rw [beq_iff_eq] at hb
      have hin : -((normC l).getD (k - 1) 0) ∈ l := by rw [← hb]; exact (hmem _).1 (mem_getD hk)
      have hin2 := (hmem _).1 (mem_getD (by omega : k - 1 < (normC l).length))
      have : tautD l = true := by
        unfold tautD
        rw [List.any_eq_true]
        exact ⟨_, hin2, by rw [List.contains_iff_mem]; exact hin⟩
      rw [ht] at this; cases this
  · unfold tautD at ht
    rw [List.any_eq_true] at ht
    obtain ⟨x, hx, hc⟩ := ht
    rw [List.contains_iff_mem] at hc
    have key : ∀ y : Int, y < 0 → y ∈ normC l → -y ∈ normC l → adjT (normC l) = true := by
      intro y hy0 hy hz
      have by1 := hr y hy
      obtain ⟨i, hi, ei⟩ := List.mem_iff_getElem.1 hy
      obtain ⟨j, hj, ej⟩ := List.mem_iff_getElem.1 hz
      have gi : (normC l).getD i 0 = y := by rw [List.getD_eq_getElem?_getD, List.getElem?_eq_getElem hi]; exact ei
      have gj : (normC l).getD j 0 = -y := by rw [List.getD_eq_getElem?_getD, List.getElem?_eq_getElem hj]; exact ej
      have vy : varR y = -y := by rw [varR_varI by1.2.1 by1.2.2]; unfold varI; rw [if_pos hy0]
      have vz : varR (-y) = -y := by rw [varR_varI (by omega) (by omega)]; unfold varI; rw [if_neg (by omega)]
      have hbyz : before y (-y) = true := by rw [before_iff, vy, vz]; omega
      have hij : i < j := by
        rcases Nat.lt_trichotomy i j with h3 | h3 | h3
        · exact h3
        · subst h3; rw [gi] at gj; omega
        · have h4 := strict_get hs h3 hi
          rw [gi, gj] at h4
          rw [before_asym hbyz] at h4; cases h4
      by_cases hj1 : j = i + 1
      · subst hj1
        refine adjT_yes (k := i + 1) (by omega) hj ?_
        rw [Nat.add_sub_cancel, gi, gj, beq_iff_eq]
      · exfalso
        have h5 := strict_get hs (show i < i + 1 by omega) (by omega)
        have h6 := strict_get hs (show i + 1 < j by omega) hj
        rw [gi] at h5
        rw [gj] at h6
        have bu := hr _ (mem_getD (by omega : i + 1 < (normC l).length))
        generalize (normC l).getD (i + 1) 0 = u at *
        rw [before_iff, vy] at h5
        rw [before_iff, vz] at h6
        rw [varR_varI bu.2.1 bu.2.2] at h5 h6
        have : varI u = varI y := by
          have e : varI y = -y := by unfold varI; rw [if_pos hy0]
          omega
        rcases varI_eq this with e | e <;> omega
    have hx1 := (h x hx)
    by_cases hx0 : x < 0
    · exact key x hx0 ((hmem x).2 hx) ((hmem _).2 hc)
    · exact key (-x) (by omega) ((hmem _).2 hc) (by rw [Int.neg_neg]; exact (hmem x).2 hx)
end Go.Proofs.Ytopneceicamakaa.Cf
