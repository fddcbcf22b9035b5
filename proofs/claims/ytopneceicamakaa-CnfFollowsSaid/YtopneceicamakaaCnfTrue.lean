/-
  LAYER 12: True, Holds, Subsumes.
-/
import Derived.Test.YtopneceicamakaaCnfCheck
namespace Go.Proofs.Ytopneceicamakaa.Cf
open Go.RowKit Go.Proofs.Ytopneceicamakaa Go.Proofs.Ytopneceicamakaa.Ln

def boolsV (l : List Bool) : List Value := l.map .bool
def Bools (w : World) (v : Value) (l : List Bool) : Prop := Cells w v (boolsV l)
theorem Bools.below {w w' : World} {v : Value} {l : List Bool} (h : Bools w v l) (hb : Below w.heap.size w w') : Bools w' v l := Cells.below h hb
theorem Bools.shape {w : World} {v : Value} {l : List Bool} (h : Bools w v l) : ∃ a c, v = .slice a l.length c ∧ l.length ≤ c ∧ l.length ≤ 17592186044416 ∧ (0 < l.length → ∃ B o, a = some ⟨B, o, none⟩ ∧ B < w.heap.size ∧ ∀ j, j < l.length → w.cell? ⟨B, o + j, none⟩ = some (.bool (l.getD j false))) := by
  obtain ⟨a, c, h1, h2, h3, h4⟩ := h
  simp only [boolsV, List.length_map] at h1 h2 h3 h4
  refine ⟨a, c, h1, h2, h3, fun hp => ?_⟩
  obtain ⟨B, o, e, hB, hc⟩ := h4 hp
  refine ⟨B, o, e, hB, fun j hj => ?_⟩
  rw [hc j hj, List.getElem_map, List.getD_eq_getElem?_getD, List.getElem?_eq_getElem hj]; rfl

/-- is a variable true in a model? -/
def onM (x : Int) (m : List Bool) : Bool := m.getD ((varI x).toNat - 1) false
def trueC (x : Int) (m : List Bool) : Bool := if x = 0 then false else if 0 < x then onM x m else !onM x m

set_option maxHeartbeats 1000000 in
theorem true_any (x : Int) (h1 : -9223372036854775807 ≤ x) (h2 : x ≤ 9223372036854775807) (v : Value) (m : List Bool) (w : World) (h : Bools w v m) :
    Calls Try.prog 28 #[.int .i64 x, v] w fun e w' => e = .returned (.bool (trueC x m)) ∧ w = w' := by
  have HV := hid (var_any x h1 h2 w)
  obtain ⟨a, c, rfl, hc1, hc2, hc3⟩ := h.shape
  have HC := hid hc3
  clear h hc3
  by_cases h0 : x = 0
  · subst h0
    rw [show varI 0 = 0 from rfl] at HV
    go_enter Try.func28, Try.ntmps28
    go_wp2_with (go_at_call 21; (with_reducible refine (HV.out).mono ?_); rintro e w' ⟨rfl, rfl⟩)
    go_ret
    exact ⟨ret_bool rfl, rfl⟩
  have hv1 : 1 ≤ varI x := by unfold varI; split <;> omega
  have hv2 : varI x ≤ 9223372036854775807 := by unfold varI; split <;> omega
  by_cases hle : varI x ≤ (m.length : Int)
  · obtain ⟨B, o, rfl, hB, hcell⟩ := HC.out (by omega)
    have ck := hcell ((varI x).toNat - 1) (by omega)
    have hon := hid (show onM x m = m.getD ((varI x).toNat - 1) false from rfl)
    obtain ⟨k, hk⟩ : ∃ k : Nat, varI x = (k : Int) + 1 := ⟨(varI x).toNat - 1, by omega⟩
    rw [show (varI x).toNat - 1 = k by omega] at ck hon
    have hkl : k < m.length := by omega
    have d1 : decide ((k : Int) + 1 ≤ (m.length : Int)) = true := decide_eq_true (by omega)
    have d2 : decide (k + 1 ≤ m.length) = true := decide_eq_true (by omega)
    rw [hk] at HV
    clear hcell hle hv1 hv2 hk
    cases hb : m.getD k false
    · rw [hb] at ck hon
      clear hb
      by_cases hp : 0 < x
      · have E := hid (show trueC x m = false by unfold trueC; rw [if_neg h0, if_pos hp, hon.out])
        have d3 : decide (0 < x) = true := decide_eq_true hp
        have d4 : decide (x < 0) = false := decide_eq_false (by omega)
        clear h0
        go_enter Try.func28, Try.ntmps28
        go_wp2_with (go_at_call 21; (with_reducible refine (HV.out).mono ?_); rintro e w' ⟨rfl, rfl⟩)
        go_ret
        exact ⟨ret_bool E.out.symm, rfl⟩
      · have E := hid (show trueC x m = true by unfold trueC; rw [if_neg h0, if_neg hp, hon.out]; rfl)
        have d3 : decide (0 < x) = false := decide_eq_false hp
        have d4 : decide (x < 0) = true := decide_eq_true (by omega)
        clear h0
        go_enter Try.func28, Try.ntmps28
        go_wp2_with (go_at_call 21; (with_reducible refine (HV.out).mono ?_); rintro e w' ⟨rfl, rfl⟩)
        go_ret
        exact ⟨ret_bool E.out.symm, rfl⟩
    · rw [hb] at ck hon
      clear hb
      by_cases hp : 0 < x
      · have E := hid (show trueC x m = true by unfold trueC; rw [if_neg h0, if_pos hp, hon.out])
        have d3 : decide (0 < x) = true := decide_eq_true hp
        have d4 : decide (x < 0) = false := decide_eq_false (by omega)
        clear h0
        go_enter Try.func28, Try.ntmps28
        go_wp2_with (go_at_call 21; (with_reducible refine (HV.out).mono ?_); rintro e w' ⟨rfl, rfl⟩)
        go_ret
        exact ⟨ret_bool E.out.symm, rfl⟩
      · have E := hid (show trueC x m = false by unfold trueC; rw [if_neg h0, if_neg hp, hon.out]; rfl)
        have d3 : decide (0 < x) = false := decide_eq_false hp
        have d4 : decide (x < 0) = true := decide_eq_true (by omega)
        clear h0
        go_enter Try.func28, Try.ntmps28
        go_wp2_with (go_at_call 21; (with_reducible refine (HV.out).mono ?_); rintro e w' ⟨rfl, rfl⟩)
        go_ret
        exact ⟨ret_bool E.out.symm, rfl⟩
  · have hon := hid (show onM x m = false by unfold onM; rw [List.getD_eq_getElem?_getD, List.getElem?_eq_none (by omega)]; rfl)
    have d1 : decide (varI x ≤ (m.length : Int)) = false := decide_eq_false hle
    generalize varI x = y at *
    by_cases hp : 0 < x
    · have E := hid (show trueC x m = false by unfold trueC; rw [if_neg h0, if_pos hp, hon.out])
      have d3 : decide (0 < x) = true := decide_eq_true hp
      have d4 : decide (x < 0) = false := decide_eq_false (by omega)
      clear h0
      go_enter Try.func28, Try.ntmps28
      go_wp2_with (go_at_call 21; (with_reducible refine (HV.out).mono ?_); rintro e w' ⟨rfl, rfl⟩)
      go_ret
      exact ⟨ret_bool E.out.symm, rfl⟩
    · have E := hid (show trueC x m = true by unfold trueC; rw [if_neg h0, if_neg hp, hon.out]; rfl)
      have d3 : decide (0 < x) = false := decide_eq_false hp
      have d4 : decide (x < 0) = true := decide_eq_true (by omega)
      clear h0
      go_enter Try.func28, Try.ntmps28
      go_wp2_with (go_at_call 21; (with_reducible refine (HV.out).mono ?_); rintro e w' ⟨rfl, rfl⟩)
      go_ret
      exact ⟨ret_bool E.out.symm, rfl⟩

/-- has a clause a literal that is true? -/
def someT (l : List Int) (m : List Bool) : Bool := l.any fun x => trueC x m
def holdsC (ll : List (List Int)) (m : List Bool) : Bool := ll.all fun l => someT l m
/-- numbers that can be turned about -/
def okL (l : List Int) : Prop := ∀ x ∈ l, -9223372036854775807 ≤ x ∧ x ≤ 9223372036854775807
theorem okL.at {l : List Int} (h : okL l) (j : Nat) (hj : j < l.length) : -9223372036854775807 ≤ l.getD j 0 ∧ l.getD j 0 ≤ 9223372036854775807 := by
  rw [List.getD_eq_getElem?_getD, List.getElem?_eq_getElem hj]; exact h _ (List.getElem_mem _)

theorem holds11_any (x : Int) (h1 : -9223372036854775807 ≤ x) (h2 : x ≤ 9223372036854775807) (v : Value) (m : List Bool) (b : Nat) (w : World) (h : Bools w v m) (hc : w.cell? ⟨b, 0, none⟩ = some v) :
    Calls Try.prog 51 #[.int .i64 x, .pointer (some ⟨b, 0, none⟩)] w fun e w' => e = .returned (.bool (trueC x m)) ∧ w = w' := by
  have HT := hid (true_any x h1 h2 v m w h)
  obtain ⟨a, c, rfl, _, _, _⟩ := h.shape
  clear h
  go_enter Try.func51, Try.ntmps51
  go_wp2_with (go_at_call 28; (with_reducible refine (HT.out).mono ?_); rintro e w' ⟨rfl, rfl⟩)
  go_ret
  exact ⟨rfl, rfl⟩

theorem holds1_any (cv : Value) (l : List Int) (hl : okL l) (v : Value) (m : List Bool) (b : Nat) (w : World) (hi : Ints w cv l) (h : Bools w v m) (hc : w.cell? ⟨b, 0, none⟩ = some v) :
    Calls Try.prog 50 #[cv, .pointer (some ⟨b, 0, none⟩)] w fun e w' => e = .returned (.bool (someT l m)) ∧ Below w.heap.size w w' := by
  have hlt := World.block_lt_of_cell? w _ hc
  have hany : (List.range (intsV l).length).any (fun j => trueC (l.getD j 0) m) = someT l m := by
    rw [show (intsV l).length = l.length from List.length_map _]; exact any_list l 0 (fun x => trueC x m)
  have CF := hid (containsFunc_any 51 #[.pointer (some ⟨b, 0, none⟩)] (fun _ _ => by kernel_rfl) cv (intsV l) (fun j => trueC (l.getD j 0) m) w hi (by
    intro j hj W' hW'
    have hj' : j < l.length := by simpa [intsV] using hj
    have e1 : (intsV l)[j] = .int .i64 (l.getD j 0) := by simp [intsV, List.getD_eq_getElem?_getD, List.getElem?_eq_getElem hj']
    rw [e1]
    have ho := hl.at j hj'
    refine (holds11_any (l.getD j 0) ho.1 ho.2 v m b W' (h.below hW') ((hW'.cell (p := ⟨b, 0, none⟩) hlt).trans hc)).mono ?_
    rintro e w' ⟨rfl, rfl⟩
    exact ⟨rfl, Below.refl _ _⟩))
  rw [hany] at CF
  obtain ⟨a, c, rfl, _, _, _⟩ := hi.shape
  clear hany hi h hl
  go_enter Try.func50, Try.ntmps50
  go_wp2_with fail
  refine CF.out.mono ?_
  rintro e w2 ⟨rfl, hb2⟩
  go_wp2_with fail
  go_ret
  exact ⟨rfl, hb2⟩
end Go.Proofs.Ytopneceicamakaa.Cf
