/-
  LAYER 12: Var, CheckClause, Check.
-/
import Derived.Test.YtopneceicamakaaSlicesBy
namespace Go.Proofs.Ytopneceicamakaa.Cf
open Go.RowKit Go.Proofs.Ytopneceicamakaa Go.Proofs.Ytopneceicamakaa.Ln

def varI (x : Int) : Int := if x < 0 then -x else x

theorem var_any (x : Int) (h : -9223372036854775807 ≤ x) (h2 : x ≤ 9223372036854775807) (w : World) :
    Calls Try.prog 21 #[.int .i64 x] w fun e w' => e = .returned (.int .i64 (varI x)) ∧ w = w' := by
  by_cases h0 : x < 0
  · go_enter Try.func21, Try.ntmps21
    go_wp2
    go_ret
    exact ⟨ret_int (by unfold varI; rw [if_pos (by omega)]), rfl⟩
  · go_enter Try.func21, Try.ntmps21
    go_wp2
    go_ret
    exact ⟨ret_int (by unfold varI; rw [if_neg (by omega)]), rfl⟩

/-- is it no literal over variables up to m? -/
def badL (m x : Int) : Bool := x == 0 || decide (x < -m) || decide (m < x)
def mostI (n : Int) : Int := if n < 0 then 0 else n
def ckC (l : List Int) (n : Int) : Bool := !(l.any (badL (mostI n)))

theorem bad_any (m x : Int) (h0 : 0 ≤ m) (h1 : m ≤ 9223372036854775807) (b : Nat) (w : World) (hc : w.cell? ⟨b, 0, none⟩ = some (.int .i64 m)) :
    Calls Try.prog 39 #[.int .i64 x, .pointer (some ⟨b, 0, none⟩)] w fun e w' => e = .returned (.bool (badL m x)) ∧ w = w' := by
  by_cases a : x = 0
  · subst a
    go_enter Try.func39, Try.ntmps39
    go_wp2
    go_ret
    exact ⟨ret_bool (by simp [badL]), rfl⟩
  · have a1 : (x == 0) = false := by rw [beq_eq_false_iff_ne]; exact a
    by_cases c : x < -m
    · have c1 : decide (x < -m) = true := decide_eq_true c
      have E := hid (show badL m x = true by unfold badL; rw [a1, c1]; rfl)
      clear a
      go_enter Try.func39, Try.ntmps39
      go_wp2
      go_ret
      exact ⟨ret_bool E.out.symm, rfl⟩
    · have c1 : decide (x < -m) = false := decide_eq_false c
      by_cases d : m < x
      · have d1 : decide (m < x) = true := decide_eq_true d
        have E := hid (show badL m x = true by unfold badL; rw [a1, c1, d1]; rfl)
        clear a
        go_enter Try.func39, Try.ntmps39
        go_wp2
        go_ret
        exact ⟨ret_bool E.out.symm, rfl⟩
      · have d1 : decide (m < x) = false := decide_eq_false d
        have E := hid (show badL m x = false by unfold badL; rw [a1, c1, d1]; rfl)
        clear a
        go_enter Try.func39, Try.ntmps39
        go_wp2
        go_ret
        exact ⟨ret_bool E.out.symm, rfl⟩

def rangeE (b : Bool) : Int := if b then 0 else 8

set_option maxHeartbeats 1000000 in
theorem checkClause_any (v : Value) (l : List Int) (n : Int) (hn : n ≤ 9223372036854775807) (w : World) (h : Ints w v l) :
    Calls Try.prog 14 #[v, .int .i64 n] w fun e w' => e = .returned (.int .i64 (rangeE (ckC l n))) ∧ Below w.heap.size w w' := by
  have H := hid h
  have hm : 0 ≤ mostI n ∧ mostI n ≤ 9223372036854775807 := by unfold mostI; split <;> omega
  have hany : (List.range (intsV l).length).any (fun j => badL (mostI n) (l.getD j 0)) = l.any (badL (mostI n)) := by
    rw [show (intsV l).length = l.length from List.length_map _]; exact any_list l 0 _
  have CF := fun W (hB : Below w.heap.size w W) (b : Nat) (hb : W.cell? ⟨b, 0, none⟩ = some (.int .i64 (mostI n))) => hid (containsFunc_any 39 #[.pointer (some ⟨b, 0, none⟩)] (fun _ _ => by kernel_rfl) v (intsV l) (fun j => badL (mostI n) (l.getD j 0)) W (h.below hB) (by
    intro j hj W' hW'
    have hj' : j < l.length := by simpa [intsV] using hj
    have e1 : (intsV l)[j] = .int .i64 (l.getD j 0) := by simp [intsV, List.getD_eq_getElem?_getD, List.getElem?_eq_getElem hj']
    rw [e1]
    have hlt := World.block_lt_of_cell? W _ hb
    refine (bad_any (mostI n) (l.getD j 0) hm.1 hm.2 b W' ((hW'.cell (p := ⟨b, 0, none⟩) hlt).trans hb)).mono ?_
    rintro e w' ⟨rfl, rfl⟩
    exact ⟨rfl, Below.refl _ _⟩))
  rw [hany] at CF
  obtain ⟨a, c, rfl, _, _, _⟩ := h.shape
  by_cases hneg : n < 0
  · have e0 : mostI n = 0 := by unfold mostI; rw [if_pos hneg]
    rw [e0] at CF
    cases hb : l.any (badL 0)
    · have E := hid (show rangeE (ckC l n) = 0 by unfold ckC; rw [e0, hb]; rfl)
      rw [hb] at CF
      clear hany hm e0 hb H h
      go_enter Try.func14, Try.ntmps14
      go_wp2_with fail
      refine (CF _ ((Below.refl _ _).alloc (Nat.le_refl _) _) _ (by simp [go_sem])).out.mono ?_
      rintro e w2 ⟨rfl, hb2⟩
      have hb3 := below_trans (below_alloc (Below.refl w.heap.size w) _) hb2
      clear CF hb2
      go_wp2_with fail
      go_ret
      exact ⟨ret_int E.out.symm, hb3⟩
    · have E := hid (show rangeE (ckC l n) = 8 by unfold ckC; rw [e0, hb]; rfl)
      rw [hb] at CF
      clear hany hm e0 hb H h
      go_enter Try.func14, Try.ntmps14
      go_wp2_with fail
      refine (CF _ ((Below.refl _ _).alloc (Nat.le_refl _) _) _ (by simp [go_sem])).out.mono ?_
      rintro e w2 ⟨rfl, hb2⟩
      have hb3 := below_trans (below_alloc (Below.refl w.heap.size w) _) hb2
      clear CF hb2
      go_wp2_with fail
      go_ret
      exact ⟨ret_int E.out.symm, hb3⟩
  · have e0 : mostI n = n := by unfold mostI; rw [if_neg hneg]
    have hn0 : 0 ≤ n := by omega
    rw [e0] at CF
    cases hb : l.any (badL n)
    · have E := hid (show rangeE (ckC l n) = 0 by unfold ckC; rw [e0, hb]; rfl)
      rw [hb] at CF
      clear hany hm e0 hb H h
      go_enter Try.func14, Try.ntmps14
      go_wp2_with fail
      refine (CF _ ((Below.refl _ _).alloc (Nat.le_refl _) _) _ (by simp [go_sem])).out.mono ?_
      rintro e w2 ⟨rfl, hb2⟩
      have hb3 := below_trans (below_alloc (Below.refl w.heap.size w) _) hb2
      clear CF hb2
      go_wp2_with fail
      go_ret
      exact ⟨ret_int E.out.symm, hb3⟩
    · have E := hid (show rangeE (ckC l n) = 8 by unfold ckC; rw [e0, hb]; rfl)
      rw [hb] at CF
      clear hany hm e0 hb H h
      go_enter Try.func14, Try.ntmps14
      go_wp2_with fail
      refine (CF _ ((Below.refl _ _).alloc (Nat.le_refl _) _) _ (by simp [go_sem])).out.mono ?_
      rintro e w2 ⟨rfl, hb2⟩
      have hb3 := below_trans (below_alloc (Below.refl w.heap.size w) _) hb2
      clear CF hb2
      go_wp2_with fail
      go_ret
      exact ⟨ret_int E.out.symm, hb3⟩
end Go.Proofs.Ytopneceicamakaa.Cf
