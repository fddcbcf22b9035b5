/-
  LAYER 12: the document's Has, Taut, Before.
-/
import Derived.Test.YtopneceicamakaaCnfDocTrue
import Derived.Test.YtopneceicamakaaNormSpec
namespace Go.Proofs.Ytopneceicamakaa.Cf
open Go.RowKit Go.Proofs.Ytopneceicamakaa Go.Proofs.Ytopneceicamakaa.Ln

theorem has_yes {l : List Int} {x : Int} {m : Nat} (hm : m < l.length) (h : l.getD m 0 = x) : l.contains x = true := by
  rw [List.getD_eq_getElem?_getD, List.getElem?_eq_getElem hm] at h
  rw [List.contains_iff_mem]
  exact h ▸ List.getElem_mem hm
theorem has_no {l : List Int} {x : Int} (h : ∀ m, m < l.length → l.getD m 0 ≠ x) : l.contains x = false := by
  cases hc : l.contains x
  · rfl
  · exfalso
    rw [List.contains_iff_mem] at hc
    obtain ⟨m, hm, e⟩ := List.mem_iff_getElem.1 hc
    refine h m hm ?_
    rw [List.getD_eq_getElem?_getD, List.getElem?_eq_getElem hm]; exact e

set_option maxHeartbeats 1000000 in
theorem refHas_any (v : Value) (l : List Int) (x : Int) (w : World) (h : Ints w v l) :
    Calls Try.prog 34 #[v, .int .i64 x] w fun e w' => e = .returned (.bool (l.contains x)) ∧ w = w' := by
  have YES := hid (fun (m : Nat) (hm : m < l.length) (e : l.getD m 0 = x) => has_yes hm e)
  have NO := hid (fun (e : ∀ m, m < l.length → l.getD m 0 ≠ x) => has_no e)
  obtain ⟨a, c, rfl, hc, hl, hcells⟩ := h.shape
  have HC := hid hcells
  generalize l.contains x = r at *
  generalize hq : l.length = q at *
  clear h hcells
  go_enter Try.func34, Try.ntmps34
  go_wp2
  go_loopw [5] (fun i wr => ∃ m : Nat, i = .int .i64 (m : Int) ∧ m ≤ q ∧ Hid (∀ j, j < m → l.getD j 0 ≠ x) ∧ wr = w) (fun i _ => q - (intOf i).toNat)
  case atStart => exact ⟨0, rfl, Nat.zero_le _, hid (fun j hj => absurd hj (Nat.not_lt_zero _)), rfl⟩
  case round =>
    obtain ⟨m, rfl, hmn, HS, rfl⟩ := hrel
    by_cases hlt : m < q
    · obtain ⟨B, o, rfl, hB, hcc⟩ := HC.out (by omega)
      have hcm := hcc m hlt
      have Ym := hid (YES.out m hlt)
      have HSm := hid (fun (hx : l.getD m 0 ≠ x) j (hj : j < m + 1) => show l.getD j 0 ≠ x by
        by_cases e : j = m
        · subst e; exact hx
        · exact HS.out j (by omega))
      clear hcc HC NO YES hq HS
      generalize l.getD m 0 = y at *
      by_cases x0 : y = x
      · have E := hid (Ym.out x0)
        clear Ym HSm
        subst x0
        go_wp2
        go_ret
        exact ⟨ret_bool E.out.symm, rfl⟩
      · have HS2 := hid (HSm.out x0)
        have y0 : (y == x) = false := by rw [beq_eq_false_iff_ne]; exact x0
        clear Ym HSm
        go_wp2
        go_roundw
        case rel => exact ⟨m + 1, by go_num, by omega, HS2, by first | rfl | trivial⟩
        case measure => simp [intOf]; omega
    · have hm2 : m = q := by omega
      subst hm2
      have E := hid (NO.out HS.out)
      clear HC NO YES HS hq
      go_wp2
      go_ret
      exact ⟨ret_bool E.out.symm, rfl⟩

def tautD (l : List Int) : Bool := l.any fun x => l.contains (-x)

set_option maxHeartbeats 1000000 in
theorem refTaut_any (v : Value) (l : List Int) (hok : okL l) (w : World) (h : Ints w v l) :
    Calls Try.prog 20 #[v] w fun e w' => e = .returned (.bool (tautD l)) ∧ w = w' := by
  have YES := hid (fun (m : Nat) (hm : m < l.length) (e : l.contains (-(l.getD m 0)) = true) => show tautD l = true by
    unfold tautD
    rw [List.any_eq_true]
    rw [List.getD_eq_getElem?_getD, List.getElem?_eq_getElem hm] at e
    exact ⟨l[m], List.getElem_mem _, e⟩)
  have NO := hid (fun (e : ∀ m, m < l.length → l.contains (-(l.getD m 0)) = false) => show tautD l = false by
    unfold tautD
    rw [List.any_eq_false]
    intro x hx
    obtain ⟨m, hm, rfl⟩ := List.mem_iff_getElem.1 hx
    have := e m hm
    rw [List.getD_eq_getElem?_getD, List.getElem?_eq_getElem hm] at this
    rw [show ((some l[m]).getD 0) = l[m] from rfl] at this
    rw [this]; exact Bool.false_ne_true)
  have HI := hid h
  have OK := hid hok
  obtain ⟨a, c, rfl, hc, hl, hcells⟩ := h.shape
  have HC := hid hcells
  generalize tautD l = r at *
  generalize hq : l.length = q at *
  have HQ := hid hq
  clear h hcells hok hq
  go_enter Try.func20, Try.ntmps20
  go_wp2
  go_loopw [3] (fun i wr => ∃ m : Nat, i = .int .i64 (m : Int) ∧ m ≤ q ∧ Hid (∀ j, j < m → l.contains (-(l.getD j 0)) = false) ∧ wr = w) (fun i _ => q - (intOf i).toNat)
  case atStart => exact ⟨0, rfl, Nat.zero_le _, hid (fun j hj => absurd hj (Nat.not_lt_zero _)), rfl⟩
  case round =>
    obtain ⟨m, rfl, hmn, HS, rfl⟩ := hrel
    by_cases hlt : m < q
    · obtain ⟨B, o, rfl, hB, hcc⟩ := HC.out (by omega)
      have hcm := hcc m hlt
      have Ym := hid (YES.out m hlt)
      have hx := OK.out.at m (by rw [HQ.out]; exact hlt)
      have HSm := hid (fun (hx : l.contains (-(l.getD m 0)) = false) j (hj : j < m + 1) => show l.contains (-(l.getD j 0)) = false by
        by_cases e : j = m
        · subst e; exact hx
        · exact HS.out j (by omega))
      have HH := hid (refHas_any _ l (-(l.getD m 0)) wr HI.out)
      clear hcc HC NO YES HS HI OK HQ
      generalize l.getD m 0 = y at *
      cases hb : l.contains (-y)
      · have HS2 := hid (HSm.out hb)
        rw [hb] at HH
        clear Ym HSm hb
        go_wp2_with (go_at_call 34; (with_reducible refine (HH.out).mono ?_); rintro e w' ⟨rfl, rfl⟩)
        go_roundw
        case rel => exact ⟨m + 1, by go_num, by omega, HS2, by first | rfl | trivial⟩
        case measure => simp [intOf]; omega
      · have E := hid (Ym.out hb)
        rw [hb] at HH
        clear Ym HSm hb
        go_wp2_with (go_at_call 34; (with_reducible refine (HH.out).mono ?_); rintro e w' ⟨rfl, rfl⟩)
        go_ret
        exact ⟨ret_bool E.out.symm, rfl⟩
    · have hm2 : m = q := by omega
      subst hm2
      have E := hid (NO.out HS.out)
      clear HC NO YES HS HI OK HQ
      go_wp2
      go_ret
      exact ⟨ret_bool E.out.symm, rfl⟩

theorem varR_varI {x : Int} (h1 : -9223372036854775807 ≤ x) (h2 : x ≤ 9223372036854775807) : varR x = varI x := by
  unfold varR varI
  have : Go.RowKit.wrap64 (-x) = -x := by unfold Go.RowKit.wrap64; omega
  rw [this]
  split <;> omega

set_option maxHeartbeats 1000000 in
theorem refBefore_any (x y : Int) (hx : -9223372036854775807 ≤ x ∧ x ≤ 9223372036854775807) (hy : -9223372036854775807 ≤ y ∧ y ≤ 9223372036854775807) (w : World) :
    Calls Try.prog 46 #[.int .i64 x, .int .i64 y] w fun e w' => e = .returned (.bool (before x y)) ∧ w' = w := by
  have VX := hid (refVar_any x hx.1 hx.2 w)
  have VY := hid (refVar_any y hy.1 hy.2 w)
  have hB : before x y = (decide (varI x < varI y) || (decide (varI x = varI y) && decide (x < y))) := by
    unfold before; rw [varR_varI hx.1 hx.2, varR_varI hy.1 hy.2]; simp
  have HBB := hid hB
  clear hB
  generalize varI x = p at *
  generalize varI y = q at *
  by_cases h1 : p < q
  · have E := hid (show before x y = true by rw [HBB.out, decide_eq_true h1, Bool.true_or])
    have d1 : decide (p < q) = true := decide_eq_true h1
    clear HBB
    generalize before x y = r at *
    go_enter Try.func46, Try.ntmps46
    go_wp2_with (first | (go_at_call 22; (with_reducible refine (VX.out).mono ?_); rintro e w' ⟨rfl, rfl⟩) | (go_at_call 22; (with_reducible refine (VY.out).mono ?_); rintro e w' ⟨rfl, rfl⟩))
    go_ret
    exact ⟨ret_bool E.out.symm, rfl⟩
  · have d1 : decide (p < q) = false := decide_eq_false h1
    by_cases h2 : p = q
    · subst h2
      by_cases h3 : x < y
      · have E := hid (show before x y = true by rw [HBB.out, d1, decide_eq_true h3]; simp)
        clear HBB
        generalize before x y = r at *
        go_enter Try.func46, Try.ntmps46
        go_wp2_with (first | (go_at_call 22; (with_reducible refine (VX.out).mono ?_); rintro e w' ⟨rfl, rfl⟩) | (go_at_call 22; (with_reducible refine (VY.out).mono ?_); rintro e w' ⟨rfl, rfl⟩))
        go_ret
        exact ⟨ret_bool E.out.symm, rfl⟩
      · have E := hid (show before x y = false by rw [HBB.out, d1, decide_eq_false h3]; simp)
        clear HBB
        generalize before x y = r at *
        go_enter Try.func46, Try.ntmps46
        go_wp2_with (first | (go_at_call 22; (with_reducible refine (VX.out).mono ?_); rintro e w' ⟨rfl, rfl⟩) | (go_at_call 22; (with_reducible refine (VY.out).mono ?_); rintro e w' ⟨rfl, rfl⟩))
        go_ret
        exact ⟨ret_bool (by first | exact E.out.symm | (rw [decide_eq_false (show ¬ x < y by omega)]; exact E.out.symm)), rfl⟩
    · have E := hid (show before x y = false by rw [HBB.out, d1, decide_eq_false h2]; simp)
      have d2 : (p == q) = false := by rw [beq_eq_false_iff_ne]; exact h2
      clear HBB
      generalize before x y = r at *
      go_enter Try.func46, Try.ntmps46
      go_wp2_with (first | (go_at_call 22; (with_reducible refine (VX.out).mono ?_); rintro e w' ⟨rfl, rfl⟩) | (go_at_call 22; (with_reducible refine (VY.out).mono ?_); rintro e w' ⟨rfl, rfl⟩))
      go_ret
      exact ⟨ret_bool E.out.symm, rfl⟩
end Go.Proofs.Ytopneceicamakaa.Cf
