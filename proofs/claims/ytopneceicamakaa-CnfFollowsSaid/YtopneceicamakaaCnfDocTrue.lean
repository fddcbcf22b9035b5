/-
  LAYER 12: the document's Var, True, Holds.
-/
import Derived.Test.YtopneceicamakaaCnfDoc
namespace Go.Proofs.Ytopneceicamakaa.Cf
open Go.RowKit Go.Proofs.Ytopneceicamakaa Go.Proofs.Ytopneceicamakaa.Ln

theorem refVar_any (x : Int) (h : -9223372036854775807 ≤ x) (h2 : x ≤ 9223372036854775807) (w : World) :
    Calls Try.prog 22 #[.int .i64 x] w fun e w' => e = .returned (.int .i64 (varI x)) ∧ w = w' := by
  by_cases h0 : x < 0
  · go_enter Try.func22, Try.ntmps22
    go_wp2
    go_ret
    exact ⟨ret_int (by unfold varI; rw [if_pos (by omega)]), rfl⟩
  · go_enter Try.func22, Try.ntmps22
    go_wp2
    go_ret
    exact ⟨ret_int (by unfold varI; rw [if_neg (by omega)]), rfl⟩

set_option maxHeartbeats 1000000 in
theorem refTrue_any (x : Int) (h0 : x ≠ 0) (h1 : -9223372036854775807 ≤ x) (h2 : x ≤ 9223372036854775807) (v : Value) (m : List Bool) (w : World) (h : Bools w v m) :
    Calls Try.prog 29 #[.int .i64 x, v] w fun e w' => e = .returned (.bool (trueC x m)) ∧ w = w' := by
  have HV := hid (refVar_any x h1 h2 w)
  obtain ⟨a, c, rfl, hc1, hc2, hc3⟩ := h.shape
  have HC := hid hc3
  clear h hc3
  have hv1 : 1 ≤ varI x := by unfold varI; split <;> omega
  have hv2 : varI x ≤ 9223372036854775807 := by unfold varI; split <;> omega
  by_cases hle : varI x ≤ (m.length : Int)
  · obtain ⟨B, o, rfl, hB, hcell⟩ := HC.out (by omega)
    have ck := hcell ((varI x).toNat - 1) (by omega)
    have hon := hid (show onM x m = m.getD ((varI x).toNat - 1) false from rfl)
    obtain ⟨k, hk⟩ : ∃ k : Nat, varI x = (k : Int) + 1 := ⟨(varI x).toNat - 1, by omega⟩
    rw [show (varI x).toNat - 1 = k by omega] at ck hon
    have hkl : k < m.length := by omega
    have d1 : decide ((k : Int) + 1 ≤ (m.length : Int)) = true := decide_eq_true (by omega)
    have d2 : decide (k + 1 ≤ m.length) = true := decide_eq_true (by omega)
    rw [hk] at HV
    clear hcell hle hv1 hv2 hk
    cases hb : m.getD k false
    · rw [hb] at ck hon
      clear hb
      by_cases hp : 0 < x
      · have E := hid (show trueC x m = false by unfold trueC; rw [if_neg h0, if_pos hp, hon.out])
        have d3 : decide (0 < x) = true := decide_eq_true hp
        clear h0
        go_enter Try.func29, Try.ntmps29
        go_wp2_with (go_at_call 22; (with_reducible refine (HV.out).mono ?_); rintro e w' ⟨rfl, rfl⟩)
        go_ret
        exact ⟨ret_bool E.out.symm, rfl⟩
      · have E := hid (show trueC x m = true by unfold trueC; rw [if_neg h0, if_neg hp, hon.out]; rfl)
        have d3 : decide (0 < x) = false := decide_eq_false hp
        clear h0
        go_enter Try.func29, Try.ntmps29
        go_wp2_with (go_at_call 22; (with_reducible refine (HV.out).mono ?_); rintro e w' ⟨rfl, rfl⟩)
        go_ret
        exact ⟨ret_bool E.out.symm, rfl⟩
    · rw [hb] at ck hon
      clear hb
      by_cases hp : 0 < x
      · have E := hid (show trueC x m = true by unfold trueC; rw [if_neg h0, if_pos hp, hon.out])
        have d3 : decide (0 < x) = true := decide_eq_true hp
        clear h0
        go_enter Try.func29, Try.ntmps29
        go_wp2_with (go_at_call 22; (with_reducible refine (HV.out).mono ?_); rintro e w' ⟨rfl, rfl⟩)
        go_ret
        exact ⟨ret_bool E.out.symm, rfl⟩
      · have E := hid (show trueC x m = false by unfold trueC; rw [if_neg h0, if_neg hp, hon.out]; rfl)
        have d3 : decide (0 < x) = false := decide_eq_false hp
        clear h0
        go_enter Try.func29, Try.ntmps29
        go_wp2_with (go_at_call 22; (with_reducible refine (HV.out).mono ?_); rintro e w' ⟨rfl, rfl⟩)
        go_ret
        exact ⟨ret_bool E.out.symm, rfl⟩
  · have hon := hid (show onM x m = false by unfold onM; rw [List.getD_eq_getElem?_getD, List.getElem?_eq_none (by omega)]; rfl)
    have d1 : decide (varI x ≤ (m.length : Int)) = false := decide_eq_false hle
    generalize varI x = y at *
    by_cases hp : 0 < x
    · have E := hid (show trueC x m = false by unfold trueC; rw [if_neg h0, if_pos hp, hon.out])
      have d3 : decide (0 < x) = true := decide_eq_true hp
      clear h0
      go_enter Try.func29, Try.ntmps29
      go_wp2_with (go_at_call 22; (with_reducible refine (HV.out).mono ?_); rintro e w' ⟨rfl, rfl⟩)
      go_ret
      exact ⟨ret_bool E.out.symm, rfl⟩
    · have E := hid (show trueC x m = true by unfold trueC; rw [if_neg h0, if_neg hp, hon.out]; rfl)
      have d3 : decide (0 < x) = false := decide_eq_false hp
      clear h0
      go_enter Try.func29, Try.ntmps29
      go_wp2_with (go_at_call 22; (with_reducible refine (HV.out).mono ?_); rintro e w' ⟨rfl, rfl⟩)
      go_ret
      exact ⟨ret_bool E.out.symm, rfl⟩

def litsOk (l : List Int) : Prop := ∀ x ∈ l, x ≠ 0 ∧ -9223372036854775807 ≤ x ∧ x ≤ 9223372036854775807
theorem litsOk.ok {l : List Int} (h : litsOk l) : okL l := fun x hx => (h x hx).2
theorem litsOk.at {l : List Int} (h : litsOk l) (j : Nat) (hj : j < l.length) : l.getD j 0 ≠ 0 ∧ -9223372036854775807 ≤ l.getD j 0 ∧ l.getD j 0 ≤ 9223372036854775807 := by
  rw [List.getD_eq_getElem?_getD, List.getElem?_eq_getElem hj]; exact h _ (List.getElem_mem _)
theorem litsOk_of {l : List Int} {n : Int} (hn : n ≤ 400) (h : ckC l n = true) : litsOk l := by
  intro x hx
  have hm : mostI n ≤ 400 := by unfold mostI; split <;> omega
  unfold ckC at h
  have h1 : l.any (badL (mostI n)) = false := by simpa using h
  rw [List.any_eq_false] at h1
  have h2 : badL (mostI n) x = false := by simpa using h1 x hx
  simp only [badL, Bool.or_eq_false_iff, beq_eq_false_iff_ne, decide_eq_false_iff_not] at h2
  obtain ⟨⟨h3, h4⟩, h5⟩ := h2
  exact ⟨h3, by omega, by omega⟩
theorem checkE_ok {N : Int} {ll : List (List Int)} (h : checkE N ll = 0) : 0 ≤ N ∧ N ≤ 400 ∧ ll.length ≤ 8000 ∧ ∀ l ∈ ll, ckC l N = true := by
  unfold checkE at h
  split at h
  · omega
  · split at h
    · omega
    · split at h
      · omega
      · rename_i h1 h2 h3
        refine ⟨by omega, by omega, by omega, fun l hl => ?_⟩
        have h4 : ll.any (fun l => !ckC l N) = false := by simpa using h3
        rw [List.any_eq_false] at h4
        simpa using h4 l hl

def anyT (l : List Int) (m : List Bool) (t : Nat) : Bool := (l.take t).any fun x => trueC x m
theorem anyT_zero (l : List Int) (m : List Bool) : anyT l m 0 = false := rfl
theorem anyT_succ (l : List Int) (m : List Bool) (t : Nat) (h : t < l.length) : anyT l m (t + 1) = (anyT l m t || trueC (l.getD t 0) m) := by
  unfold anyT
  rw [List.take_add_one, List.any_append, List.getD_eq_getElem?_getD, List.getElem?_eq_getElem h]
  simp
theorem anyT_all (l : List Int) (m : List Bool) : anyT l m l.length = someT l m := by
  unfold anyT someT; rw [List.take_length]

theorem holds_no {ll : List (List Int)} {m : List Bool} {j : Nat} (hj : j < ll.length) (h : someT (ll.getD j []) m = false) : holdsC ll m = false := by
  unfold holdsC
  rw [List.all_eq_false]
  rw [List.getD_eq_getElem?_getD, List.getElem?_eq_getElem hj] at h
  exact ⟨ll[j], List.getElem_mem _, by simpa using h⟩
theorem holds_yes {ll : List (List Int)} {m : List Bool} (h : ∀ j, j < ll.length → someT (ll.getD j []) m = true) : holdsC ll m = true := by
  unfold holdsC
  rw [List.all_eq_true]
  intro l hl
  obtain ⟨j, hj, rfl⟩ := List.mem_iff_getElem.1 hl
  have := h j hj
  rwa [List.getD_eq_getElem?_getD, List.getElem?_eq_getElem hj] at this

set_option maxHeartbeats 2000000 in
theorem refHolds_any (cv : Value) (ll : List (List Int)) (hok : ∀ l ∈ ll, litsOk l) (v : Value) (m : List Bool) (w : World) (h : Lists w cv ll) (hm : Bools w v m) :
    Calls Try.prog 27 #[cv, v] w fun e w' => e = .returned (.bool (holdsC ll m)) ∧ w = w' := by
  obtain ⟨vs, hc, hl, hi⟩ := lists_get h
  obtain ⟨a, c, rfl, hcap, hmax, hcells⟩ := hc
  have HG : Hid (0 < vs.length → ∃ B o, a = some ⟨B, o, none⟩ ∧ B < w.heap.size ∧ ∀ j, j < vs.length → ∃ u, w.cell? ⟨B, o + j, none⟩ = some u ∧ Ints w u (ll.getD j []) ∧ litsOk (ll.getD j [])) := hid (fun hp => by
    obtain ⟨B, o, e, hB, hcc⟩ := hcells hp
    refine ⟨B, o, e, hB, fun j hj => ⟨_, hcc j hj, hi j hj, ?_⟩⟩
    rw [List.getD_eq_getElem?_getD, List.getElem?_eq_getElem (by omega)]
    exact hok _ (List.getElem_mem _))
  have NO := hid (fun (j : Nat) (hj : j < vs.length) (e : someT (ll.getD j []) m = false) => holds_no (by omega : j < ll.length) e)
  have YES := hid (fun (e : ∀ j, j < vs.length → someT (ll.getD j []) m = true) => holds_yes (ll := ll) (fun j hj => e j (by omega)))
  clear hi hcells h hl hok
  generalize holdsC ll m = r at *
  generalize vs.length = q at *
  obtain ⟨am, cm, rfl, _, _, _⟩ := id hm.shape
  go_enter Try.func27, Try.ntmps27
  go_wp2
  go_loopw [5] (fun i wr => ∃ j : Nat, i = .int .i64 (j : Int) ∧ j ≤ q ∧ Hid (∀ k, k < j → someT (ll.getD k []) m = true) ∧ wr = w) (fun i _ => q - (intOf i).toNat)
  case atStart => exact ⟨0, rfl, Nat.zero_le _, hid (fun j hj => absurd hj (Nat.not_lt_zero _)), rfl⟩
  case round =>
    obtain ⟨j, rfl, hjq, HS, rfl⟩ := hrel
    by_cases hlt : j < q
    · obtain ⟨B, o, rfl, hB, hcc⟩ := HG.out (by omega)
      obtain ⟨u, hcj, hu, hlo⟩ := hcc j hlt
      have NOj := hid (NO.out j hlt)
      have HSj := hid (fun (hx : someT (ll.getD j []) m = true) k (hk : k < j + 1) => show someT (ll.getD k []) m = true by
        by_cases e : k = j
        · subst e; exact hx
        · exact HS.out k (by omega))
      generalize ll.getD j [] = l at *
      obtain ⟨a2, c2, rfl, hc2, hmx, hcell⟩ := hu.shape
      have HC2 := hid hcell
      have LO := hid hlo
      have AL := hid (anyT_all l m)
      have AS := hid (anyT_succ l m)
      have MM := hid hm
      clear hcc HS HG NO YES hu hcell hlo hm
      generalize hy : l.length = y at *
      have HY := hid hy
      clear hy
      go_wp2
      go_loopw [6, 7] (fun s k wi => ∃ t : Nat, k = .int .i64 (t : Int) ∧ t ≤ y ∧ s = .bool (anyT l m t) ∧ wi = wr) (fun _ k _ => y - (intOf k).toNat)
      case atStart => exact ⟨0, rfl, Nat.zero_le _, rfl, rfl⟩
      case round =>
        obtain ⟨t, rfl, hty, rfl, rfl⟩ := hrel
        by_cases htl : t < y
        · obtain ⟨B2, o2, rfl, hB2, hcc2⟩ := HC2.out (by omega)
          have hct := hcc2 t htl
          have hx := LO.out.at t (by have := HY.out; omega)
          have RT := hid (refTrue_any (l.getD t 0) hx.1 hx.2.1 hx.2.2 _ m _ MM.out)
          have A1 := hid (AS.out t htl)
          generalize l.getD t 0 = x at *
          generalize trueC x m = b at *
          clear hx hcc2 HC2 LO AL AS MM NOj HSj
          cases hb : anyT l m t
          · rw [hb] at A1
            go_wp2_with (go_at_call 29; (with_reducible refine (RT.out).mono ?_); rintro e w' ⟨rfl, rfl⟩)
            go_roundw
            case rel => exact ⟨t + 1, by go_num, by omega, by rw [A1.out]; rfl, by first | rfl | trivial⟩
            case measure => simp [intOf]; omega
          · rw [hb] at A1
            go_wp2_with (go_at_call 29; (with_reducible refine (RT.out).mono ?_); rintro e w' ⟨rfl, rfl⟩)
            go_roundw
            case rel => exact ⟨t + 1, by go_num, by omega, by rw [A1.out]; rfl, by first | rfl | trivial⟩
            case measure => simp [intOf]; omega
        · have e2 : t = y := by omega
          subst e2
          rw [AL.out]
          cases hs : someT l m
          · have E := hid (NOj.out hs)
            clear NOj HSj AL AS LO HC2 MM
            go_wp2
            go_ret
            exact ⟨ret_bool E.out.symm, rfl⟩
          · have HS2 := hid (HSj.out hs)
            clear NOj HSj AL AS LO HC2 MM
            go_wp2
            go_roundw
            case rel => exact ⟨j + 1, by go_num, by omega, HS2, by first | rfl | trivial⟩
            case measure => simp [intOf]; omega
    · have e2 : j = q := by omega
      subst e2
      have E := hid (YES.out HS.out)
      clear HG NO YES HS hm
      go_wp2
      go_ret
      exact ⟨ret_bool E.out.symm, rfl⟩
end Go.Proofs.Ytopneceicamakaa.Cf
