/-
  LAYER 12: the law CnfNorms walked.
-/
import Derived.Test.YtopneceicamakaaCnfDocNorm
import Derived.Deep.RegionHeld3
namespace Go.Proofs.Ytopneceicamakaa.Cf
open Go.RowKit Go.Proofs.Ytopneceicamakaa Go.Proofs.Ytopneceicamakaa.Ln

theorem litsOk_of2 {l : List Int} {n : Int} (hn : n ≤ 1000000) (h : ckC l n = true) : litsOk l := by
  intro x hx
  have hm : mostI n ≤ 1000000 := by unfold mostI; split <;> omega
  unfold ckC at h
  have h1 : l.any (badL (mostI n)) = false := by simpa using h
  rw [List.any_eq_false] at h1
  have h2 : badL (mostI n) x = false := by simpa using h1 x hx
  simp only [badL, Bool.or_eq_false_iff, beq_eq_false_iff_ne, decide_eq_false_iff_not] at h2
  obtain ⟨⟨h3, h4⟩, h5⟩ := h2
  exact ⟨h3, by omega, by omega⟩

theorem ints_same (va vb : Value) (a : List Int) (w : World) (ha : Ints w va a) (hb : Ints w vb a) :
    Calls Try.prog 17 #[va, vb] w fun e w' => e = .returned (.bool true) ∧ Drawn w w' :=
  (ints_any va vb a a w ha hb).mono (fun _ _ h => ⟨by rw [h.1]; simp, h.2⟩)

set_option maxHeartbeats 2000000 in
/-- where the law asks nothing -/
theorem law_norms_off (v : Value) (l : List Int) (w : World) (h : RawC w v (intsV l)) (hoff : 60 < l.length ∨ ckC l 1000 = false) :
    Calls Try.prog 4 #[v] w fun e w' => e = .returned (.bool true) ∧ Below w.heap.size w w' := by
  have R0 := hid (resolved_any w)
  have H := hid h
  obtain ⟨a, c, rfl, hc, _⟩ := h
  rw [show (intsV l).length = l.length from List.length_map _] at *
  by_cases hlong : 60 < l.length
  · have d1 : (60 : Int) < (l.length : Int) := by omega
    generalize l.length = k at *
    clear hoff hlong H
    go_enter Try.func4, Try.ntmps4
    go_wp2_with fail
    refine R0.out.mono ?_
    rintro e w1 ⟨rfl, hb1⟩
    have B1 := hid hb1
    clear hb1 R0
    go_wp2_with fail
    refine (resolved_any w1).mono ?_
    rintro e w2 ⟨rfl, hb2⟩
    have B2 := hid (B1.out.trans (hb2.mono B1.out.size))
    clear hb2 B1
    go_wp2_with fail
    go_ret
    exact ⟨rfl, B2.out⟩
  have d1 : ¬ (60 : Int) < (l.length : Int) := by omega
  have HI := hid (show Ints w (.slice a l.length c) l from RawC.cells H.out (by rw [show (intsV l).length = l.length from List.length_map _]; omega))
  have E : rangeE (ckC l 1000) = 8 := by
    rcases hoff with h | h
    · exact absurd h hlong
    · rw [h]; rfl
  generalize hk : l.length = k at *
  clear hoff hlong H hk
  go_enter Try.func4, Try.ntmps4
  go_wp2_with fail
  refine R0.out.mono ?_
  rintro e w1 ⟨rfl, hb1⟩
  have I1 := hid (HI.out.below hb1)
  have B1 := hid hb1
  have RC := hid (refCheckClause_any _ l 1000 (by decide) w1 I1.out)
  rw [E] at RC
  clear hb1 R0 HI I1 E
  go_wp2_with fail
  refine RC.out.mono ?_
  rintro e w2 ⟨rfl, rfl⟩
  clear RC
  go_wp2_with fail
  refine (resolved_any w1).mono ?_
  rintro e w2 ⟨rfl, hb2⟩
  have B2 := hid (B1.out.trans (hb2.mono B1.out.size))
  clear hb2 B1
  go_wp2_with fail
  go_ret
  exact ⟨rfl, B2.out⟩

set_option maxHeartbeats 4000000 in
/-- behind the copy: d holds what c holds -/
theorem law_norms (v : Value) (l : List Int) (w : World) (h : RawC w v (intsV l)) (hlong : ¬ 60 < l.length) (hck : ckC l 1000 = true) (hne : l ≠ []) :
    Calls Try.prog 4 #[v] w fun e w' => e = .returned (.bool true) ∧ Below w.heap.size w w' := by
  obtain ⟨i0, q1, q2, q3, q4⟩ := info_parts infoI
  have hi := hid q1
  have hz0 := hid q2
  have hz1 := hid q3
  have hz2 := hid q4
  clear q1 q2 q3 q4
  have R0 := hid (resolved_any w)
  have HI := hid (show Ints w v l from RawC.cells h (by rw [show (intsV l).length = l.length from List.length_map _]; omega))
  have LO := hid (litsOk_of2 (by decide) hck)
  have hpos : 0 < l.length := List.length_pos_iff.2 hne
  clear h hne
  obtain ⟨a, c, rfl, hc, _, hcells⟩ := HI.out.shape
  obtain ⟨B, o, rfl, hB, hcc⟩ := hcells hpos
  clear hcells
  have HCC := hid (And.intro hB hcc)
  have d1 : ¬ (60 : Int) < (l.length : Int) := by omega
  have TT := hid (adj_taut LO.out)
  have HX0 := hid (LO.out.at 0 hpos)
  generalize hk : l.length = k at *
  have HK := hid hk
  clear hB hcc hk
  go_enter Try.func4, Try.ntmps4
  go_wp2_with fail
  refine R0.out.mono ?_
  rintro e w1 ⟨rfl, hb1⟩
  have I1 := hid (HI.out.below hb1)
  have B1 := hid hb1
  have RC := hid (refCheckClause_any _ l 1000 (by decide) w1 I1.out)
  rw [show rangeE (ckC l 1000) = 0 by rw [hck]; rfl] at RC
  have K1 := hid (show B < w1.heap.size ∧ ∀ j, j < k → w1.cell? ⟨B, o + j, none⟩ = some (.int .i64 (l.getD j 0)) from ⟨Nat.lt_of_lt_of_le HCC.out.1 hb1.size, fun j hj => (hb1.cell (p := ⟨B, o + j, none⟩) HCC.out.1).trans (HCC.out.2 j hj)⟩)
  clear hb1 R0 HI HCC hck
  go_wp2_with fail
  refine RC.out.mono ?_
  rintro e w2 ⟨rfl, rfl⟩
  clear RC
  go_wp2_with (at_builtin; refine wpList_append_own _ rfl (.tmp 18) (.tmp 19) 31 rfl w1.heap.size 3 i0 (.int .i64 0) 1 8 Try.underlying31 hi.out hz0.out hz1.out hz2.out rfl (by decide) _ 0 [] rfl ?b0 ⟨B, o, none⟩ k c (intsV l) rfl ?b1 ?b2 ?b3 ?b4 ?b5 ?b6 ?_)
  case b0 => exact ownsEmpty w1
  case b1 => rw [intsV, List.length_map, HK.out]; omega
  case b2 =>
    intro i u hu
    rw [addr_add]
    have hik : i < l.length := by have := (List.getElem?_eq_some_iff.1 hu).1; simpa [intsV] using this
    have hu2 : u = .int .i64 (l.getD i 0) := by
      simp only [intsV, List.getElem?_map, List.getElem?_eq_getElem hik, Option.map_some, Option.some.injEq] at hu
      rw [← hu, List.getD_eq_getElem?_getD, List.getElem?_eq_getElem hik]; rfl
    rw [hu2]
    exact (((Below.refl w1.heap.size w1).alloc (Nat.le_refl _) _).cell (p := ⟨B, o + i, none⟩) K1.out.1).trans (K1.out.2 i (by rw [← HK.out]; exact hik))
  case b3 => exact intsV_one _
  case b4 => unfold maxLen; omega
  case b5 => omega
  case b6 => simp
  intro vd w2 hown2 hgrow2 _
  have hb2 : Below w1.heap.size w1 w2 := ((Below.refl w1.heap.size w1).alloc (Nat.le_refl _) _).grown hgrow2 (by simp) (fun k hk => by cases hk; exact Nat.le_refl _)
  have hod : Owned w1.heap.size w2 vd l := own_join hown2 (by simp) (Nat.le_refl _)
  have D2 := hid (Owned.ints hod (by rw [HK.out]; omega))
  have C2 := hid (I1.out.below hb2)
  have B2 := hid (B1.out.trans (hb2.mono B1.out.size))
  have c20 := (hb2.cell (p := ⟨B, o + 0, none⟩) K1.out.1).trans (K1.out.2 0 hpos)
  have hBl2 := Nat.lt_of_lt_of_le K1.out.1 hb2.size
  obtain ⟨ad, cd, rfl⟩ := own_shape hown2
  clear hown2 hgrow2 hod hb2 I1 B1 K1
  go_wp2_with fail
  refine (norm_any _ l w2 D2.out).mono ?_
  rintro e w3 ⟨vx, rfl, hox, hb3⟩
  have X3 := hid (Owned.ints hox (by have := norm_len l; have := HK.out; omega))
  have D3 := hid (D2.out.below hb3)
  have C3 := hid (C2.out.below hb3)
  have B3 := hid (B2.out.trans (hb3.mono B2.out.size))
  have c30 := (hb3.cell (p := ⟨B, o + 0, none⟩) hBl2).trans c20
  have hBl3 := Nat.lt_of_lt_of_le hBl2 hb3.size
  obtain ⟨ax, cx, rfl⟩ := own_shape hox
  rw [Nat.add_zero] at c30
  clear hox hb3 B2 C2 D2 c20 hBl2
  have hx0 := HX0.out
  generalize l.getD 0 0 = x0 at *
  have CN := fun W (hW : Below w3.heap.size w3 W) => hid (refNorm_any _ l LO.out.ok (by have := HK.out; omega) W (C3.out.below hW))
  have CT := fun W (hW : Below w3.heap.size w3 W) => hid (taut_any _ l LO.out.ok W (D3.out.below hW))
  have RT := fun W (hW : Below w3.heap.size w3 W) => hid (refTaut_any _ l LO.out.ok W (C3.out.below hW))
  have VA := fun W => hid (var_any x0 hx0.2.1 hx0.2.2 W)
  have VR := fun W => hid (refVar_any x0 hx0.2.1 hx0.2.2 W)
  rw [TT.out] at CT
  generalize tautD l = tb at *
  generalize varI x0 = vr at *
  have hz : ((k : Int) == 0) = false := by rw [beq_eq_false_iff_ne]; omega
  clear TT HX0 hx0
  generalize hnl : (normC l).length = nl at *
  clear hnl
  go_wp2_with fail
  have h0 : Below w3.heap.size w3 w3.drew := below_drew (Below.refl _ _)
  have k0 : w3.drew.cell? ⟨B, o, none⟩ = some (.int .i64 x0) := by simpa [go_sem] using c30
  go_region_held3 (fun w' => w'.cell? ⟨B, o, none⟩ = some (.int .i64 x0)) (first | (exact kd) | (exact kc) | (exact kb) | (exact ka) | (exact k0))
    (first
      | (go_at_call 18; (with_reducible refine (CN _ h0).out.mono ?_); rintro e wa ⟨v4, rfl, hv4, hba⟩; have ha := below_trans h0 hba; have ka := (hba.cell (p := ⟨B, o, none⟩) (Nat.lt_of_lt_of_le hBl3 h0.size)).trans k0; obtain ⟨a4, c4, rfl, _, _, _⟩ := hv4.shape)
      | (go_at_call 17; (with_reducible refine (ints_same _ _ (normC l) _ (X3.out.below ha) hv4).mono ?_); rintro e wb ⟨rfl, hdb⟩; have hbb := below_trans ha hdb.below; have kb := (hdb.below.cell (p := ⟨B, o, none⟩) (Nat.lt_of_lt_of_le hBl3 ha.size)).trans ka)
      | (go_at_call 17; (with_reducible refine (ints_same _ _ l _ (D3.out.below hbb) (C3.out.below hbb)).mono ?_); rintro e wc ⟨rfl, hdc⟩; have hbc := below_trans hbb hdc.below; have kc := (hdc.below.cell (p := ⟨B, o, none⟩) (Nat.lt_of_lt_of_le hBl3 hbb.size)).trans kb)
      | (go_at_call 19; (with_reducible refine (CT _ hbc).out.mono ?_); rintro e wd ⟨rfl, hbd⟩; have hbdd := below_trans hbc hbd; have kd := (hbd.cell (p := ⟨B, o, none⟩) (Nat.lt_of_lt_of_le hBl3 hbc.size)).trans kc)
      | (go_at_call 20; (with_reducible refine (RT _ (by first | exact hbdd | exact hbc)).out.mono ?_); rintro e we ⟨rfl, rfl⟩)
      | (go_at_call 21; (with_reducible refine (VA _).out.mono ?_); rintro e wf ⟨rfl, rfl⟩)
      | (go_at_call 22; (with_reducible refine (VR _).out.mono ?_); rintro e wg ⟨rfl, rfl⟩))
  all_goals
    go_wp2_with fail
    go_ret
    exact ⟨rfl, B3.out.trans (hbdd.mono B3.out.size)⟩
end Go.Proofs.Ytopneceicamakaa.Cf
