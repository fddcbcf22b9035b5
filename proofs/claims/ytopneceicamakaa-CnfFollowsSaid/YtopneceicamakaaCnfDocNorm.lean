/-
  LAYER 12: the document's Norm.
-/
import Derived.Test.YtopneceicamakaaNormMath
import Derived.Test.YtopneceicamakaaCnfResolve
import Derived.Laws.OwnMore
import Derived.BigQuiet
namespace Go.Proofs.Ytopneceicamakaa.Cf
open Go.RowKit Go.Proofs.Ytopneceicamakaa Go.Proofs.Ytopneceicamakaa.Ln

theorem own_block {base : Nat} {w : World} {g og n c : Nat} {R : List Int} (h : Owned base w (.slice (some ⟨g, og, none⟩) n c) R) :
    og = 0 ∧ n = R.length ∧ n ≤ c ∧ g < w.heap.size ∧ ∀ i u, (intsV R)[i]? = some u → w.cell? ⟨g, og + i, none⟩ = some u := by
  rcases ownsRow_one h with ⟨hv, _⟩ | ⟨g', c', hv, _, hg, hn, _, hcell⟩
  · cases hv
  · simp only [Value.slice.injEq, Option.some.injEq, Addr.mk.injEq] at hv
    obtain ⟨⟨rfl, rfl, _⟩, rfl, rfl⟩ := hv
    exact ⟨rfl, rfl, hn, hg, fun i u hu => by rw [Nat.zero_add]; exact hcell i u hu⟩
theorem own_none {base : Nat} {w : World} {n c : Nat} {R : List Int} (h : Owned base w (.slice none n c) R) : n = 0 ∧ c = 0 ∧ R = [] := by
  rcases ownsRow_one h with ⟨hv, hn, hx⟩ | ⟨g', c', hv, _⟩
  · simp only [Value.slice.injEq] at hv
    exact ⟨hv.2.1, hv.2.2, by simpa [intsV] using hx⟩
  · simp at hv
theorem ownsEmpty (w : World) : (w.alloc (.cells #[] 3)).ownsRow w.heap.size 3 1 (.slice (some ⟨w.heap.size, 0, none⟩) 0 0) 0 [] :=
  ⟨rfl, .inr ⟨w.heap.size, 0, #[], rfl, Nat.le_refl _, (by show (w.heap.push _)[w.heap.size]? = _; simp), Nat.le_refl _, Nat.zero_le _, rfl, rfl⟩⟩
theorem intsV_one (l : List Int) : ∀ u ∈ intsV l, u.oneCell' = true := by
  intro u hu
  obtain ⟨x, _, rfl⟩ := List.mem_map.1 hu
  rfl
theorem intsV_take {R : List Int} {K i : Nat} {u : Value} (h : (intsV (R.take K))[i]? = some u) : (intsV R)[i]? = some u := by
  simp only [intsV, List.getElem?_map, List.getElem?_take] at h ⊢
  split at h
  · exact h
  · simp at h
theorem intsV_drop {R : List Int} {K i : Nat} {u : Value} (h : (intsV (R.drop K))[i]? = some u) : (intsV R)[K + i]? = some u := by
  simpa only [intsV, List.getElem?_map, List.getElem?_drop] using h
theorem own_join {base base' N : Nat} {w : World} {v : Value} {L : List Int} {xs : List Value} (h : w.ownsRow base 3 1 v N xs) (hx : xs = intsV L) (hb : base' ≤ base) : Owned base' w v L := by
  have hN : L.length = N := by have := h.1; rw [hx, intsV, List.length_map, Nat.mul_one] at this; exact this
  unfold Owned
  rw [hN, ← hx]
  exact ownsRow_mono h hb

set_option maxHeartbeats 4000000 in
theorem refNorm_any (v : Value) (l : List Int) (hok : okL l) (hlen : l.length ≤ 1000) (w : World) (h : Ints w v l) :
    Calls Try.prog 18 #[v] w fun e w' => ∃ v', e = .returned v' ∧ Ints w' v' (normC l) ∧ Below w.heap.size w w' := by
  obtain ⟨i0, q1, q2, q3, q4⟩ := info_parts infoI
  have hi := hid q1
  have hz0 := hid q2
  have hz1 := hid q3
  have hz2 := hid q4
  clear q1 q2 q3 q4
  obtain ⟨a, c, rfl, hc, hmx, hcells⟩ := h.shape
  have HC := hid hcells
  have OK := hid hok
  generalize hq : l.length = q at *
  have HQ := hid hq
  clear h hcells hok hq hmx
  go_enter Try.func18, Try.ntmps18
  go_wp2
  go_loopw [3, 4] (fun o i wr => ∃ m : Nat, i = .int .i64 (m : Int) ∧ m ≤ q ∧ Hid (Owned w.heap.size wr o (normC (l.take m)) ∧ Below w.heap.size w wr)) (fun _ i _ => q - (intOf i).toNat)
  case atStart => exact ⟨0, rfl, Nat.zero_le _, hid ⟨World.ownsRow_nil _ _ _ _, Below.refl _ _⟩⟩
  case round =>
    obtain ⟨m, rfl, hmn, HW⟩ := hrel
    obtain ⟨ao, co, rfl⟩ := own_shape HW.out.1
    have HR := hid (show (normC (l.take m)).length ≤ m from Nat.le_trans (norm_len _) (by rw [List.length_take]; omega))
    by_cases hlt : m < q
    · obtain ⟨B, o, rfl, hB, hcc⟩ := HC.out (by omega)
      have hcm := hcc m hlt
      have hx := OK.out.at m (by rw [HQ.out]; exact hlt)
      have HT := hid (normC_take (l := l) (m := m) (by rw [HQ.out]; exact hlt))
      have HRO := hid (show ∀ y ∈ normC (l.take m), -9223372036854775807 ≤ y ∧ y ≤ 9223372036854775807 from fun y hy => OK.out y (List.mem_of_mem_take ((normC_mem _ _).1 hy)))
      have HST := hid (normC_strict (l.take m))
      have hmW : m + 1 ≤ 1000 := by omega
      clear hcc
      generalize l.getD m 0 = x at *
      generalize normC (l.take m) = R at *
      have hRl := HR.out
      have HI := hid (Owned.ints HW.out.1 (by omega))
      have hcmr := (HW.out.2.cell (p := ⟨B, o + m, none⟩) hB).trans hcm
      have HH := hid (refHas_any _ R x wr HI.out)
      have HXB := hid (And.intro hB hcm)
      clear hB hcm
      cases hb : R.contains x
      · have hxn : x ∉ R := fun e => by rw [List.contains_iff_mem.2 e] at hb; cases hb
        have HXN := hid hxn
        rw [hb] at HH
        clear hb hxn
        generalize hn : R.length = n at *
        have HN := hid hn
        clear hn
        go_wp2_with (go_at_call 34; (with_reducible refine (HH.out).mono ?_); rintro e w' ⟨rfl, rfl⟩)
        go_loopw [5] (fun at' wi => ∃ k : Nat, at' = .int .i64 (k : Int) ∧ k ≤ n ∧ Hid (∀ j, k ≤ j → j < n → before x (R.getD j 0) = true) ∧ Hid (w.heap.size ≤ wi.heap.size ∧ Owned w.heap.size wi (.slice ao n co) R ∧ Below w.heap.size w wi)) (fun i _ => (intOf i).toNat)
        case atStart => exact ⟨n, rfl, Nat.le_refl _, hid (fun j h1 h2 => by omega), hid ⟨HW.out.2.size, HW.out.1, HW.out.2⟩⟩
        case round =>
          obtain ⟨k, rfl, hkn, HS, HI2⟩ := hrel
          have hcw := (HI2.out.2.2.cell (p := ⟨B, o + m, none⟩) HXB.out.1).trans HXB.out.2
          clear hcmr HH HI HW
          by_cases hpos : 0 < k
          · obtain ⟨j, rfl⟩ : ∃ j, k = j + 1 := ⟨k - 1, by omega⟩
            have hIN := Owned.ints HI2.out.2.1 (by have := HN.out; omega)
            obtain ⟨_, _, hv2, _, _, hcR⟩ := hIN.shape
            simp only [Value.slice.injEq] at hv2
            obtain ⟨rfl, _, rfl⟩ := hv2
            obtain ⟨g, og, rfl, hg, hcg⟩ := hcR (by have := HN.out; omega)
            have hcj := hcg j (by have := HN.out; omega)
            have hy := HRO.out (R.getD j 0) (mem_getD (by have := HN.out; omega))
            have HBF := fun W => hid (refBefore_any x (R.getD j 0) hx hy W)
            have HSn := hid (fun (hx2 : before x (R.getD j 0) = true) i (h1 : j ≤ i) (h2 : i < n) => show before x (R.getD i 0) = true by
              by_cases e : i = j
              · subst e; exact hx2
              · exact HS.out i (by omega) h2)
            have HE := hid (fun (hx2 : before x (R.getD j 0) = false) => insN_at HST.out HXN.out (show j + 1 ≤ R.length by have := HN.out; omega) (fun i h1 h2 => HS.out i h1 (by have := HN.out; omega)) (fun _ => by rw [Nat.add_sub_cancel]; exact hx2))
            clear hcg hcR hIN HS hy
            cases hbf : before x (R.getD j 0)
            · have HE2 := hid (HE.out hbf)
              rw [hbf] at HBF
              clear hbf HE HSn
              generalize R.getD j 0 = y at *
              go_wp2_with fail
              go_quiet ((go_at_call 46; exact Calls.quiet_of_same (HBF _).out))
              have HX := hid (And.intro (show w.heap.size ≤ (wr.drewN nq).heap.size from HI2.out.1) (And.intro (Owned.below HI2.out.2.1 (below_drewN' (Below.refl _ _) nq)) (below_drewN' HI2.out.2.2 nq)))
              generalize wr.drewN nq = wx at *
              have hcx := (HX.out.2.2.cell (p := ⟨B, o + m, none⟩) HXB.out.1).trans HXB.out.2
              have OB := hid (own_block HX.out.2.1)
              have hn1 := OB.out.2.1
              have hn2 := OB.out.2.2.1
              have hsz0 := HX.out.1
              have hBx := HXB.out.1
              have hRl2 := HR.out
              have hkR : (j + 1) ≤ R.length := by omega
              clear HI2 hcw
              go_wp2_with (at_builtin; refine wpList_append_own _ rfl (.tmp 37) (.tmp 40) 31 rfl wx.heap.size 3 i0 (.int .i64 0) 1 8 Try.underlying31 hi.out hz0.out hz1.out hz2.out rfl (by decide) _ 0 [] rfl ?b0 ⟨g, og, none⟩ ((j + 1)) co (intsV (R.take ((j + 1)))) rfl ?b1 ?b2 ?b3 ?b4 ?b5 ?b6 ?_)
              case b0 => exact ownsEmpty wx
              case b1 => rw [intsV, List.length_map, List.length_take]; omega
              case b2 => intro i u hu; rw [addr_add]; exact (((Below.refl wx.heap.size wx).alloc (Nat.le_refl _) _).cell (p := ⟨g, og + i, none⟩) OB.out.2.2.2.1).trans (OB.out.2.2.2.2 i u (intsV_take hu))
              case b3 => exact intsV_one _
              case b4 => unfold maxLen; omega
              case b5 => omega
              case b6 => simp
              intro v1 w1 hown1 hgrow1 _
              have hb1 : Below wx.heap.size wx w1 := ((Below.refl wx.heap.size wx).alloc (Nat.le_refl _) _).grown hgrow1 (by simp) (fun k hk => by cases hk; exact Nat.le_refl _)
              have hs1 := hb1.size
              have hc1 := (hb1.cell (p := ⟨B, o + m, none⟩) (by show B < wx.heap.size; omega)).trans hcx
              obtain ⟨va1, vc1, rfl⟩ := own_shape hown1
              clear hgrow1 hcx
              go_wp2_with (at_builtin; refine wpList_append_own _ rfl (.tmp 42) (.tmp 47) 31 rfl wx.heap.size 3 i0 (.int .i64 0) 1 8 Try.underlying31 hi.out hz0.out hz1.out hz2.out rfl (by decide) _ _ _ rfl (hown1.alloc _) ⟨w1.heap.size, 0, none⟩ 1 1 [.int .i64 x] rfl rfl ?e1 ?e2 ?e3 ?e4 ?e5 ?_)
              case e1 => exact cell_one_new _ _ _
              case e2 => intro u hu; simp at hu; subst hu; rfl
              case e3 => unfold maxLen; omega
              case e4 => omega
              case e5 => simp; omega
              intro v2 w2 hown2 hgrow2 _
              have hb2 : Below wx.heap.size wx w2 := (hb1.alloc (by omega) _).grown hgrow2 (by simp; omega) (fun k hk => (hown1.lt k hk).1)
              have hs2 := hb2.size
              obtain ⟨va2, vc2, rfl⟩ := own_shape hown2
              clear hgrow2 hown1 hc1 hb1
              by_cases hck : co = (j + 1)
              · have hck2 : (co : Int) = (((j + 1) : Nat) : Int) := by omega
                go_wp2_with (at_builtin; refine wpList_append_own _ rfl (.tmp 49) (.tmp 52) 31 rfl wx.heap.size 3 i0 (.int .i64 0) 1 8 Try.underlying31 hi.out hz0.out hz1.out hz2.out rfl (by decide) _ _ _ rfl hown2 _ _ _ (intsV (R.drop ((j + 1)))) rfl ?d1 ?d2 ?d3 ?d4 ?d5 ?d6 ?_)
                case d1 => rw [intsV, List.length_map, List.length_drop]; omega
                case d2 => intro i u hu; rw [List.drop_eq_nil_of_le (by omega)] at hu; simp [intsV] at hu
                case d3 => exact intsV_one _
                case d4 => unfold maxLen; omega
                case d5 => omega
                case d6 => omega
                intro v3 w3 hown3 hgrow3 _
                have hb3 : Below wx.heap.size wx w3 := hb2.grown hgrow3 (by omega) (fun k hk => (hown2.lt k hk).1)
                clear hgrow3 hown2 hb2
                have HFIN := hid (And.intro (own_join (base' := w.heap.size) (L := R.take ((j + 1)) ++ x :: R.drop ((j + 1))) hown3 (by simp [intsV]) hsz0) (HX.out.2.2.trans (hb3.mono hsz0)))
                clear hown3 hb3
                go_wp2_with fail
                go_roundw
                case rel => exact ⟨m + 1, by go_num, by omega, hid (by rw [HT.out, HE2.out]; exact HFIN.out)⟩
                case measure => simp [intOf]; omega
              · go_wp2_with (at_builtin; refine wpList_append_own _ rfl (.tmp 49) (.tmp 52) 31 rfl wx.heap.size 3 i0 (.int .i64 0) 1 8 Try.underlying31 hi.out hz0.out hz1.out hz2.out rfl (by decide) _ _ _ rfl hown2 _ _ _ (intsV (R.drop ((j + 1)))) rfl ?d1 ?d2 ?d3 ?d4 ?d5 ?d6 ?_)
                case d1 => rw [intsV, List.length_map, List.length_drop]; omega
                case d2 => intro i u hu; rw [addr_add]; exact ((hb2.cell (p := ⟨g, _, none⟩) OB.out.2.2.2.1).trans (by have := OB.out.2.2.2.2 _ u (intsV_drop hu); rwa [← Nat.add_assoc] at this))
                case d3 => exact intsV_one _
                case d4 => unfold maxLen; omega
                case d5 => omega
                case d6 => omega
                intro v3 w3 hown3 hgrow3 _
                have hb3 : Below wx.heap.size wx w3 := hb2.grown hgrow3 (by omega) (fun k hk => (hown2.lt k hk).1)
                clear hgrow3 hown2 hb2
                have HFIN := hid (And.intro (own_join (base' := w.heap.size) (L := R.take ((j + 1)) ++ x :: R.drop ((j + 1))) hown3 (by simp [intsV]) hsz0) (HX.out.2.2.trans (hb3.mono hsz0)))
                clear hown3 hb3
                go_wp2_with fail
                go_roundw
                case rel => exact ⟨m + 1, by go_num, by omega, hid (by rw [HT.out, HE2.out]; exact HFIN.out)⟩
                case measure => simp [intOf]; omega
            · have HS2 := hid (HSn.out hbf)
              rw [hbf] at HBF
              clear hbf HE HSn
              generalize R.getD j 0 = y at *
              go_wp2_with fail
              go_quiet ((go_at_call 46; exact Calls.quiet_of_same (HBF _).out))
              go_wp2_with fail
              go_roundw
              case rel => exact ⟨j, by go_num, by omega, HS2, hid ⟨HI2.out.1, Owned.below HI2.out.2.1 (below_drewN' (Below.refl _ _) _), below_drewN' HI2.out.2.2 _⟩⟩
              case measure => simp [intOf] <;> omega
          · have HE2 := hid (insN_at HST.out HXN.out (show k ≤ R.length by have := HN.out; omega) (fun j h1 h2 => HS.out j h1 (by have := HN.out; omega)) (fun h => absurd h hpos))
            rcases ownsRow_one HI2.out.2.1 with ⟨hv, _⟩ | ⟨g, c', hv, _⟩
            · have hao : ao = none := by simp only [Value.slice.injEq] at hv; exact hv.1
              subst hao
              clear hv
              obtain ⟨rfl, rfl, rfl⟩ := own_none HI2.out.2.1
              obtain rfl : k = 0 := by omega
              clear hpos
              go_wp2_with fail
              go_quiet (fail)
              have HX := hid (And.intro (show w.heap.size ≤ (wr.drewN nq).heap.size from HI2.out.1) (And.intro (Owned.below HI2.out.2.1 (below_drewN' (Below.refl _ _) nq)) (below_drewN' HI2.out.2.2 nq)))
              generalize wr.drewN nq = wx at *
              have hcx := (HX.out.2.2.cell (p := ⟨B, o + m, none⟩) HXB.out.1).trans HXB.out.2
              have hsz0 := HX.out.1
              have hBx := HXB.out.1
              clear HI2 hcw
              have hnil1 := run_append_owned_none (w := wx.alloc (.cells #[] 3)) wx.heap.size 31 31 3 i0 1 Try.underlying31 hi.out _ 0 [] (ownsEmpty wx)
              have hc1 := ((((Below.refl wx.heap.size wx).alloc (Nat.le_refl _) (.cells #[] 3)).cell (p := ⟨B, o + m, none⟩) (by show B < wx.heap.size; omega)).trans hcx)
              go_wp2_with (at_builtin; refine wpList_append_own _ rfl (.tmp 42) (.tmp 47) 31 rfl wx.heap.size 3 i0 (.int .i64 0) 1 8 Try.underlying31 hi.out hz0.out hz1.out hz2.out rfl (by decide) _ 0 [] rfl ((ownsEmpty wx).alloc _) ⟨wx.heap.size + 1, 0, none⟩ 1 1 [.int .i64 x] rfl rfl ?e1 ?e2 ?e3 ?e4 ?e5 ?_)
              case e1 => exact cell_one_at _ _ _ _ (by simp)
              case e2 => intro u hu; simp at hu; subst hu; rfl
              case e3 => unfold maxLen; omega
              case e4 => omega
              case e5 => simp; omega
              intro v2 w2 hown2 hgrow2 _
              have hb2 : Below wx.heap.size wx w2 := (((Below.refl wx.heap.size wx).alloc (Nat.le_refl _) _).alloc (by simp) _).grown hgrow2 (by simp; omega) (fun k hk => by cases hk; exact Nat.le_refl _)
              have hs2 := hb2.size
              obtain ⟨va2, vc2, rfl⟩ := own_shape hown2
              obtain ⟨g2, hv2, hn2⟩ : ∃ g2, va2 = some ⟨g2, 0, none⟩ ∧ 1 ≤ vc2 := by
                rcases ownsRow_one hown2 with ⟨_, h, _⟩ | ⟨g2, c2, hv, _, _, h, _⟩
                · omega
                · simp only [Value.slice.injEq] at hv; exact ⟨g2, hv.1, by omega⟩
              subst hv2
              have hnil3 := run_append_owned_none (w := w2) wx.heap.size 31 31 3 i0 1 Try.underlying31 hi.out _ _ _ hown2
              have HFIN := hid (And.intro (own_join (base' := w.heap.size) (L := [x]) hown2 (by simp [intsV]) hsz0) (HX.out.2.2.trans (hb2.mono hsz0)))
              clear hgrow2 hb2 hc1 hnil1 hown2 hcx
              go_wp2_with fail
              go_roundw
              case rel => exact ⟨m + 1, by go_num, by omega, hid (by rw [HT.out, HE2.out]; exact HFIN.out)⟩
              case measure => simp [intOf]; omega
            · obtain ⟨og, hao⟩ : ∃ og, ao = some ⟨g, og, none⟩ := ⟨0, by simp only [Value.slice.injEq] at hv; exact hv.1⟩
              subst hao
              have d0 : decide ((0 : Int) < (k : Int)) = false := decide_eq_false (by omega)
              have d1 : decide (0 < k) = false := decide_eq_false (by omega)
              clear hv hpos
              go_wp2_with fail
              go_quiet (fail)
              have HX := hid (And.intro (show w.heap.size ≤ (wr.drewN nq).heap.size from HI2.out.1) (And.intro (Owned.below HI2.out.2.1 (below_drewN' (Below.refl _ _) nq)) (below_drewN' HI2.out.2.2 nq)))
              generalize wr.drewN nq = wx at *
              have hcx := (HX.out.2.2.cell (p := ⟨B, o + m, none⟩) HXB.out.1).trans HXB.out.2
              have OB := hid (own_block HX.out.2.1)
              have hn1 := OB.out.2.1
              have hn2 := OB.out.2.2.1
              have hsz0 := HX.out.1
              have hBx := HXB.out.1
              have hRl2 := HR.out
              have hkR : k ≤ R.length := by omega
              clear HI2 hcw
              go_wp2_with (at_builtin; refine wpList_append_own _ rfl (.tmp 37) (.tmp 40) 31 rfl wx.heap.size 3 i0 (.int .i64 0) 1 8 Try.underlying31 hi.out hz0.out hz1.out hz2.out rfl (by decide) _ 0 [] rfl ?b0 ⟨g, og, none⟩ (k) co (intsV (R.take (k))) rfl ?b1 ?b2 ?b3 ?b4 ?b5 ?b6 ?_)
              case b0 => exact ownsEmpty wx
              case b1 => rw [intsV, List.length_map, List.length_take]; omega
              case b2 => intro i u hu; rw [addr_add]; exact (((Below.refl wx.heap.size wx).alloc (Nat.le_refl _) _).cell (p := ⟨g, og + i, none⟩) OB.out.2.2.2.1).trans (OB.out.2.2.2.2 i u (intsV_take hu))
              case b3 => exact intsV_one _
              case b4 => unfold maxLen; omega
              case b5 => omega
              case b6 => simp
              intro v1 w1 hown1 hgrow1 _
              have hb1 : Below wx.heap.size wx w1 := ((Below.refl wx.heap.size wx).alloc (Nat.le_refl _) _).grown hgrow1 (by simp) (fun k hk => by cases hk; exact Nat.le_refl _)
              have hs1 := hb1.size
              have hc1 := (hb1.cell (p := ⟨B, o + m, none⟩) (by show B < wx.heap.size; omega)).trans hcx
              obtain ⟨va1, vc1, rfl⟩ := own_shape hown1
              clear hgrow1 hcx
              go_wp2_with (at_builtin; refine wpList_append_own _ rfl (.tmp 42) (.tmp 47) 31 rfl wx.heap.size 3 i0 (.int .i64 0) 1 8 Try.underlying31 hi.out hz0.out hz1.out hz2.out rfl (by decide) _ _ _ rfl (hown1.alloc _) ⟨w1.heap.size, 0, none⟩ 1 1 [.int .i64 x] rfl rfl ?e1 ?e2 ?e3 ?e4 ?e5 ?_)
              case e1 => exact cell_one_new _ _ _
              case e2 => intro u hu; simp at hu; subst hu; rfl
              case e3 => unfold maxLen; omega
              case e4 => omega
              case e5 => simp; omega
              intro v2 w2 hown2 hgrow2 _
              have hb2 : Below wx.heap.size wx w2 := (hb1.alloc (by omega) _).grown hgrow2 (by simp; omega) (fun k hk => (hown1.lt k hk).1)
              have hs2 := hb2.size
              obtain ⟨va2, vc2, rfl⟩ := own_shape hown2
              clear hgrow2 hown1 hc1 hb1
              by_cases hck : co = k
              · have hck2 : (co : Int) = ((k : Nat) : Int) := by omega
                go_wp2_with (at_builtin; refine wpList_append_own _ rfl (.tmp 49) (.tmp 52) 31 rfl wx.heap.size 3 i0 (.int .i64 0) 1 8 Try.underlying31 hi.out hz0.out hz1.out hz2.out rfl (by decide) _ _ _ rfl hown2 _ _ _ (intsV (R.drop (k))) rfl ?d1 ?d2 ?d3 ?d4 ?d5 ?d6 ?_)
                case d1 => rw [intsV, List.length_map, List.length_drop]; omega
                case d2 => intro i u hu; rw [List.drop_eq_nil_of_le (by omega)] at hu; simp [intsV] at hu
                case d3 => exact intsV_one _
                case d4 => unfold maxLen; omega
                case d5 => omega
                case d6 => omega
                intro v3 w3 hown3 hgrow3 _
                have hb3 : Below wx.heap.size wx w3 := hb2.grown hgrow3 (by omega) (fun k hk => (hown2.lt k hk).1)
                clear hgrow3 hown2 hb2
                have HFIN := hid (And.intro (own_join (base' := w.heap.size) (L := R.take (k) ++ x :: R.drop (k)) hown3 (by simp [intsV]) hsz0) (HX.out.2.2.trans (hb3.mono hsz0)))
                clear hown3 hb3
                go_wp2_with fail
                go_roundw
                case rel => exact ⟨m + 1, by go_num, by omega, hid (by rw [HT.out, HE2.out]; exact HFIN.out)⟩
                case measure => simp [intOf]; omega
              · go_wp2_with (at_builtin; refine wpList_append_own _ rfl (.tmp 49) (.tmp 52) 31 rfl wx.heap.size 3 i0 (.int .i64 0) 1 8 Try.underlying31 hi.out hz0.out hz1.out hz2.out rfl (by decide) _ _ _ rfl hown2 _ _ _ (intsV (R.drop (k))) rfl ?d1 ?d2 ?d3 ?d4 ?d5 ?d6 ?_)
                case d1 => rw [intsV, List.length_map, List.length_drop]; omega
                case d2 => intro i u hu; rw [addr_add]; exact ((hb2.cell (p := ⟨g, _, none⟩) OB.out.2.2.2.1).trans (by have := OB.out.2.2.2.2 _ u (intsV_drop hu); rwa [← Nat.add_assoc] at this))
                case d3 => exact intsV_one _
                case d4 => unfold maxLen; omega
                case d5 => omega
                case d6 => omega
                intro v3 w3 hown3 hgrow3 _
                have hb3 : Below wx.heap.size wx w3 := hb2.grown hgrow3 (by omega) (fun k hk => (hown2.lt k hk).1)
                clear hgrow3 hown2 hb2
                have HFIN := hid (And.intro (own_join (base' := w.heap.size) (L := R.take (k) ++ x :: R.drop (k)) hown3 (by simp [intsV]) hsz0) (HX.out.2.2.trans (hb3.mono hsz0)))
                clear hown3 hb3
                go_wp2_with fail
                go_roundw
                case rel => exact ⟨m + 1, by go_num, by omega, hid (by rw [HT.out, HE2.out]; exact HFIN.out)⟩
                case measure => simp [intOf]; omega
      · have hxn : x ∈ R := List.contains_iff_mem.1 hb
        have HX := hid (insN_in hxn)
        rw [hb] at HH
        clear hb hxn
        generalize R.length = n at *
        go_wp2_with (go_at_call 34; (with_reducible refine (HH.out).mono ?_); rintro e w' ⟨rfl, rfl⟩)
        go_roundw
        case rel => exact ⟨m + 1, by go_num, by omega, hid (by rw [HT.out, HX.out]; exact HW.out)⟩
        case measure => simp [intOf]; omega
    · have hm2 : m = q := by omega
      subst hm2
      have HF := hid (show normC (l.take m) = normC l by rw [← HQ.out]; exact normC_full l)
      generalize normC (l.take m) = R at *
      have hRl := HR.out
      have HI := hid (Owned.ints HW.out.1 (by omega))
      generalize R.length = n at *
      go_wp2_with fail
      go_ret
      exact ⟨_, rfl, by rw [← HF.out]; exact HI.out, HW.out.2⟩
end Go.Proofs.Ytopneceicamakaa.Cf
