/-
  LAYER 12: the document's Spread.
-/
import Derived.Test.YtopneceicamakaaSpreadDoc
import Derived.Test.YtopneceicamakaaAppendAny
import Derived.Test.YtopneceicamakaaCnfDocNorm
namespace Go.Proofs.Ytopneceicamakaa.Cf
open Go.RowKit Go.Proofs.Ytopneceicamakaa Go.Proofs.Ytopneceicamakaa.Ln

set_option maxRecDepth 100000 in
set_option maxHeartbeats 8000000 in
theorem refSpread_any (N : Nat) (hN : N ≤ 30) (cv v : Value) (cls : List (List Int)) (lits : List Int) (h0 : checkE N cls = 0) (h1 : ckC lits N = true) (hll : lits.length ≤ 40) (w : World) (hC : Lists w cv cls) (hL : Ints w v lits) :
    Calls Try.prog 31 #[.int .i64 (N : Int), cv, v] w (Spr N cls lits w) := by
  obtain ⟨i0, q1, q2, q3, q4⟩ := info_parts infoI
  have hi := hid q1
  have hz0 := hid q2
  have hz1 := hid q3
  have hz2 := hid q4
  clear q1 q2 q3 q4
  have hlits : litsOk lits := fun x hx => by have := ckC_in h1 x hx; exact ⟨by omega, by omega, by omega⟩
  have hal := below_alloc (Below.refl w.heap.size w) (.cells #[] 3)
  have KL := hid (hL.below hal)
  obtain ⟨vs, hvs, hvl, hvi⟩ := lists_get hC
  obtain ⟨ac, cc, rfl, g1, g2, hcells⟩ := hvs
  obtain ⟨al, cl, rfl, g4, g5, g6⟩ := hL.shape
  have HCL : Hid (0 < vs.length → ∃ B o, ac = some ⟨B, o, none⟩ ∧ B < w.heap.size ∧ ∀ j, j < vs.length → ∃ u, w.cell? ⟨B, o + j, none⟩ = some u ∧ Ints w u (cls.getD j [])) := hid (fun hp => by
    obtain ⟨B, o, e, hB, hcc⟩ := hcells hp
    exact ⟨B, o, e, hB, fun j hj => ⟨_, hcc j hj, hvi j hj⟩⟩)
  have NW := hid (KL.out.news)
  have LL := hid (And.intro hll hlits)
  have TD := hid (adj_taut hlits)
  have BS := hid (fun h => show Base N cls lits from ⟨by omega, h0, h1, h⟩)
  have NO := hid (fun h => (spread_says (by omega : N ≤ 400) h0 h1).1 h)
  have HOK := hid (checkE_zero h0).2.2.2
  have hq8 : vs.length ≤ 8000 := by have := (checkE_zero h0).2.2.1; omega
  clear hvi hcells g1 g2 g4 g5 g6 hC hL hlits h0 h1
  generalize vs.length = q at *
  have HQ := hid hvl
  generalize hk : lits.length = k0 at *
  have HK := hid hk
  clear hvl hk
  go_enter Try.func31, Try.ntmps31
  go_wp2_with (at_builtin; refine wpList_append_own_any _ rfl (.tmp 16) (.tmp 17) 31 rfl w.heap.size 3 i0 (.int .i64 0) 1 8 Try.underlying31 hi.out hz0.out hz1.out hz2.out rfl (by decide) _ 0 [] rfl ?b0 al k0 cl (intsV lits) rfl ?b1 ?b2 ?b3 ?b4 ?b5 ?b6 ?b7 ?_)
  case b0 => exact ownsEmpty w
  case b1 => rw [intsV, List.length_map, HK.out]; omega
  case b2 => exact NW.out.1
  case b3 => exact NW.out.2
  case b4 => exact intsV_one _
  case b5 => unfold maxLen; omega
  case b6 => omega
  case b7 => simp
  intro vd w2 hown2 hgrow2
  have hb2 : Below w.heap.size w w2 := hal.grown hgrow2 (by simp) (fun k hk => by cases hk; exact Nat.le_refl _)
  have hod : Owned w.heap.size w2 vd lits := own_join hown2 (by simp) (Nat.le_refl _)
  have B2 := hid hb2
  have O2 := hid hod
  have I2 := hid (Owned.ints hod (by rw [HK.out]; omega))
  obtain ⟨ad, cd, rfl⟩ := own_shape hown2
  have RT := hid (refTaut_any _ lits LL.out.2.ok w2 I2.out)
  clear hown2 hgrow2 hod hb2 hal KL NW I2
  cases ht : adjT (normC lits)
  · have BB := hid (BS.out ht)
    rw [TD.out] at ht
    rw [ht] at RT
    clear BS NO TD ht
    go_wp2_with fail
    refine RT.out.mono ?_
    rintro e w3 ⟨rfl, rfl⟩
    clear RT
    go_wp2_with fail
    go_loopw [8, 9, 10, 11, 12, 13, 14, 15] (fun u8 u9 _ _ _ _ _ _ wr => ∃ r : Nat, ∃ set, u9 = .int .i64 (r : Int) ∧ r ≤ N + 1 ∧ Hid (Owned w.heap.size wr u8 set ∧ Below w.heap.size w wr ∧ GrowR N cls lits set r)) (fun _ u9 _ _ _ _ _ _ _ => N + 1 - (intOf u9).toNat)
    case atStart => exact ⟨0, lits, rfl, by omega, hid ⟨by exact O2.out, B2.out, grow_start N cls lits⟩⟩
    case round =>
      obtain ⟨r, set, rfl, hr, HW⟩ := hrel
      obtain ⟨ao, co, rfl⟩ := own_shape HW.out.1
      by_cases hlt : r < N + 1
      · have GI := hid (grow_in HW.out.2.2)
        have OW := hid (And.intro HW.out.1 HW.out.2.1)
        have d1 : (r : Int) ≤ (N : Int) := by omega
        clear HW O2 B2
        generalize hns : set.length = ns at *
        clear hns
        go_wp2_with fail
        go_loopw [8, 10, 11, 12, 13, 14, 15] (fun u8 u10 _ _ _ _ _ wi => ∃ i : Nat, ∃ set, u10 = .int .i64 (i : Int) ∧ i ≤ q ∧ Hid (Owned w.heap.size wi u8 set ∧ Below w.heap.size w wi ∧ GrowI N cls lits set r i)) (fun _ u10 _ _ _ _ _ _ => q - (intOf u10).toNat)
        case atStart => exact ⟨0, set, rfl, Nat.zero_le _, hid ⟨OW.out.1, OW.out.2, GI.out⟩⟩
        case round =>
          clear OW GI
          obtain ⟨i, set, rfl, hiq, HI⟩ := hrel
          obtain ⟨ao, co, rfl⟩ := own_shape HI.out.1
          have hsz : set.length ≤ 70 := by have := grow_size HI.out.2.2; have := LL.out.1; have := HK.out; omega
          by_cases hiq2 : i < q
          · obtain ⟨B, o, rfl, hB, hcc⟩ := HCL.out (by omega)
            obtain ⟨u, hcu, hu⟩ := hcc i hiq2
            have hcv := (HI.out.2.1.cell (p := ⟨B, o + i, none⟩) hB).trans hcu
            have hui := hu.below HI.out.2.1
            have hic : i < cls.length := by have := HQ.out; omega
            have SI := hid (Owned.ints HI.out.1 (by omega))
            have KEEP := hid (fun o many (hs : Seen set (cls.getD i []) o many) hk => grow_keep BB.out HI.out.2.2 hs hk)
            have ADD := hid (fun o (hs : Seen set (cls.getD i []) o 1) hk => grow_add BB.out hic HI.out.2.2 hs hk)
            have CLASH := hid (fun o (hs : Seen set (cls.getD i []) o 0) => grow_clash BB.out hic HI.out.2.2 hs)
            have LX : Hid (∀ x ∈ cls.getD i [], -(N : Int) ≤ x ∧ x ≤ N ∧ x ≠ 0) := hid (by
              rw [List.getD_eq_getElem?_getD, List.getElem?_eq_getElem hic]
              exact ckC_in (HOK.out _ (List.getElem_mem _)))
            have OW := hid (And.intro HI.out.1 HI.out.2.1)
            generalize cls.getD i [] = c at *
            obtain ⟨uc, cc2, rfl, g1, g2, hcells2⟩ := hui.shape
            have HC2 := hid hcells2
            have HA := hid (hitT_all set c)
            have TF := hid (show c.take c.length = c from List.take_length)
            clear hcc hcu hu hui hcells2 HI hic
            generalize hy : c.length = y at *
            have HY := hid hy
            generalize hns : set.length = ns at *
            have HN := hid hns
            clear hy hns
            go_wp2_with fail
            go_loopw [11, 12, 13, 14, 15] (fun u11 u12 u13 u14 _ wj => ∃ k many : Nat, ∃ op : Int, u14 = .int .i64 (k : Int) ∧ k ≤ y ∧ u11 = .int .i64 op ∧ u12 = .bool (hitT set c k) ∧ u13 = .int .i64 (many : Int) ∧ many ≤ k ∧ Hid (Seen set (c.take k) op many) ∧ wj = wr) (fun _ _ _ u14 _ _ => y - (intOf u14).toNat)
            case atStart => exact ⟨0, 0, 0, rfl, Nat.zero_le _, rfl, rfl, rfl, Nat.le_refl _, hid (seen_nil set), rfl⟩
            case round =>
              obtain ⟨k, many, op, rfl, hky, rfl, rfl, rfl, hmk, HS, rfl⟩ := hrel
              by_cases hky2 : k < y
              · obtain ⟨B2, o2, rfl, hB2, hcc2⟩ := HC2.out (by omega)
                have hck := hcc2 k hky2
                have hkc : k < c.length := by rw [HY.out]; exact hky2
                have hx := LX.out (c.getD k 0) (mem_getD hkc)
                have TK := hid (take_one hkc)
                have HT := hid (hitT_succ (set := set) hkc)
                clear hkc hcc2 KEEP ADD CLASH LX OW HC2 HA TF
                generalize c.getD k 0 = x at *
                have H1 := hid (refHas_any _ set x _ SI.out)
                have H2 := hid (refHas_any _ set (-x) _ SI.out)
                have hneg : IntKind.i64.wrap (-x) = -x := IntWalk.i64_in _ (by omega)
                have hx1 := hx.1
                have hx2 := hx.2.1
                generalize hb1 : set.contains x = bx at *
                clear hb1
                cases hit : hitT set c k
                · cases hb : set.contains (-x)
                  · have hnm : -x ∉ set := fun e => by rw [List.contains_iff_mem.2 e] at hb; cases hb
                    rw [hb] at H2
                    clear hb
                    cases hxo : (x != op)
                    · have E := hid (seen_same HS.out hx.2.2 (by simpa using hxo))
                      rw [← TK.out] at E
                      clear hnm HS SI TK
                      go_wp2_with fail
                      refine H1.out.mono ?_
                      rintro e w5 ⟨rfl, rfl⟩
                      go_wp2_with fail
                      refine H2.out.mono ?_
                      rintro e w6 ⟨rfl, rfl⟩
                      go_wp2_with fail
                      go_roundw
                      case rel => exact ⟨k + 1, many, op, by go_num, by omega, rfl, (by rw [HT.out, hit]; rfl), rfl, by omega, E, by first | rfl | trivial⟩
                      case measure => simp [intOf]; omega
                    · have E := hid (seen_new HS.out hnm (by simpa using hxo))
                      rw [← TK.out] at E
                      clear hnm HS SI TK
                      go_wp2_with fail
                      refine H1.out.mono ?_
                      rintro e w5 ⟨rfl, rfl⟩
                      go_wp2_with fail
                      refine H2.out.mono ?_
                      rintro e w6 ⟨rfl, rfl⟩
                      go_wp2_with fail
                      go_roundw
                      case rel => exact ⟨k + 1, many + 1, x, by go_num, by omega, rfl, (by rw [HT.out, hit]; rfl), by go_num, by omega, E, by first | rfl | trivial⟩
                      case measure => simp [intOf]; omega
                  · have E := hid (seen_false HS.out (List.contains_iff_mem.1 hb))
                    rw [← TK.out] at E
                    rw [hb] at H2
                    clear hb HS SI TK
                    go_wp2_with fail
                    refine H1.out.mono ?_
                    rintro e w5 ⟨rfl, rfl⟩
                    go_wp2_with fail
                    refine H2.out.mono ?_
                    rintro e w6 ⟨rfl, rfl⟩
                    go_wp2_with fail
                    go_roundw
                    case rel => exact ⟨k + 1, many, op, by go_num, by omega, rfl, (by rw [HT.out, hit]; rfl), rfl, by omega, E, by first | rfl | trivial⟩
                    case measure => simp [intOf]; omega
                · cases hb : set.contains (-x)
                  · have hnm : -x ∉ set := fun e => by rw [List.contains_iff_mem.2 e] at hb; cases hb
                    rw [hb] at H2
                    clear hb
                    cases hxo : (x != op)
                    · have E := hid (seen_same HS.out hx.2.2 (by simpa using hxo))
                      rw [← TK.out] at E
                      clear hnm HS SI TK
                      go_wp2_with fail
                      refine H2.out.mono ?_
                      rintro e w6 ⟨rfl, rfl⟩
                      go_wp2_with fail
                      go_roundw
                      case rel => exact ⟨k + 1, many, op, by go_num, by omega, rfl, (by rw [HT.out, hit]; rfl), rfl, by omega, E, by first | rfl | trivial⟩
                      case measure => simp [intOf]; omega
                    · have E := hid (seen_new HS.out hnm (by simpa using hxo))
                      rw [← TK.out] at E
                      clear hnm HS SI TK
                      go_wp2_with fail
                      refine H2.out.mono ?_
                      rintro e w6 ⟨rfl, rfl⟩
                      go_wp2_with fail
                      go_roundw
                      case rel => exact ⟨k + 1, many + 1, x, by go_num, by omega, rfl, (by rw [HT.out, hit]; rfl), by go_num, by omega, E, by first | rfl | trivial⟩
                      case measure => simp [intOf]; omega
                  · have E := hid (seen_false HS.out (List.contains_iff_mem.1 hb))
                    rw [← TK.out] at E
                    rw [hb] at H2
                    clear hb HS SI TK
                    go_wp2_with fail
                    refine H2.out.mono ?_
                    rintro e w6 ⟨rfl, rfl⟩
                    go_wp2_with fail
                    go_roundw
                    case rel => exact ⟨k + 1, many, op, by go_num, by omega, rfl, (by rw [HT.out, hit]; rfl), rfl, by omega, E, by first | rfl | trivial⟩
                    case measure => simp [intOf]; omega
              · have hk2 : k = y := by omega
                subst hk2
                rw [TF.out] at HS
                rw [HA.out]
                clear HC2 LX HA TF HY
                cases hit : (c.any fun x => set.contains x)
                · match many, hmk, HS with
                  | 0, hmk, HS =>
                    have E := hid (CLASH.out op HS.out)
                    clear CLASH KEEP ADD HS
                    go_wp2_with fail
                    go_ret2
                    exact Spr.no E.out OW.out.2
                  | 1, hmk, HS =>
                    have E := hid (ADD.out op HS.out hit)
                    clear CLASH KEEP ADD HS hit
                    have hown := OW.out.1
                    have hbl := OW.out.2
                    have hsz2 := hbl.size
                    unfold Owned at hown
                    rw [HN.out] at hown
                    go_wp2_with (at_builtin; refine wpList_append_own _ rfl (.tmp 79) (.tmp 81) 31 rfl w.heap.size 3 i0 (.int .i64 0) 1 8 Try.underlying31 hi.out hz0.out hz1.out hz2.out rfl (by decide) _ _ _ rfl (hown.alloc _) ⟨wr.heap.size, 0, none⟩ 1 1 [.int .i64 op] rfl rfl ?e1 ?e2 ?e3 ?e4 ?e5 ?_)
                    case e1 => exact cell_one_new _ _ _
                    case e2 => intro u hu; simp at hu; subst hu; rfl
                    case e3 => unfold maxLen; omega
                    case e4 => omega
                    case e5 => simp; omega
                    intro v5 w5 hown5 hgrow5 _
                    have hb5 : Below w.heap.size w w5 := (hbl.alloc (by omega) _).grown hgrow5 (by simp; omega) (fun k hk => (hown.lt k hk).1)
                    clear hgrow5 hown hbl
                    go_wp2_with fail
                    go_roundw
                    case rel => exact ⟨i + 1, set ++ [op], by go_num, by omega, hid ⟨own_join hown5 (by simp [intsV]) (Nat.le_refl _), hb5, E.out⟩⟩
                    case measure => simp [intOf]; omega
                  | m + 2, hmk, HS =>
                    have E := hid (KEEP.out op (m + 2) HS.out (.inr (by omega)))
                    have t1 : (((m + 2 : Nat) : Int) == 0) = false := by rw [beq_eq_false_iff_ne]; omega
                    have t2 : (((m + 2 : Nat) : Int) == 1) = false := by rw [beq_eq_false_iff_ne]; omega
                    generalize m + 2 = m2 at *
                    clear CLASH KEEP ADD HS hit
                    go_wp2_with fail
                    go_roundw
                    case rel => exact ⟨i + 1, set, by go_num, by omega, hid ⟨OW.out.1, OW.out.2, E.out⟩⟩
                    case measure => simp [intOf]; omega
                · have E := hid (KEEP.out op many HS.out (.inl hit))
                  clear CLASH KEEP ADD HS hit
                  go_wp2_with fail
                  go_roundw
                  case rel => exact ⟨i + 1, set, by go_num, by omega, hid ⟨OW.out.1, OW.out.2, E.out⟩⟩
                  case measure => simp [intOf]; omega
          · have hi2 : i = q := by omega
            subst hi2
            have E := hid (grow_out (r := r) (by have h := HI.out.2.2; rwa [HQ.out] at h))
            have OW := hid (And.intro HI.out.1 HI.out.2.1)
            clear HI
            generalize hns : set.length = ns at *
            clear hns
            go_wp2_with fail
            go_roundw
            case rel => exact ⟨r + 1, set, by go_num, by omega, hid ⟨OW.out.1, OW.out.2, E.out⟩⟩
            case measure => simp [intOf]; omega
      · have hr2 : r = N + 1 := by omega
        subst hr2
        have d1 : ¬ ((N : Int) + 1) ≤ (N : Int) := by omega
        have E := hid (grow_end BB.out HW.out.2.2)
        have hsz : set.length ≤ 70 := by have := grow_sizeR HW.out.2.2; have := LL.out.1; have := HK.out; omega
        have OW := hid (And.intro HW.out.1 HW.out.2.1)
        have hokS : okL set := fun x hx => by
          obtain ⟨A, g1, _⟩ := HW.out.2.2
          rw [g1.eq] at hx
          rcases List.mem_append.1 hx with h | h
          · exact LL.out.2.ok x h
          · have := g1.inn x h
            unfold varI at this
            split at this <;> omega
        have NN := hid (refNorm_any _ set hokS (by omega) _ (Owned.ints OW.out.1 (by omega)))
        clear HW hokS
        generalize hns : set.length = ns at *
        generalize normC set = NS at *
        clear hns
        go_wp2_with fail
        refine NN.out.mono ?_
        rintro e w5 ⟨v5, rfl, hi5, hb5⟩
        have B5 := hid (OW.out.2.trans (hb5.mono OW.out.2.size))
        have I5 := hid hi5
        obtain ⟨a5, c5, rfl, _, _, _⟩ := hi5.shape
        clear hi5 hb5
        go_wp2_with fail
        go_ret2
        exact Spr.yes E.out I5.out B5.out
  · have E := hid (NO.out ht)
    rw [TD.out] at ht
    rw [ht] at RT
    clear BS NO TD ht
    go_wp2_with fail
    refine RT.out.mono ?_
    rintro e w3 ⟨rfl, rfl⟩
    clear RT
    go_wp2_with fail
    go_ret2
    exact Spr.no E.out B2.out
end Go.Proofs.Ytopneceicamakaa.Cf
