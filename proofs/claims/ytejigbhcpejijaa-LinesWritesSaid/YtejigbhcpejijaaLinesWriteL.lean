/-
  LAYER 1: LinesWrites.
-/
import Derived.Test.YtejigbhcpejijaaLinesWriteX
import Derived.Test.YtejigbhcpejijaaLinesLaws
import Derived.Lib.QuietBelow
import Derived.BigQuiet
namespace Go.Proofs.Ytejigbhcpejijaa.Ln
open Go.RowKit Go.Sort

theorem all_next {p : Words → Bool} {l : List Words} {k : Nat} {r : Words} (h : l[k]? = some r) : (l.take (k + 1)).all p = ((l.take k).all p && p r) := by
  rw [List.take_add_one, h, List.all_append]; simp
theorem all_nextW {p : List UInt8 → Bool} {l : Words} {k : Nat} {r : List UInt8} (h : l[k]? = some r) : (l.take (k + 1)).all p = ((l.take k).all p && p r) := by
  rw [List.take_add_one, h, List.all_append]; simp
theorem rowIs_below {w w' : World} {v : Value} {xs : List Value} (h : RowIs w v xs) (hb : Below w.heap.size w w') : RowIs w' v xs := by
  rcases h with h | ⟨g, o, c, h1, h2⟩
  · exact .inl h
  · exact .inr ⟨g, o, c, h1, fun k x hx => bcell hb (h2 k x hx)⟩
theorem longR_next {l : List Words} {k : Nat} {r : Words} (h : l[k]? = some r) : longR (l.take (k + 1)) = longR (l.take k) + longW r := by
  unfold longR
  rw [List.take_add_one, h]; simp
theorem longW_next {l : Words} {k : Nat} {r : List UInt8} (h : l[k]? = some r) : longW (l.take (k + 1)) = longW (l.take k) + (r.length + 1) := by
  unfold longW
  rw [List.take_add_one, h]; simp

set_option maxRecDepth 20000 in
set_option maxHeartbeats 8000000 in
theorem law_writes (rows : List (List ByteArray)) (v : Value) (w : World) (hr : RowsIn w v rows) :
    Calls Try.prog 4 #[v] w fun e w' => e = .returned (.bool true) ∧ Below w.heap.size w w' := by
  have hR0 := hid hr
  obtain ⟨a, c, rfl, hcap, hne⟩ := hr
  have TK := hid (fun w => readTrue_any w)
  by_cases hbig : (100 : Int) < (rows.length : Int)
  · go_enter Try.func4, Try.ntmps4
    go_wp2_with (go_at_call 13; (with_reducible refine (TK.out _).mono ?_); rintro e w1 ⟨rfl, hb1⟩)
    go_ret
    exact ⟨rfl, hb1⟩
  · have hn100 := hid (show rows.length ≤ 100 by omega)
    replace hne := hid hne
    have hdl := hid (show (dats rows).length = rows.length by unfold dats; rw [List.length_map])
    go_enter Try.func4, Try.ntmps4
    go_wp2_with fail
    go_loop [3, 4, 5, 6] (fun m q i _ => ∃ (k : Nat) (M : Bool) (L : Nat), k ≤ rows.length ∧ i = .int .i64 k ∧ m = .bool M ∧ q = .int .i64 (L : Nat) ∧ Hid (M = ((dats rows).take k).all rowB) ∧ Hid (L = longR ((dats rows).take k)) ∧ Hid (L ≤ k * 8040) ∧ Hid (∀ r, r ∈ rows.take k → r.length ≤ 40 ∧ ∀ s, s ∈ r → s.size ≤ 200)) (fun _ _ i _ => rows.length - (intOf i).toNat)
    case atStart => exact ⟨0, true, 0, by omega, rfl, rfl, rfl, hid rfl, hid rfl, hid (by omega), hid (by simp)⟩
    case round =>
      obtain ⟨k, M, L, hk, rfl, rfl, rfl, hM, hL, hLb, hT⟩ := hrel
      by_cases hlt : k < rows.length
      · have k100 : k < 100 := by have := hn100.out; omega
        have hx := List.getElem?_eq_getElem hlt
        generalize rows[k] = r at hx
        obtain ⟨B, o, rfl, hBl, hcells⟩ := hne.out (by intro e; rw [e] at hlt; simp at hlt)
        obtain ⟨u, g0, hu⟩ := hcells k r hx
        have hdr := hid (dats_at hx)
        have htk := hid (show rows.take (k + 1) = rows.take k ++ [r] by rw [List.take_add_one, hx]; rfl)
        obtain ⟨ra, rc, rfl, hrc, hrn⟩ := hu
        replace hrn := hid hrn
        clear hx hcells hrc
        by_cases h40 : (40 : Int) < (r.length : Int)
        · go_wp2_with (go_at_call 13; (with_reducible refine (TK.out _).mono ?_); rintro e w1 ⟨rfl, hb1⟩)
          go_ret
          exact ⟨rfl, hb1⟩
        · have h40' := hid (show r.length ≤ 40 by omega)
          have hMr := hid (show rowB (dat r) = (decide (0 < (r.length : Int)) && decide ((r.length : Int) ≤ 20) && (dat r).all wordB) by
            unfold rowB
            rw [dat_len]
            congr 2
            · rw [decide_eq_decide]; omega
            · rw [decide_eq_decide]; omega)
          have hnx := hid (@all_next rowB _ _ _ hdr.out)
          have hlx := hid (longR_next hdr.out)
          cases M
          · go_wp2_with fail
            go_loop [3, 4, 6] (fun m q i => ∃ (j : Nat) (N : Bool) (L2 : Nat), j ≤ r.length ∧ i = .int .i64 j ∧ m = .bool N ∧ q = .int .i64 (L2 : Nat) ∧ Hid (N = (false && ((dat r).take j).all wordB)) ∧ Hid (L2 = L + longW ((dat r).take j)) ∧ Hid (L2 ≤ L + j * 201) ∧ Hid (∀ s, s ∈ r.take j → s.size ≤ 200)) (fun _ _ i => r.length - (intOf i).toNat)
            case atStart => exact ⟨0, false, L, by omega, rfl, rfl, rfl, hid rfl, hid (by rw [List.take_zero]; rfl), hid (by omega), hid (by simp)⟩
            case round =>
              obtain ⟨j, N, L2, hj, rfl, rfl, rfl, hN, hL2, hLb2, hT2⟩ := hrel
              have hLs : L2 ≤ 812040 := by have h1 := hLb.out; have h2 := hLb2.out; have h3 := h40'.out; omega
              by_cases hlt2 : j < r.length
              · have j40 : j < 40 := by have := h40'.out; omega
                have hy := List.getElem?_eq_getElem hlt2
                have hyd := hid (dat_at hy)
                have htj := hid (show r.take (j + 1) = r.take j ++ [r[j]] by rw [List.take_add_one, hy]; rfl)
                obtain ⟨b', o', rfl, hbl', hc'⟩ := hrn.out (by intro e; rw [e] at hlt2; simp at hlt2)
                have y0 := hc' j _ hy
                generalize r[j] = x at hyd y0 htj
                clear hy hc'
                by_cases h200 : (200 : Int) < (x.size : Int)
                · go_wp2_with (go_at_call 13; (with_reducible refine (TK.out _).mono ?_); rintro e w1 ⟨rfl, hb1⟩)
                  go_ret
                  exact ⟨rfl, hb1⟩
                · have hxs : x.size ≤ 200 := by omega
                  have hnw := hid (@all_nextW wordB _ _ _ hyd.out)
                  have hlw := hid (longW_next hyd.out)
                  have HW := hid (fun w => rword_any x (by omega) w)
                  have hxl := hid (lenB x)
                  have hT3 := hid (show ∀ s, s ∈ r.take (j + 1) → s.size ≤ 200 from fun s hs => by
                    rw [htj.out] at hs
                    rcases List.mem_append.1 hs with h | h
                    · exact hT2.out s h
                    · rw [List.mem_singleton.1 h]; exact hxs)
                  generalize wordB x.data.toList = wb at HW hnw
                  cases N
                  · go_wp2_with fail
                    go_round
                    case rel => exact ⟨j + 1, false, L2 + (x.size + 1), by omega, by go_num, rfl, by go_num, hid (by rw [hnw.out, ← Bool.and_assoc, ← hN.out]; rfl), hid (by rw [hlw.out, hL2.out, hxl.out]; omega), hid (by have := hLb2.out; omega), hT3⟩
                    case measure => simp [intOf]; omega
                  · go_wp2_with (go_at_call 16; (with_reducible refine (HW.out _).mono ?_); rintro e w1 ⟨rfl, rfl⟩)
                    go_round
                    case rel => exact ⟨j + 1, wb, L2 + (x.size + 1), by omega, by go_num, rfl, by go_num, hid (by rw [hnw.out, ← Bool.and_assoc, ← hN.out]; rfl), hid (by rw [hlw.out, hL2.out, hxl.out]; omega), hid (by have := hLb2.out; omega), hT3⟩
                    case measure => simp [intOf]; omega
              · have hje := hid (show j = r.length by omega)
                have eD := hid (show (dat r).take r.length = dat r from List.take_of_length_le (by rw [dat_len]; exact Nat.le_refl _))
                have eR := hid (show r.take r.length = r from List.take_of_length_le (Nat.le_refl _))
                rw [hje.out] at hN hL2 hT2 hLb2
                rw [eD.out] at hN hL2
                rw [eR.out] at hT2
                go_wp2_with fail
                go_round
                case rel => exact ⟨k + 1, N, L2, by omega, by go_num, rfl, rfl, hid (by rw [hnx.out, hMr.out, ← hM.out, hN.out]; simp), hid (by rw [hlx.out, ← hL.out]; exact hL2.out), hid (by have h1 := hLb.out; have h2 := hLb2.out; have h3 := h40'.out; omega), hid (fun q hq => by
                  rw [htk.out] at hq
                  rcases List.mem_append.1 hq with h | h
                  · exact hT.out q h
                  · rw [List.mem_singleton.1 h]; exact ⟨h40'.out, hT2.out⟩)⟩
                case measure => simp [intOf]; omega
          · by_cases hr0 : (0 : Int) < (r.length : Int)
            · by_cases hr20 : (r.length : Int) ≤ 20
              · go_wp2_with fail
                go_loop [3, 4, 6] (fun m q i => ∃ (j : Nat) (N : Bool) (L2 : Nat), j ≤ r.length ∧ i = .int .i64 j ∧ m = .bool N ∧ q = .int .i64 (L2 : Nat) ∧ Hid (N = (true && ((dat r).take j).all wordB)) ∧ Hid (L2 = L + longW ((dat r).take j)) ∧ Hid (L2 ≤ L + j * 201) ∧ Hid (∀ s, s ∈ r.take j → s.size ≤ 200)) (fun _ _ i => r.length - (intOf i).toNat)
                case atStart => exact ⟨0, true, L, by omega, rfl, rfl, rfl, hid rfl, hid (by rw [List.take_zero]; rfl), hid (by omega), hid (by simp)⟩
                case round =>
                  obtain ⟨j, N, L2, hj, rfl, rfl, rfl, hN, hL2, hLb2, hT2⟩ := hrel
                  have hLs : L2 ≤ 812040 := by have h1 := hLb.out; have h2 := hLb2.out; have h3 := h40'.out; omega
                  by_cases hlt2 : j < r.length
                  · have j40 : j < 40 := by have := h40'.out; omega
                    have hy := List.getElem?_eq_getElem hlt2
                    have hyd := hid (dat_at hy)
                    have htj := hid (show r.take (j + 1) = r.take j ++ [r[j]] by rw [List.take_add_one, hy]; rfl)
                    obtain ⟨b', o', rfl, hbl', hc'⟩ := hrn.out (by intro e; rw [e] at hlt2; simp at hlt2)
                    have y0 := hc' j _ hy
                    generalize r[j] = x at hyd y0 htj
                    clear hy hc'
                    by_cases h200 : (200 : Int) < (x.size : Int)
                    · go_wp2_with (go_at_call 13; (with_reducible refine (TK.out _).mono ?_); rintro e w1 ⟨rfl, hb1⟩)
                      go_ret
                      exact ⟨rfl, hb1⟩
                    · have hxs : x.size ≤ 200 := by omega
                      have hnw := hid (@all_nextW wordB _ _ _ hyd.out)
                      have hlw := hid (longW_next hyd.out)
                      have HW := hid (fun w => rword_any x (by omega) w)
                      have hxl := hid (lenB x)
                      have hT3 := hid (show ∀ s, s ∈ r.take (j + 1) → s.size ≤ 200 from fun s hs => by
                        rw [htj.out] at hs
                        rcases List.mem_append.1 hs with h | h
                        · exact hT2.out s h
                        · rw [List.mem_singleton.1 h]; exact hxs)
                      generalize wordB x.data.toList = wb at HW hnw
                      cases N
                      · go_wp2_with fail
                        go_round
                        case rel => exact ⟨j + 1, false, L2 + (x.size + 1), by omega, by go_num, rfl, by go_num, hid (by rw [hnw.out, ← Bool.and_assoc, ← hN.out]; rfl), hid (by rw [hlw.out, hL2.out, hxl.out]; omega), hid (by have := hLb2.out; omega), hT3⟩
                        case measure => simp [intOf]; omega
                      · go_wp2_with (go_at_call 16; (with_reducible refine (HW.out _).mono ?_); rintro e w1 ⟨rfl, rfl⟩)
                        go_round
                        case rel => exact ⟨j + 1, wb, L2 + (x.size + 1), by omega, by go_num, rfl, by go_num, hid (by rw [hnw.out, ← Bool.and_assoc, ← hN.out]; rfl), hid (by rw [hlw.out, hL2.out, hxl.out]; omega), hid (by have := hLb2.out; omega), hT3⟩
                        case measure => simp [intOf]; omega
                  · have hje := hid (show j = r.length by omega)
                    have eD := hid (show (dat r).take r.length = dat r from List.take_of_length_le (by rw [dat_len]; exact Nat.le_refl _))
                    have eR := hid (show r.take r.length = r from List.take_of_length_le (Nat.le_refl _))
                    rw [hje.out] at hN hL2 hT2 hLb2
                    rw [eD.out] at hN hL2
                    rw [eR.out] at hT2
                    go_wp2_with fail
                    go_round
                    case rel => exact ⟨k + 1, N, L2, by omega, by go_num, rfl, rfl, hid (by rw [hnx.out, hMr.out, ← hM.out, hN.out]; rw [decide_eq_true hr0, decide_eq_true hr20]; simp), hid (by rw [hlx.out, ← hL.out]; exact hL2.out), hid (by have h1 := hLb.out; have h2 := hLb2.out; have h3 := h40'.out; omega), hid (fun q hq => by
                      rw [htk.out] at hq
                      rcases List.mem_append.1 hq with h | h
                      · exact hT.out q h
                      · rw [List.mem_singleton.1 h]; exact ⟨h40'.out, hT2.out⟩)⟩
                    case measure => simp [intOf]; omega
              · go_wp2_with fail
                go_loop [3, 4, 6] (fun m q i => ∃ (j : Nat) (N : Bool) (L2 : Nat), j ≤ r.length ∧ i = .int .i64 j ∧ m = .bool N ∧ q = .int .i64 (L2 : Nat) ∧ Hid (N = (false && ((dat r).take j).all wordB)) ∧ Hid (L2 = L + longW ((dat r).take j)) ∧ Hid (L2 ≤ L + j * 201) ∧ Hid (∀ s, s ∈ r.take j → s.size ≤ 200)) (fun _ _ i => r.length - (intOf i).toNat)
                case atStart => exact ⟨0, false, L, by omega, rfl, rfl, rfl, hid rfl, hid (by rw [List.take_zero]; rfl), hid (by omega), hid (by simp)⟩
                case round =>
                  obtain ⟨j, N, L2, hj, rfl, rfl, rfl, hN, hL2, hLb2, hT2⟩ := hrel
                  have hLs : L2 ≤ 812040 := by have h1 := hLb.out; have h2 := hLb2.out; have h3 := h40'.out; omega
                  by_cases hlt2 : j < r.length
                  · have j40 : j < 40 := by have := h40'.out; omega
                    have hy := List.getElem?_eq_getElem hlt2
                    have hyd := hid (dat_at hy)
                    have htj := hid (show r.take (j + 1) = r.take j ++ [r[j]] by rw [List.take_add_one, hy]; rfl)
                    obtain ⟨b', o', rfl, hbl', hc'⟩ := hrn.out (by intro e; rw [e] at hlt2; simp at hlt2)
                    have y0 := hc' j _ hy
                    generalize r[j] = x at hyd y0 htj
                    clear hy hc'
                    by_cases h200 : (200 : Int) < (x.size : Int)
                    · go_wp2_with (go_at_call 13; (with_reducible refine (TK.out _).mono ?_); rintro e w1 ⟨rfl, hb1⟩)
                      go_ret
                      exact ⟨rfl, hb1⟩
                    · have hxs : x.size ≤ 200 := by omega
                      have hnw := hid (@all_nextW wordB _ _ _ hyd.out)
                      have hlw := hid (longW_next hyd.out)
                      have HW := hid (fun w => rword_any x (by omega) w)
                      have hxl := hid (lenB x)
                      have hT3 := hid (show ∀ s, s ∈ r.take (j + 1) → s.size ≤ 200 from fun s hs => by
                        rw [htj.out] at hs
                        rcases List.mem_append.1 hs with h | h
                        · exact hT2.out s h
                        · rw [List.mem_singleton.1 h]; exact hxs)
                      generalize wordB x.data.toList = wb at HW hnw
                      cases N
                      · go_wp2_with fail
                        go_round
                        case rel => exact ⟨j + 1, false, L2 + (x.size + 1), by omega, by go_num, rfl, by go_num, hid (by rw [hnw.out, ← Bool.and_assoc, ← hN.out]; rfl), hid (by rw [hlw.out, hL2.out, hxl.out]; omega), hid (by have := hLb2.out; omega), hT3⟩
                        case measure => simp [intOf]; omega
                      · go_wp2_with (go_at_call 16; (with_reducible refine (HW.out _).mono ?_); rintro e w1 ⟨rfl, rfl⟩)
                        go_round
                        case rel => exact ⟨j + 1, wb, L2 + (x.size + 1), by omega, by go_num, rfl, by go_num, hid (by rw [hnw.out, ← Bool.and_assoc, ← hN.out]; rfl), hid (by rw [hlw.out, hL2.out, hxl.out]; omega), hid (by have := hLb2.out; omega), hT3⟩
                        case measure => simp [intOf]; omega
                  · have hje := hid (show j = r.length by omega)
                    have eD := hid (show (dat r).take r.length = dat r from List.take_of_length_le (by rw [dat_len]; exact Nat.le_refl _))
                    have eR := hid (show r.take r.length = r from List.take_of_length_le (Nat.le_refl _))
                    rw [hje.out] at hN hL2 hT2 hLb2
                    rw [eD.out] at hN hL2
                    rw [eR.out] at hT2
                    go_wp2_with fail
                    go_round
                    case rel => exact ⟨k + 1, N, L2, by omega, by go_num, rfl, rfl, hid (by rw [hnx.out, hMr.out, ← hM.out, hN.out]; rw [decide_eq_false (p := (r.length : Int) ≤ 20) (by omega)]; simp), hid (by rw [hlx.out, ← hL.out]; exact hL2.out), hid (by have h1 := hLb.out; have h2 := hLb2.out; have h3 := h40'.out; omega), hid (fun q hq => by
                      rw [htk.out] at hq
                      rcases List.mem_append.1 hq with h | h
                      · exact hT.out q h
                      · rw [List.mem_singleton.1 h]; exact ⟨h40'.out, hT2.out⟩)⟩
                    case measure => simp [intOf]; omega
            · have hr00 : r.length = 0 := by omega
              replace hr00 := hid hr00
              go_wp2_with fail
              go_loop [3, 4, 6] (fun m q i => ∃ (j : Nat) (N : Bool) (L2 : Nat), j ≤ r.length ∧ i = .int .i64 j ∧ m = .bool N ∧ q = .int .i64 (L2 : Nat) ∧ Hid (N = (false && ((dat r).take j).all wordB)) ∧ Hid (L2 = L + longW ((dat r).take j)) ∧ Hid (L2 ≤ L + j * 201) ∧ Hid (∀ s, s ∈ r.take j → s.size ≤ 200)) (fun _ _ i => r.length - (intOf i).toNat)
              case atStart => exact ⟨0, false, L, by omega, rfl, rfl, rfl, hid rfl, hid (by rw [List.take_zero]; rfl), hid (by omega), hid (by simp)⟩
              case round =>
                obtain ⟨j, N, L2, hj, rfl, rfl, rfl, hN, hL2, hLb2, hT2⟩ := hrel
                have hLs : L2 ≤ 812040 := by have h1 := hLb.out; have h2 := hLb2.out; have h3 := h40'.out; omega
                by_cases hlt2 : j < r.length
                · exact absurd hlt2 (by have := hr00.out; omega)
                · have hje := hid (show j = r.length by omega)
                  have eD := hid (show (dat r).take r.length = dat r from List.take_of_length_le (by rw [dat_len]; exact Nat.le_refl _))
                  have eR := hid (show r.take r.length = r from List.take_of_length_le (Nat.le_refl _))
                  rw [hje.out] at hN hL2 hT2 hLb2
                  rw [eD.out] at hN hL2
                  rw [eR.out] at hT2
                  go_wp2_with fail
                  go_round
                  case rel => exact ⟨k + 1, N, L2, by omega, by go_num, rfl, rfl, hid (by rw [hnx.out, hMr.out, ← hM.out, hN.out]; rw [decide_eq_false (p := (0 : Int) < (r.length : Int)) (by omega)]; simp), hid (by rw [hlx.out, ← hL.out]; exact hL2.out), hid (by have h1 := hLb.out; have h2 := hLb2.out; have h3 := h40'.out; omega), hid (fun q hq => by
                    rw [htk.out] at hq
                    rcases List.mem_append.1 hq with h | h
                    · exact hT.out q h
                    · rw [List.mem_singleton.1 h]; exact ⟨h40'.out, hT2.out⟩)⟩
                  case measure => simp [intOf]; omega
      · have hke := hid (show k = rows.length by omega)
        have eT := hid (show (dats rows).take rows.length = dats rows from List.take_of_length_le (by rw [hdl.out]; exact Nat.le_refl _))
        rw [hke.out, List.take_of_length_le (Nat.le_refl _)] at hT
        rw [hke.out, eT.out] at hM hL
        have hTame := hid (show Tame rows from ⟨hn100.out, hT.out⟩)
        have W1 := hid (write_any rows (.slice a rows.length c) hTame.out w hR0.out)
        have W2 := hid (fun w' (hb : Below w.heap.size w w') => rwrite_any rows (.slice a rows.length c) hTame.out w' (hR0.out.below hb))
        have hwl := hid (tame_all hTame.out rows.length)
        rw [eT.out] at hwl
        have hLs : L ≤ 804000 := by have h1 := hLb.out; have h2 := hn100.out; have h3 := hke.out; omega
        have hyes := hid (fun (h : M = true) => show ∀ r, r ∈ dats rows → rowB r = true from fun r hr => List.all_eq_true.1 (hM.out.symm.trans h) r hr)
        have hRD := hid (fun (h : M = true) (h2 : L ≤ 20000) => read_written (hyes.out h) (by rw [hdl.out]; exact hn100.out) (by rw [write_long (hyes.out h), ← hL.out]; exact h2))
        have RD := hid (fun w => Read_any (writeB (dats rows)) (by have := hwl.out; omega) w)
        have g25 : Try.prog.eqGuardType Try.prog.depth 25 = false := by kernel_rfl
        have hDA := hid (fun i (h : i < rows.length) => show (dats rows)[i]? = some (dat rows[i]) from dats_at (List.getElem?_eq_getElem h))
        clear hT hyes hwl hM hL hLb
        generalize writeB (dats rows) = T at W1 W2 RD hRD
        go_wp2_with fail
        refine W1.out.mono ?_
        rintro e w1 ⟨rfl, hb1⟩
        replace hb1 := hid hb1
        go_wp2_with fail
        refine (TK.out _).mono ?_
        rintro e w2 ⟨rfl, hb2⟩
        have hb12 := hid (below_trans hb1.out hb2)
        clear hb2
        go_wp2_with fail
        refine (W2.out _ hb12.out).mono ?_
        rintro e w2' ⟨rfl, rfl⟩
        cases hM : M with
        | false =>
          go_wp2_with fail
          go_ret
          exact ⟨rfl, hb12.out⟩
        | true =>
          by_cases hL2 : (20000 : Int) < (L : Int)
          · go_wp2_with fail
            go_ret
            exact ⟨rfl, hb12.out⟩
          · obtain ⟨xs, hrs, hxl, hxa⟩ := hRD.out hM (by omega)
            rw [hrs] at RD
            replace hxl := hid hxl
            replace hxa := hid hxa
            clear hRD hrs
            go_wp2_with fail
            refine (RD.out _).mono ?_
            rintro e w3 ⟨hb3, v, rfl, cells, hown, hrow⟩
            obtain ⟨la, lc, rfl⟩ := own_shape hown
            have hb23 := hid (below_trans hb12.out hb3)
            have hxn : xs.length = rows.length := by rw [hxl.out, hdl.out]
            rw [hxn] at hown ⊢
            have ho3 := hid (own3 hown)
            have hrw := hid hrow
            have hR3 := hid (hR0.out.below hb23.out)
            have hf := hid (Blk.new w3 [.int .i64 0, .int .i64 0, .int .i64 0] 25)
            have AL := hid (below_alloc (Below.refl w3.heap.size w3) (.cells #[.int .i64 0, .int .i64 0, .int .i64 0] 25))
            clear hown hrow hb3 hxn
            go_wp2_with fail
            go_loopw [10] (fun i wr => ∃ k : Nat, k ≤ rows.length ∧ i = .int .i64 k ∧ Hid (Below w3.heap.size w3 wr)) (fun i _ => rows.length - (intOf i).toNat)
            case atStart => exact ⟨0, by omega, rfl, AL⟩
            case round =>
              obtain ⟨i, hi, rfl, hb⟩ := hrel
              by_cases hlt2 : i < rows.length
              · have i100 : i < 100 := by have := hn100.out; omega
                obtain ⟨cs, hcs⟩ := hxa.out i _ (hDA.out i hlt2)
                obtain ⟨wv, cv, b0, b1, b2, b3⟩ := hrw.out i _ hcs
                have hx := List.getElem?_eq_getElem hlt2
                generalize rows[i] = r at hx hcs b0 b1 b2 b3
                rcases ho3.out with ⟨_, h0⟩ | ⟨g, c9, he, hcc⟩
                · omega
                · cases he
                  obtain ⟨ra9, rc9, he9, hcp9, hne9⟩ := hR3.out
                  cases he9
                  obtain ⟨B9, o9, rfl, hBl9, hce9⟩ := hne9 (by intro e; rw [e] at hlt2; simp at hlt2)
                  obtain ⟨u9, k0, hu9⟩ := hce9 i r hx
                  have hr40 : r.length ≤ 40 := (hTame.out.2 r (List.mem_of_getElem? hx)).1
                  have x0 := bcell hb.out (hcc (i * 3) _ (by rw [Nat.mul_comm]; exact b0))
                  have x1 := bcell hb.out (hcc (i * 3 + 1) _ (by rw [Nat.mul_comm i 3]; exact b1))
                  have k1 := bcw hb.out k0
                  have hxg := World.block_lt_of_cell? _ _ x0
                  have hkg := World.block_lt_of_cell? _ _ k1
                  obtain ⟨wa, wc9, rfl⟩ := own_shape b3.1
                  have R1 := hid ((rowIs_of (ownsRow_below b3.1 hb.out)))
                  have R2 := hid ((hu9.below hb.out).row)
                  have TE := hid (fun w' h1 h2 => texts_eq (dat r) (by rw [dat_len]; omega) (.slice wa (dat r).length wc9) u9 w' h1 h2)
                  have x0' : wr.cell? ⟨g, i * 3, none⟩ = some (.int .i64 ((i : Int) + 1)) := x0
                  clear x0
                  have BB := hid (fun d os => below_trans hb.out (below_regrown wr d os))
                  have q1 := hid (show ∀ d os, Calls Try.prog 19 #[.slice wa (dat r).length wc9, u9] (grow (redrawn wr d) os) fun e w'' => e = .returned (.bool true) ∧ ∃ p : Regrown, w'' = grow (redrawn wr p.d) p.os from fun d os => Calls.regrown_of ((TE.out _ (rowIs_below R1.out (below_regrown wr d os)) (rowIs_below R2.out (below_regrown wr d os))).mono fun e w' ⟨he, m, hw⟩ => ⟨he, hw ▸ below_drewN (Below.refl _ _) m⟩))
                  generalize (dat r).length = dl at *
                  have y0 := cell_regrown x0'
                  have y1 := cell_regrown x1
                  have y2 := cell_regrown k1
                  clear TE R1 R2 b0 b1 b2 b3 hce9 hne9 hcc hx hcs hu9
                  go_wp2_with fail
                  refine wp_region_quiet_below (by kernel_rfl) (by kernel_rfl) ?_
                  repeat (go_big_quiet_step (with_reducible exact q1.out _ _))
                  refine wpQuiet_nil ?_
                  intro _ hw'
                  obtain ⟨⟨dq, osq⟩, hw''⟩ := hw'
                  subst hw''
                  show Exit.then _ _ Exit.normal _ (grow (redrawn wr dq) osq)
                  have hbz := hid (BB.out dq osq)
                  clear q1 y0 y1 y2 BB x1 k1 hxg hkg x0'
                  generalize grow (redrawn wr dq) osq = W6 at hbz ⊢
                  go_wp2_with fail
                  go_roundw
                  case rel => exact ⟨i + 1, by omega, by go_num, hbz⟩
                  case measure => simp [intOf]; omega
              · go_wp2_with fail
                go_ret
                exact ⟨rfl, below_trans hb23.out hb.out⟩
end Go.Proofs.Ytejigbhcpejijaa.Ln
