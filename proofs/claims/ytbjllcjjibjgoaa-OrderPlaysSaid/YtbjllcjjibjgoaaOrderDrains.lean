/-
  LAYER 13: the law OrderDrains walked.
-/
import Derived.Test.YtbjllcjjibjgoaaOrderLubys
import Derived.Test.YtbjllcjjibjgoaaOpens
namespace Go.Proofs.Ytbjllcjjibjgoaa.Hp
open Go.RowKit Go.Proofs.Ytbjllcjjibjgoaa.Ln

/-- numbers that came in: their slice, and its cells -/
def NumsIn (w : World) (a : Option Addr) (n : Nat) (ws : List Int) : Prop :=
  n = ws.length ∧ (0 < n → ∃ B o, a = some ⟨B, o, none⟩ ∧ B < w.heap.size ∧ ∀ j, j < n → w.cell? ⟨B, o + j, none⟩ = some (.int .i64 (ws.getD j 0)))

theorem Heap.facts {w : World} {m : Hm} {N : Nat} {S : List Nat} {I : List Bool} (h : Heap w m N S I) : N ≤ 400 ∧ S.length = N + 1 ∧ I.length = N + 1 ∧ I.getD 0 false = false ∧ ∀ v, S.getD v 0 ≤ 1099511627776 := by
  obtain ⟨⟨P, R, h1, h2, _⟩, h4⟩ := h
  exact ⟨h1.small, h1.lenS, h2.lenI, h2.zero, h4⟩

theorem cnt_zero {I : List Bool} (h : cnt I = 0) (v : Nat) : I.getD v false = false := by
  by_cases hv : v < I.length
  · have := cnt_set (I := I) hv false
    by_cases hb : I.getD v false = true
    · rw [if_pos hb] at this; simp at this; omega
    · simpa using hb
  · rw [List.getD_eq_getElem?_getD, List.getElem?_eq_none (by omega)]; rfl
theorem cnt_pos {I : List Bool} {v : Nat} (h : I.getD v false = true) : 1 ≤ cnt I := by
  by_cases h0 : cnt I = 0
  · rw [cnt_zero h0] at h; cases h
  · omega

/-- what goes out, by its definition -/
theorem best_in {N : Nat} {S : List Nat} {I : List Bool} (hl : I.length = N + 1) (h0 : I.getD 0 false = false) (hc : 1 ≤ cnt I) :
    1 ≤ best N S I ∧ best N S I ≤ N ∧ I.getD (best N S I) false = true ∧ (∀ v, I.getD v false = true → ¬ ahead S v (best N S I)) ∧ cnt (popI N S I) + 1 = cnt I := by
  have hle : best N S I ≤ N := bestTo_le S I N
  have hb : best N S I ≠ 0 := fun e => by
    have hno := bestTo_none S I N e
    have hall : ∀ v, I.getD v false = false := fun v => by
      by_cases h : v = 0
      · subst h; exact h0
      · by_cases h2 : v ≤ N
        · exact hno v (by omega) h2
        · rw [List.getD_eq_getElem?_getD, List.getElem?_eq_none (by omega)]; rfl
    have : cnt I = 0 := by
      unfold cnt
      rw [List.length_eq_zero_iff, List.filter_eq_nil_iff]
      intro b hb
      obtain ⟨i, hi, rfl⟩ := List.mem_iff_getElem.1 hb
      have := hall i
      rw [List.getD_eq_getElem?_getD, List.getElem?_eq_getElem hi] at this
      simpa using this
    omega
  obtain ⟨h1, h2⟩ := bestTo_some S I N hb
  refine ⟨by omega, hle, h1, fun v hv => ?_, ?_⟩
  · by_cases h : v = 0
    · subst h; rw [h0] at hv; cases hv
    · by_cases h3 : v ≤ N
      · exact h2 v (by omega) h3 hv
      · rw [List.getD_eq_getElem?_getD, List.getElem?_eq_none (by omega)] at hv; cases hv
  · have := cnt_set (I := I) (v := best N S I) (by omega) false
    unfold popI
    have h1' : I.getD (best N S I) false = true := h1
    rw [h1'] at this
    simpa using this
theorem pop_get {N : Nat} {S : List Nat} {I : List Bool} {v : Nat} (h : (popI N S I).getD v false = true) : I.getD v false = true ∧ v ≠ best N S I := by
  unfold popI at h
  rw [getD_set] at h
  split at h
  · cases h
  · rename_i hn
    refine ⟨h, fun e => hn ⟨e.symm, ?_⟩⟩
    by_cases hv : v < I.length
    · exact hv
    · rw [List.getD_eq_getElem?_getD, List.getElem?_eq_none (by omega)] at h; cases h
theorem pop_self {N : Nat} {S : List Nat} {I : List Bool} (hl : I.length = N + 1) : (popI N S I).getD (best N S I) false = false := by
  have : best N S I ≤ N := bestTo_le S I N
  unfold popI
  rw [getD_set, if_pos ⟨rfl, by omega⟩]
theorem isV_nat {N : Nat} {I : List Bool} {v : Nat} (h1 : 1 ≤ v) (h2 : v ≤ N) : isV N I (v : Int) = I.getD v false := by
  unfold isV; rw [knows_t (by omega) (by omega), Int.toNat_natCast]; rfl
theorem scoreV_nat {N : Nat} {S : List Nat} {v : Nat} (h1 : 1 ≤ v) (h2 : v ≤ N) : scoreV N S (v : Int) = S.getD v 0 := by
  unfold scoreV; rw [knows_t (by omega) (by omega), Int.toNat_natCast]; rfl

/-- a heap that stands in memory of the law's own -/
def HW (w wr : World) (m : Hm) (N : Nat) (S : List Nat) (I : List Bool) : Prop := Below w.heap.size w wr ∧ Heap wr m N S I
theorem HW.only {w w1 w2 : World} {m : Hm} {N : Nat} {S S' : List Nat} {I I' : List Bool} (h : HW w w1 m N S I) (hm : ∀ b, m.own b → w.heap.size ≤ b) (ho : Only m.own w1 w2) (h2 : Heap w2 m N S' I') : HW w w2 m N S' I' := ⟨below_only h.1 hm ho, h2⟩

theorem law_drains_out (a : Option Addr) (n c : Nat) (b : Option Addr) (k d : Nat) (h : 200 < n ∨ 100 < k) (w : World) :
    Calls Try.prog 4 #[.slice a n c, .slice b k d] w fun e w' => e = .returned (.bool true) ∧ Below w.heap.size w w' := by
  by_cases h1 : 200 < n
  · have h1' : (200 : Int) < (n : Int) := by omega
    clear h
    go_enter Try.func4, Try.ntmps4
    go_wp2_with fail
    refine (popped_any _).mono ?_
    rintro e w1 ⟨rfl, hb1⟩
    go_wp2_with fail
    refine (popped_any _).mono ?_
    rintro e w2 ⟨rfl, hb2⟩
    have hb := below_trans hb1 hb2
    go_wp2_with fail
    go_ret
    exact ⟨rfl, hb⟩
  · have h1' : ¬ (200 : Int) < (n : Int) := by omega
    have h2' : (100 : Int) < (k : Int) := by omega
    clear h
    go_enter Try.func4, Try.ntmps4
    go_wp2_with fail
    refine (popped_any _).mono ?_
    rintro e w1 ⟨rfl, hb1⟩
    go_wp2_with fail
    refine (popped_any _).mono ?_
    rintro e w2 ⟨rfl, hb2⟩
    have hb := below_trans hb1 hb2
    go_wp2_with fail
    go_ret
    exact ⟨rfl, hb⟩

set_option maxRecDepth 100000 in
set_option maxHeartbeats 4000000 in
theorem law_drains (a : Option Addr) (n c : Nat) (ws : List Int) (b : Option Addr) (k d : Nat) (us : List Int) (w : World) (hA : NumsIn w a n ws) (hB : NumsIn w b k us) (hn : n ≤ 200) (hk : k ≤ 100) :
    Calls Try.prog 4 #[.slice a n c, .slice b k d] w fun e w' => e = .returned (.bool true) ∧ Below w.heap.size w w' := by
  have HA := hid hA.2
  have HB := hid hB.2
  have h1' : ¬ (200 : Int) < (n : Int) := by omega
  have h2' : ¬ (100 : Int) < (k : Int) := by omega
  clear hA hB
  go_enter Try.func4, Try.ntmps4
  go_wp2_with fail
  refine (popped_any _).mono ?_
  rintro e w1 ⟨rfl, hb1⟩
  have HB1 := hid hb1
  clear hb1
  go_wp2_with fail
  refine (new_any n (by omega) w1).mono ?_
  rintro e w2 ⟨m, rfl, hb2, hown, hheap⟩
  have HM := hid (show ∀ b, m.own b → w.heap.size ≤ b from fun b hb => Nat.le_trans HB1.out.size (hown b hb))
  have HN := hid (show HW w w2 m n (List.replicate (n + 1) 0) (allIn n) from ⟨below_trans HB1.out hb2, hheap⟩)
  clear hb2 hown hheap
  go_wp2_with fail
  go_loopw [7] (fun u wr => ∃ i : Nat, u = .int .i64 (i : Int) ∧ i ≤ n ∧ ∃ S, Hid (HW w wr m n S (allIn n))) (fun u _ => n - (intOf u).toNat)
  case atStart => exact ⟨0, rfl, by omega, _, HN⟩
  case round =>
    obtain ⟨i, rfl, hi, S, HH⟩ := hrel
    by_cases hlt : i < n
    · obtain ⟨B, o, rfl, hBl, hcell⟩ := HA.out (by omega)
      have hc1 : wr.cell? ⟨B, o + i, none⟩ = some (.int .i64 (ws.getD i 0)) := (HH.out.1.cell (p := ⟨B, o + i, none⟩) hBl).trans (hcell i hlt)
      obtain ⟨K, hK, hK2⟩ := mod_nat (ws.getD i 0) 1000 (by decide) (by decide)
      have HK := hid hK
      clear hcell hK
      generalize ws.getD i 0 = x at *
      go_wp2_with fail
      rw [HK.out]
      refine (bump_at HH.out.2 _ _).mono ?_
      rintro e w3 ⟨rfl, ho, hh⟩
      have H3 := hid (HH.out.only HM.out ho hh)
      clear ho hh
      go_wp2_with fail
      go_roundw
      case rel => exact ⟨i + 1, by go_num, by omega, _, H3⟩
      case measure => simp [intOf]; omega
    · clear HN
      obtain ⟨wo, rfl⟩ : ∃ wo : World, wo = wr := ⟨_, rfl⟩
      go_wp2_with fail
      go_loopw [8] (fun u wr => ∃ i : Nat, u = .int .i64 (i : Int) ∧ i ≤ k ∧ ∃ I, Hid (HW w wr m n S I)) (fun u _ => k - (intOf u).toNat)
      case atStart => exact ⟨0, rfl, by omega, _, HH⟩
      case round =>
        clear HH
        obtain ⟨i2, rfl, hi2, I, HH⟩ := hrel
        by_cases hlt : i2 < k
        · go_wp2_with fail
          refine (pop_at HH.out.2).mono ?_
          rintro e w3 ⟨rfl, ho, hh⟩
          have H3 := hid (HH.out.only HM.out ho hh)
          clear ho hh
          go_wp2_with fail
          go_roundw
          case rel => exact ⟨i2 + 1, by go_num, by omega, _, H3⟩
          case measure => simp [intOf]; omega
        · obtain ⟨wp, rfl⟩ : ∃ wp : World, wp = wr := ⟨_, rfl⟩
          go_wp2_with fail
          go_loopw [9] (fun u wr => ∃ i : Nat, u = .int .i64 (i : Int) ∧ i ≤ k ∧ ∃ I, Hid (HW w wr m n S I)) (fun u _ => k - (intOf u).toNat)
          case atStart => exact ⟨0, rfl, by omega, _, HH⟩
          case round =>
            clear HH
            obtain ⟨i3, rfl, hi3, I3, HH⟩ := hrel
            by_cases hlt : i3 < k
            · obtain ⟨B, o, rfl, hBl, hcell⟩ := HB.out (by omega)
              have hc1 : wr.cell? ⟨B, o + i3, none⟩ = some (.int .i64 (us.getD i3 0)) := (HH.out.1.cell (p := ⟨B, o + i3, none⟩) hBl).trans (hcell i3 hlt)
              clear hcell
              generalize us.getD i3 0 = x at *
              go_wp2_with fail
              refine (push_at HH.out.2 _).mono ?_
              rintro e w3 ⟨rfl, ho, hh⟩
              have H3 := hid (HH.out.only HM.out ho hh)
              clear ho hh
              go_wp2_with fail
              go_roundw
              case rel => exact ⟨i3 + 1, by go_num, by omega, _, H3⟩
              case measure => simp [intOf]; omega
            · obtain ⟨wq, rfl⟩ : ∃ wq : World, wq = wr := ⟨_, rfl⟩
              have HL := hid (len_at HH.out.2)
              have hc0 := HH.out.2.facts
              have hcn : cnt I3 ≤ 400 := by have := cnt_head hc0.2.2.2.1 (by omega); omega
              have HC := hid (rfl : cnt I3 = cnt I3)
              clear hc0
              generalize hcc : cnt I3 = cI at *
              have HCC := hid hcc
              clear hcc HC
              go_wp2_with fail
              refine HL.out.mono ?_
              rintro e w4 ⟨rfl, rfl⟩
              go_wp2_with fail
              go_loopw [11, 12, 13, 14] (fun v u _ _ wr => ∃ i last : Nat, u = .int .i64 (i : Int) ∧ v = .int .i64 (last : Int) ∧ i ≤ cI ∧ last ≤ n ∧ ∃ I, Hid (HW w wr m n S I ∧ cnt I + i = cI ∧ (1 ≤ last → ∀ x, I.getD x false = true → ¬ ahead S x last))) (fun _ u _ _ _ => cI - (intOf u).toNat)
              case atStart => exact ⟨0, 0, rfl, rfl, by omega, by omega, _, hid ⟨HH.out, by rw [HCC.out]; rfl, fun h => by omega⟩⟩
              case round =>
                clear HH HL
                obtain ⟨i4, last, rfl, rfl, hi4, hlast, I4, HH⟩ := hrel
                by_cases hlt : i4 < cI
                · have hf := HH.out.1.2.facts
                  obtain ⟨v1, v2, v3, v4, v5⟩ := best_in (S := S) hf.2.2.1 hf.2.2.2.1 (show 1 ≤ cnt I4 by have := HH.out.2.1; omega)
                  have hself := pop_self (S := S) hf.2.2.1
                  have PO := hid (pop_at HH.out.1.2)
                  have hdec : (decide (best n S I4 ≠ 0)) = true := decide_eq_true (by omega)
                  rw [hdec] at PO
                  have NX := hid (show cnt (popI n S I4) + (i4 + 1) = cI ∧ (∀ x, (popI n S I4).getD x false = true → ¬ ahead S x (best n S I4)) from ⟨by have := HH.out.2.1; omega, fun x hx => v4 x (pop_get hx).1⟩)
                  have OLD := hid (show 1 ≤ last → ¬ ahead S (best n S I4) last from fun h => HH.out.2.2 h _ v3)
                  have HHas := hid (show isV n (popI n S I4) (best n S I4 : Nat) = false by rw [isV_nat v1 v2]; exact hself)
                  have SV := hid (show scoreV n S (best n S I4 : Nat) = S.getD (best n S I4) 0 from scoreV_nat v1 v2)
                  clear hf v3 v4 v5 hself hdec
                  generalize popI n S I4 = I5 at *
                  generalize best n S I4 = v at *
                  have g1 : (0 : Int) < (v : Int) := by omega
                  go_wp2_with fail
                  refine PO.out.mono ?_
                  rintro e w5 ⟨rfl, ho, hh⟩
                  have H5 := hid (HH.out.1.only HM.out ho hh)
                  have A1 := hid (has_at hh (v : Int))
                  rw [HHas.out] at A1
                  have A2 := hid (score_at hh (v : Int))
                  rw [SV.out] at A2
                  have A3 := hid (score_at hh (last : Int))
                  clear ho hh
                  by_cases hl0 : 1 ≤ last
                  · have dl : decide (0 < last) = true := decide_eq_true (by omega)
                    have SL := hid (scoreV_nat (S := S) hl0 hlast)
                    rw [SL.out] at A3
                    have hah := OLD.out hl0
                    unfold ahead at hah
                    have t1 : decide (S.getD last 0 < S.getD v 0) = false := decide_eq_false (by omega)
                    by_cases heq : S.getD v 0 = S.getD last 0
                    · have t2 : (((S.getD v 0 : Nat) : Int) == ((S.getD last 0 : Nat) : Int)) = true := by rw [beq_iff_eq]; omega
                      have t3 : decide (v < last) = false := decide_eq_false (by omega)
                      clear hah heq
                      generalize S.getD v 0 = sv at *
                      generalize S.getD last 0 = sl at *
                      go_wp2_with fail
                      refine A1.out.mono ?_
                      rintro e w' ⟨rfl, rfl⟩
                      go_wp2_with fail
                      refine A2.out.mono ?_
                      rintro e w' ⟨rfl, rfl⟩
                      go_wp2_with fail
                      refine A3.out.mono ?_
                      rintro e w' ⟨rfl, rfl⟩
                      go_wp2_with fail
                      refine A2.out.mono ?_
                      rintro e w' ⟨rfl, rfl⟩
                      go_wp2_with fail
                      refine A3.out.mono ?_
                      rintro e w' ⟨rfl, rfl⟩
                      go_wp2_with fail
                      go_roundw
                      case rel => exact ⟨i4 + 1, v, by go_num, rfl, by omega, v2, _, hid ⟨H5.out, NX.out.1, fun _ => NX.out.2⟩⟩
                      case measure => simp [intOf]; omega
                    · have t2 : (((S.getD v 0 : Nat) : Int) == ((S.getD last 0 : Nat) : Int)) = false := by rw [beq_eq_false_iff_ne]; omega
                      clear hah heq
                      generalize S.getD v 0 = sv at *
                      generalize S.getD last 0 = sl at *
                      go_wp2_with fail
                      refine A1.out.mono ?_
                      rintro e w' ⟨rfl, rfl⟩
                      go_wp2_with fail
                      refine A2.out.mono ?_
                      rintro e w' ⟨rfl, rfl⟩
                      go_wp2_with fail
                      refine A3.out.mono ?_
                      rintro e w' ⟨rfl, rfl⟩
                      go_wp2_with fail
                      refine A2.out.mono ?_
                      rintro e w' ⟨rfl, rfl⟩
                      go_wp2_with fail
                      refine A3.out.mono ?_
                      rintro e w' ⟨rfl, rfl⟩
                      go_wp2_with fail
                      go_roundw
                      case rel => exact ⟨i4 + 1, v, by go_num, rfl, by omega, v2, _, hid ⟨H5.out, NX.out.1, fun _ => NX.out.2⟩⟩
                      case measure => simp [intOf]; omega
                  · have dl : decide (0 < last) = false := decide_eq_false (by omega)
                    go_wp2_with fail
                    refine A1.out.mono ?_
                    rintro e w' ⟨rfl, rfl⟩
                    go_wp2_with fail
                    go_roundw
                    case rel => exact ⟨i4 + 1, v, by go_num, rfl, by omega, v2, _, hid ⟨H5.out, NX.out.1, fun _ => NX.out.2⟩⟩
                    case measure => simp [intOf]; omega
                · have hc0 : cnt I4 = 0 := by have := HH.out.2.1; omega
                  have hf := HH.out.1.2.facts
                  have hb0 : best n S I4 = 0 := by
                    by_cases h : bestTo S I4 n = 0
                    · exact h
                    · have := (bestTo_some S I4 n h).1
                      rw [cnt_zero hc0] at this; cases this
                  have hsame : popI n S I4 = I4 := by
                    unfold popI; rw [hb0]
                    have := set_same I4 0 false
                    rwa [hf.2.2.2.1] at this
                  have PO := hid (pop_at HH.out.1.2)
                  rw [hb0, hsame] at PO
                  have HC0 := hid hc0
                  clear hf hb0 hsame hc0
                  go_wp2_with fail
                  refine PO.out.mono ?_
                  rintro e w5 ⟨rfl, ho, hh⟩
                  have H5 := hid (HH.out.1.only HM.out ho hh)
                  have LN := hid (len_at hh)
                  rw [HC0.out] at LN
                  clear ho hh
                  go_wp2_with fail
                  refine LN.out.mono ?_
                  rintro e w' ⟨rfl, rfl⟩
                  go_wp2_with fail
                  go_ret
                  exact ⟨rfl, H5.out.1⟩
end Go.Proofs.Ytbjllcjjibjgoaa.Hp
