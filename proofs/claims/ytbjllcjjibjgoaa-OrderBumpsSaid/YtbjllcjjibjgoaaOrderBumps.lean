/-
  LAYER 13: the law OrderBumps walked.
-/
import Derived.Test.YtbjllcjjibjgoaaOrderDrains
namespace Go.Proofs.Ytbjllcjjibjgoaa.Hp
open Go.RowKit Go.Proofs.Ytbjllcjjibjgoaa.Ln

theorem Heap.wrote {w : World} {m : Hm} {N : Nat} {S : List Nat} {I : List Bool} (h : Heap w m N S I) {b : Nat} (hb : ¬ m.own b) (i : Nat) (x : Value) : Heap (w.setCell ⟨b, i, none⟩ x) m N S I :=
  h.only (F := (· = b)) ((Only.refl (· = b) w).setCell (p := ⟨b, i, none⟩) rfl x) (fun _ hc e => hb (e ▸ hc))
theorem set_sum {S : List Nat} {v k c : Nat} (h : ∀ x, S.getD x 0 ≤ c) : ∀ x, (S.set v (S.getD v 0 + k)).getD x 0 ≤ c + k := by
  intro x
  rw [getD_set]
  split
  · have := h v; omega
  · have := h x; omega

theorem law_bumps_out (k : Int) (a : Option Addr) (n c : Nat) (h : 200 < n) (w : World) :
    Calls Try.prog 8 #[.int .i64 k, .slice a n c] w fun e w' => e = .returned (.bool true) ∧ Below w.heap.size w w' := by
  obtain ⟨N, hN, hN1, hN2⟩ := turn_mod k 100 (by decide) (by decide)
  have h1' : (200 : Int) < (n : Int) := by omega
  have HN := hid hN
  clear hN
  go_enter Try.func8, Try.ntmps8
  go_wp2_with fail
  rw [HN.out]
  refine (new_any N (by omega) w).mono ?_
  rintro e w1 ⟨m, rfl, hb1, _, _⟩
  go_wp2_with fail
  refine (popped_any _).mono ?_
  rintro e w2 ⟨rfl, hb2⟩
  go_wp2_with fail
  refine (popped_any _).mono ?_
  rintro e w3 ⟨rfl, hb3⟩
  have hb := below_trans (below_trans hb1 hb2) hb3
  go_wp2_with fail
  go_ret
  exact ⟨rfl, hb⟩

set_option maxRecDepth 100000 in
set_option maxHeartbeats 4000000 in
theorem law_bumps (k : Int) (a : Option Addr) (n c : Nat) (ws : List Int) (w : World) (hA : NumsIn w a n ws) (hn : n ≤ 200) :
    Calls Try.prog 8 #[.int .i64 k, .slice a n c] w fun e w' => e = .returned (.bool true) ∧ Below w.heap.size w w' := by
  obtain ⟨N, hN, hN1, hN2⟩ := turn_mod k 100 (by decide) (by decide)
  have h1' : ¬ (200 : Int) < (n : Int) := by omega
  have HN := hid hN
  have HA := hid hA.2
  clear hA hN
  go_enter Try.func8, Try.ntmps8
  go_wp2_with fail
  rw [HN.out]
  refine (new_any N (by omega) w).mono ?_
  rintro e w1 ⟨m, rfl, hb1, hown, hheap⟩
  have HM := hid (show ∀ b, m.own b → w.heap.size ≤ b from hown)
  have H1 := hid (And.intro hb1 hheap)
  clear hb1 hown hheap
  go_wp2_with fail
  refine (popped_any _).mono ?_
  rintro e w2 ⟨rfl, hb2⟩
  have H2 := hid (show HW w w2 m N (List.replicate (N + 1) 0) (allIn N) from ⟨below_trans H1.out.1 hb2, H1.out.2.below hb2⟩)
  clear hb2
  have MK := fun z => make_any (N + 1) (by omega) z
  rw [show ((N + 1 : Nat) : Int) = (N : Int) + 1 by omega] at MK
  go_wp2_with fail
  have hlen2 : ∀ b, m.own b → b < w2.heap.size := by
    obtain ⟨⟨P, R, g1, _, _⟩, _⟩ := H2.out.2
    rintro b (rfl | rfl | rfl | rfl)
    · exact g1.head.lt
    · exact g1.scores.lt
    · exact g1.places.lt
    · exact g1.tree.lt
  have hB3 := hid (show HW w (w2.alloc (.cells (zeros (N + 1)).toArray 3)) m N (List.replicate (N + 1) 0) (allIn N) ∧ Blk (w2.alloc (.cells (zeros (N + 1)).toArray 3)) w2.heap.size ((List.replicate (N + 1) 0).map natV) 3 from
    ⟨⟨below_alloc H2.out.1 _, H2.out.2.below ((Below.refl _ _).alloc (Nat.le_refl _) _)⟩, by rw [zeros_nat]; exact Blk.new _ _ _⟩)
  have hsB := hid (show ¬ m.own w2.heap.size ∧ w.heap.size ≤ w2.heap.size from ⟨fun h => by have := hlen2 _ h; omega, H2.out.1.size⟩)
  clear hlen2 H2 MK
  generalize w2.alloc (.cells (zeros (N + 1)).toArray 3) = W3 at *
  generalize w2.heap.size = sB at *
  go_loopw [8, 9, 10] (fun u _ _ wr => ∃ i : Nat, u = .int .i64 (i : Int) ∧ i ≤ n ∧ ∃ S, Hid (HW w wr m N S (allIn N) ∧ Blk wr sB (S.map natV) 3 ∧ ∀ x, S.getD x 0 ≤ 5000 * i)) (fun u _ _ _ => n - (intOf u).toNat)
  case atStart => exact ⟨0, rfl, by omega, _, hid ⟨hB3.out.1, hB3.out.2, fun x => by rw [get_zero]; omega⟩⟩
  case round =>
    clear hB3 H1
    obtain ⟨i, rfl, hi, S, HH⟩ := hrel
    by_cases hlt : i < n
    · obtain ⟨B, o, rfl, hBl, hcell⟩ := HA.out (by omega)
      have hc1 : wr.cell? ⟨B, o + i, none⟩ = some (.int .i64 (ws.getD i 0)) := (HH.out.1.1.cell (p := ⟨B, o + i, none⟩) hBl).trans (hcell i hlt)
      obtain ⟨V, hV, hV1, hV2⟩ := turn_mod (ws.getD i 0) (N : Int) (by omega) (by omega)
      obtain ⟨K, hK, hK2⟩ := mod_nat (wrap64 ((ws.getD i 0).tdiv 7)) 5000 (by decide) (by decide)
      have hz : ((N : Int) == 0) = false := by rw [beq_eq_false_iff_ne]; omega
      have HV := hid hV
      have HK := hid hK
      clear hcell hV hK
      generalize ws.getD i 0 = x at *
      have hf := HH.out.1.2.facts
      have hSV := HH.out.2.2 V
      have hbi := bump_in (N := N) (S := S) (k := V) (b := K) (knows_t (by omega) (by omega)) (by omega) (by omega)
      have BP := hid (bump_at HH.out.1.2 (V : Int) (K : Int))
      rw [hbi.1, hbi.2] at BP
      have hlS := hid hf.2.1
      have iV : V < N + 1 := by omega
      have hsum := hid (set_sum (S := S) (v := V) (k := K) HH.out.2.2)
      clear hf hbi
      go_wp2_with fail
      rw [HV.out, HK.out]
      refine BP.out.mono ?_
      rintro e w3 ⟨rfl, ho, hh⟩
      have hblk := Blk.only HH.out.2.1 ho hsB.out.1
      have H3 := hid (And.intro (HH.out.1.only HM.out ho hh) hblk)
      have cs := hblk.cell V (v := .int .i64 ((S.getD V 0 : Nat) : Int)) (by
        have := hlS.out
        rw [List.getElem?_map, List.getElem?_eq_getElem (by omega), List.getD_eq_getElem?_getD, List.getElem?_eq_getElem (by omega)]; rfl)
      have fs := hblk.free V
      clear ho hh hblk BP
      have H4 := hid (show HW w (w3.setCell ⟨sB, V, none⟩ (.int .i64 ((S.getD V 0 : Nat) + K))) m N (S.set V (S.getD V 0 + K)) (allIn N) ∧ Blk (w3.setCell ⟨sB, V, none⟩ (.int .i64 ((S.getD V 0 : Nat) + K))) sB ((S.set V (S.getD V 0 + K)).map natV) 3 from by
        refine ⟨⟨?_, H3.out.1.2.wrote hsB.out.1 _ _⟩, ?_⟩
        · exact H3.out.1.1.setCell hsB.out.2 _
        · rw [List.map_set]
          have := H3.out.2.set V (natV (S.getD V 0 + K))
          simpa [natV] using this)
      have hsmall : S.getD V 0 ≤ 1000000 := by omega
      clear hSV
      generalize S.getD V 0 = sv at *
      go_wp2_with fail
      go_roundw
      case rel => exact ⟨i + 1, by go_num, by omega, _, hid ⟨H4.out.1, H4.out.2, fun x => by have := hsum.out x; omega⟩⟩
      case measure => simp [intOf]; omega
    · obtain ⟨wo, rfl⟩ : ∃ wo : World, wo = wr := ⟨_, rfl⟩
      have hf := hid HH.out.1.2.facts
      clear HA
      go_wp2_with fail
      go_loopw [11, 12] (fun t u wr => ∃ at' v : Nat, t = .int .i64 (at' : Int) ∧ u = .int .i64 (v : Int) ∧ 1 ≤ v ∧ v ≤ N + 1 ∧ 1 ≤ at' ∧ at' ≤ N ∧ (at' < v ∨ at' = 1) ∧ Hid (Drawn wo wr ∧ ∀ x, 1 ≤ x → x < v → ¬ ahead S x at')) (fun _ u _ => N + 1 - (intOf u).toNat)
      case atStart => exact ⟨1, 1, rfl, rfl, by omega, by omega, by omega, by omega, .inr rfl, hid ⟨Drawn.refl _, fun x h1 h2 => by omega⟩⟩
      case round =>
        obtain ⟨at', v, rfl, rfl, v1, v2, a1, a2, a3, HD⟩ := hrel
        have HHw := hid (show HW w wr m N S (allIn N) from ⟨HH.out.1.1.trans (HD.out.1.below.mono HH.out.1.1.size), HH.out.1.2.below HD.out.1.below⟩)
        have hblk := Blk.below HH.out.2.1 HD.out.1.below
        have hcell : ∀ x, x ≤ N → wr.cell? ⟨sB, x, none⟩ = some (.int .i64 ((S.getD x 0 : Nat) : Int)) := fun x hx => hblk.cell x (by
          have := hf.out.2.1
          rw [List.getElem?_map, List.getElem?_eq_getElem (by omega), List.getD_eq_getElem?_getD, List.getElem?_eq_getElem (by omega)]; rfl)
        by_cases hlt : v ≤ N
        · have cv := hcell v hlt
          have ca := hcell at' a2
          have iv : v < N + 1 := by omega
          have ia : at' < N + 1 := by omega
          have SC := fun z => hid (show Calls Try.prog 21 #[.pointer (some ⟨m.p, 0, none⟩), .int .i64 (v : Int)] (wr.drewN z) fun e w' => e = .returned (.int .i64 ((S.getD v 0 : Nat) : Int)) ∧ w' = wr.drewN z by
            have := score_at (HHw.out.2.below (below_drewN' (Below.refl _ _) z)) (v : Int)
            rw [scoreV_nat v1 hlt] at this
            exact this.mono (fun _ _ h => ⟨h.1, h.2.symm⟩))
          have hd : decide (v ≤ N) = true := decide_eq_true hlt
          clear hcell hblk
          by_cases hgt : S.getD at' 0 < S.getD v 0
          · have t1 : decide (S.getD at' 0 < S.getD v 0) = true := decide_eq_true hgt
            have NX := hid (show ∀ x, 1 ≤ x → x < v + 1 → ¬ ahead S x v from fun x x1 x2 => by
              by_cases e : x = v
              · subst e; exact not_self _ _
              · have := HD.out.2 x x1 (by omega)
                unfold ahead at this ⊢; omega)
            clear hgt
            generalize S.getD v 0 = sv at *
            generalize S.getD at' 0 = sa at *
            go_wp2_with fail
            go_quiet ((go_at_call 21; exact Calls.quiet_of_same (SC _).out))
            go_wp2_with fail
            go_quiet (fail)
            go_wp2_with fail
            go_roundw
            case rel => exact ⟨v, v + 1, rfl, by go_num, by omega, by omega, by omega, by omega, .inl (by omega), hid ⟨HD.out.1.more _, NX.out⟩⟩
            case measure => simp [intOf]; omega
          · have t1 : decide (S.getD at' 0 < S.getD v 0) = false := decide_eq_false hgt
            have NX := hid (show ∀ x, 1 ≤ x → x < v + 1 → ¬ ahead S x at' from fun x x1 x2 => by
              by_cases e : x = v
              · subst e
                unfold ahead
                rintro (h | ⟨h, h2⟩)
                · omega
                · omega
              · exact HD.out.2 x x1 (by omega))
            clear hgt
            generalize S.getD v 0 = sv at *
            generalize S.getD at' 0 = sa at *
            go_wp2_with fail
            go_quiet ((go_at_call 21; exact Calls.quiet_of_same (SC _).out))
            go_wp2_with fail
            go_quiet (fail)
            go_wp2_with fail
            go_roundw
            case rel => exact ⟨at', v + 1, rfl, by go_num, by omega, by omega, by omega, by omega, by omega, hid ⟨HD.out.1.more _, NX.out⟩⟩
            case measure => simp [intOf]; omega
        · have hd : decide (v ≤ N) = false := decide_eq_false hlt
          obtain ⟨b1, b2, b3, b4, b5⟩ := best_in (S := S) (I := allIn N) hf.out.2.2.1 rfl (by rw [cnt_all]; omega)
          have hat : best N S (allIn N) = at' := tot (HD.out.2 _ b1 (by omega)) (b4 _ (get_all N at' a1 a2))
          have hself := pop_self (N := N) (S := S) (I := allIn N) hf.out.2.2.1
          rw [hat] at hself
          have PO := hid (pop_at HHw.out.2)
          rw [hat, show decide (at' ≠ 0) = true from decide_eq_true (by omega)] at PO
          rw [cnt_all] at b5
          have hV := isV_nat (I := popI N S (allIn N)) a1 a2
          rw [hself] at hV
          have HV := hid hV
          have HC := hid (show ((cnt (popI N S (allIn N)) : Nat) : Int) = (N : Int) - 1 by omega)
          clear b1 b2 b3 b4 b5 hat hself hV hcell hblk
          go_wp2_with fail
          refine PO.out.mono ?_
          rintro e w5 ⟨rfl, ho, hh⟩
          have H5 := hid (HHw.out.only HM.out ho hh)
          have Q1 := hid (has_at hh (at' : Int))
          rw [HV.out] at Q1
          have Q2 := hid (len_at hh)
          rw [HC.out] at Q2
          clear ho hh PO
          go_wp2_with fail
          refine Q1.out.mono ?_
          rintro e w' ⟨rfl, rfl⟩
          go_wp2_with fail
          refine Q2.out.mono ?_
          rintro e w' ⟨rfl, rfl⟩
          go_wp2_with fail
          go_ret
          exact ⟨rfl, H5.out.1⟩
end Go.Proofs.Ytbjllcjjibjgoaa.Hp
