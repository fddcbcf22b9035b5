/-
  LAYER 13: the document's bag: Bump, New.
-/
import Derived.Test.YtbjllcjjibjgoaaBag
namespace Go.Proofs.Ytbjllcjjibjgoaa.Hp
open Go.RowKit Go.Proofs.Ytbjllcjjibjgoaa.Ln

theorem Bag.drew {w : World} {m : Bm} {N : Nat} {S : List Nat} {I : List Bool} (h : Bag w m N S I) : Bag w.drew m N S I := h.below (below_drew (Below.refl _ _))
theorem part_get {S : List Nat} {N k : Nat} (hl : S.length = N + 1) (hlt : k < N + 1) : ((shrunk S).take k ++ S.drop k).getD k 0 = S.getD k 0 := by
  rw [List.getD_eq_getElem?_getD, List.getElem?_append_right (by simp [shrunk]; omega)]
  simp [shrunk, hl, Nat.min_eq_left (Nat.le_of_lt hlt)]
theorem part_set {S : List Nat} {N k : Nat} (hl : S.length = N + 1) (hlt : k < N + 1) : ((shrunk S).take k ++ S.drop k).set k (S.getD k 0 / 1048576) = (shrunk S).take (k + 1) ++ S.drop (k + 1) := by
  apply List.ext_getElem?
  intro j
  have l1 : ((shrunk S).take k).length = k := by simp [shrunk]; omega
  have l2 : ((shrunk S).take (k + 1)).length = k + 1 := by simp [shrunk]; omega
  rw [List.getElem?_set]
  by_cases h1 : k = j
  · subst h1
    rw [if_pos rfl, if_pos (by rw [List.length_append, l1, List.length_drop]; omega), List.getElem?_append_left (by omega), List.getElem?_take_of_lt (by omega)]
    simp [shrunk, hl, hlt, List.getD_eq_getElem?_getD]
  · rw [if_neg h1]
    by_cases h2 : j < k
    · rw [List.getElem?_append_left (by omega), List.getElem?_append_left (by omega), List.getElem?_take_of_lt h2, List.getElem?_take_of_lt (by omega)]
    · rw [List.getElem?_append_right (by omega), List.getElem?_append_right (by omega), l1, l2, List.getElem?_drop, List.getElem?_drop]
      congr 1; omega

set_option maxHeartbeats 4000000 in
theorem bagbump_any {w : World} {m : Bm} {N : Nat} {S : List Nat} {I : List Bool} (h : Bag w m N S I) (h4 : ∀ v, S.getD v 0 ≤ 1099511627776) (v by' : Int) :
    Calls Try.prog 17 #[.pointer (some ⟨m.p, 0, none⟩), .int .i64 v, .int .i64 by'] w (Bagged m N (bumpS N S v by') I (.bool (bumpB N S v by')) w) := by
  have H1 := hid h
  by_cases hok : knowsV N v = true ∧ 0 ≤ by' ∧ by' ≤ 1099511627776
  · obtain ⟨hk, hb0, hb1⟩ := hok
    have hv := of_decide_eq_true hk
    obtain ⟨k, rfl⟩ : ∃ k : Nat, v = (k : Int) := ⟨v.toNat, by omega⟩
    obtain ⟨b, hb⟩ : ∃ b : Nat, by' = (b : Int) := ⟨by'.toNat, by omega⟩
    have HK := hid hk
    have hsm := h.small
    have c0 := h.head.cell 0 rfl
    have ck := h.score (show k ≤ N by omega)
    have fk := h.scores.free k
    have nps := h.ps
    have ik : k < N + 1 := by omega
    have hSk := h4 k
    obtain ⟨xi, hxi⟩ : ∃ xi : Int, xi = (S.getD k 0 : Int) := ⟨_, rfl⟩
    have hx0 : 0 ≤ xi := by omega
    have hx1 : xi ≤ 1099511627776 := by omega
    have HY := hid (show xi + by' = ((S.getD k 0 + b : Nat) : Int) by omega)
    have H2 := hid (show Bag (w.setCell ⟨m.s, k, none⟩ (.int .i64 (xi + by'))) m N (S.set k (S.getD k 0 + b)) I by
      rw [HY.out]; exact h.wrote_score k _)
    have hO := hid ((Only.refl m.own w).setCell (p := ⟨m.s, k, none⟩) (.inr (.inl rfl)) (.int .i64 (xi + by')))
    rw [← hxi] at ck
    have wsum : IntKind.i64.wrap (xi + by') = xi + by' := IntWalk.i64_in _ (by omega)
    by_cases hx : S.getD k 0 + b ≤ 1099511627776
    · have E := hid (bump_in hk (by omega) hx)
      rw [← hb] at E
      have hle2 : xi + by' ≤ 1099511627776 := by omega
      clear h h4 hk hx hxi hSk hb
      go_enter Try.func17, Try.ntmps17
      go_wp2_with fail
      refine (known_any H1.out _).mono ?_
      rintro e w' ⟨rfl, rfl⟩
      rw [HK.out]
      go_wp2_with fail
      go_region
      all_goals
        go_wp2_with fail
        go_ret
        exact ⟨by rw [E.out.2]; rfl, hO.out.drew, by rw [E.out.1]; exact H2.out.drew⟩
    · have E := hid (bump_out hk (by omega) (show 1099511627776 < S.getD k 0 + b by omega))
      rw [← hb] at E
      have hle2 : 1099511627776 < xi + by' := by omega
      have hS' : ∀ u, (S.set k (S.getD k 0 + b)).getD u 0 ≤ 2199023255552 := fun u => by
        rw [getD_set]; split
        · omega
        · have := h4 u; omega
      have HS' := hid hS'
      have hlS := hid H2.out.lenS
      clear h h4 hk hx hxi hSk hb hS'
      generalize S.set k (S.getD k 0 + b) = S1 at *
      go_enter Try.func17, Try.ntmps17
      go_wp2_with fail
      refine (known_any H1.out _).mono ?_
      rintro e w' ⟨rfl, rfl⟩
      rw [HK.out]
      go_wp2_with fail
      go_region
      go_wp2_with fail
      have HW2 := hid (And.intro hO.out.drew H2.out.drew)
      clear H2 hO c0 ck fk
      generalize (w.setCell ⟨m.s, k, none⟩ (.int .i64 (xi + by'))).drew = W2 at *
      go_loopw [7] (fun u wr => ∃ j : Nat, u = .int .i64 (j : Int) ∧ j ≤ N + 1 ∧ Hid (Only m.own w wr ∧ Bag wr m N ((shrunk S1).take j ++ S1.drop j) I)) (fun u _ => N + 1 - (intOf u).toNat)
      case atStart => exact ⟨0, rfl, by omega, hid ⟨HW2.out.1, HW2.out.2⟩⟩
      case round =>
        obtain ⟨j, rfl, hj, HH⟩ := hrel
        have c0' := HH.out.2.head.cell 0 rfl
        by_cases hlt : j < N + 1
        · have ck := HH.out.2.score (show j ≤ N by omega)
          rw [part_get hlS.out hlt] at ck
          have hsk := HS'.out j
          have HST := hid (part_set hlS.out hlt)
          have fk := HH.out.2.scores.free j
          generalize S1.getD j 0 = x at *
          obtain ⟨yi, hyi⟩ : ∃ yi : Int, yi = (x : Int) := ⟨_, rfl⟩
          have hq := hid (show yi / 1048576 = ((x / 1048576 : Nat) : Int) by omega)
          have hy0 : 0 ≤ yi := by omega
          have hy1 : yi ≤ 2199023255552 := by omega
          have hdv : yi.tdiv 1048576 = yi / 1048576 := Int.tdiv_eq_ediv_of_nonneg hy0
          have hwq : IntKind.i64.wrap (yi / 1048576) = yi / 1048576 := IntWalk.i64_in _ (by omega)
          rw [← hyi] at ck
          clear hyi hsk
          go_wp2_with fail
          go_region
          go_wp2_with fail
          go_roundw
          case rel =>
            have hm := HH.out.2.wrote_score j (x / 1048576)
            rw [HST.out, ← hq.out] at hm
            exact ⟨j + 1, by go_num, by omega, hid ⟨(HH.out.1.setCell (.inr (.inl rfl)) _).drew, hm.drew⟩⟩
          case measure => simp [intOf]; omega
        · have hfull : (shrunk S1).take j ++ S1.drop j = shrunk S1 := by
            have hl := hlS.out
            rw [List.drop_eq_nil_of_le (by omega), List.append_nil, List.take_of_length_le (by simp [shrunk]; omega)]
          rw [hfull] at HH
          clear hfull
          go_wp2_with fail
          go_ret
          exact ⟨by rw [E.out.2]; rfl, HH.out.1, by rw [E.out.1]; exact HH.out.2⟩
  · have E := hid (bump_no (S := S) hok)
    cases hk : knowsV N v
    · have HK := hid hk
      clear h h4 hok hk
      go_enter Try.func17, Try.ntmps17
      go_wp2_with fail
      refine (known_any H1.out _).mono ?_
      rintro e w' ⟨rfl, rfl⟩
      rw [HK.out]
      go_wp2
      go_ret
      exact ⟨by rw [E.out.2]; rfl, Only.refl _ _, by rw [E.out.1]; exact H1.out⟩
    · have HK := hid hk
      by_cases hb : by' < 0
      · clear h h4 hok hk
        go_enter Try.func17, Try.ntmps17
        go_wp2_with fail
        refine (known_any H1.out _).mono ?_
        rintro e w' ⟨rfl, rfl⟩
        rw [HK.out]
        go_wp2
        go_ret
        exact ⟨by rw [E.out.2]; rfl, Only.refl _ _, by rw [E.out.1]; exact H1.out⟩
      · have hb2 : 1099511627776 < by' := by
          by_cases hq : 1099511627776 < by'
          · exact hq
          · exact absurd ⟨hk, by omega, by omega⟩ hok
        clear h h4 hok hk
        go_enter Try.func17, Try.ntmps17
        go_wp2_with fail
        refine (known_any H1.out _).mono ?_
        rintro e w' ⟨rfl, rfl⟩
        rw [HK.out]
        go_wp2
        go_ret
        exact ⟨by rw [E.out.2]; rfl, Only.refl _ _, by rw [E.out.1]; exact H1.out⟩
end Go.Proofs.Ytbjllcjjibjgoaa.Hp
