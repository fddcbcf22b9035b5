/-
  LAYER 13: the document's bag of variables: New, Known, Len, Pop, Bump.
-/
import Derived.Test.YtbjllcjjibjgoaaOrderDrains
import Derived.BigRegion
import Derived.RegionTactic
namespace Go.Proofs.Ytbjllcjjibjgoaa.Hp
open Go.RowKit Go.Proofs.Ytbjllcjjibjgoaa.Ln

/-- the blocks of a bag: itself, its scores, its members -/
structure Bm where
  p : Nat
  s : Nat
  i : Nat
def Bm.own (m : Bm) (b : Nat) : Prop := b = m.p ∨ b = m.s ∨ b = m.i
def bitN (b : Bool) : Nat := if b then 1 else 0
def bitV (b : Bool) : Value := natV (bitN b)

structure Bag (w : World) (m : Bm) (N : Nat) (S : List Nat) (I : List Bool) : Prop where
  ps : m.p ≠ m.s
  pi : m.p ≠ m.i
  si : m.s ≠ m.i
  small : N ≤ 400
  lenS : S.length = N + 1
  lenI : I.length = N + 1
  head : Blk w m.p [.slice (some ⟨m.s, 0, none⟩) (N + 1) (N + 1), .slice (some ⟨m.i, 0, none⟩) (N + 1) (N + 1)] 36
  scores : Blk w m.s (S.map natV) 3
  ins : Blk w m.i (I.map bitV) 3

theorem Bag.only {w w' : World} {m : Bm} {N : Nat} {S : List Nat} {I : List Bool} (h : Bag w m N S I) {F : Nat → Prop} (ho : Only F w w') (hf : ∀ b, m.own b → ¬ F b) : Bag w' m N S I :=
  { h with head := Blk.only h.head ho (hf _ (.inl rfl)), scores := Blk.only h.scores ho (hf _ (.inr (.inl rfl))), ins := Blk.only h.ins ho (hf _ (.inr (.inr rfl))) }
theorem Bag.below {w w' : World} {m : Bm} {N : Nat} {S : List Nat} {I : List Bool} (h : Bag w m N S I) (hb : Below w.heap.size w w') : Bag w' m N S I :=
  { h with head := h.head.below hb, scores := h.scores.below hb, ins := h.ins.below hb }
theorem Bag.score {w : World} {m : Bm} {N : Nat} {S : List Nat} {I : List Bool} (h : Bag w m N S I) {v : Nat} (hv : v ≤ N) : w.cell? ⟨m.s, v, none⟩ = some (.int .i64 (S.getD v 0 : Nat)) :=
  h.scores.cell v (by rw [List.getElem?_map, List.getElem?_eq_getElem (by rw [h.lenS]; omega), List.getD_eq_getElem?_getD, List.getElem?_eq_getElem (by rw [h.lenS]; omega)]; rfl)
theorem Bag.isin {w : World} {m : Bm} {N : Nat} {S : List Nat} {I : List Bool} (h : Bag w m N S I) {v : Nat} (hv : v ≤ N) : w.cell? ⟨m.i, v, none⟩ = some (.int .i64 (bitN (I.getD v false) : Nat)) :=
  h.ins.cell v (by rw [List.getElem?_map, List.getElem?_eq_getElem (by rw [h.lenI]; omega), List.getD_eq_getElem?_getD, List.getElem?_eq_getElem (by rw [h.lenI]; omega)]; rfl)
theorem Bag.wrote_score {w : World} {m : Bm} {N : Nat} {S : List Nat} {I : List Bool} (h : Bag w m N S I) (v x : Nat) : Bag (w.setCell ⟨m.s, v, none⟩ (.int .i64 (x : Int))) m N (S.set v x) I :=
  { h with lenS := by simp [h.lenS], head := h.head.other h.ps _, scores := by rw [List.map_set]; exact h.scores.set v _, ins := h.ins.other h.si.symm _ }
theorem Bag.wrote_in {w : World} {m : Bm} {N : Nat} {S : List Nat} {I : List Bool} (h : Bag w m N S I) (v : Nat) (b : Bool) : Bag (w.setCell ⟨m.i, v, none⟩ (.int .i64 (bitN b : Nat))) m N S (I.set v b) :=
  { h with lenI := by simp [h.lenI], head := h.head.other h.pi _, scores := h.scores.other h.si _, ins := by rw [List.map_set]; exact h.ins.set v _ }

set_option maxHeartbeats 1000000 in
theorem known_any {w : World} {m : Bm} {N : Nat} {S : List Nat} {I : List Bool} (h : Bag w m N S I) (v : Int) :
    Calls Try.prog 13 #[.pointer (some ⟨m.p, 0, none⟩), .int .i64 v] w fun e w' => e = .returned (.bool (knowsV N v)) ∧ w = w' := by
  have c0 := h.head.cell 0 rfl
  have hs := h.small
  clear h
  by_cases h1 : 1 ≤ v
  · by_cases h2 : v < (N : Int) + 1
    · have d1 : decide (1 ≤ v) = true := decide_eq_true h1
      have d2 : decide (v < (N : Int) + 1) = true := decide_eq_true h2
      have E := hid (knows_t h1 (show v ≤ N by omega))
      go_enter Try.func13, Try.ntmps13
      go_wp2
      go_ret
      exact ⟨ret_bool E.out.symm, rfl⟩
    · have d1 : decide (1 ≤ v) = true := decide_eq_true h1
      have d2 : decide (v < (N : Int) + 1) = false := decide_eq_false h2
      have E := hid (knows_f (N := N) (v := v) (by omega))
      go_enter Try.func13, Try.ntmps13
      go_wp2
      go_ret
      exact ⟨ret_bool E.out.symm, rfl⟩
  · have d1 : decide (1 ≤ v) = false := decide_eq_false h1
    have E := hid (knows_f (N := N) (v := v) (by omega))
    go_enter Try.func13, Try.ntmps13
    go_wp2
    go_ret
    exact ⟨ret_bool E.out.symm, rfl⟩

theorem bag_len_step {I : List Bool} {k : Nat} (h : k < I.length) : cnt (I.take (k + 1)) = cnt (I.take k) + bitN (I.getD k false) := by
  rw [List.take_succ_eq_append_getElem h, List.getD_eq_getElem?_getD, List.getElem?_eq_getElem h]
  unfold cnt
  rw [List.filter_append, List.length_append]
  cases hb : I[k] <;> simp [bitN]

set_option maxHeartbeats 1000000 in
theorem baglen_any {w : World} {m : Bm} {N : Nat} {S : List Nat} {I : List Bool} (h : Bag w m N S I) (h0 : I.getD 0 false = false) :
    Calls Try.prog 29 #[.pointer (some ⟨m.p, 0, none⟩)] w fun e w' => e = .returned (.int .i64 (cnt I : Nat)) ∧ w = w' := by
  have c1 := h.head.cell 1 rfl
  have hs := h.small
  have H := hid h
  have HL := hid h.lenI
  have H0 := hid h0
  clear h h0
  go_enter Try.func29, Try.ntmps29
  go_wp2_with fail
  go_loop [3, 4] (fun t u => ∃ k : Nat, u = .int .i64 (k : Int) ∧ 1 ≤ k ∧ k ≤ N + 1 ∧ t = .int .i64 ((cnt (I.take k) : Nat) : Int)) (fun _ u => N + 1 - (intOf u).toNat)
  case atStart =>
    refine ⟨1, rfl, by omega, by omega, ?_⟩
    have h1 := bag_len_step (I := I) (k := 0) (by rw [HL.out]; omega)
    rw [H0.out] at h1
    rw [h1]; rfl
  case round =>
    obtain ⟨k, rfl, k1, k2, rfl⟩ := hrel
    by_cases hlt : k < N + 1
    · have ck := H.out.isin (show k ≤ N by omega)
      have hst := hid (bag_len_step (I := I) (k := k) (by rw [HL.out]; omega))
      have hle : cnt (I.take k) ≤ k := Nat.le_trans (cnt_le _) (by simp; omega)
      have hb : bitN (I.getD k false) ≤ 1 := by unfold bitN; split <;> omega
      generalize bitN (I.getD k false) = b at *
      generalize hc : cnt (I.take k) = c at *
      clear hc
      go_wp2_with fail
      go_round
      case rel => exact ⟨k + 1, by go_num, by omega, by omega, int_eq (by rw [hst.out]; omega)⟩
      case measure => simp [intOf]; omega
    · have e : I.take k = I := List.take_of_length_le (by rw [HL.out]; omega)
      rw [e]
      clear e
      go_wp2_with fail
      go_ret
      exact ⟨rfl, rfl⟩

/-- what a call that changes the bag leaves -/
def Bagged (m : Bm) (N : Nat) (S : List Nat) (I : List Bool) (v : Value) (w : World) (e : Ending) (w' : World) : Prop := e = .returned v ∧ Only m.own w w' ∧ Bag w' m N S I

theorem bestTo_step (S : List Nat) (I : List Bool) (k : Nat) : bestTo S I (k + 1) = if I.getD (k + 1) false = true ∧ (bestTo S I k = 0 ∨ S.getD (bestTo S I k) 0 < S.getD (k + 1) 0) then k + 1 else bestTo S I k := rfl

set_option maxHeartbeats 4000000 in
theorem bagpop_any {w : World} {m : Bm} {N : Nat} {S : List Nat} {I : List Bool} (h : Bag w m N S I) (h0 : I.getD 0 false = false) :
    Calls Try.prog 15 #[.pointer (some ⟨m.p, 0, none⟩)] w (Bagged m N S (popI N S I) (.int .i64 (best N S I : Nat)) w) := by
  have hs := h.small
  have H := hid h
  have H0 := hid h0
  clear h h0
  go_enter Try.func15, Try.ntmps15
  go_wp2_with fail
  go_loopw [3, 4] (fun t u wr => ∃ k : Nat, u = .int .i64 ((k : Int) + 1) ∧ k ≤ N ∧ t = .int .i64 ((bestTo S I k : Nat) : Int) ∧ Hid (Drawn w wr)) (fun _ u _ => N + 2 - (intOf u).toNat)
  case atStart => exact ⟨0, rfl, by omega, rfl, hid (Drawn.refl _)⟩
  case round =>
    obtain ⟨k, rfl, hk, rfl, HD⟩ := hrel
    have HB := hid (H.out.below HD.out.below)
    have c1 := HB.out.head.cell 1 rfl
    have c0 := HB.out.head.cell 0 rfl
    by_cases hlt : k < N
    · have ci := HB.out.isin (show k + 1 ≤ N by omega)
      have cs := HB.out.score (show k + 1 ≤ N by omega)
      have hbk := bestTo_le S I k
      have ca := HB.out.score (show bestTo S I k ≤ N by omega)
      have HST := hid (bestTo_step S I k)
      have ik : k + 1 < N + 1 := by omega
      have ia : bestTo S I k < N + 1 := by omega
      have il : decide ((k : Int) + 1 < (N : Int) + 1) = true := decide_eq_true (by omega)
      have ek : ((k + 1 : Nat) : Int) = (k : Int) + 1 := by omega
      by_cases hin : I.getD (k + 1) false = true
      · have g1 : decide (0 < bitN (I.getD (k + 1) false)) = true := decide_eq_true (by unfold bitN; rw [if_pos hin]; omega)
        by_cases hz : bestTo S I k = 0
        · have g2 : (((bestTo S I k : Nat) : Int) == 0) = true := by rw [hz]; rfl
          have HN := hid (show bestTo S I (k + 1) = k + 1 by rw [HST.out, if_pos ⟨hin, .inl hz⟩])
          clear hin hz HST
          generalize bestTo S I k = b at *
          generalize bitN (I.getD (k + 1) false) = bi at *
          generalize S.getD (k + 1) 0 = sk at *
          generalize S.getD b 0 = sb at *
          go_wp2_with fail
          go_quiet (fail)
          go_wp2_with fail
          go_roundw
          case rel => exact ⟨k + 1, by go_num, by omega, int_eq (by rw [HN.out]; omega), hid (HD.out.more _)⟩
          case measure => simp [intOf]; omega
        · have g2 : (((bestTo S I k : Nat) : Int) == 0) = false := by rw [beq_eq_false_iff_ne]; omega
          by_cases hg : S.getD (bestTo S I k) 0 < S.getD (k + 1) 0
          · have g3 : decide (S.getD (bestTo S I k) 0 < S.getD (k + 1) 0) = true := decide_eq_true hg
            have HN := hid (show bestTo S I (k + 1) = k + 1 by rw [HST.out, if_pos ⟨hin, .inr hg⟩])
            clear hin hz hg HST
            generalize bestTo S I k = b at *
            generalize bitN (I.getD (k + 1) false) = bi at *
            generalize S.getD (k + 1) 0 = sk at *
            generalize S.getD b 0 = sb at *
            go_wp2_with fail
            go_quiet (fail)
            go_wp2_with fail
            go_roundw
            case rel => exact ⟨k + 1, by go_num, by omega, int_eq (by rw [HN.out]; omega), hid (HD.out.more _)⟩
            case measure => simp [intOf]; omega
          · have g3 : decide (S.getD (bestTo S I k) 0 < S.getD (k + 1) 0) = false := decide_eq_false hg
            have HN := hid (show bestTo S I (k + 1) = bestTo S I k by rw [HST.out, if_neg]; rintro ⟨_, h⟩; exact h.elim hz hg)
            clear hin hz hg HST
            generalize bestTo S I k = b at *
            generalize bitN (I.getD (k + 1) false) = bi at *
            generalize S.getD (k + 1) 0 = sk at *
            generalize S.getD b 0 = sb at *
            go_wp2_with fail
            go_quiet (fail)
            go_wp2_with fail
            go_roundw
            case rel => exact ⟨k + 1, by go_num, by omega, int_eq (by rw [HN.out]), hid (HD.out.more _)⟩
            case measure => simp [intOf]; omega
      · have g1 : decide (0 < bitN (I.getD (k + 1) false)) = false := decide_eq_false (by unfold bitN; rw [if_neg hin]; omega)
        have HN := hid (show bestTo S I (k + 1) = bestTo S I k by rw [HST.out, if_neg]; rintro ⟨h, _⟩; exact hin h)
        clear hin HST
        generalize bestTo S I k = b at *
        generalize bitN (I.getD (k + 1) false) = bi at *
        generalize S.getD (k + 1) 0 = sk at *
        generalize S.getD b 0 = sb at *
        go_wp2_with fail
        go_quiet (fail)
        go_wp2_with fail
        go_roundw
        case rel => exact ⟨k + 1, by go_num, by omega, int_eq (by rw [HN.out]), hid (HD.out.more _)⟩
        case measure => simp [intOf]; omega
    · obtain rfl : k = N := by omega
      have hbk := bestTo_le S I k
      have il : decide ((k : Int) + 1 < (k : Int) + 1) = false := decide_eq_false (by omega)
      have HE := hid (show best k S I = bestTo S I k from rfl)
      by_cases hz : bestTo S I k = 0
      · have hsame : popI k S I = I := by
          unfold popI; rw [HE.out, hz]
          have := set_same I 0 false
          rwa [H0.out] at this
        have HS := hid hsame
        have HZ := hid hz
        have g1 : decide (0 < bestTo S I k) = false := decide_eq_false (by omega)
        clear hsame hz
        generalize bestTo S I k = b at *
        go_wp2_with fail
        go_ret
        exact ⟨by rw [HE.out]; rfl, HD.out.only, by rw [HS.out]; exact HB.out⟩
      · have g1 : decide (0 < bestTo S I k) = true := decide_eq_true (by omega)
        have ca := HB.out.isin (show bestTo S I k ≤ k by omega)
        have fa := HB.out.ins.free (bestTo S I k)
        have ia : bestTo S I k < k + 1 := by omega
        have HP := hid (show popI k S I = I.set (bestTo S I k) false from rfl)
        have HB2 := hid (HB.out.wrote_in (bestTo S I k) false)
        clear hz
        generalize bitN (I.getD (bestTo S I k) false) = bi at *
        generalize bestTo S I k = b at *
        go_wp2_with fail
        go_ret
        exact ⟨by rw [HE.out]; rfl, (HD.out.only).setCell (.inr (.inr rfl)) _, by rw [HP.out]; exact HB2.out⟩
end Go.Proofs.Ytbjllcjjibjgoaa.Hp
