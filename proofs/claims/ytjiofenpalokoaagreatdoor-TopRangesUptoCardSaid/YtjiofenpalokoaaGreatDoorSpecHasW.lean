/-
  LAYER 4, PACKAGE spec: does a comparison hold?
-/
import Derived.Test.YtjiofenpalokoaaGreatDoorSpecNext
namespace Go.Proofs.YtjiofenpalokoaaGreatDoor.Sp
open Go.RowKit Go.Sort
open Go.Proofs.YtjiofenpalokoaaGreatDoor Go.Proofs.YtjiofenpalokoaaGreatDoor.Nu Go.Proofs.YtjiofenpalokoaaGreatDoor.Vs

theorem nextK_any (a b c : Nat) (p : ByteArray) (ha : a < 1000000) (hb : b < 1000000) (hc : c < 1000000) : ∃ n0 n1 n2 : Nat, nextL a b c (keptP a b) = [n0, n1, n2] ∧ ∀ w, Calls Tryz.prog 91 #[.agg #[.int .i64 (a : Int), .int .i64 (b : Int), .int .i64 (c : Int), .string p], .int .i64 (keptP a b : Int)] w (Gives (.agg #[.int .i64 (n0 : Int), .int .i64 (n1 : Int), .int .i64 (n2 : Int), .string ⟨#[]⟩]) w) := by
  unfold keptP
  by_cases h0 : a ≠ 0
  · rw [if_pos h0]; exact ⟨a + 1, 0, 0, rfl, fun w => next0_any a b c p ha hb hc w⟩
  · rw [if_neg h0]
    by_cases h1 : b ≠ 0
    · rw [if_pos h1]; exact ⟨a, b + 1, 0, rfl, fun w => next1_any a b c p ha hb hc w⟩
    · rw [if_neg h1]; exact ⟨a, b, c + 1, rfl, fun w => next2_any a b c p ha hb hc w⟩


set_option maxRecDepth 20000 in
set_option maxHeartbeats 1000000 in
theorem has0_w (a b c x y z k : Int) (p q : ByteArray) (w : World) (hm : MaxAt w) (HC : ∀ w, MaxAt w → Calls Tryz.prog 26 #[.agg #[.int .i64 x, .int .i64 y, .int .i64 z, .string q], .agg #[.int .i64 a, .int .i64 b, .int .i64 c, .string p]] w (Gives (.int .i64 k) w)) :
    Calls Tryz.prog 77 #[.agg #[.int .i64 0, .int .i64 a, .int .i64 b, .int .i64 c, .string p], .agg #[.int .i64 x, .int .i64 y, .int .i64 z, .string q]] w (Gives (.bool (k == 0)) w) := by
  replace HC := hid HC
  have hb0 := hid (below_alloc (below_alloc (Below.refl w.heap.size w) (.cells #[.int .i64 0, .int .i64 a, .int .i64 b, .int .i64 c, .string p] 40)) (.cells #[.int .i64 x, .int .i64 y, .int .i64 z, .string q] 38))
  obtain ⟨hA, hB⟩ := two_blk w [.int .i64 0, .int .i64 a, .int .i64 b, .int .i64 c, .string p] [.int .i64 x, .int .i64 y, .int .i64 z, .string q] 40 38
  replace hA := hid hA
  clear hB
  generalize hR : (k == 0) = R
  replace hR := hid hR
  go_enter Tryz.func77, Tryz.ntmps77
  go_wp2_with (go_at_call 26; (with_reducible refine (HC.out _ (hm.below hb0.out)).mono ?_); rintro e w1 ⟨rfl, hb1⟩; have c0 := (hA.out.below hb1).cell 0 rfl; have hb2 := hid (below_trans hb0.out hb1))
  go_ret
  exact gives rfl (bool_eq hR.out) hb2.out

set_option maxRecDepth 20000 in
set_option maxHeartbeats 1000000 in
theorem has1_w (a b c x y z k : Int) (p q : ByteArray) (w : World) (hm : MaxAt w) (HC : ∀ w, MaxAt w → Calls Tryz.prog 26 #[.agg #[.int .i64 x, .int .i64 y, .int .i64 z, .string q], .agg #[.int .i64 a, .int .i64 b, .int .i64 c, .string p]] w (Gives (.int .i64 k) w)) :
    Calls Tryz.prog 77 #[.agg #[.int .i64 1, .int .i64 a, .int .i64 b, .int .i64 c, .string p], .agg #[.int .i64 x, .int .i64 y, .int .i64 z, .string q]] w (Gives (.bool (k != 0)) w) := by
  replace HC := hid HC
  have hb0 := hid (below_alloc (below_alloc (Below.refl w.heap.size w) (.cells #[.int .i64 1, .int .i64 a, .int .i64 b, .int .i64 c, .string p] 40)) (.cells #[.int .i64 x, .int .i64 y, .int .i64 z, .string q] 38))
  obtain ⟨hA, hB⟩ := two_blk w [.int .i64 1, .int .i64 a, .int .i64 b, .int .i64 c, .string p] [.int .i64 x, .int .i64 y, .int .i64 z, .string q] 40 38
  replace hA := hid hA
  clear hB
  generalize hR : (k != 0) = R
  replace hR := hid hR
  go_enter Tryz.func77, Tryz.ntmps77
  go_wp2_with (go_at_call 26; (with_reducible refine (HC.out _ (hm.below hb0.out)).mono ?_); rintro e w1 ⟨rfl, hb1⟩; have c0 := (hA.out.below hb1).cell 0 rfl; have hb2 := hid (below_trans hb0.out hb1))
  go_ret
  exact gives rfl (bool_eq hR.out) hb2.out

set_option maxRecDepth 20000 in
set_option maxHeartbeats 1000000 in
theorem has2_w (a b c x y z k : Int) (p q : ByteArray) (w : World) (hm : MaxAt w) (HC : ∀ w, MaxAt w → Calls Tryz.prog 26 #[.agg #[.int .i64 x, .int .i64 y, .int .i64 z, .string q], .agg #[.int .i64 a, .int .i64 b, .int .i64 c, .string p]] w (Gives (.int .i64 k) w)) :
    Calls Tryz.prog 77 #[.agg #[.int .i64 2, .int .i64 a, .int .i64 b, .int .i64 c, .string p], .agg #[.int .i64 x, .int .i64 y, .int .i64 z, .string q]] w (Gives (.bool (decide (k < 0))) w) := by
  replace HC := hid HC
  have hb0 := hid (below_alloc (below_alloc (Below.refl w.heap.size w) (.cells #[.int .i64 2, .int .i64 a, .int .i64 b, .int .i64 c, .string p] 40)) (.cells #[.int .i64 x, .int .i64 y, .int .i64 z, .string q] 38))
  obtain ⟨hA, hB⟩ := two_blk w [.int .i64 2, .int .i64 a, .int .i64 b, .int .i64 c, .string p] [.int .i64 x, .int .i64 y, .int .i64 z, .string q] 40 38
  replace hA := hid hA
  clear hB
  generalize hR : (decide (k < 0)) = R
  replace hR := hid hR
  go_enter Tryz.func77, Tryz.ntmps77
  go_wp2_with (go_at_call 26; (with_reducible refine (HC.out _ (hm.below hb0.out)).mono ?_); rintro e w1 ⟨rfl, hb1⟩; have c0 := (hA.out.below hb1).cell 0 rfl; have hb2 := hid (below_trans hb0.out hb1))
  go_ret
  exact gives rfl (bool_eq hR.out) hb2.out

set_option maxRecDepth 20000 in
set_option maxHeartbeats 1000000 in
theorem has3_w (a b c x y z k : Int) (p q : ByteArray) (w : World) (hm : MaxAt w) (HC : ∀ w, MaxAt w → Calls Tryz.prog 26 #[.agg #[.int .i64 x, .int .i64 y, .int .i64 z, .string q], .agg #[.int .i64 a, .int .i64 b, .int .i64 c, .string p]] w (Gives (.int .i64 k) w)) :
    Calls Tryz.prog 77 #[.agg #[.int .i64 3, .int .i64 a, .int .i64 b, .int .i64 c, .string p], .agg #[.int .i64 x, .int .i64 y, .int .i64 z, .string q]] w (Gives (.bool (decide (k ≤ 0))) w) := by
  replace HC := hid HC
  have hb0 := hid (below_alloc (below_alloc (Below.refl w.heap.size w) (.cells #[.int .i64 3, .int .i64 a, .int .i64 b, .int .i64 c, .string p] 40)) (.cells #[.int .i64 x, .int .i64 y, .int .i64 z, .string q] 38))
  obtain ⟨hA, hB⟩ := two_blk w [.int .i64 3, .int .i64 a, .int .i64 b, .int .i64 c, .string p] [.int .i64 x, .int .i64 y, .int .i64 z, .string q] 40 38
  replace hA := hid hA
  clear hB
  generalize hR : (decide (k ≤ 0)) = R
  replace hR := hid hR
  go_enter Tryz.func77, Tryz.ntmps77
  go_wp2_with (go_at_call 26; (with_reducible refine (HC.out _ (hm.below hb0.out)).mono ?_); rintro e w1 ⟨rfl, hb1⟩; have c0 := (hA.out.below hb1).cell 0 rfl; have hb2 := hid (below_trans hb0.out hb1))
  go_ret
  exact gives rfl (bool_eq hR.out) hb2.out

set_option maxRecDepth 20000 in
set_option maxHeartbeats 1000000 in
theorem has4_w (a b c x y z k : Int) (p q : ByteArray) (w : World) (hm : MaxAt w) (HC : ∀ w, MaxAt w → Calls Tryz.prog 26 #[.agg #[.int .i64 x, .int .i64 y, .int .i64 z, .string q], .agg #[.int .i64 a, .int .i64 b, .int .i64 c, .string p]] w (Gives (.int .i64 k) w)) :
    Calls Tryz.prog 77 #[.agg #[.int .i64 4, .int .i64 a, .int .i64 b, .int .i64 c, .string p], .agg #[.int .i64 x, .int .i64 y, .int .i64 z, .string q]] w (Gives (.bool (decide (0 < k))) w) := by
  replace HC := hid HC
  have hb0 := hid (below_alloc (below_alloc (Below.refl w.heap.size w) (.cells #[.int .i64 4, .int .i64 a, .int .i64 b, .int .i64 c, .string p] 40)) (.cells #[.int .i64 x, .int .i64 y, .int .i64 z, .string q] 38))
  obtain ⟨hA, hB⟩ := two_blk w [.int .i64 4, .int .i64 a, .int .i64 b, .int .i64 c, .string p] [.int .i64 x, .int .i64 y, .int .i64 z, .string q] 40 38
  replace hA := hid hA
  clear hB
  generalize hR : (decide (0 < k)) = R
  replace hR := hid hR
  go_enter Tryz.func77, Tryz.ntmps77
  go_wp2_with (go_at_call 26; (with_reducible refine (HC.out _ (hm.below hb0.out)).mono ?_); rintro e w1 ⟨rfl, hb1⟩; have c0 := (hA.out.below hb1).cell 0 rfl; have hb2 := hid (below_trans hb0.out hb1))
  go_ret
  exact gives rfl (bool_eq hR.out) hb2.out

set_option maxRecDepth 20000 in
set_option maxHeartbeats 1000000 in
theorem has5_w (a b c x y z k : Int) (p q : ByteArray) (w : World) (hm : MaxAt w) (HC : ∀ w, MaxAt w → Calls Tryz.prog 26 #[.agg #[.int .i64 x, .int .i64 y, .int .i64 z, .string q], .agg #[.int .i64 a, .int .i64 b, .int .i64 c, .string p]] w (Gives (.int .i64 k) w)) :
    Calls Tryz.prog 77 #[.agg #[.int .i64 5, .int .i64 a, .int .i64 b, .int .i64 c, .string p], .agg #[.int .i64 x, .int .i64 y, .int .i64 z, .string q]] w (Gives (.bool (decide (0 ≤ k))) w) := by
  replace HC := hid HC
  have hb0 := hid (below_alloc (below_alloc (Below.refl w.heap.size w) (.cells #[.int .i64 5, .int .i64 a, .int .i64 b, .int .i64 c, .string p] 40)) (.cells #[.int .i64 x, .int .i64 y, .int .i64 z, .string q] 38))
  obtain ⟨hA, hB⟩ := two_blk w [.int .i64 5, .int .i64 a, .int .i64 b, .int .i64 c, .string p] [.int .i64 x, .int .i64 y, .int .i64 z, .string q] 40 38
  replace hA := hid hA
  clear hB
  generalize hR : (decide (0 ≤ k)) = R
  replace hR := hid hR
  go_enter Tryz.func77, Tryz.ntmps77
  go_wp2_with (go_at_call 26; (with_reducible refine (HC.out _ (hm.below hb0.out)).mono ?_); rintro e w1 ⟨rfl, hb1⟩; have c0 := (hA.out.below hb1).cell 0 rfl; have hb2 := hid (below_trans hb0.out hb1))
  go_ret
  exact gives rfl (bool_eq hR.out) hb2.out

set_option maxRecDepth 20000 in
set_option maxHeartbeats 1000000 in
theorem has8_w (a b c x y z k : Int) (p q : ByteArray) (w : World) (hm : MaxAt w) (HC : ∀ w, MaxAt w → Calls Tryz.prog 26 #[.agg #[.int .i64 x, .int .i64 y, .int .i64 z, .string q], .agg #[.int .i64 a, .int .i64 b, .int .i64 c, .string p]] w (Gives (.int .i64 k) w)) :
    Calls Tryz.prog 77 #[.agg #[.int .i64 8, .int .i64 a, .int .i64 b, .int .i64 c, .string p], .agg #[.int .i64 x, .int .i64 y, .int .i64 z, .string q]] w (Gives (.bool true) w) := by
  replace HC := hid HC
  have hb0 := hid (below_alloc (below_alloc (Below.refl w.heap.size w) (.cells #[.int .i64 8, .int .i64 a, .int .i64 b, .int .i64 c, .string p] 40)) (.cells #[.int .i64 x, .int .i64 y, .int .i64 z, .string q] 38))
  obtain ⟨hA, hB⟩ := two_blk w [.int .i64 8, .int .i64 a, .int .i64 b, .int .i64 c, .string p] [.int .i64 x, .int .i64 y, .int .i64 z, .string q] 40 38
  replace hA := hid hA
  clear hB
  generalize hR : true = R
  replace hR := hid hR
  go_enter Tryz.func77, Tryz.ntmps77
  go_wp2_with (go_at_call 26; (with_reducible refine (HC.out _ (hm.below hb0.out)).mono ?_); rintro e w1 ⟨rfl, hb1⟩; have c0 := (hA.out.below hb1).cell 0 rfl; have hb2 := hid (below_trans hb0.out hb1))
  go_ret
  exact gives rfl (bool_eq hR.out) hb2.out

set_option maxRecDepth 20000 in
set_option maxHeartbeats 2000000 in
theorem has6n_w (a b c x y z k : Int) (p q : ByteArray) (hk : ¬ 0 ≤ k) (w : World) (hm : MaxAt w) (HC : ∀ w, MaxAt w → Calls Tryz.prog 26 #[.agg #[.int .i64 x, .int .i64 y, .int .i64 z, .string q], .agg #[.int .i64 a, .int .i64 b, .int .i64 c, .string p]] w (Gives (.int .i64 k) w)) :
    Calls Tryz.prog 77 #[.agg #[.int .i64 6, .int .i64 a, .int .i64 b, .int .i64 c, .string p], .agg #[.int .i64 x, .int .i64 y, .int .i64 z, .string q]] w (Gives (.bool false) w) := by
  replace HC := hid HC
  have hk' : decide (0 ≤ k) = false := decide_eq_false hk
  clear hk
  have hb0 := hid (below_alloc (below_alloc (Below.refl w.heap.size w) (.cells #[.int .i64 6, .int .i64 a, .int .i64 b, .int .i64 c, .string p] 40)) (.cells #[.int .i64 x, .int .i64 y, .int .i64 z, .string q] 38))
  obtain ⟨hA, hB⟩ := two_blk w [.int .i64 6, .int .i64 a, .int .i64 b, .int .i64 c, .string p] [.int .i64 x, .int .i64 y, .int .i64 z, .string q] 40 38
  replace hA := hid hA
  replace hB := hid hB
  generalize hR : false = R
  replace hR := hid hR
  go_enter Tryz.func77, Tryz.ntmps77
  go_wp2_with (go_at_call 26; (with_reducible refine (HC.out _ (hm.below hb0.out)).mono ?_); rintro e w1 ⟨rfl, hb1⟩; have c0 := (hA.out.below hb1).cell 0 rfl; have hb2 := hid (below_trans hb0.out hb1); have hA1 := hid (hA.out.below hb1); have hB1 := hid (hB.out.below hb1))
  generalize w.heap.size + 1 = v2 at hB1 ⊢
  have hbw := hb2.out
  generalize w.heap.size = v1 at hA1 ⊢
  have i0 := cell_regrown (hA1.out.cell 0 rfl)
  have i1 := cell_regrown (hA1.out.cell 1 rfl)
  have i2 := cell_regrown (hA1.out.cell 2 rfl)
  have i3 := cell_regrown (hA1.out.cell 3 rfl)
  have i4 := cell_regrown (hA1.out.cell 4 rfl)
  have j0 := cell_regrown (hB1.out.cell 0 rfl)
  have j1 := cell_regrown (hB1.out.cell 1 rfl)
  have j2 := cell_regrown (hB1.out.cell 2 rfl)
  have j3 := cell_regrown (hB1.out.cell 3 rfl)
  clear i0 i1 i2 i3 i4 j0 j1 j2 j3 hA1 hB1
  go_quiet (fail)
  go_wp2_with fail
  go_ret
  exact gives rfl (bool_eq hR.out) (below_drewN' hbw _)

set_option maxRecDepth 20000 in
set_option maxHeartbeats 2000000 in
theorem has6y_w (a b c x y z k n0 n1 n2 k2 : Int) (p q : ByteArray) (hk : 0 ≤ k) (w : World) (hm : MaxAt w) (HC : ∀ w, MaxAt w → Calls Tryz.prog 26 #[.agg #[.int .i64 x, .int .i64 y, .int .i64 z, .string q], .agg #[.int .i64 a, .int .i64 b, .int .i64 c, .string p]] w (Gives (.int .i64 k) w)) (HN : ∀ w, Calls Tryz.prog 91 #[.agg #[.int .i64 a, .int .i64 b, .int .i64 c, .string p], .int .i64 1] w (Gives (.agg #[.int .i64 n0, .int .i64 n1, .int .i64 n2, .string ⟨#[]⟩]) w)) (HC2 : ∀ w, MaxAt w → Calls Tryz.prog 26 #[.agg #[.int .i64 x, .int .i64 y, .int .i64 z, .string q], .agg #[.int .i64 n0, .int .i64 n1, .int .i64 n2, .string ⟨#[]⟩]] w (Gives (.int .i64 k2) w)) :
    Calls Tryz.prog 77 #[.agg #[.int .i64 6, .int .i64 a, .int .i64 b, .int .i64 c, .string p], .agg #[.int .i64 x, .int .i64 y, .int .i64 z, .string q]] w (Gives (.bool (decide (k2 < 0))) w) := by
  replace HC := hid HC
  replace HN := hid HN
  replace HC2 := hid HC2
  have hb0 := hid (below_alloc (below_alloc (Below.refl w.heap.size w) (.cells #[.int .i64 6, .int .i64 a, .int .i64 b, .int .i64 c, .string p] 40)) (.cells #[.int .i64 x, .int .i64 y, .int .i64 z, .string q] 38))
  obtain ⟨hA, hB⟩ := two_blk w [.int .i64 6, .int .i64 a, .int .i64 b, .int .i64 c, .string p] [.int .i64 x, .int .i64 y, .int .i64 z, .string q] 40 38
  replace hA := hid hA
  replace hB := hid hB
  generalize hR : (decide (k2 < 0)) = R
  replace hR := hid hR
  go_enter Tryz.func77, Tryz.ntmps77
  go_wp2_with (go_at_call 26; (with_reducible refine (HC.out _ (hm.below hb0.out)).mono ?_); rintro e w1 ⟨rfl, hb1⟩; have c0 := (hA.out.below hb1).cell 0 rfl; have hb2 := hid (below_trans hb0.out hb1); have hA1 := hid (hA.out.below hb1); have hB1 := hid (hB.out.below hb1))
  generalize w.heap.size + 1 = v2 at hB1 ⊢
  have hbw := hb2.out
  generalize w.heap.size = v1 at hA1 ⊢
  have i0 := cell_regrown (hA1.out.cell 0 rfl)
  have i1 := cell_regrown (hA1.out.cell 1 rfl)
  have i2 := cell_regrown (hA1.out.cell 2 rfl)
  have i3 := cell_regrown (hA1.out.cell 3 rfl)
  have i4 := cell_regrown (hA1.out.cell 4 rfl)
  have j0 := cell_regrown (hB1.out.cell 0 rfl)
  have j1 := cell_regrown (hB1.out.cell 1 rfl)
  have j2 := cell_regrown (hB1.out.cell 2 rfl)
  have j3 := cell_regrown (hB1.out.cell 3 rfl)
  have qN := hid (show ∀ d os, Calls Tryz.prog 91 #[.agg #[.int .i64 a, .int .i64 b, .int .i64 c, .string p], .int .i64 1] (grow (redrawn w1 d) os) fun e w'' => e = .returned (.agg #[.int .i64 n0, .int .i64 n1, .int .i64 n2, .string ⟨#[]⟩]) ∧ ∃ p : Regrown, w'' = grow (redrawn w1 p.d) p.os from fun d os => Calls.regrown_of (HN.out _))
  have qC := hid (show ∀ d os, Calls Tryz.prog 26 #[.agg #[.int .i64 x, .int .i64 y, .int .i64 z, .string q], .agg #[.int .i64 n0, .int .i64 n1, .int .i64 n2, .string ⟨#[]⟩]] (grow (redrawn w1 d) os) fun e w'' => e = .returned (.int .i64 k2) ∧ ∃ p : Regrown, w'' = grow (redrawn w1 p.d) p.os from fun d os => Calls.regrown_of (HC2.out _ (hm.below (below_trans hbw (below_regrown w1 d os)))))
  refine wp_region_quiet_below (by kernel_rfl) (by kernel_rfl) ?_
  repeat (quiet_step (first | with_reducible exact qN.out _ _ | with_reducible exact qC.out _ _))
  refine wpQuiet_nil ?_
  intro _ hw'
  obtain ⟨⟨dq, osq⟩, hw''⟩ := hw'
  subst hw''
  show Exit.then _ _ Exit.normal _ (grow (redrawn w1 dq) osq)
  have hbz := hid (below_trans hbw (below_regrown w1 dq osq))
  clear i0 i1 i2 i3 i4 j0 j1 j2 j3 qN qC hA1 hB1
  generalize grow (redrawn w1 dq) osq = W5 at hbz ⊢
  go_wp2_with fail
  go_ret
  exact gives rfl (bool_eq hR.out) hbz.out

set_option maxRecDepth 20000 in
set_option maxHeartbeats 2000000 in
theorem has7n_w (a b c x y z k : Int) (p q : ByteArray) (hk : ¬ 0 ≤ k) (w : World) (hm : MaxAt w) (HC : ∀ w, MaxAt w → Calls Tryz.prog 26 #[.agg #[.int .i64 x, .int .i64 y, .int .i64 z, .string q], .agg #[.int .i64 a, .int .i64 b, .int .i64 c, .string p]] w (Gives (.int .i64 k) w)) :
    Calls Tryz.prog 77 #[.agg #[.int .i64 7, .int .i64 a, .int .i64 b, .int .i64 c, .string p], .agg #[.int .i64 x, .int .i64 y, .int .i64 z, .string q]] w (Gives (.bool false) w) := by
  replace HC := hid HC
  have hk' : decide (0 ≤ k) = false := decide_eq_false hk
  clear hk
  have hb0 := hid (below_alloc (below_alloc (Below.refl w.heap.size w) (.cells #[.int .i64 7, .int .i64 a, .int .i64 b, .int .i64 c, .string p] 40)) (.cells #[.int .i64 x, .int .i64 y, .int .i64 z, .string q] 38))
  obtain ⟨hA, hB⟩ := two_blk w [.int .i64 7, .int .i64 a, .int .i64 b, .int .i64 c, .string p] [.int .i64 x, .int .i64 y, .int .i64 z, .string q] 40 38
  replace hA := hid hA
  replace hB := hid hB
  generalize hR : false = R
  replace hR := hid hR
  go_enter Tryz.func77, Tryz.ntmps77
  go_wp2_with (go_at_call 26; (with_reducible refine (HC.out _ (hm.below hb0.out)).mono ?_); rintro e w1 ⟨rfl, hb1⟩; have c0 := (hA.out.below hb1).cell 0 rfl; have hb2 := hid (below_trans hb0.out hb1); have hA1 := hid (hA.out.below hb1); have hB1 := hid (hB.out.below hb1))
  generalize w.heap.size + 1 = v2 at hB1 ⊢
  have hbw := hb2.out
  generalize w.heap.size = v1 at hA1 ⊢
  have i0 := cell_regrown (hA1.out.cell 0 rfl)
  have i1 := cell_regrown (hA1.out.cell 1 rfl)
  have i2 := cell_regrown (hA1.out.cell 2 rfl)
  have i3 := cell_regrown (hA1.out.cell 3 rfl)
  have i4 := cell_regrown (hA1.out.cell 4 rfl)
  have j0 := cell_regrown (hB1.out.cell 0 rfl)
  have j1 := cell_regrown (hB1.out.cell 1 rfl)
  have j2 := cell_regrown (hB1.out.cell 2 rfl)
  have j3 := cell_regrown (hB1.out.cell 3 rfl)
  clear i0 i1 i2 i3 i4 j0 j1 j2 j3 hA1 hB1
  go_quiet (fail)
  go_wp2_with fail
  go_ret
  exact gives rfl (bool_eq hR.out) (below_drewN' hbw _)

set_option maxRecDepth 20000 in
set_option maxHeartbeats 2000000 in
theorem has7y_w (a b c x y z k n0 n1 n2 k2 K : Int) (p q : ByteArray) (hk : 0 ≤ k) (w : World) (hm : MaxAt w) (HC : ∀ w, MaxAt w → Calls Tryz.prog 26 #[.agg #[.int .i64 x, .int .i64 y, .int .i64 z, .string q], .agg #[.int .i64 a, .int .i64 b, .int .i64 c, .string p]] w (Gives (.int .i64 k) w)) (HK : ∀ w, Calls Tryz.prog 92 #[.agg #[.int .i64 a, .int .i64 b, .int .i64 c, .string p]] w (Gives (.int .i64 K) w)) (HN : ∀ w, Calls Tryz.prog 91 #[.agg #[.int .i64 a, .int .i64 b, .int .i64 c, .string p], .int .i64 K] w (Gives (.agg #[.int .i64 n0, .int .i64 n1, .int .i64 n2, .string ⟨#[]⟩]) w)) (HC2 : ∀ w, MaxAt w → Calls Tryz.prog 26 #[.agg #[.int .i64 x, .int .i64 y, .int .i64 z, .string q], .agg #[.int .i64 n0, .int .i64 n1, .int .i64 n2, .string ⟨#[]⟩]] w (Gives (.int .i64 k2) w)) :
    Calls Tryz.prog 77 #[.agg #[.int .i64 7, .int .i64 a, .int .i64 b, .int .i64 c, .string p], .agg #[.int .i64 x, .int .i64 y, .int .i64 z, .string q]] w (Gives (.bool (decide (k2 < 0))) w) := by
  replace HC := hid HC
  replace HN := hid HN
  replace HC2 := hid HC2
  replace HK := hid HK
  have hb0 := hid (below_alloc (below_alloc (Below.refl w.heap.size w) (.cells #[.int .i64 7, .int .i64 a, .int .i64 b, .int .i64 c, .string p] 40)) (.cells #[.int .i64 x, .int .i64 y, .int .i64 z, .string q] 38))
  obtain ⟨hA, hB⟩ := two_blk w [.int .i64 7, .int .i64 a, .int .i64 b, .int .i64 c, .string p] [.int .i64 x, .int .i64 y, .int .i64 z, .string q] 40 38
  replace hA := hid hA
  replace hB := hid hB
  generalize hR : (decide (k2 < 0)) = R
  replace hR := hid hR
  go_enter Tryz.func77, Tryz.ntmps77
  go_wp2_with (go_at_call 26; (with_reducible refine (HC.out _ (hm.below hb0.out)).mono ?_); rintro e w1 ⟨rfl, hb1⟩; have c0 := (hA.out.below hb1).cell 0 rfl; have hb2 := hid (below_trans hb0.out hb1); have hA1 := hid (hA.out.below hb1); have hB1 := hid (hB.out.below hb1))
  generalize w.heap.size + 1 = v2 at hB1 ⊢
  have hbw := hb2.out
  generalize w.heap.size = v1 at hA1 ⊢
  have i0 := cell_regrown (hA1.out.cell 0 rfl)
  have i1 := cell_regrown (hA1.out.cell 1 rfl)
  have i2 := cell_regrown (hA1.out.cell 2 rfl)
  have i3 := cell_regrown (hA1.out.cell 3 rfl)
  have i4 := cell_regrown (hA1.out.cell 4 rfl)
  have j0 := cell_regrown (hB1.out.cell 0 rfl)
  have j1 := cell_regrown (hB1.out.cell 1 rfl)
  have j2 := cell_regrown (hB1.out.cell 2 rfl)
  have j3 := cell_regrown (hB1.out.cell 3 rfl)
  have qK := hid (show ∀ d os, Calls Tryz.prog 92 #[.agg #[.int .i64 a, .int .i64 b, .int .i64 c, .string p]] (grow (redrawn w1 d) os) fun e w'' => e = .returned (.int .i64 K) ∧ ∃ p : Regrown, w'' = grow (redrawn w1 p.d) p.os from fun d os => Calls.regrown_of (HK.out _))
  have qN := hid (show ∀ d os, Calls Tryz.prog 91 #[.agg #[.int .i64 a, .int .i64 b, .int .i64 c, .string p], .int .i64 K] (grow (redrawn w1 d) os) fun e w'' => e = .returned (.agg #[.int .i64 n0, .int .i64 n1, .int .i64 n2, .string ⟨#[]⟩]) ∧ ∃ p : Regrown, w'' = grow (redrawn w1 p.d) p.os from fun d os => Calls.regrown_of (HN.out _))
  have qC := hid (show ∀ d os, Calls Tryz.prog 26 #[.agg #[.int .i64 x, .int .i64 y, .int .i64 z, .string q], .agg #[.int .i64 n0, .int .i64 n1, .int .i64 n2, .string ⟨#[]⟩]] (grow (redrawn w1 d) os) fun e w'' => e = .returned (.int .i64 k2) ∧ ∃ p : Regrown, w'' = grow (redrawn w1 p.d) p.os from fun d os => Calls.regrown_of (HC2.out _ (hm.below (below_trans hbw (below_regrown w1 d os)))))
  refine wp_region_quiet_below (by kernel_rfl) (by kernel_rfl) ?_
  repeat (quiet_step (first | with_reducible exact qK.out _ _ | with_reducible exact qN.out _ _ | with_reducible exact qC.out _ _))
  refine wpQuiet_nil ?_
  intro _ hw'
  obtain ⟨⟨dq, osq⟩, hw''⟩ := hw'
  subst hw''
  show Exit.then _ _ Exit.normal _ (grow (redrawn w1 dq) osq)
  have hbz := hid (below_trans hbw (below_regrown w1 dq osq))
  clear i0 i1 i2 i3 i4 j0 j1 j2 j3 qK qN qC hA1 hB1
  generalize grow (redrawn w1 dq) osq = W5 at hbz ⊢
  go_wp2_with fail
  go_ret
  exact gives rfl (bool_eq hR.out) hbz.out

end Go.Proofs.YtjiofenpalokoaaGreatDoor.Sp
