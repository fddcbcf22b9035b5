/-
  SEVERAL TEXTS, one behind the other.
-/
import Derived.Test.YtebhgcejcdgdbaaGreatDoorMI
import Derived.Test.YtebhgcejcdgdbaaGreatDoorMK
/-
  LAYER 4, THE DOCUMENT'S OWN: where Near and Same end; does a comparison hold?
-/
namespace Go.Proofs.YtebhgcejcdgdbaaGreatDoor.Sp
open Go.RowKit Go.Sort
open Go.Proofs.YtebhgcejcdgdbaaGreatDoor Go.Proofs.YtebhgcejcdgdbaaGreatDoor.Nu Go.Proofs.YtebhgcejcdgdbaaGreatDoor.Vs

set_option maxRecDepth 20000 in
set_option maxHeartbeats 1000000 in
theorem end7a (a b c : Nat) (pa : Option Addr) (pn pc : Nat) (ha : a < 1000000) (_hb : b < 1000000) (_hc : c < 1000000) (h0 : a ≠ 0) (w : World) :
    Calls Tryz.prog 61 #[.int .i64 7, .agg #[.int .i64 (a : Int), .int .i64 (b : Int), .int .i64 (c : Int), .slice pa pn pc]] w (Gives (.agg #[.int .i64 ((a : Int) + 1), .int .i64 0, .int .i64 0, .slice none 0 0]) w) := by
  have h1 : decide ((0 : Int) < (a : Int)) = true := decide_eq_true (by omega)
  have h2 : decide (0 < a) = true := decide_eq_true (by omega)
  go_enter Tryz.func61, Tryz.ntmps61
  go_wp2_with fail
  have hB := (two_blk w [.int .i64 (a : Int), .int .i64 (b : Int), .int .i64 (c : Int), .slice pa pn pc] [.int .i64 ((a : Int) + 1), .int .i64 0, .int .i64 0, .slice none 0 0] 45 45).2
  have q0 := hB.cell 0 rfl
  have q1 := hB.cell 1 rfl
  have q2 := hB.cell 2 rfl
  have q3 := hB.cell 3 rfl
  exact bodyPost_ret (v := .agg #[.int .i64 ((a : Int) + 1), .int .i64 0, .int .i64 0, .slice none 0 0]) (by simp [results, Tryz.results61, go_sem, q0, q1, q2, q3]) rfl (gives rfl rfl (below_alloc (below_alloc (Below.refl _ _) _) _))

set_option maxRecDepth 20000 in
set_option maxHeartbeats 1000000 in
theorem end7b (a b c : Nat) (pa : Option Addr) (pn pc : Nat) (ha : a < 1000000) (hb : b < 1000000) (_hc : c < 1000000) (h0 : a = 0) (h3 : b ≠ 0) (w : World) :
    Calls Tryz.prog 61 #[.int .i64 7, .agg #[.int .i64 (a : Int), .int .i64 (b : Int), .int .i64 (c : Int), .slice pa pn pc]] w (Gives (.agg #[.int .i64 (a : Int), .int .i64 ((b : Int) + 1), .int .i64 0, .slice none 0 0]) w) := by
  subst h0
  have h1 : decide ((0 : Int) < (b : Int)) = true := decide_eq_true (by omega)
  have h2 : decide (0 < b) = true := decide_eq_true (by omega)
  go_enter Tryz.func61, Tryz.ntmps61
  go_wp2_with fail
  have hB := (two_blk w [.int .i64 0, .int .i64 (b : Int), .int .i64 (c : Int), .slice pa pn pc] [.int .i64 0, .int .i64 ((b : Int) + 1), .int .i64 0, .slice none 0 0] 45 45).2
  have q0 := hB.cell 0 rfl
  have q1 := hB.cell 1 rfl
  have q2 := hB.cell 2 rfl
  have q3 := hB.cell 3 rfl
  exact bodyPost_ret (v := .agg #[.int .i64 0, .int .i64 ((b : Int) + 1), .int .i64 0, .slice none 0 0]) (by simp [results, Tryz.results61, go_sem, q0, q1, q2, q3]) rfl (gives rfl rfl (below_alloc (below_alloc (Below.refl _ _) _) _))

set_option maxRecDepth 20000 in
set_option maxHeartbeats 1000000 in
theorem end7c (a b c : Nat) (pa : Option Addr) (pn pc : Nat) (ha : a < 1000000) (hb : b < 1000000) (hc : c < 1000000) (h0 : a = 0) (h3 : b = 0) (w : World) :
    Calls Tryz.prog 61 #[.int .i64 7, .agg #[.int .i64 (a : Int), .int .i64 (b : Int), .int .i64 (c : Int), .slice pa pn pc]] w (Gives (.agg #[.int .i64 (a : Int), .int .i64 (b : Int), .int .i64 ((c : Int) + 1), .slice none 0 0]) w) := by
  subst h0
  subst h3
  go_enter Tryz.func61, Tryz.ntmps61
  go_wp2_with fail
  have hB := (two_blk w [.int .i64 0, .int .i64 0, .int .i64 (c : Int), .slice pa pn pc] [.int .i64 0, .int .i64 0, .int .i64 ((c : Int) + 1), .slice none 0 0] 45 45).2
  have q0 := hB.cell 0 rfl
  have q1 := hB.cell 1 rfl
  have q2 := hB.cell 2 rfl
  have q3 := hB.cell 3 rfl
  exact bodyPost_ret (v := .agg #[.int .i64 0, .int .i64 0, .int .i64 ((c : Int) + 1), .slice none 0 0]) (by simp [results, Tryz.results61, go_sem, q0, q1, q2, q3]) rfl (gives rfl rfl (below_alloc (below_alloc (Below.refl _ _) _) _))

set_option maxRecDepth 20000 in
set_option maxHeartbeats 1000000 in
theorem end6 (a b c : Nat) (pa : Option Addr) (pn pc : Nat) (_ha : a < 1000000) (hb : b < 1000000) (_hc : c < 1000000)  (w : World) :
    Calls Tryz.prog 61 #[.int .i64 6, .agg #[.int .i64 (a : Int), .int .i64 (b : Int), .int .i64 (c : Int), .slice pa pn pc]] w (Gives (.agg #[.int .i64 (a : Int), .int .i64 ((b : Int) + 1), .int .i64 0, .slice none 0 0]) w) := by
  go_enter Tryz.func61, Tryz.ntmps61
  go_wp2_with fail
  have hB := (two_blk w [.int .i64 (a : Int), .int .i64 (b : Int), .int .i64 (c : Int), .slice pa pn pc] [.int .i64 (a : Int), .int .i64 ((b : Int) + 1), .int .i64 0, .slice none 0 0] 45 45).2
  have q0 := hB.cell 0 rfl
  have q1 := hB.cell 1 rfl
  have q2 := hB.cell 2 rfl
  have q3 := hB.cell 3 rfl
  exact bodyPost_ret (v := .agg #[.int .i64 (a : Int), .int .i64 ((b : Int) + 1), .int .i64 0, .slice none 0 0]) (by simp [results, Tryz.results61, go_sem, q0, q1, q2, q3]) rfl (gives rfl rfl (below_alloc (below_alloc (Below.refl _ _) _) _))

/-- where Near (6) and Same (7) end: a release behind all that they have -/
theorem end_any (op : Nat) (hop : op = 6 ∨ op = 7) (a b c : Nat) (pa : Option Addr) (pn pc : Nat) (ha : a < 1000000) (hb : b < 1000000) (hc : c < 1000000) :
    ∃ n0 n1 n2 : Nat, nextL a b c (if op = 6 then 1 else keptP a b) = [n0, n1, n2] ∧ ∀ w, Calls Tryz.prog 61 #[.int .i64 (op : Int), .agg #[.int .i64 (a : Int), .int .i64 (b : Int), .int .i64 (c : Int), .slice pa pn pc]] w (Gives (.agg #[.int .i64 (n0 : Int), .int .i64 (n1 : Int), .int .i64 (n2 : Int), .slice none 0 0]) w) := by
  rcases hop with rfl | rfl
  · exact ⟨a, b + 1, 0, rfl, fun w => end6 a b c pa pn pc ha hb hc w⟩
  · rw [if_neg (by decide)]
    unfold keptP
    by_cases h0 : a ≠ 0
    · rw [if_pos h0]; exact ⟨a + 1, 0, 0, rfl, fun w => end7a a b c pa pn pc ha hb hc h0 w⟩
    · have h0' : a = 0 := by omega
      rw [if_neg h0]
      by_cases h1 : b ≠ 0
      · rw [if_pos h1]; exact ⟨a, b + 1, 0, rfl, fun w => end7b a b c pa pn pc ha hb hc h0' h1 w⟩
      · have h1' : b = 0 := by omega
        rw [if_neg h1]; exact ⟨a, b, c + 1, rfl, fun w => end7c a b c pa pn pc ha hb hc h0' h1' w⟩
end Go.Proofs.YtebhgcejcdgdbaaGreatDoor.Sp

/-
  LAYER 4, THE DOCUMENT'S OWN: does a comparison hold?
-/
namespace Go.Proofs.YtebhgcejcdgdbaaGreatDoor.Sp
open Go.RowKit Go.Sort
open Go.Proofs.YtebhgcejcdgdbaaGreatDoor Go.Proofs.YtebhgcejcdgdbaaGreatDoor.Nu Go.Proofs.YtebhgcejcdgdbaaGreatDoor.Vs

set_option maxRecDepth 20000 in
set_option maxHeartbeats 1000000 in
theorem holds0_w (a b c x y z k : Int) (pa qa : Option Addr) (pn pc qn qc : Nat) (w : World) (HC : ∀ w', Below w.heap.size w w' → Calls Tryz.prog 22 #[.agg #[.int .i64 x, .int .i64 y, .int .i64 z, .slice qa qn qc], .agg #[.int .i64 a, .int .i64 b, .int .i64 c, .slice pa pn pc]] w' (Gives (.int .i64 k) w')) :
    Calls Tryz.prog 39 #[.agg #[.int .i64 0, .int .i64 a, .int .i64 b, .int .i64 c, .slice pa pn pc], .agg #[.int .i64 x, .int .i64 y, .int .i64 z, .slice qa qn qc]] w (Gives (.bool (k == 0)) w) := by
  replace HC := hid HC
  have hb0 := hid (below_alloc (below_alloc (Below.refl w.heap.size w) (.cells #[.int .i64 0, .int .i64 a, .int .i64 b, .int .i64 c, .slice pa pn pc] 65)) (.cells #[.int .i64 x, .int .i64 y, .int .i64 z, .slice qa qn qc] 45))
  obtain ⟨hA, hB⟩ := two_blk w [.int .i64 0, .int .i64 a, .int .i64 b, .int .i64 c, .slice pa pn pc] [.int .i64 x, .int .i64 y, .int .i64 z, .slice qa qn qc] 65 45
  replace hA := hid hA
  clear hB
  generalize hR : (k == 0) = R
  replace hR := hid hR
  go_enter Tryz.func39, Tryz.ntmps39
  go_wp2_with (go_at_call 22; (with_reducible refine (HC.out _ hb0.out).mono ?_); rintro e w1 ⟨rfl, hb1⟩; have c0 := (hA.out.below hb1).cell 0 rfl; have hb2 := hid (below_trans hb0.out hb1))
  go_ret
  exact gives rfl (bool_eq hR.out) hb2.out

set_option maxRecDepth 20000 in
set_option maxHeartbeats 1000000 in
theorem holds1_w (a b c x y z k : Int) (pa qa : Option Addr) (pn pc qn qc : Nat) (w : World) (HC : ∀ w', Below w.heap.size w w' → Calls Tryz.prog 22 #[.agg #[.int .i64 x, .int .i64 y, .int .i64 z, .slice qa qn qc], .agg #[.int .i64 a, .int .i64 b, .int .i64 c, .slice pa pn pc]] w' (Gives (.int .i64 k) w')) :
    Calls Tryz.prog 39 #[.agg #[.int .i64 1, .int .i64 a, .int .i64 b, .int .i64 c, .slice pa pn pc], .agg #[.int .i64 x, .int .i64 y, .int .i64 z, .slice qa qn qc]] w (Gives (.bool (k != 0)) w) := by
  replace HC := hid HC
  have hb0 := hid (below_alloc (below_alloc (Below.refl w.heap.size w) (.cells #[.int .i64 1, .int .i64 a, .int .i64 b, .int .i64 c, .slice pa pn pc] 65)) (.cells #[.int .i64 x, .int .i64 y, .int .i64 z, .slice qa qn qc] 45))
  obtain ⟨hA, hB⟩ := two_blk w [.int .i64 1, .int .i64 a, .int .i64 b, .int .i64 c, .slice pa pn pc] [.int .i64 x, .int .i64 y, .int .i64 z, .slice qa qn qc] 65 45
  replace hA := hid hA
  clear hB
  generalize hR : (k != 0) = R
  replace hR := hid hR
  go_enter Tryz.func39, Tryz.ntmps39
  go_wp2_with (go_at_call 22; (with_reducible refine (HC.out _ hb0.out).mono ?_); rintro e w1 ⟨rfl, hb1⟩; have c0 := (hA.out.below hb1).cell 0 rfl; have hb2 := hid (below_trans hb0.out hb1))
  go_ret
  exact gives rfl (bool_eq hR.out) hb2.out

set_option maxRecDepth 20000 in
set_option maxHeartbeats 1000000 in
theorem holds2_w (a b c x y z k : Int) (pa qa : Option Addr) (pn pc qn qc : Nat) (w : World) (HC : ∀ w', Below w.heap.size w w' → Calls Tryz.prog 22 #[.agg #[.int .i64 x, .int .i64 y, .int .i64 z, .slice qa qn qc], .agg #[.int .i64 a, .int .i64 b, .int .i64 c, .slice pa pn pc]] w' (Gives (.int .i64 k) w')) :
    Calls Tryz.prog 39 #[.agg #[.int .i64 2, .int .i64 a, .int .i64 b, .int .i64 c, .slice pa pn pc], .agg #[.int .i64 x, .int .i64 y, .int .i64 z, .slice qa qn qc]] w (Gives (.bool (decide (k < 0))) w) := by
  replace HC := hid HC
  have hb0 := hid (below_alloc (below_alloc (Below.refl w.heap.size w) (.cells #[.int .i64 2, .int .i64 a, .int .i64 b, .int .i64 c, .slice pa pn pc] 65)) (.cells #[.int .i64 x, .int .i64 y, .int .i64 z, .slice qa qn qc] 45))
  obtain ⟨hA, hB⟩ := two_blk w [.int .i64 2, .int .i64 a, .int .i64 b, .int .i64 c, .slice pa pn pc] [.int .i64 x, .int .i64 y, .int .i64 z, .slice qa qn qc] 65 45
  replace hA := hid hA
  clear hB
  generalize hR : (decide (k < 0)) = R
  replace hR := hid hR
  go_enter Tryz.func39, Tryz.ntmps39
  go_wp2_with (go_at_call 22; (with_reducible refine (HC.out _ hb0.out).mono ?_); rintro e w1 ⟨rfl, hb1⟩; have c0 := (hA.out.below hb1).cell 0 rfl; have hb2 := hid (below_trans hb0.out hb1))
  go_ret
  exact gives rfl (bool_eq hR.out) hb2.out

set_option maxRecDepth 20000 in
set_option maxHeartbeats 1000000 in
theorem holds3_w (a b c x y z k : Int) (pa qa : Option Addr) (pn pc qn qc : Nat) (w : World) (HC : ∀ w', Below w.heap.size w w' → Calls Tryz.prog 22 #[.agg #[.int .i64 x, .int .i64 y, .int .i64 z, .slice qa qn qc], .agg #[.int .i64 a, .int .i64 b, .int .i64 c, .slice pa pn pc]] w' (Gives (.int .i64 k) w')) :
    Calls Tryz.prog 39 #[.agg #[.int .i64 3, .int .i64 a, .int .i64 b, .int .i64 c, .slice pa pn pc], .agg #[.int .i64 x, .int .i64 y, .int .i64 z, .slice qa qn qc]] w (Gives (.bool (decide (k ≤ 0))) w) := by
  replace HC := hid HC
  have hb0 := hid (below_alloc (below_alloc (Below.refl w.heap.size w) (.cells #[.int .i64 3, .int .i64 a, .int .i64 b, .int .i64 c, .slice pa pn pc] 65)) (.cells #[.int .i64 x, .int .i64 y, .int .i64 z, .slice qa qn qc] 45))
  obtain ⟨hA, hB⟩ := two_blk w [.int .i64 3, .int .i64 a, .int .i64 b, .int .i64 c, .slice pa pn pc] [.int .i64 x, .int .i64 y, .int .i64 z, .slice qa qn qc] 65 45
  replace hA := hid hA
  clear hB
  generalize hR : (decide (k ≤ 0)) = R
  replace hR := hid hR
  go_enter Tryz.func39, Tryz.ntmps39
  go_wp2_with (go_at_call 22; (with_reducible refine (HC.out _ hb0.out).mono ?_); rintro e w1 ⟨rfl, hb1⟩; have c0 := (hA.out.below hb1).cell 0 rfl; have hb2 := hid (below_trans hb0.out hb1))
  go_ret
  exact gives rfl (bool_eq hR.out) hb2.out

set_option maxRecDepth 20000 in
set_option maxHeartbeats 1000000 in
theorem holds4_w (a b c x y z k : Int) (pa qa : Option Addr) (pn pc qn qc : Nat) (w : World) (HC : ∀ w', Below w.heap.size w w' → Calls Tryz.prog 22 #[.agg #[.int .i64 x, .int .i64 y, .int .i64 z, .slice qa qn qc], .agg #[.int .i64 a, .int .i64 b, .int .i64 c, .slice pa pn pc]] w' (Gives (.int .i64 k) w')) :
    Calls Tryz.prog 39 #[.agg #[.int .i64 4, .int .i64 a, .int .i64 b, .int .i64 c, .slice pa pn pc], .agg #[.int .i64 x, .int .i64 y, .int .i64 z, .slice qa qn qc]] w (Gives (.bool (decide (0 < k))) w) := by
  replace HC := hid HC
  have hb0 := hid (below_alloc (below_alloc (Below.refl w.heap.size w) (.cells #[.int .i64 4, .int .i64 a, .int .i64 b, .int .i64 c, .slice pa pn pc] 65)) (.cells #[.int .i64 x, .int .i64 y, .int .i64 z, .slice qa qn qc] 45))
  obtain ⟨hA, hB⟩ := two_blk w [.int .i64 4, .int .i64 a, .int .i64 b, .int .i64 c, .slice pa pn pc] [.int .i64 x, .int .i64 y, .int .i64 z, .slice qa qn qc] 65 45
  replace hA := hid hA
  clear hB
  generalize hR : (decide (0 < k)) = R
  replace hR := hid hR
  go_enter Tryz.func39, Tryz.ntmps39
  go_wp2_with (go_at_call 22; (with_reducible refine (HC.out _ hb0.out).mono ?_); rintro e w1 ⟨rfl, hb1⟩; have c0 := (hA.out.below hb1).cell 0 rfl; have hb2 := hid (below_trans hb0.out hb1))
  go_ret
  exact gives rfl (bool_eq hR.out) hb2.out

set_option maxRecDepth 20000 in
set_option maxHeartbeats 1000000 in
theorem holds5_w (a b c x y z k : Int) (pa qa : Option Addr) (pn pc qn qc : Nat) (w : World) (HC : ∀ w', Below w.heap.size w w' → Calls Tryz.prog 22 #[.agg #[.int .i64 x, .int .i64 y, .int .i64 z, .slice qa qn qc], .agg #[.int .i64 a, .int .i64 b, .int .i64 c, .slice pa pn pc]] w' (Gives (.int .i64 k) w')) :
    Calls Tryz.prog 39 #[.agg #[.int .i64 5, .int .i64 a, .int .i64 b, .int .i64 c, .slice pa pn pc], .agg #[.int .i64 x, .int .i64 y, .int .i64 z, .slice qa qn qc]] w (Gives (.bool (decide (0 ≤ k))) w) := by
  replace HC := hid HC
  have hb0 := hid (below_alloc (below_alloc (Below.refl w.heap.size w) (.cells #[.int .i64 5, .int .i64 a, .int .i64 b, .int .i64 c, .slice pa pn pc] 65)) (.cells #[.int .i64 x, .int .i64 y, .int .i64 z, .slice qa qn qc] 45))
  obtain ⟨hA, hB⟩ := two_blk w [.int .i64 5, .int .i64 a, .int .i64 b, .int .i64 c, .slice pa pn pc] [.int .i64 x, .int .i64 y, .int .i64 z, .slice qa qn qc] 65 45
  replace hA := hid hA
  clear hB
  generalize hR : (decide (0 ≤ k)) = R
  replace hR := hid hR
  go_enter Tryz.func39, Tryz.ntmps39
  go_wp2_with (go_at_call 22; (with_reducible refine (HC.out _ hb0.out).mono ?_); rintro e w1 ⟨rfl, hb1⟩; have c0 := (hA.out.below hb1).cell 0 rfl; have hb2 := hid (below_trans hb0.out hb1))
  go_ret
  exact gives rfl (bool_eq hR.out) hb2.out

set_option maxRecDepth 20000 in
set_option maxHeartbeats 1000000 in
theorem holds8_w (a b c x y z k : Int) (pa qa : Option Addr) (pn pc qn qc : Nat) (w : World) (HC : ∀ w', Below w.heap.size w w' → Calls Tryz.prog 22 #[.agg #[.int .i64 x, .int .i64 y, .int .i64 z, .slice qa qn qc], .agg #[.int .i64 a, .int .i64 b, .int .i64 c, .slice pa pn pc]] w' (Gives (.int .i64 k) w')) :
    Calls Tryz.prog 39 #[.agg #[.int .i64 8, .int .i64 a, .int .i64 b, .int .i64 c, .slice pa pn pc], .agg #[.int .i64 x, .int .i64 y, .int .i64 z, .slice qa qn qc]] w (Gives (.bool true) w) := by
  replace HC := hid HC
  have hb0 := hid (below_alloc (below_alloc (Below.refl w.heap.size w) (.cells #[.int .i64 8, .int .i64 a, .int .i64 b, .int .i64 c, .slice pa pn pc] 65)) (.cells #[.int .i64 x, .int .i64 y, .int .i64 z, .slice qa qn qc] 45))
  obtain ⟨hA, hB⟩ := two_blk w [.int .i64 8, .int .i64 a, .int .i64 b, .int .i64 c, .slice pa pn pc] [.int .i64 x, .int .i64 y, .int .i64 z, .slice qa qn qc] 65 45
  replace hA := hid hA
  clear hB
  generalize hR : true = R
  replace hR := hid hR
  go_enter Tryz.func39, Tryz.ntmps39
  go_wp2_with (go_at_call 22; (with_reducible refine (HC.out _ hb0.out).mono ?_); rintro e w1 ⟨rfl, hb1⟩; have c0 := (hA.out.below hb1).cell 0 rfl; have hb2 := hid (below_trans hb0.out hb1))
  go_ret
  exact gives rfl (bool_eq hR.out) hb2.out

set_option maxRecDepth 20000 in
set_option maxHeartbeats 2000000 in
theorem holds6n_w (a b c x y z k : Int) (pa qa : Option Addr) (pn pc qn qc : Nat) (hk : ¬ 0 ≤ k) (w : World) (HC : ∀ w', Below w.heap.size w w' → Calls Tryz.prog 22 #[.agg #[.int .i64 x, .int .i64 y, .int .i64 z, .slice qa qn qc], .agg #[.int .i64 a, .int .i64 b, .int .i64 c, .slice pa pn pc]] w' (Gives (.int .i64 k) w')) :
    Calls Tryz.prog 39 #[.agg #[.int .i64 6, .int .i64 a, .int .i64 b, .int .i64 c, .slice pa pn pc], .agg #[.int .i64 x, .int .i64 y, .int .i64 z, .slice qa qn qc]] w (Gives (.bool false) w) := by
  replace HC := hid HC
  have hk' : decide (0 ≤ k) = false := decide_eq_false hk
  clear hk
  have hb0 := hid (below_alloc (below_alloc (Below.refl w.heap.size w) (.cells #[.int .i64 6, .int .i64 a, .int .i64 b, .int .i64 c, .slice pa pn pc] 65)) (.cells #[.int .i64 x, .int .i64 y, .int .i64 z, .slice qa qn qc] 45))
  obtain ⟨hA, hB⟩ := two_blk w [.int .i64 6, .int .i64 a, .int .i64 b, .int .i64 c, .slice pa pn pc] [.int .i64 x, .int .i64 y, .int .i64 z, .slice qa qn qc] 65 45
  replace hA := hid hA
  replace hB := hid hB
  generalize hR : false = R
  replace hR := hid hR
  go_enter Tryz.func39, Tryz.ntmps39
  go_wp2_with (go_at_call 22; (with_reducible refine (HC.out _ hb0.out).mono ?_); rintro e w1 ⟨rfl, hb1⟩; have c0 := (hA.out.below hb1).cell 0 rfl; have hb2 := hid (below_trans hb0.out hb1); have hA1 := hid (hA.out.below hb1); have hB1 := hid (hB.out.below hb1))
  generalize w.heap.size + 1 = v2 at hB1 ⊢
  have hbw := hb2.out
  have B := hid (fun d os => below_trans hbw (below_regrown w1 d os))
  generalize w.heap.size = v1 at hA1 ⊢
  have i0 := cell_regrown (hA1.out.cell 0 rfl)
  have i1 := cell_regrown (hA1.out.cell 1 rfl)
  have i2 := cell_regrown (hA1.out.cell 2 rfl)
  have i3 := cell_regrown (hA1.out.cell 3 rfl)
  have i4 := cell_regrown (hA1.out.cell 4 rfl)
  have j0 := cell_regrown (hB1.out.cell 0 rfl)
  have j1 := cell_regrown (hB1.out.cell 1 rfl)
  have j2 := cell_regrown (hB1.out.cell 2 rfl)
  have j3 := cell_regrown (hB1.out.cell 3 rfl)
  refine wp_region_quiet_below (by kernel_rfl) (by kernel_rfl) ?_
  repeat (go_big_quiet_step (fail))
  refine wpQuiet_nil ?_
  intro _ hw'
  obtain ⟨⟨dq, osq⟩, hw''⟩ := hw'
  subst hw''
  show Exit.then _ _ Exit.normal _ (grow (redrawn w1 dq) osq)
  have hbz := hid (below_trans hbw (below_regrown w1 dq osq))
  clear i0 i1 i2 i3 i4 j0 j1 j2 j3 hA1 hB1 B
  generalize grow (redrawn w1 dq) osq = W5 at hbz ⊢
  go_wp2_with fail
  go_ret
  exact gives rfl (bool_eq hR.out) hbz.out

set_option maxRecDepth 20000 in
set_option maxHeartbeats 2000000 in
theorem holds6y_w (a b c x y z k n0 n1 n2 k2 : Int) (pa qa : Option Addr) (pn pc qn qc : Nat) (hk : 0 ≤ k) (w : World) (HC : ∀ w', Below w.heap.size w w' → Calls Tryz.prog 22 #[.agg #[.int .i64 x, .int .i64 y, .int .i64 z, .slice qa qn qc], .agg #[.int .i64 a, .int .i64 b, .int .i64 c, .slice pa pn pc]] w' (Gives (.int .i64 k) w')) (HE : ∀ w', Calls Tryz.prog 61 #[.int .i64 6, .agg #[.int .i64 a, .int .i64 b, .int .i64 c, .slice pa pn pc]] w' (Gives (.agg #[.int .i64 n0, .int .i64 n1, .int .i64 n2, .slice none 0 0]) w')) (HC2 : ∀ w', Below w.heap.size w w' → Calls Tryz.prog 22 #[.agg #[.int .i64 x, .int .i64 y, .int .i64 z, .slice qa qn qc], .agg #[.int .i64 n0, .int .i64 n1, .int .i64 n2, .slice none 0 0]] w' (Gives (.int .i64 k2) w')) :
    Calls Tryz.prog 39 #[.agg #[.int .i64 6, .int .i64 a, .int .i64 b, .int .i64 c, .slice pa pn pc], .agg #[.int .i64 x, .int .i64 y, .int .i64 z, .slice qa qn qc]] w (Gives (.bool (decide (k2 < 0))) w) := by
  replace HC := hid HC
  replace HE := hid HE
  replace HC2 := hid HC2
  have hb0 := hid (below_alloc (below_alloc (Below.refl w.heap.size w) (.cells #[.int .i64 6, .int .i64 a, .int .i64 b, .int .i64 c, .slice pa pn pc] 65)) (.cells #[.int .i64 x, .int .i64 y, .int .i64 z, .slice qa qn qc] 45))
  obtain ⟨hA, hB⟩ := two_blk w [.int .i64 6, .int .i64 a, .int .i64 b, .int .i64 c, .slice pa pn pc] [.int .i64 x, .int .i64 y, .int .i64 z, .slice qa qn qc] 65 45
  replace hA := hid hA
  replace hB := hid hB
  generalize hR : (decide (k2 < 0)) = R
  replace hR := hid hR
  go_enter Tryz.func39, Tryz.ntmps39
  go_wp2_with (go_at_call 22; (with_reducible refine (HC.out _ hb0.out).mono ?_); rintro e w1 ⟨rfl, hb1⟩; have c0 := (hA.out.below hb1).cell 0 rfl; have hb2 := hid (below_trans hb0.out hb1); have hA1 := hid (hA.out.below hb1); have hB1 := hid (hB.out.below hb1))
  generalize w.heap.size + 1 = v2 at hB1 ⊢
  have hbw := hb2.out
  have B := hid (fun d os => below_trans hbw (below_regrown w1 d os))
  have qE := hid (show ∀ d os, Calls Tryz.prog 61 #[.int .i64 6, .agg #[.int .i64 a, .int .i64 b, .int .i64 c, .slice pa pn pc]] (grow (redrawn w1 d) os) fun e w'' => e = .returned (.agg #[.int .i64 n0, .int .i64 n1, .int .i64 n2, .slice none 0 0]) ∧ ∃ p : Regrown, w'' = grow (redrawn w1 p.d) p.os from fun d os => Calls.regrown_of (HE.out _))
  have qC := hid (show ∀ d os, Calls Tryz.prog 22 #[.agg #[.int .i64 x, .int .i64 y, .int .i64 z, .slice qa qn qc], .agg #[.int .i64 n0, .int .i64 n1, .int .i64 n2, .slice none 0 0]] (grow (redrawn w1 d) os) fun e w'' => e = .returned (.int .i64 k2) ∧ ∃ p : Regrown, w'' = grow (redrawn w1 p.d) p.os from fun d os => Calls.regrown_of (HC2.out _ (B.out d os)))
  generalize w.heap.size = v1 at hA1 ⊢
  have i0 := cell_regrown (hA1.out.cell 0 rfl)
  have i1 := cell_regrown (hA1.out.cell 1 rfl)
  have i2 := cell_regrown (hA1.out.cell 2 rfl)
  have i3 := cell_regrown (hA1.out.cell 3 rfl)
  have i4 := cell_regrown (hA1.out.cell 4 rfl)
  have j0 := cell_regrown (hB1.out.cell 0 rfl)
  have j1 := cell_regrown (hB1.out.cell 1 rfl)
  have j2 := cell_regrown (hB1.out.cell 2 rfl)
  have j3 := cell_regrown (hB1.out.cell 3 rfl)
  refine wp_region_quiet_below (by kernel_rfl) (by kernel_rfl) ?_
  repeat (quiet_step (first | with_reducible exact qE.out _ _ | with_reducible exact qC.out _ _))
  refine wpQuiet_nil ?_
  intro _ hw'
  obtain ⟨⟨dq, osq⟩, hw''⟩ := hw'
  subst hw''
  show Exit.then _ _ Exit.normal _ (grow (redrawn w1 dq) osq)
  have hbz := hid (below_trans hbw (below_regrown w1 dq osq))
  clear i0 i1 i2 i3 i4 j0 j1 j2 j3 qE qC hA1 hB1 B
  generalize grow (redrawn w1 dq) osq = W5 at hbz ⊢
  go_wp2_with fail
  go_ret
  exact gives rfl (bool_eq hR.out) hbz.out

set_option maxRecDepth 20000 in
set_option maxHeartbeats 2000000 in
theorem holds7n_w (a b c x y z k : Int) (pa qa : Option Addr) (pn pc qn qc : Nat) (hk : ¬ 0 ≤ k) (w : World) (HC : ∀ w', Below w.heap.size w w' → Calls Tryz.prog 22 #[.agg #[.int .i64 x, .int .i64 y, .int .i64 z, .slice qa qn qc], .agg #[.int .i64 a, .int .i64 b, .int .i64 c, .slice pa pn pc]] w' (Gives (.int .i64 k) w')) :
    Calls Tryz.prog 39 #[.agg #[.int .i64 7, .int .i64 a, .int .i64 b, .int .i64 c, .slice pa pn pc], .agg #[.int .i64 x, .int .i64 y, .int .i64 z, .slice qa qn qc]] w (Gives (.bool false) w) := by
  replace HC := hid HC
  have hk' : decide (0 ≤ k) = false := decide_eq_false hk
  clear hk
  have hb0 := hid (below_alloc (below_alloc (Below.refl w.heap.size w) (.cells #[.int .i64 7, .int .i64 a, .int .i64 b, .int .i64 c, .slice pa pn pc] 65)) (.cells #[.int .i64 x, .int .i64 y, .int .i64 z, .slice qa qn qc] 45))
  obtain ⟨hA, hB⟩ := two_blk w [.int .i64 7, .int .i64 a, .int .i64 b, .int .i64 c, .slice pa pn pc] [.int .i64 x, .int .i64 y, .int .i64 z, .slice qa qn qc] 65 45
  replace hA := hid hA
  replace hB := hid hB
  generalize hR : false = R
  replace hR := hid hR
  go_enter Tryz.func39, Tryz.ntmps39
  go_wp2_with (go_at_call 22; (with_reducible refine (HC.out _ hb0.out).mono ?_); rintro e w1 ⟨rfl, hb1⟩; have c0 := (hA.out.below hb1).cell 0 rfl; have hb2 := hid (below_trans hb0.out hb1); have hA1 := hid (hA.out.below hb1); have hB1 := hid (hB.out.below hb1))
  generalize w.heap.size + 1 = v2 at hB1 ⊢
  have hbw := hb2.out
  have B := hid (fun d os => below_trans hbw (below_regrown w1 d os))
  generalize w.heap.size = v1 at hA1 ⊢
  have i0 := cell_regrown (hA1.out.cell 0 rfl)
  have i1 := cell_regrown (hA1.out.cell 1 rfl)
  have i2 := cell_regrown (hA1.out.cell 2 rfl)
  have i3 := cell_regrown (hA1.out.cell 3 rfl)
  have i4 := cell_regrown (hA1.out.cell 4 rfl)
  have j0 := cell_regrown (hB1.out.cell 0 rfl)
  have j1 := cell_regrown (hB1.out.cell 1 rfl)
  have j2 := cell_regrown (hB1.out.cell 2 rfl)
  have j3 := cell_regrown (hB1.out.cell 3 rfl)
  refine wp_region_quiet_below (by kernel_rfl) (by kernel_rfl) ?_
  repeat (go_big_quiet_step (fail))
  refine wpQuiet_nil ?_
  intro _ hw'
  obtain ⟨⟨dq, osq⟩, hw''⟩ := hw'
  subst hw''
  show Exit.then _ _ Exit.normal _ (grow (redrawn w1 dq) osq)
  have hbz := hid (below_trans hbw (below_regrown w1 dq osq))
  clear i0 i1 i2 i3 i4 j0 j1 j2 j3 hA1 hB1 B
  generalize grow (redrawn w1 dq) osq = W5 at hbz ⊢
  go_wp2_with fail
  go_ret
  exact gives rfl (bool_eq hR.out) hbz.out

set_option maxRecDepth 20000 in
set_option maxHeartbeats 2000000 in
theorem holds7y_w (a b c x y z k n0 n1 n2 k2 : Int) (pa qa : Option Addr) (pn pc qn qc : Nat) (hk : 0 ≤ k) (w : World) (HC : ∀ w', Below w.heap.size w w' → Calls Tryz.prog 22 #[.agg #[.int .i64 x, .int .i64 y, .int .i64 z, .slice qa qn qc], .agg #[.int .i64 a, .int .i64 b, .int .i64 c, .slice pa pn pc]] w' (Gives (.int .i64 k) w')) (HE : ∀ w', Calls Tryz.prog 61 #[.int .i64 7, .agg #[.int .i64 a, .int .i64 b, .int .i64 c, .slice pa pn pc]] w' (Gives (.agg #[.int .i64 n0, .int .i64 n1, .int .i64 n2, .slice none 0 0]) w')) (HC2 : ∀ w', Below w.heap.size w w' → Calls Tryz.prog 22 #[.agg #[.int .i64 x, .int .i64 y, .int .i64 z, .slice qa qn qc], .agg #[.int .i64 n0, .int .i64 n1, .int .i64 n2, .slice none 0 0]] w' (Gives (.int .i64 k2) w')) :
    Calls Tryz.prog 39 #[.agg #[.int .i64 7, .int .i64 a, .int .i64 b, .int .i64 c, .slice pa pn pc], .agg #[.int .i64 x, .int .i64 y, .int .i64 z, .slice qa qn qc]] w (Gives (.bool (decide (k2 < 0))) w) := by
  replace HC := hid HC
  replace HE := hid HE
  replace HC2 := hid HC2
  have hb0 := hid (below_alloc (below_alloc (Below.refl w.heap.size w) (.cells #[.int .i64 7, .int .i64 a, .int .i64 b, .int .i64 c, .slice pa pn pc] 65)) (.cells #[.int .i64 x, .int .i64 y, .int .i64 z, .slice qa qn qc] 45))
  obtain ⟨hA, hB⟩ := two_blk w [.int .i64 7, .int .i64 a, .int .i64 b, .int .i64 c, .slice pa pn pc] [.int .i64 x, .int .i64 y, .int .i64 z, .slice qa qn qc] 65 45
  replace hA := hid hA
  replace hB := hid hB
  generalize hR : (decide (k2 < 0)) = R
  replace hR := hid hR
  go_enter Tryz.func39, Tryz.ntmps39
  go_wp2_with (go_at_call 22; (with_reducible refine (HC.out _ hb0.out).mono ?_); rintro e w1 ⟨rfl, hb1⟩; have c0 := (hA.out.below hb1).cell 0 rfl; have hb2 := hid (below_trans hb0.out hb1); have hA1 := hid (hA.out.below hb1); have hB1 := hid (hB.out.below hb1))
  generalize w.heap.size + 1 = v2 at hB1 ⊢
  have hbw := hb2.out
  have B := hid (fun d os => below_trans hbw (below_regrown w1 d os))
  have qE := hid (show ∀ d os, Calls Tryz.prog 61 #[.int .i64 7, .agg #[.int .i64 a, .int .i64 b, .int .i64 c, .slice pa pn pc]] (grow (redrawn w1 d) os) fun e w'' => e = .returned (.agg #[.int .i64 n0, .int .i64 n1, .int .i64 n2, .slice none 0 0]) ∧ ∃ p : Regrown, w'' = grow (redrawn w1 p.d) p.os from fun d os => Calls.regrown_of (HE.out _))
  have qC := hid (show ∀ d os, Calls Tryz.prog 22 #[.agg #[.int .i64 x, .int .i64 y, .int .i64 z, .slice qa qn qc], .agg #[.int .i64 n0, .int .i64 n1, .int .i64 n2, .slice none 0 0]] (grow (redrawn w1 d) os) fun e w'' => e = .returned (.int .i64 k2) ∧ ∃ p : Regrown, w'' = grow (redrawn w1 p.d) p.os from fun d os => Calls.regrown_of (HC2.out _ (B.out d os)))
  generalize w.heap.size = v1 at hA1 ⊢
  have i0 := cell_regrown (hA1.out.cell 0 rfl)
  have i1 := cell_regrown (hA1.out.cell 1 rfl)
  have i2 := cell_regrown (hA1.out.cell 2 rfl)
  have i3 := cell_regrown (hA1.out.cell 3 rfl)
  have i4 := cell_regrown (hA1.out.cell 4 rfl)
  have j0 := cell_regrown (hB1.out.cell 0 rfl)
  have j1 := cell_regrown (hB1.out.cell 1 rfl)
  have j2 := cell_regrown (hB1.out.cell 2 rfl)
  have j3 := cell_regrown (hB1.out.cell 3 rfl)
  refine wp_region_quiet_below (by kernel_rfl) (by kernel_rfl) ?_
  repeat (quiet_step (first | with_reducible exact qE.out _ _ | with_reducible exact qC.out _ _))
  refine wpQuiet_nil ?_
  intro _ hw'
  obtain ⟨⟨dq, osq⟩, hw''⟩ := hw'
  subst hw''
  show Exit.then _ _ Exit.normal _ (grow (redrawn w1 dq) osq)
  have hbz := hid (below_trans hbw (below_regrown w1 dq osq))
  clear i0 i1 i2 i3 i4 j0 j1 j2 j3 qE qC hA1 hB1 B
  generalize grow (redrawn w1 dq) osq = W5 at hbz ⊢
  go_wp2_with fail
  go_ret
  exact gives rfl (bool_eq hR.out) hbz.out

/-- the document's Holds: as package spec's own -/
theorem holds_any (c : CompT) (hc : OkC c) (x y z : Nat) (q : List UInt8) (hq : q = [] ∨ preV q = true) (pa qa : Option Addr) (pc qc : Nat) (w : World) (h1 : PreAt w (.slice pa (rows c.p).length pc) (rows c.p)) (h2 : PreAt w (.slice qa (rows q).length qc) (rows q)) :
    Calls Tryz.prog 39 #[.agg #[.int .i64 (c.op : Int), .int .i64 (c.a : Int), .int .i64 (c.b : Int), .int .i64 (c.c : Int), .slice pa (rows c.p).length pc], .agg #[.int .i64 (x : Int), .int .i64 (y : Int), .int .i64 (z : Int), .slice qa (rows q).length qc]] w (Gives (.bool (compHas c x y z q)) w) := by
  rcases hc with ⟨h8, ha, hb, hcc, hp⟩ | rfl
  · obtain ⟨op, a, b, c, p⟩ := c
    simp only at h8 ha hb hcc hp h1 ⊢
    have HC := fun w' (hw : Below w.heap.size w w') => rcompare_any x y z a b c q p (okPre_of hq) (okPre_of hp) _ _ w' (h2.below hw) (h1.below hw)
    have HN := fun n0 n1 n2 w' (hw : Below w.heap.size w w') => rcompare_any x y z n0 n1 n2 q [] (okPre_of hq) ⟨by simp, .inl rfl⟩ _ (.slice none 0 0) w' (h2.below hw) (.inl ⟨rfl, rfl⟩)
    have ways : op = 0 ∨ op = 1 ∨ op = 2 ∨ op = 3 ∨ op = 4 ∨ op = 5 ∨ op = 6 ∨ op = 7 := by omega
    rcases ways with rfl | rfl | rfl | rfl | rfl | rfl | rfl | rfl
    · rw [compHas_lt (by decide)]; exact holds0_w a b c x y z _ pa qa _ pc _ qc w HC
    · rw [compHas_lt (by decide)]; exact holds1_w a b c x y z _ pa qa _ pc _ qc w HC
    · rw [compHas_lt (by decide)]; exact holds2_w a b c x y z _ pa qa _ pc _ qc w HC
    · rw [compHas_lt (by decide)]; exact holds3_w a b c x y z _ pa qa _ pc _ qc w HC
    · rw [compHas_lt (by decide)]; exact holds4_w a b c x y z _ pa qa _ pc _ qc w HC
    · rw [compHas_lt (by decide)]; exact holds5_w a b c x y z _ pa qa _ pc _ qc w HC
    · rw [compHas_6]
      by_cases hk : 0 ≤ cmpV [x, y, z] [a, b, c] q p
      · rw [decide_eq_true hk, Bool.true_and]
        obtain ⟨n0, n1, n2, hn, HE⟩ := end_any 6 (.inl rfl) a b c pa (rows p).length pc ha hb hcc
        rw [if_pos rfl] at hn
        rw [hn]
        exact holds6y_w a b c x y z _ n0 n1 n2 _ pa qa _ pc _ qc hk w HC HE (HN n0 n1 n2)
      · rw [decide_eq_false hk, Bool.false_and]
        exact holds6n_w a b c x y z _ pa qa _ pc _ qc hk w HC
    · rw [compHas_7]
      by_cases hk : 0 ≤ cmpV [x, y, z] [a, b, c] q p
      · rw [decide_eq_true hk, Bool.true_and]
        obtain ⟨n0, n1, n2, hn, HE⟩ := end_any 7 (.inr rfl) a b c pa (rows p).length pc ha hb hcc
        rw [if_neg (by decide)] at hn
        rw [hn]
        exact holds7y_w a b c x y z _ n0 n1 n2 _ pa qa _ pc _ qc hk w HC HE (HN n0 n1 n2)
      · rw [decide_eq_false hk, Bool.false_and]
        exact holds7n_w a b c x y z _ pa qa _ pc _ qc hk w HC
  · exact holds8_w 0 0 0 x y z _ pa qa _ pc _ qc w (fun w' hw => rcompare_any x y z 0 0 0 q [] (okPre_of hq) ⟨by simp, .inl rfl⟩ _ _ w' (h2.below hw) (h1.below hw))
end Go.Proofs.YtebhgcejcdgdbaaGreatDoor.Sp

/-
  LAYER 4, THE DOCUMENT'S OWN: Has: do alternatives have a version?
-/
namespace Go.Proofs.YtebhgcejcdgdbaaGreatDoor.Sp
open Go.RowKit Go.Sort
open Go.Proofs.YtebhgcejcdgdbaaGreatDoor Go.Proofs.YtebhgcejcdgdbaaGreatDoor.Nu Go.Proofs.YtebhgcejcdgdbaaGreatDoor.Vs

theorem opens_rows (c : CompT) (x y z : Nat) : opens c x y z = (decide ((0 : Int) < ((rows c.p).length : Int)) && ((c.a : Int) == (x : Int)) && ((c.b : Int) == (y : Int)) && ((c.c : Int) == (z : Int))) := by
  unfold opens
  have e1 : decide (c.p ≠ []) = decide ((0 : Int) < ((rows c.p).length : Int)) := by
    rw [decide_eq_decide]
    constructor
    · intro h
      have : 0 < (rows c.p).length := List.length_pos_iff.2 (fun e => h (rows_nil.1 e))
      omega
    · intro h e
      rw [rows_nil.2 e] at h; simp at h
  rw [e1, Bool.and_assoc, Bool.and_assoc]
  congr 1
  rw [Bool.eq_iff_iff]
  simp only [Bool.and_eq_true, beq_iff_eq, decide_eq_true_eq, List.cons.injEq, and_true]
  omega
theorem rows_zero (q : List UInt8) : (((rows q).length : Int) == 0) = decide (q = []) := by
  rw [Bool.eq_iff_iff, beq_iff_eq, decide_eq_true_eq, ← rows_nil, ← List.length_eq_zero_iff]
  omega

set_option maxRecDepth 20000 in
set_option maxHeartbeats 8000000 in
theorem rrhas_w (rs : List (List CompT)) (v : Value) (h4 : rs.length ≤ 4) (hok : ∀ cs, cs ∈ rs → 1 ≤ cs.length ∧ cs.length ≤ 4 ∧ ∀ c, c ∈ cs → OkC c) (F O : CompT → Bool) (ob0 : Bool) (xi yi zi : Int) (qa : Option Addr) (qn qc : Nat) (w : World) (hr : RRngAt w v rs) (hq0 : ((qn : Int) == 0) = ob0)
    (HH : ∀ c, OkC c → ∀ pa pc w', Below w.heap.size w w' → PreAt w' (.slice pa (rows c.p).length pc) (rows c.p) → Calls Tryz.prog 39 #[.agg #[.int .i64 (c.op : Int), .int .i64 (c.a : Int), .int .i64 (c.b : Int), .int .i64 (c.c : Int), .slice pa (rows c.p).length pc], .agg #[.int .i64 xi, .int .i64 yi, .int .i64 zi, .slice qa qn qc]] w' (Gives (.bool (F c)) w'))
    (HO : ∀ c, O c = (decide ((0 : Int) < ((rows c.p).length : Int)) && ((c.a : Int) == xi) && ((c.b : Int) == yi) && ((c.c : Int) == zi))) :
    Calls Tryz.prog 21 #[v, .agg #[.int .i64 xi, .int .i64 yi, .int .i64 zi, .slice qa qn qc]] w (Gives (.bool (rs.any fun cs => cs.all F && (ob0 || cs.any O))) w) := by
  obtain ⟨G, cp, vs, rfl, hcp, hcm, hGl, hGc, hal⟩ := hr
  have HAT := hid hal.2
  have HOK := hid hok
  have h4' := hid h4
  replace hGc := hid hGc
  have hcp' := hid hcp
  replace HH := hid HH
  replace HO := hid HO
  clear hal hok h4 hcp
  generalize hR : (rs.any fun cs => cs.all F && (ob0 || cs.any O)) = R
  replace hR := hid hR
  have hb0 := hid (below_alloc (Below.refl w.heap.size w) (.cells #[.int .i64 xi, .int .i64 yi, .int .i64 zi, .slice qa qn qc] 45))
  have hn0 := hid (Blk.new w [.int .i64 xi, .int .i64 yi, .int .i64 zi, .slice qa qn qc] 45)
  go_enter Tryz.func21, Tryz.ntmps21
  go_wp2_with fail
  generalize w.alloc (.cells [.int .i64 xi, .int .i64 yi, .int .i64 zi, .slice qa qn qc].toArray 45) = W at hb0 hn0 ⊢
  generalize hbe : w.heap.size = b at hn0 ⊢
  replace hbe := hid hbe
  go_loopw [5, 6, 7, 8, 9] (fun i _ _ _ _ wr => ∃ (k : Nat), k ≤ rs.length ∧ i = .int .i64 k ∧ Hid (Below w.heap.size w wr) ∧ Hid (Blk wr b [.int .i64 xi, .int .i64 yi, .int .i64 zi, .slice qa qn qc] 45) ∧ Hid ((rs.take k).any (fun cs => cs.all F && (ob0 || cs.any O)) = false)) (fun i _ _ _ _ _ => rs.length - (intOf i).toNat)
  case atStart => exact ⟨0, by omega, rfl, hb0, hn0, hid rfl⟩
  case round =>
    obtain ⟨k, hk, rfl, hb, hn, hof⟩ := hrel
    clear hb0 hn0
    by_cases hlt : k < rs.length
    · have k4 : k < 4 := by have := h4'.out; omega
      have hx := List.getElem?_eq_getElem hlt
      generalize rs[k] = cs at hx
      have hcs := HOK.out cs (List.mem_of_getElem? hx)
      obtain ⟨hcn, v, hv1, hv2⟩ := HAT.out k cs hx
      obtain ⟨B, cq, ds, rfl, hq1, hq2, hBl, hds, hpr, hBc⟩ := hv2
      have hgk := hGc.out k _ hv1
      have hdl := hid (show ds.length = cs.length by rw [← hds, List.length_map])
      have hDS := hid hds
      have hPR := hid hpr
      have hBC := hid hBc
      have HC := hid hcs.2.2
      have hc4 : cs.length ≤ 4 := hcs.2.1
      have STEP := hid (@any_step _ (fun cs => cs.all F && (ob0 || cs.any O)) rs k cs hx)
      have ON := hid (fun h => @any_on _ (fun cs => cs.all F && (ob0 || cs.any O)) rs k cs hx h)
      clear hx hv1 hds hpr hBc hcs hcn
      have n3 := cell_regrown (hn.out.cell 3 rfl)
      have nl := hn.out.lt
      have B9 := hid (fun d os => below_trans hb.out (below_regrown wr d os))
      go_wp2_with fail
      refine wp_region_quiet_below (by kernel_rfl) (by kernel_rfl) ?_
      repeat (quiet_step (fail))
      refine wpQuiet_nil ?_
      intro _ hw'
      obtain ⟨⟨dq, osq⟩, hw''⟩ := hw'
      subst hw''
      show Exit.then _ _ Exit.normal _ (grow (redrawn wr dq) osq)
      have hbz := hid (B9.out dq osq)
      have hnz := hid (hn.out.below (below_regrown wr dq osq))
      clear n3 nl B9 hb hn
      generalize grow (redrawn wr dq) osq = W5 at hbz hnz ⊢
      go_wp2_with fail
      go_loopw [6, 7, 8, 9] (fun a n i _ wr2 => ∃ (j : Nat) (A N : Bool), j ≤ cs.length ∧ i = .int .i64 j ∧ a = .bool A ∧ n = .bool N ∧ Hid (Below w.heap.size w wr2) ∧ Hid (Blk wr2 b [.int .i64 xi, .int .i64 yi, .int .i64 zi, .slice qa qn qc] 45) ∧ Hid (A = (cs.take j).all F) ∧ Hid (N = (ob0 || (cs.take j).any O))) (fun _ _ i _ _ => cs.length - (intOf i).toNat)
      case atStart => exact ⟨0, true, ob0, by omega, rfl, rfl, rfl, hbz, hnz, hid rfl, hid (by simp)⟩
      case round =>
        obtain ⟨j, A, N, hj, rfl, rfl, rfl, hb2, hn2, hA, hN⟩ := hrel
        have g0 := bc hb2.out hgk
        have yg := Nat.lt_of_lt_of_le hGl hb2.out.size
        by_cases hlt2 : j < cs.length
        · have j4 : j < 4 := by omega
          have hlt3 : j < ds.length := by have := hdl.out; omega
          have hd := List.getElem?_eq_getElem hlt3
          generalize ds[j] = d at hd
          obtain ⟨e0, e1, e2, e3, e4⟩ := elem_rc hBC.out hd
          have hcj := hid (show cs[j]? = some d.1 by rw [← hDS.out, List.getElem?_map, hd]; rfl)
          have hpd := hPR.out d (List.mem_of_getElem? hd)
          have hokc := hid (HC.out d.1 (List.mem_of_getElem? hcj.out))
          clear hd
          obtain ⟨c, pv⟩ := d
          dsimp only at e0 e1 e2 e3 e4 hcj hpd hokc
          obtain ⟨pa, pc, rfl⟩ := hpd.shape
          have TA := hid (show (cs.take (j + 1)).all F = ((cs.take j).all F && F c) by rw [List.take_add_one, hcj.out, List.all_append]; simp)
          have TN := hid (@any_step _ O cs j c hcj.out)
          have y0 := bc hb2.out e0
          have y1 := bc hb2.out e1
          have y2 := bc hb2.out e2
          have y3 := bc hb2.out e3
          have y4 := bc hb2.out e4
          have yl := Nat.lt_of_lt_of_le hBl hb2.out.size
          have HHc := hid (fun w' (hb : Below w.heap.size w w') => HH.out c hokc.out pa pc w' hb (hpd.below hb))
          have hO := hid (HO.out c)
          clear hcj hpd e0 e1 e2 e3 e4
          generalize (c.op : Int) = oi at HHc y0
          generalize (c.a : Int) = ai at HHc y1 hO
          generalize (c.b : Int) = bi at HHc y2 hO
          generalize (c.c : Int) = ci at HHc y3 hO
          generalize (rows c.p).length = pn at HHc y4 hO
          have hbn := hid (below_alloc hb2.out (.cells #[.int .i64 oi, .int .i64 ai, .int .i64 bi, .int .i64 ci, .slice pa pn pc] 65))
          have hnn := hid (hn2.out.alloc (.cells #[.int .i64 oi, .int .i64 ai, .int .i64 bi, .int .i64 ci, .slice pa pn pc] 65))
          have hcn := hid (Blk.new wr [.int .i64 oi, .int .i64 ai, .int .i64 bi, .int .i64 ci, .slice pa pn pc] 65)
          have m0 := hn2.out.cell 0 rfl
          have m1 := hn2.out.cell 1 rfl
          have m2 := hn2.out.cell 2 rfl
          have m3 := hn2.out.cell 3 rfl
          have ml := hn2.out.lt
          cases A
          · clear HHc hcn
            have hz1 := hbn
            have hz2 := hnn
            cases hp : decide ((0 : Int) < (pn : Int))
            · have hoc := hid (show O c = false by rw [hO.out, hp]; rfl)
              have p0 : pn = 0 := by have := of_decide_eq_false hp; omega
              subst p0
              clear hp
              go_wp2_with fail
              go_roundw
              case rel => exact ⟨j + 1, false, N, by omega, by go_num, rfl, rfl, hz1, hz2, hid (by rw [TA.out, ← hA.out]; rfl), hid (by rw [TN.out, ← Bool.or_assoc, ← hN.out, hoc.out]; cases N <;> rfl)⟩
              case measure => simp [intOf]; omega
            · have p1 : (0 : Int) < (pn : Int) := of_decide_eq_true hp
              have p2 : 0 < pn := by omega
              cases h1 : (ai == xi)
              · have hoc := hid (show O c = false by rw [hO.out, hp, h1]; rfl)
                go_wp2_with fail
                go_roundw
                case rel => exact ⟨j + 1, false, N, by omega, by go_num, rfl, rfl, hz1, hz2, hid (by rw [TA.out, ← hA.out]; rfl), hid (by rw [TN.out, ← Bool.or_assoc, ← hN.out, hoc.out]; cases N <;> rfl)⟩
                case measure => simp [intOf]; omega
              · have q1 : xi = ai := (beq_iff_eq.1 h1).symm
                subst q1
                cases h2 : (bi == yi)
                · have hoc := hid (show O c = false by rw [hO.out, hp, h1, h2]; rfl)
                  go_wp2_with fail
                  go_roundw
                  case rel => exact ⟨j + 1, false, N, by omega, by go_num, rfl, rfl, hz1, hz2, hid (by rw [TA.out, ← hA.out]; rfl), hid (by rw [TN.out, ← Bool.or_assoc, ← hN.out, hoc.out]; cases N <;> rfl)⟩
                  case measure => simp [intOf]; omega
                · have q2 : yi = bi := (beq_iff_eq.1 h2).symm
                  subst q2
                  cases h3 : (ci == zi)
                  · have hoc := hid (show O c = false by rw [hO.out, hp, h1, h2, h3]; rfl)
                    go_wp2_with fail
                    go_roundw
                    case rel => exact ⟨j + 1, false, N, by omega, by go_num, rfl, rfl, hz1, hz2, hid (by rw [TA.out, ← hA.out]; rfl), hid (by rw [TN.out, ← Bool.or_assoc, ← hN.out, hoc.out]; cases N <;> rfl)⟩
                    case measure => simp [intOf]; omega
                  · have hoc := hid (show O c = true by rw [hO.out, hp, h1, h2, h3]; rfl)
                    have q3 : zi = ci := (beq_iff_eq.1 h3).symm
                    subst q3
                    go_wp2_with fail
                    go_roundw
                    case rel => exact ⟨j + 1, false, true, by omega, by go_num, rfl, rfl, hz1, hz2, hid (by rw [TA.out, ← hA.out]; rfl), hid (by rw [TN.out, ← Bool.or_assoc, ← hN.out, hoc.out]; cases N <;> rfl)⟩
                    case measure => simp [intOf]; omega
          · go_wp2_with fail
            generalize wr.alloc (.cells [.int .i64 oi, .int .i64 ai, .int .i64 bi, .int .i64 ci, .slice pa pn pc].toArray 65) = W6 at hbn hnn hcn ⊢
            generalize wr.heap.size = bn at hcn ⊢
            refine (HHc.out _ hbn.out).mono ?_
            rintro e w7 ⟨rfl, hb7⟩
            have hz1 := hid (below_trans hbn.out hb7)
            have hz2 := hid (hnn.out.below hb7)
            have hcz := hcn.out.below hb7
            clear m0 m1 m2 m3 ml y0 y1 y2 y3 y4 hbn hnn hcn hb7 HHc
            have m0 := hz2.out.cell 0 rfl
            have m1 := hz2.out.cell 1 rfl
            have m2 := hz2.out.cell 2 rfl
            have ml := hz2.out.lt
            have d1 := hcz.cell 1 rfl
            have d2 := hcz.cell 2 rfl
            have d3 := hcz.cell 3 rfl
            have d4 := hcz.cell 4 rfl
            have dl := hcz.lt
            replace hcz := hid hcz
            generalize F c = fc at *
            cases hp : decide ((0 : Int) < (pn : Int))
            · have hoc := hid (show O c = false by rw [hO.out, hp]; rfl)
              have p0 : pn = 0 := by have := of_decide_eq_false hp; omega
              subst p0
              clear hp
              go_wp2_with fail
              go_roundw
              case rel => exact ⟨j + 1, fc, N, by omega, by go_num, rfl, rfl, hz1, hz2, hid (by rw [TA.out, ← hA.out]; rfl), hid (by rw [TN.out, ← Bool.or_assoc, ← hN.out, hoc.out]; cases N <;> rfl)⟩
              case measure => simp [intOf]; omega
            · have p1 : (0 : Int) < (pn : Int) := of_decide_eq_true hp
              have p2 : 0 < pn := by omega
              cases h1 : (ai == xi)
              · have hoc := hid (show O c = false by rw [hO.out, hp, h1]; rfl)
                go_wp2_with fail
                go_roundw
                case rel => exact ⟨j + 1, fc, N, by omega, by go_num, rfl, rfl, hz1, hz2, hid (by rw [TA.out, ← hA.out]; rfl), hid (by rw [TN.out, ← Bool.or_assoc, ← hN.out, hoc.out]; cases N <;> rfl)⟩
                case measure => simp [intOf]; omega
              · have q1 : xi = ai := (beq_iff_eq.1 h1).symm
                subst q1
                cases h2 : (bi == yi)
                · have hoc := hid (show O c = false by rw [hO.out, hp, h1, h2]; rfl)
                  go_wp2_with fail
                  go_roundw
                  case rel => exact ⟨j + 1, fc, N, by omega, by go_num, rfl, rfl, hz1, hz2, hid (by rw [TA.out, ← hA.out]; rfl), hid (by rw [TN.out, ← Bool.or_assoc, ← hN.out, hoc.out]; cases N <;> rfl)⟩
                  case measure => simp [intOf]; omega
                · have q2 : yi = bi := (beq_iff_eq.1 h2).symm
                  subst q2
                  cases h3 : (ci == zi)
                  · have hoc := hid (show O c = false by rw [hO.out, hp, h1, h2, h3]; rfl)
                    go_wp2_with fail
                    go_roundw
                    case rel => exact ⟨j + 1, fc, N, by omega, by go_num, rfl, rfl, hz1, hz2, hid (by rw [TA.out, ← hA.out]; rfl), hid (by rw [TN.out, ← Bool.or_assoc, ← hN.out, hoc.out]; cases N <;> rfl)⟩
                    case measure => simp [intOf]; omega
                  · have hoc := hid (show O c = true by rw [hO.out, hp, h1, h2, h3]; rfl)
                    have q3 : zi = ci := (beq_iff_eq.1 h3).symm
                    subst q3
                    go_wp2_with fail
                    go_roundw
                    case rel => exact ⟨j + 1, fc, true, by omega, by go_num, rfl, rfl, hz1, hz2, hid (by rw [TA.out, ← hA.out]; rfl), hid (by rw [TN.out, ← Bool.or_assoc, ← hN.out, hoc.out]; cases N <;> rfl)⟩
                    case measure => simp [intOf]; omega
        · have hje := hid (show j = cs.length by omega)
          have hA2 := hid (show A = cs.all F by rw [hA.out, hje.out, List.take_length])
          have hN2 := hid (show N = (ob0 || cs.any O) by rw [hN.out, hje.out, List.take_length])
          clear hA hN
          cases A
          · have hno := hid (show (rs.take (k + 1)).any (fun cs => cs.all F && (ob0 || cs.any O)) = false by
              rw [STEP.out, hof.out, ← hA2.out]; rfl)
            go_wp2_with fail
            go_roundw
            case rel => exact ⟨k + 1, by omega, by go_num, hb2, hn2, hno⟩
            case measure => simp [intOf]; omega
          · cases N
            · have hno := hid (show (rs.take (k + 1)).any (fun cs => cs.all F && (ob0 || cs.any O)) = false by
                rw [STEP.out, hof.out, ← hA2.out, ← hN2.out]; rfl)
              go_wp2_with fail
              go_roundw
              case rel => exact ⟨k + 1, by omega, by go_num, hb2, hn2, hno⟩
              case measure => simp [intOf]; omega
            · have hr := hid (show R = true by rw [← hR.out]; exact ON.out (by rw [← hA2.out, ← hN2.out]; rfl))
              go_wp2_with fail
              go_ret
              exact gives rfl (bool_eq hr.out.symm) hb2.out
    · have hr := hid (show R = false by
        rw [← hR.out]; exact any_off hof.out (by omega))
      go_wp2_with fail
      go_ret
      exact gives rfl (bool_eq hr.out.symm) hb.out

/-- has the document's range a version? -/
theorem rrhas_any (rs : List (List CompT)) (v : Value) (h4 : rs.length ≤ 4) (hok : ∀ cs, cs ∈ rs → 1 ≤ cs.length ∧ cs.length ≤ 4 ∧ ∀ c, c ∈ cs → OkC c) (x y z : Nat) (q : List UInt8) (hq : q = [] ∨ preV q = true) (qa : Option Addr) (qc : Nat) (w : World) (hr : RRngAt w v rs) (hpq : PreAt w (.slice qa (rows q).length qc) (rows q)) :
    Calls Tryz.prog 21 #[v, .agg #[.int .i64 (x : Int), .int .i64 (y : Int), .int .i64 (z : Int), .slice qa (rows q).length qc]] w (Gives (.bool (rngHas rs x y z q)) w) :=
  rrhas_w rs v h4 hok (fun c => compHas c x y z q) (fun c => opens c x y z) (decide (q = [])) x y z qa (rows q).length qc w hr (rows_zero q)
    (fun c hc pa pc w' hb h => holds_any c hc x y z q hq pa qa pc qc w' h (hpq.below hb)) (fun c => opens_rows c x y z)
end Go.Proofs.YtebhgcejcdgdbaaGreatDoor.Sp

/-
  LAYER 4: what a range that is none has; what the document's Parse comes to, in one post.
-/
namespace Go.Proofs.YtebhgcejcdgdbaaGreatDoor.Sp
open Go.RowKit Go.Sort
open Go.Proofs.YtebhgcejcdgdbaaGreatDoor Go.Proofs.YtebhgcejcdgdbaaGreatDoor.Nu Go.Proofs.YtebhgcejcdgdbaaGreatDoor.Vs

theorem check_zero (w : World) : Calls Tryz.prog 14 #[.agg #[.slice none 0 0]] w (Gives (.bool false) w) := by
  go_enter Tryz.func14, Tryz.ntmps14
  go_wp2_with fail
  go_ret
  exact gives rfl rfl (below_alloc (Below.refl _ _) _)
theorem has_zero (xi yi zi : Int) (Q : ByteArray) (w : World) : Calls Tryz.prog 19 #[.agg #[.slice none 0 0], .agg #[.int .i64 xi, .int .i64 yi, .int .i64 zi, .string Q]] w (Gives (.bool false) w) := by
  have hb0 := hid (below_alloc (below_alloc (Below.refl w.heap.size w) (.cells #[.slice none 0 0] 25)) (.cells #[.int .i64 xi, .int .i64 yi, .int .i64 zi, .string Q] 38))
  have HC := hid check_zero
  go_enter Tryz.func19, Tryz.ntmps19
  go_wp2_with (go_at_call 14; (with_reducible refine (HC.out _).mono ?_); rintro e w1 ⟨rfl, hb1⟩)
  go_ret
  exact gives rfl rfl (below_trans hb0.out hb1)
theorem text_zero (w : World) : Calls Tryz.prog 15 #[.agg #[.slice none 0 0]] w (Gives (.string ⟨#[]⟩) w) := by
  have hb0 := hid (below_alloc (Below.refl w.heap.size w) (.cells #[.slice none 0 0] 25))
  have HC := hid check_zero
  go_enter Tryz.func15, Tryz.ntmps15
  go_wp2_with (go_at_call 14; (with_reducible refine (HC.out _).mono ?_); rintro e w1 ⟨rfl, hb1⟩)
  go_ret
  exact gives rfl rfl (below_trans hb0.out hb1)
theorem highest_zero (a : Option Addr) (n c : Nat) (w : World) : Calls Tryz.prog 23 #[.agg #[.slice none 0 0], .slice a n c] w (Gives (.int .i64 (-1)) w) := by
  have hb0 := hid (below_alloc (Below.refl w.heap.size w) (.cells #[.slice none 0 0] 25))
  have HC := hid check_zero
  go_enter Tryz.func23, Tryz.ntmps23
  go_wp2_with (go_at_call 14; (with_reducible refine (HC.out _).mono ?_); rintro e w1 ⟨rfl, hb1⟩)
  go_ret
  exact gives rfl rfl (below_trans hb0.out hb1)

/-- what a text is parsed as by the document: a range, or none -/
def RRngO (o : Option (List (List CompT))) (f : Bool) (w : World) (e : Ending) (w' : World) : Prop :=
  ∃ oa n cp, e = .returned (.tuple #[.slice oa n cp, .bool f]) ∧ Below w.heap.size w w' ∧ ∀ rs, o = some rs → n = rs.length ∧ RRngAt w' (.slice oa n cp) rs
theorem rrparse_o (s : ByteArray) (hs : s.size < 4294967281) (w : World) :
    Calls Tryz.prog 13 #[.string s] w (RRngO (rngOf s.data.toList) (rngOf s.data.toList).isSome w) := by
  refine (rrparse_any s hs w).mono ?_
  rintro e w' ⟨hb, ⟨h, rfl⟩ | ⟨rs, v, h, rfl, hr⟩⟩
  · rw [h]
    exact ⟨none, 0, 0, rfl, hb, (fun _ h => nomatch h)⟩
  · rw [h]
    have hr' := hr
    obtain ⟨G, cp, vs, rfl, _⟩ := hr
    exact ⟨_, _, _, rfl, hb, fun rs' h' => by injection h' with e; subst e; exact ⟨rfl, hr'⟩⟩
end Go.Proofs.YtebhgcejcdgdbaaGreatDoor.Sp
