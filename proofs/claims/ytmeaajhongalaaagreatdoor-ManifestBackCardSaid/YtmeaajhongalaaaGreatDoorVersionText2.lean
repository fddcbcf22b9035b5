/-
  LAYER 3, PACKAGE version: Text.
-/
import Derived.Test.YtmeaajhongalaaaGreatDoorVersionText
import Derived.Lib.QuietBelow
namespace Go.Proofs.YtmeaajhongalaaaGreatDoor.Vs
open Go.RowKit
open Go.Proofs.YtmeaajhongalaaaGreatDoor Go.Proofs.YtmeaajhongalaaaGreatDoor.Nu

open Go.Sort in
set_option maxRecDepth 100000 in
set_option maxHeartbeats 1000000 in
theorem text_s (a b c : Int) (A B C s : ByteArray) (hs : s.size < 4294967281) (hA : A.size ≤ 6) (hB : B.size ≤ 6) (hC : C.size ≤ 6) (hy : checkI a b c s.data.toList = true) (w : World) (hm : MaxAt w)
    (HA : ∀ W, Below w.heap.size w W → Calls Tryz.prog 111 #[.int .i64 a] W (Gives (.string A) W)) (HB : ∀ W, Below w.heap.size w W → Calls Tryz.prog 111 #[.int .i64 b] W (Gives (.string B) W)) (HD : ∀ W, Below w.heap.size w W → Calls Tryz.prog 111 #[.int .i64 c] W (Gives (.string C) W)) :
    Calls Tryz.prog 58 #[.agg #[.int .i64 a, .int .i64 b, .int .i64 c, .string s]] w (Gives (.string (if s.size = 0 then A ++ ⟨#[46]⟩ ++ B ++ ⟨#[46]⟩ ++ C else A ++ ⟨#[46]⟩ ++ B ++ ⟨#[46]⟩ ++ C ++ (⟨#[45]⟩ ++ s))) w) := by
  have HC := hid (check_s a b c s hs)
  rw [hy] at HC
  replace HA := hid HA
  replace HB := hid HB
  replace HD := hid HD
  have he := hid (fun h => empty_eq s h)
  generalize hR : (if s.size = 0 then A ++ ⟨#[46]⟩ ++ B ++ ⟨#[46]⟩ ++ C else A ++ ⟨#[46]⟩ ++ B ++ ⟨#[46]⟩ ++ C ++ (⟨#[45]⟩ ++ s)) = R
  have hR' := hid hR
  have hs' := hid hs
  clear hR hy hs
  go_enter Tryz.func58, Tryz.ntmps58
  go_upto_block 0 with (fail)
  have hbk : Blk (w.alloc (.cells #[.int .i64 a, .int .i64 b, .int .i64 c, .string s] 41)) w.heap.size [.int .i64 a, .int .i64 b, .int .i64 c, .string s] 41 := Blk.new w _ _
  have hb0 : Below w.heap.size w (w.alloc (.cells #[.int .i64 a, .int .i64 b, .int .i64 c, .string s] 41)) := below_alloc (Below.refl _ _) _
  generalize w.alloc (.cells #[.int .i64 a, .int .i64 b, .int .i64 c, .string s] 41) = W0 at hbk hb0 ⊢
  refine (HC.out _ (hm.below hb0)).mono ?_
  rintro e w1 ⟨rfl, hb1⟩
  have hbk1 := hbk.below hb1
  have hbx := below_trans hb0 hb1
  clear hbk hb0 hb1 HC
  have c0 := hbk1.cell 0 rfl
  have c1 := hbk1.cell 1 rfl
  have c2 := hbk1.cell 2 rfl
  have c3 := hbk1.cell 3 rfl
  have k0 := cell_regrown c0
  have k1 := cell_regrown c1
  have k2 := cell_regrown c2
  have k3 := cell_regrown c3
  have q0 : ∀ d os, Calls Tryz.prog 111 #[.int .i64 a] (grow (redrawn w1 d) os) fun e w'' => e = .returned (.string A) ∧ ∃ p : Regrown, w'' = grow (redrawn w1 p.d) p.os := fun d os => Calls.regrown_of (HA.out _ (below_trans hbx (below_regrown w1 d os)))
  have q1 : ∀ d os, Calls Tryz.prog 111 #[.int .i64 b] (grow (redrawn w1 d) os) fun e w'' => e = .returned (.string B) ∧ ∃ p : Regrown, w'' = grow (redrawn w1 p.d) p.os := fun d os => Calls.regrown_of (HB.out _ (below_trans hbx (below_regrown w1 d os)))
  have q2 : ∀ d os, Calls Tryz.prog 111 #[.int .i64 c] (grow (redrawn w1 d) os) fun e w'' => e = .returned (.string C) ∧ ∃ p : Regrown, w'' = grow (redrawn w1 p.d) p.os := fun d os => Calls.regrown_of (HD.out _ (below_trans hbx (below_regrown w1 d os)))
  have q0 := hid q0
  have q1 := hid q1
  have q2 := hid q2
  have n1 : ¬ 9223372036854775807 < A.size + 1 := by omega
  have n2 : ¬ 9223372036854775807 < A.size + 1 + B.size := by omega
  have n3 : ¬ 9223372036854775807 < A.size + 1 + B.size + 1 := by omega
  have n4 : ¬ 9223372036854775807 < A.size + 1 + B.size + 1 + C.size := by omega
  go_wp2_with fail
  refine wp_region_quiet_below (by kernel_rfl) (by kernel_rfl) ?_
  repeat (quiet_step (first | with_reducible exact q0.out _ _ | with_reducible exact q1.out _ _ | with_reducible exact q2.out _ _))
  refine wpQuiet_nil ?_
  intro _ hw'
  obtain ⟨⟨dq, osq⟩, hw''⟩ := hw'
  subst hw''
  have hbz := below_trans hbx (below_regrown w1 dq osq)
  have z3 := cell_regrown c3 dq osq
  have ht := hid (show (A ++ ⟨#[46]⟩ ++ B ++ ⟨#[46]⟩ ++ C).size ≤ 20 by
    have e : (⟨#[46]⟩ : ByteArray).size = 1 := rfl
    simp only [ByteArray.size_append, e]; omega)
  clear k0 k1 k2 k3 c0 c1 c2 c3 q0 q1 q2 n1 n2 n3 n4 HA HB HD hbk1 hbx
  show Exit.then _ _ Exit.normal _ (grow (redrawn w1 dq) osq)
  generalize A ++ ⟨#[46]⟩ ++ B ++ ⟨#[46]⟩ ++ C = T at hR' ht ⊢
  generalize grow (redrawn w1 dq) osq = W5 at hbz z3 ⊢
  by_cases h0 : s.size = 0
  · have hr := hid (show T = R by rw [← hR'.out, if_pos h0])
    obtain rfl : s = ByteArray.empty := by
      apply ByteArray.ext; apply Array.eq_empty_of_size_eq_zero; exact h0
    clear he hR'
    go_wp2_with fail
    go_ret
    exact gives rfl (Cb.str_eq hr.out) hbz
  · have hq := he.out h0
    have hr := hid (show T ++ (⟨#[45]⟩ ++ s) = R by rw [← hR'.out, if_neg h0])
    have htt := ht.out
    have hss := hs'.out
    have m1 : ¬ 9223372036854775807 < 1 + s.size := by omega
    have m2 : ¬ 9223372036854775807 < T.size + (1 + s.size) := by omega
    clear he hR'
    go_wp2_with fail
    go_ret
    exact gives rfl (Cb.str_eq hr.out) hbz

theorem str_text (a b c : Nat) (pre : List UInt8) : (if (⟨pre.toArray⟩ : ByteArray).size = 0 then (⟨(decS a).toArray⟩ : ByteArray) ++ ⟨#[46]⟩ ++ ⟨(decS b).toArray⟩ ++ ⟨#[46]⟩ ++ ⟨(decS c).toArray⟩ else (⟨(decS a).toArray⟩ : ByteArray) ++ ⟨#[46]⟩ ++ ⟨(decS b).toArray⟩ ++ ⟨#[46]⟩ ++ ⟨(decS c).toArray⟩ ++ (⟨#[45]⟩ ++ ⟨pre.toArray⟩)) = ⟨(textV a b c pre).toArray⟩ := by
  have e0 : (⟨pre.toArray⟩ : ByteArray).size = pre.length := by show pre.toArray.size = _; simp
  rw [e0]
  have e46 : (⟨#[46]⟩ : ByteArray) = ⟨([46] : List UInt8).toArray⟩ := rfl
  have e45 : (⟨#[45]⟩ : ByteArray) = ⟨([45] : List UInt8).toArray⟩ := rfl
  rw [e46, e45]
  simp only [bytes_append]
  unfold textV textN
  by_cases h : pre = []
  · subst h; simp
  · have : ¬ pre.length = 0 := by simpa using h
    rw [if_neg this, if_neg h]; simp

theorem dec_six (n : Nat) (h : n < 1000000) : (⟨(decS n).toArray⟩ : ByteArray).size ≤ 6 := by
  show (decS n).toArray.size ≤ 6
  have := (num_of_dec h).2.1
  simpa using this

/-- the text of what may be a version -/
theorem text_yes (a b c : Nat) (pre : List UInt8) (hs : pre.length < 4294967281) (ha : a < 1000000) (hb : b < 1000000) (hc : c < 1000000) (hy : pre = [] ∨ preV pre = true) (w : World) (hm : MaxAt w) (ht : TenAt w) :
    Calls Tryz.prog 58 #[.agg #[.int .i64 (a : Int), .int .i64 (b : Int), .int .i64 (c : Int), .string ⟨pre.toArray⟩]] w (Gives (.string ⟨(textV a b c pre).toArray⟩) w) := by
  have h := text_s a b c ⟨(decS a).toArray⟩ ⟨(decS b).toArray⟩ ⟨(decS c).toArray⟩ ⟨pre.toArray⟩ (sizeL _ _ hs) (dec_six a ha) (dec_six b hb) (dec_six c hc) (by
    show checkI _ _ _ pre = true
    rw [check_nat a b c pre ha hb hc]
    rcases hy with rfl | hy
    · rfl
    · rw [hy, Bool.or_true]) w hm (fun W hW => itoa_any a ha W (ht.below hW)) (fun W hW => itoa_any b hb W (ht.below hW)) (fun W hW => itoa_any c hc W (ht.below hW))
  rwa [str_text] at h
end Go.Proofs.YtmeaajhongalaaaGreatDoor.Vs
