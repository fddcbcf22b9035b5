/-
  SEVERAL TEXTS, one behind the other.
-/
import Derived.Test.YtebhgcejcdgdbaaGreatDoorMB
import Derived.Test.YtebhgcejcdgdbaaGreatDoorMC
import Derived.Deep.RegionLaw
import Derived.Deep.DeepCutAuto
import Derived.Deep.CutBlock
import Derived.Lib.AppendIntMem
import Derived.Lib.LaidTab
import Derived.Lib.QuietBelow
import Derived.Laws.StructEq
import Derived.Test.YtebhgcejcdgdbaaGreatDoorMD
import Derived.Deep.RegionHeld3
/-
  LAYER 3, PACKAGE version: Check and Text.
-/
namespace Go.Proofs.YtebhgcejcdgdbaaGreatDoor.Vs
open Go.RowKit
open Go.Proofs.YtebhgcejcdgdbaaGreatDoor Go.Proofs.YtebhgcejcdgdbaaGreatDoor.Nu

def okI (x : Int) : Bool := decide (0 ≤ x ∧ x ≤ 999999)
def checkI (a b c : Int) (pre : List UInt8) : Bool := okI a && okI b && okI c && (decide (pre = []) || preV pre)
theorem okI_f {x : Int} (h : x < 0 ∨ 999999 < x) : okI x = false := decide_eq_false (by omega)
theorem okI_t {x : Int} (h : ¬ (x < 0 ∨ 999999 < x)) : okI x = true := decide_eq_true (by omega)

@[go_sem] theorem index3_0 (a b c : Int) (w : World) : (Instr.index 36 (.agg #[.int .i64 a, .int .i64 b, .int .i64 c]) (.int .i64 0)).run Tryz.prog w = .ok (.int .i64 a) w := by
  simp [Instr.index, run_underlying Tryz.underlying36, asIntOf, go_sem]
@[go_sem] theorem index3_1 (a b c : Int) (w : World) : (Instr.index 36 (.agg #[.int .i64 a, .int .i64 b, .int .i64 c]) (.int .i64 1)).run Tryz.prog w = .ok (.int .i64 b) w := by
  simp [Instr.index, run_underlying Tryz.underlying36, asIntOf, go_sem]
@[go_sem] theorem index3_2 (a b c : Int) (w : World) : (Instr.index 36 (.agg #[.int .i64 a, .int .i64 b, .int .i64 c]) (.int .i64 2)).run Tryz.prog w = .ok (.int .i64 c) w := by
  simp [Instr.index, run_underlying Tryz.underlying36, asIntOf, go_sem]

set_option maxRecDepth 20000 in
set_option maxHeartbeats 4000000 in
theorem check_s (a b c : Int) (s : ByteArray) (hs : s.size < 4294967281) (w : World) (hm : MaxAt w) :
    Calls Tryz.prog 18 #[.agg #[.int .i64 a, .int .i64 b, .int .i64 c, .string s]] w (Gives (.bool (checkI a b c s.data.toList)) w) := by
  have HV := hid (show checkI a b c s.data.toList = (okI a && okI b && okI c && (decide (s.data.toList = []) || preV s.data.toList)) from rfl)
  have HP : Hid (∀ w, MaxAt w → Calls Tryz.prog 37 #[.string s] w (Gives (.bool (preV s.data.toList)) w)) := hid (checkPre_any s hs)
  generalize checkI a b c s.data.toList = R at HV ⊢
  have hpre : (s = ByteArray.empty ∧ (decide (s.data.toList = []) || preV s.data.toList) = true) ∨ ((s.toList == []) = false ∧ (decide (s.data.toList = []) || preV s.data.toList) = preV s.data.toList) := by
    by_cases h : s.size = 0
    · left
      refine ⟨by apply ByteArray.ext; apply Array.eq_empty_of_size_eq_zero; exact h, ?_⟩
      rw [decide_eq_true (List.eq_nil_of_length_eq_zero (by rw [lenS]; exact h))]; rfl
    · right
      exact ⟨empty_eq s h, by rw [decide_eq_false (fun e => h (by rw [← lenS, e]; rfl))]; rfl⟩
  generalize (decide (s.data.toList = []) || preV s.data.toList) = q at HV hpre
  generalize preV s.data.toList = pv at HP hpre
  have HPR := hid hpre
  clear hpre hs
  go_enter Tryz.func18, Tryz.ntmps18
  go_upto_block 0 with (fail)
  have hbk : Blk (w.alloc (.cells #[.int .i64 a, .int .i64 b, .int .i64 c, .string s] 38)) w.heap.size [.int .i64 a, .int .i64 b, .int .i64 c, .string s] 38 := Blk.new w _ _
  have hb0 : Below w.heap.size w (w.alloc (.cells #[.int .i64 a, .int .i64 b, .int .i64 c, .string s] 38)) := below_alloc (Below.refl _ _) _
  generalize w.alloc (.cells #[.int .i64 a, .int .i64 b, .int .i64 c, .string s] 38) = W0 at hbk hb0 ⊢
  have v0 := hbk.cell 0 rfl
  have v1 := hbk.cell 1 rfl
  have v2 := hbk.cell 2 rfl
  have v3 := hbk.cell 3 rfl
  go_wp2_with fail
  go_loop [7] (fun v => ∃ k : Nat, k ≤ 3 ∧ v = .int .i64 k ∧ Hid ((0 < k → okI a = true) ∧ (1 < k → okI b = true) ∧ (2 < k → okI c = true))) (fun v => 3 - (intOf v).toNat)
  case atStart => exact ⟨0, by omega, rfl, hid ⟨fun h => by omega, fun h => by omega, fun h => by omega⟩⟩
  case round =>
    obtain ⟨k, hk, rfl, hg⟩ := hrel
    have which : k = 0 ∨ k = 1 ∨ k = 2 ∨ k = 3 := by omega
    rcases which with rfl | rfl | rfl | rfl
    · by_cases h1 : a < 0
      · have hn := hid (show R = false by rw [HV.out, okI_f (x := a) (.inl h1)]; simp)
        go_wp2_with fail
        go_ret
        exact gives rfl (bool_eq hn.out.symm) hb0
      · by_cases h2 : 999999 < a
        · have hn := hid (show R = false by rw [HV.out, okI_f (x := a) (.inr h2)]; simp)
          go_wp2_with fail
          go_ret
          exact gives rfl (bool_eq hn.out.symm) hb0
        · have hy := hid (okI_t (x := a) (by omega))
          go_wp2_with fail
          go_round
          case rel => exact ⟨1, by decide, rfl, hid ⟨fun _ => hy.out, fun h => by omega, fun h => by omega⟩⟩
          case measure => decide
    · by_cases h1 : b < 0
      · have hn := hid (show R = false by rw [HV.out, okI_f (x := b) (.inl h1)]; simp)
        go_wp2_with fail
        go_ret
        exact gives rfl (bool_eq hn.out.symm) hb0
      · by_cases h2 : 999999 < b
        · have hn := hid (show R = false by rw [HV.out, okI_f (x := b) (.inr h2)]; simp)
          go_wp2_with fail
          go_ret
          exact gives rfl (bool_eq hn.out.symm) hb0
        · have hy := hid (okI_t (x := b) (by omega))
          go_wp2_with fail
          go_round
          case rel => exact ⟨2, by decide, rfl, hid ⟨fun _ => hg.out.1 (by decide), fun _ => hy.out, fun h => by omega⟩⟩
          case measure => decide
    · by_cases h1 : c < 0
      · have hn := hid (show R = false by rw [HV.out, okI_f (x := c) (.inl h1)]; simp)
        go_wp2_with fail
        go_ret
        exact gives rfl (bool_eq hn.out.symm) hb0
      · by_cases h2 : 999999 < c
        · have hn := hid (show R = false by rw [HV.out, okI_f (x := c) (.inr h2)]; simp)
          go_wp2_with fail
          go_ret
          exact gives rfl (bool_eq hn.out.symm) hb0
        · have hy := hid (okI_t (x := c) (by omega))
          go_wp2_with fail
          go_round
          case rel => exact ⟨3, by decide, rfl, hid ⟨fun _ => hg.out.1 (by decide), fun _ => hg.out.2.1 (by decide), fun _ => hy.out⟩⟩
          case measure => decide
    · have hR := hid (show R = q by rw [HV.out, hg.out.1 (by decide), hg.out.2.1 (by decide), hg.out.2.2 (by decide)]; rfl)
      have hpre := HPR.out
      clear HPR HV hg
      rcases hpre with ⟨rfl, hq⟩ | ⟨hne, hq⟩
      · have hq' := hid hq
        clear hq
        go_wp2_with fail
        go_ret
        exact gives rfl (bool_eq (hR.out.trans hq'.out).symm) hb0
      · have hq' := hid hq
        clear hq
        go_wp2_with (go_at_call 37; (with_reducible refine (HP.out _ (hm.below hb0)).mono ?_); rintro e w2 ⟨rfl, hb2⟩)
        go_ret
        exact gives rfl (bool_eq (hR.out.trans hq'.out).symm) (below_trans hb0 hb2)

theorem check_any (a b c : Int) (pre : List UInt8) (hs : pre.length < 4294967281) (w : World) (hm : MaxAt w) :
    Calls Tryz.prog 18 #[.agg #[.int .i64 a, .int .i64 b, .int .i64 c, .string ⟨pre.toArray⟩]] w (Gives (.bool (checkI a b c pre)) w) :=
  check_s a b c ⟨pre.toArray⟩ (sizeL _ _ hs) w hm

/-- the library's table of powers of ten -/
def TenAt (w : World) : Prop := Lib.TabIs Tryz.prog w "internal/strconv.uint64pow10" .u64 Lib.pow10Tab
theorem ten_g : Tryz.prog.globalNamed "internal/strconv.uint64pow10" = some 4 := by kernel_rfl
theorem TenAt.below {w w' : World} (h : TenAt w) (hb : Below w.heap.size w w') : TenAt w' := Joins.tab_stays ten_g h hb (Nat.le_refl _)

theorem itoa_any (n : Nat) (hn : n < 1000000) (w : World) (ht : TenAt w) :
    Calls Tryz.prog 45 #[.int .i64 (n : Int)] w (Gives (.string ⟨(decS n).toArray⟩) w) := by
  refine (Tryz.strconv_Itoa n (by omega) (by omega) w ht).mono ?_
  rintro e w' ⟨rfl, k, os, rfl⟩
  exact gives rfl (by rw [itoa_same]) (Lib.below_grow _ w (Nat.le_refl _) k os)

theorem check_nat (a b c : Nat) (pre : List UInt8) (ha : a < 1000000) (hb : b < 1000000) (hc : c < 1000000) : checkI a b c pre = (decide (pre = []) || preV pre) := by
  unfold checkI
  rw [okI_t (by omega), okI_t (by omega), okI_t (by omega)]; rfl

set_option maxHeartbeats 4000000 in
theorem text_no (a b c : Int) (pre : List UInt8) (hs : pre.length < 4294967281) (hno : checkI a b c pre = false) (w : World) (hm : MaxAt w) :
    Calls Tryz.prog 25 #[.agg #[.int .i64 a, .int .i64 b, .int .i64 c, .string ⟨pre.toArray⟩]] w (Gives (.string ⟨#[]⟩) w) := by
  have HC := hid (check_any a b c pre hs)
  rw [hno] at HC
  clear hs
  go_enter Tryz.func25, Tryz.ntmps25
  go_wp2_with (go_at_call 18; (with_reducible refine (HC.out _ (hm.below (below_alloc (Below.refl _ _) _))).mono ?_); rintro e w1 ⟨rfl, hb1⟩)
  go_ret
  exact gives rfl rfl (below_trans (below_alloc (Below.refl _ _) _) hb1)

end Go.Proofs.YtebhgcejcdgdbaaGreatDoor.Vs

/-
  LAYER 3, PACKAGE version: Text.
-/
namespace Go.Proofs.YtebhgcejcdgdbaaGreatDoor.Vs
open Go.RowKit
open Go.Proofs.YtebhgcejcdgdbaaGreatDoor Go.Proofs.YtebhgcejcdgdbaaGreatDoor.Nu

open Go.Sort in
set_option maxRecDepth 100000 in
set_option maxHeartbeats 1000000 in
theorem text_s (a b c : Int) (A B C s : ByteArray) (hs : s.size < 4294967281) (hA : A.size ≤ 6) (hB : B.size ≤ 6) (hC : C.size ≤ 6) (hy : checkI a b c s.data.toList = true) (w : World) (hm : MaxAt w)
    (HA : ∀ W, Below w.heap.size w W → Calls Tryz.prog 45 #[.int .i64 a] W (Gives (.string A) W)) (HB : ∀ W, Below w.heap.size w W → Calls Tryz.prog 45 #[.int .i64 b] W (Gives (.string B) W)) (HD : ∀ W, Below w.heap.size w W → Calls Tryz.prog 45 #[.int .i64 c] W (Gives (.string C) W)) :
    Calls Tryz.prog 25 #[.agg #[.int .i64 a, .int .i64 b, .int .i64 c, .string s]] w (Gives (.string (if s.size = 0 then A ++ ⟨#[46]⟩ ++ B ++ ⟨#[46]⟩ ++ C else A ++ ⟨#[46]⟩ ++ B ++ ⟨#[46]⟩ ++ C ++ (⟨#[45]⟩ ++ s))) w) := by
  have HC := hid (check_s a b c s hs)
  rw [hy] at HC
  replace HA := hid HA
  replace HB := hid HB
  replace HD := hid HD
  have he := hid (fun h => empty_eq s h)
  generalize hR : (if s.size = 0 then A ++ ⟨#[46]⟩ ++ B ++ ⟨#[46]⟩ ++ C else A ++ ⟨#[46]⟩ ++ B ++ ⟨#[46]⟩ ++ C ++ (⟨#[45]⟩ ++ s)) = R
  have hR' := hid hR
  have hs' := hid hs
  clear hR hy hs
  go_enter Tryz.func25, Tryz.ntmps25
  go_upto_block 0 with (fail)
  have hbk : Blk (w.alloc (.cells #[.int .i64 a, .int .i64 b, .int .i64 c, .string s] 38)) w.heap.size [.int .i64 a, .int .i64 b, .int .i64 c, .string s] 38 := Blk.new w _ _
  have hb0 : Below w.heap.size w (w.alloc (.cells #[.int .i64 a, .int .i64 b, .int .i64 c, .string s] 38)) := below_alloc (Below.refl _ _) _
  generalize w.alloc (.cells #[.int .i64 a, .int .i64 b, .int .i64 c, .string s] 38) = W0 at hbk hb0 ⊢
  refine (HC.out _ (hm.below hb0)).mono ?_
  rintro e w1 ⟨rfl, hb1⟩
  have hbk1 := hbk.below hb1
  have hbx := below_trans hb0 hb1
  clear hbk hb0 hb1 HC
  have c0 := hbk1.cell 0 rfl
  have c1 := hbk1.cell 1 rfl
  have c2 := hbk1.cell 2 rfl
  have c3 := hbk1.cell 3 rfl
  have k0 := cell_regrown c0
  have k1 := cell_regrown c1
  have k2 := cell_regrown c2
  have k3 := cell_regrown c3
  have q0 : ∀ d os, Calls Tryz.prog 45 #[.int .i64 a] (grow (redrawn w1 d) os) fun e w'' => e = .returned (.string A) ∧ ∃ p : Regrown, w'' = grow (redrawn w1 p.d) p.os := fun d os => Calls.regrown_of (HA.out _ (below_trans hbx (below_regrown w1 d os)))
  have q1 : ∀ d os, Calls Tryz.prog 45 #[.int .i64 b] (grow (redrawn w1 d) os) fun e w'' => e = .returned (.string B) ∧ ∃ p : Regrown, w'' = grow (redrawn w1 p.d) p.os := fun d os => Calls.regrown_of (HB.out _ (below_trans hbx (below_regrown w1 d os)))
  have q2 : ∀ d os, Calls Tryz.prog 45 #[.int .i64 c] (grow (redrawn w1 d) os) fun e w'' => e = .returned (.string C) ∧ ∃ p : Regrown, w'' = grow (redrawn w1 p.d) p.os := fun d os => Calls.regrown_of (HD.out _ (below_trans hbx (below_regrown w1 d os)))
  have q0 := hid q0
  have q1 := hid q1
  have q2 := hid q2
  have n1 : ¬ 9223372036854775807 < A.size + 1 := by omega
  have n2 : ¬ 9223372036854775807 < A.size + 1 + B.size := by omega
  have n3 : ¬ 9223372036854775807 < A.size + 1 + B.size + 1 := by omega
  have n4 : ¬ 9223372036854775807 < A.size + 1 + B.size + 1 + C.size := by omega
  go_wp2_with fail
  refine wp_region_quiet_below (by kernel_rfl) (by kernel_rfl) ?_
  repeat (quiet_step (first | with_reducible exact q0.out _ _ | with_reducible exact q1.out _ _ | with_reducible exact q2.out _ _))
  refine wpQuiet_nil ?_
  intro _ hw'
  obtain ⟨⟨dq, osq⟩, hw''⟩ := hw'
  subst hw''
  have hbz := below_trans hbx (below_regrown w1 dq osq)
  have z3 := cell_regrown c3 dq osq
  have ht := hid (show (A ++ ⟨#[46]⟩ ++ B ++ ⟨#[46]⟩ ++ C).size ≤ 20 by
    have e : (⟨#[46]⟩ : ByteArray).size = 1 := rfl
    simp only [ByteArray.size_append, e]; omega)
  clear k0 k1 k2 k3 c0 c1 c2 c3 q0 q1 q2 n1 n2 n3 n4 HA HB HD hbk1 hbx
  show Exit.then _ _ Exit.normal _ (grow (redrawn w1 dq) osq)
  generalize A ++ ⟨#[46]⟩ ++ B ++ ⟨#[46]⟩ ++ C = T at hR' ht ⊢
  generalize grow (redrawn w1 dq) osq = W5 at hbz z3 ⊢
  by_cases h0 : s.size = 0
  · have hr := hid (show T = R by rw [← hR'.out, if_pos h0])
    obtain rfl : s = ByteArray.empty := by
      apply ByteArray.ext; apply Array.eq_empty_of_size_eq_zero; exact h0
    clear he hR'
    go_wp2_with fail
    go_ret
    exact gives rfl (Cb.str_eq hr.out) hbz
  · have hq := he.out h0
    have hr := hid (show T ++ (⟨#[45]⟩ ++ s) = R by rw [← hR'.out, if_neg h0])
    have htt := ht.out
    have hss := hs'.out
    have m1 : ¬ 9223372036854775807 < 1 + s.size := by omega
    have m2 : ¬ 9223372036854775807 < T.size + (1 + s.size) := by omega
    clear he hR'
    go_wp2_with fail
    go_ret
    exact gives rfl (Cb.str_eq hr.out) hbz

theorem str_text (a b c : Nat) (pre : List UInt8) : (if (⟨pre.toArray⟩ : ByteArray).size = 0 then (⟨(decS a).toArray⟩ : ByteArray) ++ ⟨#[46]⟩ ++ ⟨(decS b).toArray⟩ ++ ⟨#[46]⟩ ++ ⟨(decS c).toArray⟩ else (⟨(decS a).toArray⟩ : ByteArray) ++ ⟨#[46]⟩ ++ ⟨(decS b).toArray⟩ ++ ⟨#[46]⟩ ++ ⟨(decS c).toArray⟩ ++ (⟨#[45]⟩ ++ ⟨pre.toArray⟩)) = ⟨(textV a b c pre).toArray⟩ := by
  have e0 : (⟨pre.toArray⟩ : ByteArray).size = pre.length := by show pre.toArray.size = _; simp
  rw [e0]
  have e46 : (⟨#[46]⟩ : ByteArray) = ⟨([46] : List UInt8).toArray⟩ := rfl
  have e45 : (⟨#[45]⟩ : ByteArray) = ⟨([45] : List UInt8).toArray⟩ := rfl
  rw [e46, e45]
  simp only [bytes_append]
  unfold textV textN
  by_cases h : pre = []
  · subst h; simp
  · have : ¬ pre.length = 0 := by simpa using h
    rw [if_neg this, if_neg h]; simp

theorem dec_six (n : Nat) (h : n < 1000000) : (⟨(decS n).toArray⟩ : ByteArray).size ≤ 6 := by
  show (decS n).toArray.size ≤ 6
  have := (num_of_dec h).2.1
  simpa using this

/-- the text of what may be a version -/
theorem text_yes (a b c : Nat) (pre : List UInt8) (hs : pre.length < 4294967281) (ha : a < 1000000) (hb : b < 1000000) (hc : c < 1000000) (hy : pre = [] ∨ preV pre = true) (w : World) (hm : MaxAt w) (ht : TenAt w) :
    Calls Tryz.prog 25 #[.agg #[.int .i64 (a : Int), .int .i64 (b : Int), .int .i64 (c : Int), .string ⟨pre.toArray⟩]] w (Gives (.string ⟨(textV a b c pre).toArray⟩) w) := by
  have h := text_s a b c ⟨(decS a).toArray⟩ ⟨(decS b).toArray⟩ ⟨(decS c).toArray⟩ ⟨pre.toArray⟩ (sizeL _ _ hs) (dec_six a ha) (dec_six b hb) (dec_six c hc) (by
    show checkI _ _ _ pre = true
    rw [check_nat a b c pre ha hb hc]
    rcases hy with rfl | hy
    · rfl
    · rw [hy, Bool.or_true]) w hm (fun W hW => itoa_any a ha W (ht.below hW)) (fun W hW => itoa_any b hb W (ht.below hW)) (fun W hW => itoa_any c hc W (ht.below hW))
  rwa [str_text] at h
end Go.Proofs.YtebhgcejcdgdbaaGreatDoor.Vs

/-
  LAYER 3: arrays of three numbers, and versions, compared.
-/
namespace Go.Proofs.YtebhgcejcdgdbaaGreatDoor.Vs
open Go.RowKit
open Go.Proofs.YtebhgcejcdgdbaaGreatDoor Go.Proofs.YtebhgcejcdgdbaaGreatDoor.Nu

theorem eq3d (d : Nat) (a b c a' b' c' : Int) (w : World) : (Op.equalIn (d + 2) 36 (.agg #[.int .i64 a, .int .i64 b, .int .i64 c]) (.agg #[.int .i64 a', .int .i64 b', .int .i64 c'])).run Tryz.prog w = .ok (a == a' && b == b' && c == c') w := by
  have hp : Tryz.prog.stoodInHeld 36 = false := by kernel_rfl
  have e : ∀ x y : Int, (Op.equalIn (d + 1) 3 (.int .i64 x) (.int .i64 y)).run Tryz.prog w = .ok (x == y) w := fun x y => run_equalIn_int w d _ _ _ _ _ Tryz.underlying3
  unfold Op.equalIn
  have e3 : List.range' 0 3 = [0, 1, 2] := rfl
  have u3 := Tryz.underlying3
  have a3 := Tryz.isAgg3
  have z3 := Tryz.sizeOf3
  simp only [go_sem]
  by_cases h1 : a = a' <;> by_cases h2 : b = b' <;> by_cases h3 : c = c' <;> simp [go_sem, e3, e, a3, h1, h2, h3]

set_option maxRecDepth 100000 in
@[go_sem] theorem eq3 (a b c a' b' c' : Int) (w : World) : (Op.equalIn 10000 36 (.agg #[.int .i64 a, .int .i64 b, .int .i64 c]) (.agg #[.int .i64 a', .int .i64 b', .int .i64 c'])).run Tryz.prog w = .ok (a == a' && b == b' && c == c') w := eq3d 9998 a b c a' b' c' w

set_option maxRecDepth 100000 in
@[go_sem] theorem eq3' (a b c a' b' c' : Int) (w : World) : (Op.equalIn 9999 36 (.agg #[.int .i64 a, .int .i64 b, .int .i64 c]) (.agg #[.int .i64 a', .int .i64 b', .int .i64 c'])).run Tryz.prog w = .ok (a == a' && b == b' && c == c') w := eq3d 9997 a b c a' b' c' w

set_option maxRecDepth 100000 in
@[go_sem] theorem eqVersion (a b c a' b' c' : Int) (s t : ByteArray) (w : World) : (Op.equalIn 10000 38 (.agg #[.int .i64 a, .int .i64 b, .int .i64 c, .string s]) (.agg #[.int .i64 a', .int .i64 b', .int .i64 c', .string t])).run Tryz.prog w = .ok (a == a' && b == b' && c == c' && s.toList == t.toList) w := by
  have u3 := Tryz.underlying3
  have a3 := Tryz.isAgg3
  have z3 := Tryz.sizeOf3
  have uS := Tryz.underlying9
  have aS := Tryz.isAgg9
  have zS := Tryz.sizeOf9
  have aA := Tryz.isAgg36
  have zA := Tryz.sizeOf36
  have hS : Tryz.prog.underlying 38 = some (.struct (Tryz.prog.fieldsOf 38)) := by kernel_rfl
  have hp : Tryz.prog.stoodInHeld 38 = false := by kernel_rfl
  have e10 : (10000 : Nat) = 9999 + 1 := by omega
  rw [e10, run_equalIn_agg w 9999 38 _ _ hS hp]
  have e3 := fun w => eq3d 9997 a b c a' b' c' w
  have es := fun w => run_equalIn_string w 9998 9 s t Tryz.underlying9
  simp only [Program.fieldsOf, Tryz.underlying38]
  go_simp
  clear e3 es
  by_cases h1 : a = a' <;> by_cases h2 : b = b' <;> by_cases h3 : c = c' <;> by_cases h4 : s.toList = t.toList <;> simp [h1, h2, h3, h4]
end Go.Proofs.YtebhgcejcdgdbaaGreatDoor.Vs

/-
  LAYER 3, PACKAGE version: Compare; Twin.
-/
namespace Go.Proofs.YtebhgcejcdgdbaaGreatDoor.Vs
open Go.RowKit
open Go.Proofs.YtebhgcejcdgdbaaGreatDoor Go.Proofs.YtebhgcejcdgdbaaGreatDoor.Nu

theorem ints_blk {w : World} {B : Nat} {a b c : Int} {v : Value} {e : TypeId} (h : Blk w B [.int .i64 a, .int .i64 b, .int .i64 c, v] e) : IntsAt w B 0 [a, b, c] := by
  refine ⟨h.lt, fun k hk => ?_⟩
  rw [Nat.zero_add]
  match k, hk with
  | 0, _ => exact h.cell 0 rfl
  | 1, _ => exact h.cell 1 rfl
  | 2, _ => exact h.cell 2 rfl
/-- two blocks laid one behind the other -/
theorem two_blk (w : World) (xs ys : List Value) (e e' : TypeId) :
    Blk ((w.alloc (.cells xs.toArray e)).alloc (.cells ys.toArray e')) w.heap.size xs e ∧ Blk ((w.alloc (.cells xs.toArray e)).alloc (.cells ys.toArray e')) (w.heap.size + 1) ys e' := by
  refine ⟨(Blk.new w xs e).alloc _, ?_⟩
  have h := Blk.new (w.alloc (.cells xs.toArray e)) ys e'
  have hz : (w.alloc (.cells xs.toArray e)).heap.size = w.heap.size + 1 := by simp
  rw [hz] at h; exact h

set_option maxRecDepth 20000 in
set_option maxHeartbeats 2000000 in
theorem compare_num (a b c a' b' c' : Int) (s t : ByteArray) (h : (a == a') = false ∨ ((a == a') = true ∧ (b == b') = false) ∨ ((a == a') = true ∧ (b == b') = true ∧ (c == c') = false)) (w : World) :
    Calls Tryz.prog 26 #[.agg #[.int .i64 a, .int .i64 b, .int .i64 c, .string s], .agg #[.int .i64 a', .int .i64 b', .int .i64 c', .string t]] w (Gives (.int .i64 (cmpL cz [a, b, c] [a', b', c'])) w) := by
  have g1 : Tryz.prog.eqGuardType Tryz.prog.depth 36 = false := by kernel_rfl
  have HC : Hid (∀ (W : World) (B B' : Nat), IntsAt W B 0 [a, b, c] → IntsAt W B' 0 [a', b', c'] → Calls Tryz.prog 46 #[.slice (some ⟨B, 0, none⟩) 3 3, .slice (some ⟨B', 0, none⟩) 3 3] W (GivesE (.int .i64 (cmpL cz [a, b, c] [a', b', c'])) W)) :=
    hid (fun W B B' h1 h2 => cmpInts_any [a, b, c] [a', b', c'] (by simp) (by simp) B 0 3 B' 0 3 W h1 h2)
  generalize cmpL cz [a, b, c] [a', b', c'] = R at HC ⊢
  obtain ⟨hA, hB⟩ := two_blk w [.int .i64 a, .int .i64 b, .int .i64 c, .string s] [.int .i64 a', .int .i64 b', .int .i64 c', .string t] 38 38
  have hbx := below_alloc (below_alloc (Below.refl w.heap.size w) (.cells #[.int .i64 a, .int .i64 b, .int .i64 c, .string s] 38)) (.cells #[.int .i64 a', .int .i64 b', .int .i64 c', .string t] 38)
  replace hA := hid hA
  replace hB := hid hB
  replace hbx := hid hbx
  rcases h with h | ⟨h, k⟩ | ⟨h, k, j⟩
  all_goals
    go_enter Tryz.func26, Tryz.ntmps26
    go_wp2_with fail
    replace hA := hA.out
    replace hB := hB.out
    replace hbx := hbx.out
    generalize ((w.alloc (.cells #[.int .i64 a, .int .i64 b, .int .i64 c, .string s] 38)).alloc (.cells #[.int .i64 a', .int .i64 b', .int .i64 c', .string t] 38)) = W at hA hB hbx ⊢
    have i1 := hid (fun n => (ints_blk hA).below (below_drewN (Below.refl _ W) n))
    have i2 := hid (fun n => (ints_blk hB).below (below_drewN (Below.refl _ W) n))
    go_quiet (((with_reducible refine (HC.out _ _ _ (i1.out _) (i2.out _)).mono ?_); rintro e w3 ⟨rfl, rfl⟩; exact ⟨rfl, _, rfl⟩))
    go_wp2_with fail
    go_ret
    exact gives rfl rfl (below_drewN' hbx _)
end Go.Proofs.YtebhgcejcdgdbaaGreatDoor.Vs

/-
  LAYER 3, PACKAGE version: a release stands above what has something behind the same numbers.
-/
namespace Go.Proofs.YtebhgcejcdgdbaaGreatDoor.Vs
open Go.RowKit
open Go.Proofs.YtebhgcejcdgdbaaGreatDoor Go.Proofs.YtebhgcejcdgdbaaGreatDoor.Nu

set_option maxRecDepth 20000 in
set_option maxHeartbeats 400000 in
theorem compare_rel (a b c : Int) (s : ByteArray) (h : s.size ≠ 0) (w : World) :
    Calls Tryz.prog 26 #[.agg #[.int .i64 a, .int .i64 b, .int .i64 c, .string s], .agg #[.int .i64 a, .int .i64 b, .int .i64 c, .string ⟨#[]⟩]] w (Gives (.int .i64 (-1)) w) := by
  have hq := empty_eq s h
  have g1 : Tryz.prog.eqGuardType Tryz.prog.depth 36 = false := by kernel_rfl
  clear h
  go_enter Tryz.func26, Tryz.ntmps26
  go_wp2_with fail
  go_ret
  exact gives rfl rfl (below_alloc (below_alloc (Below.refl _ _) _) _)

end Go.Proofs.YtebhgcejcdgdbaaGreatDoor.Vs

/-
  LAYER 3, PACKAGE version: Compare, behind the same numbers.
-/
namespace Go.Proofs.YtebhgcejcdgdbaaGreatDoor.Vs
open Go.RowKit
open Go.Proofs.YtebhgcejcdgdbaaGreatDoor Go.Proofs.YtebhgcejcdgdbaaGreatDoor.Nu

/-- the cells of two versions that stand in memory: what stands behind the numbers -/
def Pre2 (w : World) (b1 b2 : Nat) (s t : ByteArray) (w' : World) : Prop := Below w.heap.size w w' ∧ w'.cell? ⟨b1, 3, none⟩ = some (.string s) ∧ w'.cell? ⟨b2, 3, none⟩ = some (.string t)
theorem keep2 {w a b : World} {b1 b2 : Nat} {s t : ByteArray} (hb : Below a.heap.size a b) (h : Below w.heap.size w a ∧ a.cell? ⟨b1, 3, none⟩ = some (.string s) ∧ a.cell? ⟨b2, 3, none⟩ = some (.string t)) :
    Below w.heap.size w b ∧ b.cell? ⟨b1, 3, none⟩ = some (.string s) ∧ b.cell? ⟨b2, 3, none⟩ = some (.string t) :=
  ⟨below_trans h.1 hb, by rw [hb.cell (World.block_lt_of_cell? _ _ h.2.1)]; exact h.2.1, by rw [hb.cell (World.block_lt_of_cell? _ _ h.2.2)]; exact h.2.2⟩
/-- what a text that is no more than so many parts is cut into -/
def PartsIs (G : List (List UInt8)) (w : World) (e : Ending) (w' : World) : Prop := ∃ c B, e = .returned (.slice (some ⟨B, 0, none⟩) G.length c) ∧ Below w.heap.size w w' ∧ CellsAt w' B 0 G
theorem parts_ok (s : ByteArray) (hs : s.size < 4294967281) (h : (cutl 46 s.data.toList).length ≤ 5) (w : World) (hm : MaxAt w) : Calls Tryz.prog 48 #[.string s] w (PartsIs (cutl 46 s.data.toList) w) := by
  refine (parts_any s hs w hm).mono ?_
  rintro e w' ⟨gs, c, B, h0, ⟨h1, _, _⟩, h2, h3, rfl, h5, h6⟩
  have := h1 h
  subst this
  exact ⟨c, B, rfl, h5, h6⟩

theorem cells_keep {a b : World} {B o : Nat} {G : List (List UInt8)} (h : CellsAt a B o G) (hb : Below a.heap.size a b) : CellsAt b B o G := h.below hb

set_option maxRecDepth 20000 in
set_option maxHeartbeats 4000000 in
theorem compare_parts (a b c : Int) (s t : ByteArray) (hs : s.size < 4294967281) (ht : t.size < 4294967281) (hcs : (cutl 46 s.data.toList).length ≤ 5) (hct : (cutl 46 t.data.toList).length ≤ 5)
    (hne : (s.toList == t.toList) = false) (h0 : (s.toList == []) = false) (h1 : (t.toList == []) = false) (w : World) (hm : MaxAt w) :
    Calls Tryz.prog 26 #[.agg #[.int .i64 a, .int .i64 b, .int .i64 c, .string s], .agg #[.int .i64 a, .int .i64 b, .int .i64 c, .string t]] w (Gives (.int .i64 (cmpL cmpP (cutl 46 s.data.toList) (cutl 46 t.data.toList))) w) := by
  have g1 : Tryz.prog.eqGuardType Tryz.prog.depth 36 = false := by kernel_rfl
  have P1 := hid (parts_ok s hs hcs)
  have P2 := hid (parts_ok t ht hct)
  have HF := hid (fun B o c B' o' c' w h1 h2 => cmpFunc_any (cutl 46 s.data.toList) (cutl 46 t.data.toList) (by omega) (by omega) B o c B' o' c' w h1 h2)
  clear hs ht hcs hct
  generalize cutl 46 s.data.toList = G1 at P1 HF ⊢
  generalize cutl 46 t.data.toList = G2 at P2 HF ⊢
  generalize cmpL cmpP G1 G2 = R at HF ⊢
  obtain ⟨hA, hB⟩ := two_blk w [.int .i64 a, .int .i64 b, .int .i64 c, .string s] [.int .i64 a, .int .i64 b, .int .i64 c, .string t] 38 38
  have hbx := below_alloc (below_alloc (Below.refl w.heap.size w) (.cells #[.int .i64 a, .int .i64 b, .int .i64 c, .string s] 38)) (.cells #[.int .i64 a, .int .i64 b, .int .i64 c, .string t] 38)
  replace hA := hid hA
  replace hB := hid hB
  replace hbx := hid hbx
  go_enter Tryz.func26, Tryz.ntmps26
  go_wp2_with fail
  have c1 := hA.out.cell 3 rfl
  have c2 := hB.out.cell 3 rfl
  replace hbx := hbx.out
  clear hA hB
  generalize ((w.alloc (.cells #[.int .i64 a, .int .i64 b, .int .i64 c, .string s] 38)).alloc (.cells #[.int .i64 a, .int .i64 b, .int .i64 c, .string t] 38)) = W at c1 c2 hbx ⊢
  generalize w.heap.size + 1 = b2 at c2 ⊢
  generalize w.heap.size = b1 at c1 ⊢
  have hS := hid (show Below w.heap.size w W.drew ∧ W.drew.cell? ⟨b1, 3, none⟩ = some (.string s) ∧ W.drew.cell? ⟨b2, 3, none⟩ = some (.string t) from keep2 (Below.refl W.heap.size W).drew ⟨hbx, c1, c2⟩)
  go_region_held3 (fun w' => Below w.heap.size w w' ∧ w'.cell? ⟨b1, 3, none⟩ = some (.string s) ∧ w'.cell? ⟨b2, 3, none⟩ = some (.string t)) (first | (exact keep2 (by assumption) (by assumption)) | (exact hS.out))
    (first
      | (go_at_call 48; (with_reducible refine (P1.out _ (hm.below (And.left (by assumption)))).mono ?_); rintro e w' ⟨c, B, rfl, hb, hc⟩)
      | (go_at_call 48; (with_reducible refine (P2.out _ (hm.below (And.left (by assumption)))).mono ?_); rintro e w' ⟨c, B, rfl, hb, hc⟩)
      | (go_at_call 47; (with_reducible refine (HF.out _ _ _ _ _ _ _ (by first | assumption | exact cells_keep (by assumption) (by assumption)) (by first | assumption | exact cells_keep (by assumption) (by assumption))).mono ?_); rintro e w' ⟨rfl, hb⟩))
  go_wp2_with fail
  go_ret
  exact gives rfl rfl (And.left (by assumption))

set_option maxRecDepth 20000 in
set_option maxHeartbeats 400000 in
theorem compare_same (a b c : Int) (s : ByteArray) (w : World) :
    Calls Tryz.prog 26 #[.agg #[.int .i64 a, .int .i64 b, .int .i64 c, .string s], .agg #[.int .i64 a, .int .i64 b, .int .i64 c, .string s]] w (Gives (.int .i64 0) w) := by
  have g1 : Tryz.prog.eqGuardType Tryz.prog.depth 36 = false := by kernel_rfl
  go_enter Tryz.func26, Tryz.ntmps26
  go_wp2_with fail
  go_ret
  exact gives rfl rfl (below_alloc (below_alloc (Below.refl _ _) _) _)
set_option maxRecDepth 20000 in
set_option maxHeartbeats 400000 in
theorem compare_above (a b c : Int) (s : ByteArray) (h : s.size ≠ 0) (w : World) :
    Calls Tryz.prog 26 #[.agg #[.int .i64 a, .int .i64 b, .int .i64 c, .string ⟨#[]⟩], .agg #[.int .i64 a, .int .i64 b, .int .i64 c, .string s]] w (Gives (.int .i64 1) w) := by
  have hq := empty_eq s h
  have hq2 : ([] == s.toList) = false := by rw [beq_eq_false_iff_ne] at hq ⊢; exact fun e => hq e.symm
  have g1 : Tryz.prog.eqGuardType Tryz.prog.depth 36 = false := by kernel_rfl
  clear h
  go_enter Tryz.func26, Tryz.ntmps26
  go_wp2_with fail
  go_ret
  exact gives rfl rfl (below_alloc (below_alloc (Below.refl _ _) _) _)

def natL (l : List Nat) : List Int := l.map Int.ofNat
theorem cmpL_nat : ∀ l m : List Nat, cmpL cz (natL l) (natL m) = cmpL ci l m := by
  intro l
  induction l with
  | nil => intro m; cases m <;> rfl
  | cons x l ih =>
    intro m
    cases m with
    | nil => rfl
    | cons y m =>
      show (if cz (x : Int) (y : Int) = 0 then cmpL cz (natL l) (natL m) else cz (x : Int) (y : Int)) = _
      rw [cz_nat, ih m]; rfl
def verA (a b c : Nat) (s : List UInt8) : Value := .agg #[.int .i64 (a : Int), .int .i64 (b : Int), .int .i64 (c : Int), .string ⟨s.toArray⟩]
/-- what may stand behind a version's numbers -/
def OkPre (s : List UInt8) : Prop := s.length < 4294967281 ∧ (s = [] ∨ preV s = true)
theorem OkPre.cut {s : List UInt8} (h : OkPre s) : (cutl 46 s).length ≤ 4 := by
  rcases h.2 with rfl | h
  · rw [cutl_no (by simp)]; simp
  · unfold preV at h; simp only [Bool.and_eq_true, decide_eq_true_eq] at h; exact h.1
theorem list_ne {s t : List UInt8} (h : s ≠ t) : ((⟨s.toArray⟩ : ByteArray).toList == (⟨t.toArray⟩ : ByteArray).toList) = false := by
  rw [ByteArray.toList_eq, ByteArray.toList_eq, beq_eq_false_iff_ne]
  exact h

/-- of two versions, which one is higher -/
theorem compare_any (a b c a' b' c' : Nat) (s t : List UInt8) (hs : OkPre s) (ht : OkPre t) (w : World) (hm : MaxAt w) :
    Calls Tryz.prog 26 #[verA a b c s, verA a' b' c' t] w (Gives (.int .i64 (cmpV [a, b, c] [a', b', c'] s t)) w) := by
  unfold verA
  by_cases hn : [a, b, c] = [a', b', c']
  · obtain ⟨rfl, rfl, rfl⟩ : a = a' ∧ b = b' ∧ c = c' := by simpa using hn
    unfold cmpV cmpB
    rw [if_pos rfl]
    by_cases h : s = t
    · subst h; rw [if_pos rfl]; exact compare_same _ _ _ _ w
    · rw [if_neg h]
      by_cases h0 : s = []
      · subst h0; rw [if_pos rfl]
        exact compare_above a b c ⟨t.toArray⟩ (by show t.toArray.size ≠ 0; simpa using Ne.symm h) w
      · rw [if_neg h0]
        by_cases h1 : t = []
        · subst h1; rw [if_pos rfl]
          exact compare_rel a b c ⟨s.toArray⟩ (by show s.toArray.size ≠ 0; simpa using h0) w
        · rw [if_neg h1]
          have hc := hs.cut
          have hd := ht.cut
          exact compare_parts a b c ⟨s.toArray⟩ ⟨t.toArray⟩ (sizeL _ _ hs.1) (sizeL _ _ ht.1) (by show (cutl 46 s).length ≤ 5; omega) (by show (cutl 46 t).length ≤ 5; omega) (list_ne h)
            (empty_eq _ (by show s.toArray.size ≠ 0; simpa using h0)) (empty_eq _ (by show t.toArray.size ≠ 0; simpa using h1)) w hm
  · unfold cmpV
    rw [if_neg hn]
    have := compare_num a b c a' b' c' ⟨s.toArray⟩ ⟨t.toArray⟩ (by
      by_cases h1 : a = a'
      · right
        by_cases h2 : b = b'
        · right
          have h3 : c ≠ c' := by intro h3; exact hn (by rw [h1, h2, h3])
          exact ⟨by simp [h1], by simp [h2], by rw [beq_eq_false_iff_ne]; omega⟩
        · left; exact ⟨by simp [h1], by rw [beq_eq_false_iff_ne]; omega⟩
      · left; rw [beq_eq_false_iff_ne]; omega) w
    rwa [show ([(a : Int), (b : Int), (c : Int)] : List Int) = natL [a, b, c] from rfl, show ([(a' : Int), (b' : Int), (c' : Int)] : List Int) = natL [a', b', c'] from rfl, cmpL_nat] at this

set_option maxRecDepth 20000 in
theorem twin_any (a b c a' b' c' : Int) (s t : ByteArray) (w : World) :
    Calls Tryz.prog 78 #[.agg #[.int .i64 a, .int .i64 b, .int .i64 c, .string s], .agg #[.int .i64 a', .int .i64 b', .int .i64 c', .string t]] w (Gives (.bool (a == a' && b == b' && c == c')) w) := by
  have g1 : Tryz.prog.eqGuardType Tryz.prog.depth 36 = false := by kernel_rfl
  generalize hR : (a == a' && b == b' && c == c') = R
  replace hR := hid hR
  go_enter Tryz.func78, Tryz.ntmps78
  go_wp2_with fail
  go_ret
  exact gives rfl (bool_eq hR.out) (below_alloc (below_alloc (Below.refl _ _) _) _)
end Go.Proofs.YtebhgcejcdgdbaaGreatDoor.Vs
