/-
  LAYER 3, PACKAGE version: Check and Text.
-/
import Derived.Test.YtmeaajhongalaaaGreatDoorVersionParse
import Derived.Test.YtmeaajhongalaaaGreatDoorNums
import Derived.Deep.RegionLaw
import Derived.Deep.DeepCutAuto
import Derived.Deep.CutBlock
import Derived.Lib.AppendIntMem
import Derived.Lib.LaidTab
import Derived.Lib.QuietBelow
namespace Go.Proofs.YtmeaajhongalaaaGreatDoor.Vs
open Go.RowKit
open Go.Proofs.YtmeaajhongalaaaGreatDoor Go.Proofs.YtmeaajhongalaaaGreatDoor.Nu

def okI (x : Int) : Bool := decide (0 ≤ x ∧ x ≤ 999999)
def checkI (a b c : Int) (pre : List UInt8) : Bool := okI a && okI b && okI c && (decide (pre = []) || preV pre)
theorem okI_f {x : Int} (h : x < 0 ∨ 999999 < x) : okI x = false := decide_eq_false (by omega)
theorem okI_t {x : Int} (h : ¬ (x < 0 ∨ 999999 < x)) : okI x = true := decide_eq_true (by omega)

@[go_sem] theorem index3_0 (a b c : Int) (w : World) : (Instr.index 39 (.agg #[.int .i64 a, .int .i64 b, .int .i64 c]) (.int .i64 0)).run Tryz.prog w = .ok (.int .i64 a) w := by
  simp [Instr.index, run_underlying Tryz.underlying39, asIntOf, go_sem]
@[go_sem] theorem index3_1 (a b c : Int) (w : World) : (Instr.index 39 (.agg #[.int .i64 a, .int .i64 b, .int .i64 c]) (.int .i64 1)).run Tryz.prog w = .ok (.int .i64 b) w := by
  simp [Instr.index, run_underlying Tryz.underlying39, asIntOf, go_sem]
@[go_sem] theorem index3_2 (a b c : Int) (w : World) : (Instr.index 39 (.agg #[.int .i64 a, .int .i64 b, .int .i64 c]) (.int .i64 2)).run Tryz.prog w = .ok (.int .i64 c) w := by
  simp [Instr.index, run_underlying Tryz.underlying39, asIntOf, go_sem]

set_option maxRecDepth 20000 in
set_option maxHeartbeats 4000000 in
theorem check_s (a b c : Int) (s : ByteArray) (hs : s.size < 4294967281) (w : World) (hm : MaxAt w) :
    Calls Tryz.prog 62 #[.agg #[.int .i64 a, .int .i64 b, .int .i64 c, .string s]] w (Gives (.bool (checkI a b c s.data.toList)) w) := by
  have HV := hid (show checkI a b c s.data.toList = (okI a && okI b && okI c && (decide (s.data.toList = []) || preV s.data.toList)) from rfl)
  have HP : Hid (∀ w, MaxAt w → Calls Tryz.prog 119 #[.string s] w (Gives (.bool (preV s.data.toList)) w)) := hid (checkPre_any s hs)
  generalize checkI a b c s.data.toList = R at HV ⊢
  have hpre : (s = ByteArray.empty ∧ (decide (s.data.toList = []) || preV s.data.toList) = true) ∨ ((s.toList == []) = false ∧ (decide (s.data.toList = []) || preV s.data.toList) = preV s.data.toList) := by
    by_cases h : s.size = 0
    · left
      refine ⟨by apply ByteArray.ext; apply Array.eq_empty_of_size_eq_zero; exact h, ?_⟩
      rw [decide_eq_true (List.eq_nil_of_length_eq_zero (by rw [lenS]; exact h))]; rfl
    · right
      exact ⟨empty_eq s h, by rw [decide_eq_false (fun e => h (by rw [← lenS, e]; rfl))]; rfl⟩
  generalize (decide (s.data.toList = []) || preV s.data.toList) = q at HV hpre
  generalize preV s.data.toList = pv at HP hpre
  have HPR := hid hpre
  clear hpre hs
  go_enter Tryz.func62, Tryz.ntmps62
  go_upto_block 0 with (fail)
  have hbk : Blk (w.alloc (.cells #[.int .i64 a, .int .i64 b, .int .i64 c, .string s] 41)) w.heap.size [.int .i64 a, .int .i64 b, .int .i64 c, .string s] 41 := Blk.new w _ _
  have hb0 : Below w.heap.size w (w.alloc (.cells #[.int .i64 a, .int .i64 b, .int .i64 c, .string s] 41)) := below_alloc (Below.refl _ _) _
  generalize w.alloc (.cells #[.int .i64 a, .int .i64 b, .int .i64 c, .string s] 41) = W0 at hbk hb0 ⊢
  have v0 := hbk.cell 0 rfl
  have v1 := hbk.cell 1 rfl
  have v2 := hbk.cell 2 rfl
  have v3 := hbk.cell 3 rfl
  go_wp2_with fail
  go_loop [7] (fun v => ∃ k : Nat, k ≤ 3 ∧ v = .int .i64 k ∧ Hid ((0 < k → okI a = true) ∧ (1 < k → okI b = true) ∧ (2 < k → okI c = true))) (fun v => 3 - (intOf v).toNat)
  case atStart => exact ⟨0, by omega, rfl, hid ⟨fun h => by omega, fun h => by omega, fun h => by omega⟩⟩
  case round =>
    obtain ⟨k, hk, rfl, hg⟩ := hrel
    have which : k = 0 ∨ k = 1 ∨ k = 2 ∨ k = 3 := by omega
    rcases which with rfl | rfl | rfl | rfl
    · by_cases h1 : a < 0
      · have hn := hid (show R = false by rw [HV.out, okI_f (x := a) (.inl h1)]; simp)
        go_wp2_with fail
        go_ret
        exact gives rfl (bool_eq hn.out.symm) hb0
      · by_cases h2 : 999999 < a
        · have hn := hid (show R = false by rw [HV.out, okI_f (x := a) (.inr h2)]; simp)
          go_wp2_with fail
          go_ret
          exact gives rfl (bool_eq hn.out.symm) hb0
        · have hy := hid (okI_t (x := a) (by omega))
          go_wp2_with fail
          go_round
          case rel => exact ⟨1, by decide, rfl, hid ⟨fun _ => hy.out, fun h => by omega, fun h => by omega⟩⟩
          case measure => decide
    · by_cases h1 : b < 0
      · have hn := hid (show R = false by rw [HV.out, okI_f (x := b) (.inl h1)]; simp)
        go_wp2_with fail
        go_ret
        exact gives rfl (bool_eq hn.out.symm) hb0
      · by_cases h2 : 999999 < b
        · have hn := hid (show R = false by rw [HV.out, okI_f (x := b) (.inr h2)]; simp)
          go_wp2_with fail
          go_ret
          exact gives rfl (bool_eq hn.out.symm) hb0
        · have hy := hid (okI_t (x := b) (by omega))
          go_wp2_with fail
          go_round
          case rel => exact ⟨2, by decide, rfl, hid ⟨fun _ => hg.out.1 (by decide), fun _ => hy.out, fun h => by omega⟩⟩
          case measure => decide
    · by_cases h1 : c < 0
      · have hn := hid (show R = false by rw [HV.out, okI_f (x := c) (.inl h1)]; simp)
        go_wp2_with fail
        go_ret
        exact gives rfl (bool_eq hn.out.symm) hb0
      · by_cases h2 : 999999 < c
        · have hn := hid (show R = false by rw [HV.out, okI_f (x := c) (.inr h2)]; simp)
          go_wp2_with fail
          go_ret
          exact gives rfl (bool_eq hn.out.symm) hb0
        · have hy := hid (okI_t (x := c) (by omega))
          go_wp2_with fail
          go_round
          case rel => exact ⟨3, by decide, rfl, hid ⟨fun _ => hg.out.1 (by decide), fun _ => hg.out.2.1 (by decide), fun _ => hy.out⟩⟩
          case measure => decide
    · have hR := hid (show R = q by rw [HV.out, hg.out.1 (by decide), hg.out.2.1 (by decide), hg.out.2.2 (by decide)]; rfl)
      have hpre := HPR.out
      clear HPR HV hg
      rcases hpre with ⟨rfl, hq⟩ | ⟨hne, hq⟩
      · have hq' := hid hq
        clear hq
        go_wp2_with fail
        go_ret
        exact gives rfl (bool_eq (hR.out.trans hq'.out).symm) hb0
      · have hq' := hid hq
        clear hq
        go_wp2_with (go_at_call 119; (with_reducible refine (HP.out _ (hm.below hb0)).mono ?_); rintro e w2 ⟨rfl, hb2⟩)
        go_ret
        exact gives rfl (bool_eq (hR.out.trans hq'.out).symm) (below_trans hb0 hb2)

theorem check_any (a b c : Int) (pre : List UInt8) (hs : pre.length < 4294967281) (w : World) (hm : MaxAt w) :
    Calls Tryz.prog 62 #[.agg #[.int .i64 a, .int .i64 b, .int .i64 c, .string ⟨pre.toArray⟩]] w (Gives (.bool (checkI a b c pre)) w) :=
  check_s a b c ⟨pre.toArray⟩ (sizeL _ _ hs) w hm

/-- the library's table of powers of ten -/
def TenAt (w : World) : Prop := Lib.TabIs Tryz.prog w "internal/strconv.uint64pow10" .u64 Lib.pow10Tab
theorem ten_g : Tryz.prog.globalNamed "internal/strconv.uint64pow10" = some 2 := by kernel_rfl
theorem TenAt.below {w w' : World} (h : TenAt w) (hb : Below w.heap.size w w') : TenAt w' := Joins.tab_stays ten_g h hb (Nat.le_refl _)

theorem itoa_any (n : Nat) (hn : n < 1000000) (w : World) (ht : TenAt w) :
    Calls Tryz.prog 111 #[.int .i64 (n : Int)] w (Gives (.string ⟨(decS n).toArray⟩) w) := by
  refine (Tryz.strconv_Itoa n (by omega) (by omega) w ht).mono ?_
  rintro e w' ⟨rfl, k, os, rfl⟩
  exact gives rfl (by rw [itoa_same]) (Lib.below_grow _ w (Nat.le_refl _) k os)

theorem check_nat (a b c : Nat) (pre : List UInt8) (ha : a < 1000000) (hb : b < 1000000) (hc : c < 1000000) : checkI a b c pre = (decide (pre = []) || preV pre) := by
  unfold checkI
  rw [okI_t (by omega), okI_t (by omega), okI_t (by omega)]; rfl

set_option maxHeartbeats 4000000 in
theorem text_no (a b c : Int) (pre : List UInt8) (hs : pre.length < 4294967281) (hno : checkI a b c pre = false) (w : World) (hm : MaxAt w) :
    Calls Tryz.prog 58 #[.agg #[.int .i64 a, .int .i64 b, .int .i64 c, .string ⟨pre.toArray⟩]] w (Gives (.string ⟨#[]⟩) w) := by
  have HC := hid (check_any a b c pre hs)
  rw [hno] at HC
  clear hs
  go_enter Tryz.func58, Tryz.ntmps58
  go_wp2_with (go_at_call 62; (with_reducible refine (HC.out _ (hm.below (below_alloc (Below.refl _ _) _))).mono ?_); rintro e w1 ⟨rfl, hb1⟩)
  go_ret
  exact gives rfl rfl (below_trans (below_alloc (Below.refl _ _) _) hb1)

end Go.Proofs.YtmeaajhongalaaaGreatDoor.Vs
