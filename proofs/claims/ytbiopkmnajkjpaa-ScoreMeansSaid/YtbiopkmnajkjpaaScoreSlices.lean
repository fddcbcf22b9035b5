/-
  LAYER 2: numbers made of a list of bits ('all'), and the statement ScoreBests.
-/
import Derived.Test.YtbiopkmnajkjpaaScoreLaws
import Derived.Deep.QuietTactic
import Derived.BigQuiet
import Derived.WalkSmall
namespace Go.Proofs.Ytbiopkmnajkjpaa.Sc
open Go.RowKit

theorem infoF : (Try.prog.info? 23).map (fun i => (i.zero, i.size, i.bytes)) = some (some (.float .f64 0), 1, 8) := by kernel_rfl

def floats (l : List Nat) : List Value := l.map (Value.float .f64)
theorem floats_get {l : List Nat} {k : Nat} (h : k < l.length) : (floats l)[k]? = some (.float .f64 (nth l k)) := by
  simp [floats, nth, List.getElem?_eq_getElem h]
theorem floats_snoc (l : List Nat) (k : Nat) (h : k < l.length) : floats (l.take (k + 1)) = floats (l.take k) ++ [.float .f64 (nth l k)] := by
  unfold floats nth
  rw [List.take_succ_eq_append_getElem h, List.map_append]
  simp [List.getElem?_eq_getElem h]

/-- the numbers with these bits, in a row of the call's own (or nil) -/
def AllIs (l : List Nat) (w : World) (e : Ending) (w' : World) : Prop := ∃ v, e = .returned v ∧ w'.ownsRow w.heap.size 23 1 v l.length (floats l) ∧ Below w.heap.size w w'

theorem all_nil (a : Option Addr) (c : Nat) (w : World) :
    Calls Try.prog 26 #[.slice a 0 c] w (AllIs [] w) := by
  go_enter Try.func26, Try.ntmps26
  go_wp2
  go_rounds 1
  go_ret
  exact ⟨_, rfl, World.ownsRow_nil _ _ _ _, Below.refl _ _⟩

set_option maxHeartbeats 1000000 in
theorem all_row (l : List Nat) (hl : ∀ k, k < l.length → nth l k < 18446744073709551616) (B o n c : Nat) (hn : n = l.length) (hm : n * 8 ≤ 140737488355328) (w : World) (hB : B < w.heap.size)
    (hc : ∀ k, k < l.length → w.cell? ⟨B, o + k, none⟩ = some (.int .u64 (nth l k : Nat))) :
    Calls Try.prog 26 #[.slice (some ⟨B, o, none⟩) n c] w (AllIs l w) := by
  have HC := hid hc
  have HL := hid hl
  have hn1 : n ≤ l.length := by omega
  have hn2 : l.length ≤ n := by omega
  obtain ⟨i0, hi, hz0, hz1, hz2⟩ := info_parts infoF
  have hi := hid hi
  have hz0 := hid hz0
  have hz1 := hid hz1
  have hz2 := hid hz2
  clear hc hl hn
  go_enter Try.func26, Try.ntmps26
  go_wp2_with fail
  go_loopw [3, 4] (fun v i wr => ∃ k : Nat, k ≤ n ∧ i = .int .i64 k ∧ wr.ownsRow w.heap.size 23 1 v k (floats (l.take k)) ∧ Below w.heap.size w wr) (fun _ i _ => n - (intOf i).toNat)
  case atStart => exact ⟨0, by omega, rfl, World.ownsRow_nil _ _ _ _, Below.refl _ _⟩
  case round =>
    obtain ⟨k, hk, rfl, hown, hbl⟩ := hrel
    by_cases hlt : k < n
    · have hc1 : wr.cell? ⟨B, o + k, none⟩ = some (.int .u64 (nth l k : Nat)) := (hbl.cell (p := ⟨B, o + k, none⟩) hB).trans (HC.out k (by omega))
      have hx := hid (HL.out k (by omega))
      have hsn := hid (floats_snoc l k (by omega))
      go_wp2_with fail
      refine (of_any _ hx.out _).mono ?_
      rintro e w1 ⟨rfl, hb1⟩
      have hown1 := ownsRow_below hown hb1
      have hsz := hb1.size
      have hsz2 := hbl.size
      go_wp2_with (at_builtin; refine wpList_append_own _ rfl _ _ 43 rfl w.heap.size 23 i0 (.float .f64 0) 1 8 Try.underlying43 hi.out hz0.out hz1.out hz2.out rfl (by decide) _ _ _ rfl (hown1.alloc _) ⟨w1.heap.size, 0, none⟩ 1 1 [.float .f64 (nth l k)] rfl rfl ?c1 ?c2 ?c3 ?c4 ?c5 ?_)
      case c1 => exact cell_one_new _ _ _
      case c2 => intro u hu; simp at hu; subst hu; rfl
      case c3 => unfold maxLen; omega
      case c4 => omega
      case c5 => simp; omega
      intro v' w2 hown2 hgrow _
      have hb2 : Below w.heap.size w w2 := ((hbl.trans (hb1.mono hsz2)).alloc (by omega) _).grown hgrow (by simp; omega) (fun k hk => (hown1.lt k hk).1)
      clear hown1 hgrow hown hbl hb1
      go_wp2
      go_roundw
      case rel => exact ⟨k + 1, by omega, by go_num, by rw [hsn.out]; exact hown2, hb2⟩
      case measure => simp [intOf]; omega
    · have hkn : k = l.length := by omega
      go_wp2_with fail
      go_ret
      refine ⟨_, rfl, ?_, hbl⟩
      rw [hkn, List.take_length] at hown
      exact hown

theorem below_drewN' {a b : World} (h : Below a.heap.size a b) (n : Nat) : Below a.heap.size a (b.drewN n) := below_drewN h n
theorem refCompare_q (a b : Nat) (ha : a < 18446744073709551616) (hb : b < 18446744073709551616) (w : World) :
    Calls Try.prog 21 #[.int .u64 (a : Int), .int .u64 (b : Int)] w fun e w' => e = .returned (.int .i64 (cmpB a b)) ∧ w' = w :=
  (refCompare_any a b ha hb w).mono fun _ _ ⟨he, hw⟩ => ⟨he, hw.symm⟩

set_option maxHeartbeats 1000000 in
theorem law_bests_row (l : List Nat) (hl : ∀ k, k < l.length → nth l k < 18446744073709551616) (B o n c : Nat) (hn : n = l.length) (hm : n * 8 ≤ 140737488355328) (w : World) (hB : B < w.heap.size)
    (hc : ∀ k, k < l.length → w.cell? ⟨B, o + k, none⟩ = some (.int .u64 (nth l k : Nat))) :
    Calls Try.prog 7 #[.slice (some ⟨B, o, none⟩) n c] w fun e w' => e = .returned (.bool true) ∧ Below w.heap.size w w' := by
  have HC := hid hc
  have HL := hid hl
  have HN := hid hn
  have HM := hid hm
  have hn1 : n ≤ l.length := by omega
  have hn2 : l.length ≤ n := by omega
  clear hc hl hn
  go_enter Try.func7, Try.ntmps7
  go_wp2_with fail
  go_loopw [3, 4] (fun v i wr => ∃ k : Nat, k ≤ n ∧ i = .int .i64 k ∧ v = .int .i64 (bestTo l k) ∧ Below w.heap.size w wr) (fun _ i _ => n - (intOf i).toNat)
  case atStart => exact ⟨0, by omega, rfl, rfl, Below.refl _ _⟩
  case round =>
    obtain ⟨k, hk, rfl, rfl, hbl⟩ := hrel
    have hb := bestTo_lt l k
    by_cases hlt : k < n
    · have hc1 : wr.cell? ⟨B, o + k, none⟩ = some (.int .u64 (nth l k : Nat)) := (hbl.cell (p := ⟨B, o + k, none⟩) hB).trans (HC.out k (by omega))
      have hx := hid (HL.out k (by omega))
      by_cases hneg : bestTo l k < 0
      · have e := hid (bestTo_neg hneg)
        have hd : decide (bestTo l k < 0) = true := decide_eq_true hneg
        go_wp2_with fail
        go_quiet (fail)
        go_wp2
        go_roundw
        case rel => exact ⟨k + 1, by omega, by go_num, int_eq e.out, below_drewN' hbl _⟩
        case measure => simp [intOf]; omega
      · have hneg' : 0 ≤ bestTo l k := by omega
        obtain ⟨j, hj⟩ := Int.eq_ofNat_of_zero_le hneg'
        have hc2 : wr.cell? ⟨B, o + j, none⟩ = some (.int .u64 (nth l j : Nat)) := (hbl.cell (p := ⟨B, o + j, none⟩) hB).trans (HC.out j (by omega))
        have hy := hid (HL.out j (by omega))
        by_cases hg : 0 < cmpB (nth l k) (nth l j)
        · have e := hid (bestTo_gt hneg (by rw [hj]; exact hg))
          have hj' := hid hj
          rw [hj] at hb hneg hneg' ⊢
          clear hj
          have hd : decide ((j : Int) < 0) = false := decide_eq_false hneg
          go_wp2_with fail
          go_quiet ((go_at_call 21; exact Calls.quiet_of_same (refCompare_q _ _ hx.out hy.out _)))
          go_wp2
          go_roundw
          case rel => exact ⟨k + 1, by omega, by go_num, int_eq e.out, below_drewN' hbl _⟩
          case measure => simp [intOf]; omega
        · have e := hid (bestTo_le hneg (by rw [hj]; exact hg))
          have hj' := hid hj
          rw [hj] at hb hneg hneg' ⊢
          clear hj
          have hd : decide ((j : Int) < 0) = false := decide_eq_false hneg
          go_wp2_with fail
          go_quiet ((go_at_call 21; exact Calls.quiet_of_same (refCompare_q _ _ hx.out hy.out _)))
          go_wp2
          go_roundw
          case rel => exact ⟨k + 1, by omega, by go_num, int_eq (by rw [← e.out, hj'.out]), below_drewN' hbl _⟩
          case measure => simp [intOf]; omega
    · have hkn : k = n := by omega
      subst hkn
      go_wp2_with fail
      refine (told_any _).mono ?_
      rintro e w1 ⟨rfl, hb1⟩
      go_wp2_with fail
      have hb01 := below_trans hbl hb1
      refine (all_row l HL.out B o k c HN.out HM.out w1 (by have := hb01.size; omega) (fun i hi => (hb01.cell (p := ⟨B, o + i, none⟩) hB).trans (HC.out i hi))).mono ?_
      rintro e w2 ⟨v, rfl, hown, hb2⟩
      have hkl : (k : Int) = l.length := by have := HN.out; omega
      rcases ownsRow_one hown with ⟨rfl, hz, _⟩ | ⟨g, c', rfl, _, _, _, hcm, hcell⟩
      · have hk0 : k = 0 := by have := HN.out; omega
        have e := hid hk0
        clear hkl
        subst hk0
        go_wp2_with (go_at_call 25; (with_reducible refine (best_nil _).mono ?_); rintro e w' ⟨rfl, rfl⟩)
        go_ret
        exact ⟨rfl, below_trans hb01 hb2⟩
      · have hle : l.length ≤ maxLen := by omega
        have hbst := best_row l HL.out g l.length c' rfl hle w2 (fun i hi => hcell i _ (floats_get hi))
        have hkn := HN.out
        subst hkn
        clear hkl
        have hb' := hid hbst
        clear hbst
        go_wp2_with (go_at_call 25; (with_reducible refine hb'.out.mono ?_); rintro e w' ⟨rfl, rfl⟩)
        go_ret
        exact ⟨rfl, below_trans hb01 hb2⟩

theorem law_bests_nil (a : Option Addr) (c : Nat) (w : World) :
    Calls Try.prog 7 #[.slice a 0 c] w fun e w' => e = .returned (.bool true) ∧ Below w.heap.size w w' := by
  go_enter Try.func7, Try.ntmps7
  go_wp2_with fail
  refine wp_loop_rounds 1 ?_
  rw [rounds_succ]
  go_wp2_with fail
  refine (told_any _).mono ?_
  rintro e w1 ⟨rfl, hb1⟩
  go_wp2_with fail
  refine (all_nil _ _ _).mono ?_
  rintro e w2 ⟨v, rfl, hown, hb2⟩
  rcases ownsRow_one hown with ⟨rfl, _, _⟩ | ⟨g, c', rfl, _, _, _, hcm, hcell⟩
  · go_wp2_with (go_at_call 25; (with_reducible refine (best_nil _).mono ?_); rintro e w' ⟨rfl, rfl⟩)
    go_ret
    exact ⟨rfl, below_trans hb1 hb2⟩
  · have hb' := hid (best_row [] (fun k h => by cases h) g 0 c' rfl (by decide) w2 (fun i hi => by cases hi))
    go_wp2_with (go_at_call 25; (with_reducible refine hb'.out.mono ?_); rintro e w' ⟨rfl, rfl⟩)
    go_ret
    exact ⟨rfl, below_trans hb1 hb2⟩

end Go.Proofs.Ytbiopkmnajkjpaa.Sc
