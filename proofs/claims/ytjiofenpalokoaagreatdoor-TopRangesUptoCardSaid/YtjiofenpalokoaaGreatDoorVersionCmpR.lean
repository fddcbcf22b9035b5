/-
  LAYER 3, THE DOCUMENT'S Compare.
-/
import Derived.Test.YtjiofenpalokoaaGreatDoorVersionCmpP
import Derived.Test.YtjiofenpalokoaaGreatDoorVersionCmpD
import Derived.BigRegion
namespace Go.Proofs.YtjiofenpalokoaaGreatDoor.Vs
open Go.RowKit
open Go.Proofs.YtjiofenpalokoaaGreatDoor Go.Proofs.YtjiofenpalokoaaGreatDoor.Nu

theorem ints_new (w : World) (xs : List Int) (e : TypeId) : IntsAt (w.alloc (.cells (xs.map (Value.int .i64)).toArray e)) w.heap.size 0 xs := by
  have h := Blk.new w (xs.map (Value.int .i64)) e
  refine ⟨h.lt, fun k hk => ?_⟩
  rw [Nat.zero_add]
  refine h.cell k ?_
  rw [List.getElem?_map, at_getD 0 hk]; rfl
/-- two rows of three numbers, laid one behind the other -/
theorem two_ints (w : World) (a b c a' b' c' : Int) (e e' : TypeId) :
    IntsAt ((w.alloc (.cells #[.int .i64 a, .int .i64 b, .int .i64 c] e)).alloc (.cells #[.int .i64 a', .int .i64 b', .int .i64 c'] e')).drew w.heap.size 0 [a, b, c] ∧
    IntsAt ((w.alloc (.cells #[.int .i64 a, .int .i64 b, .int .i64 c] e)).alloc (.cells #[.int .i64 a', .int .i64 b', .int .i64 c'] e')).drew (w.heap.size + 1) 0 [a', b', c'] ∧
    Below w.heap.size w ((w.alloc (.cells #[.int .i64 a, .int .i64 b, .int .i64 c] e)).alloc (.cells #[.int .i64 a', .int .i64 b', .int .i64 c'] e')).drew := by
  refine ⟨?_, ?_, below_drew (below_alloc (below_alloc (Below.refl _ _) _) _)⟩
  · exact (ints_new w [a, b, c] e).below (below_drew (below_alloc (Below.refl _ _) _))
  · have h := ints_new (w.alloc (.cells #[.int .i64 a, .int .i64 b, .int .i64 c] e)) [a', b', c'] e'
    have hz : (w.alloc (.cells #[.int .i64 a, .int .i64 b, .int .i64 c] e)).heap.size = w.heap.size + 1 := by simp
    rw [hz] at h
    exact h.below (below_drew (Below.refl _ _))
theorem take_step {l m : List Int} {k : Nat} {x y : Int} (h : l.take k = m.take k) (hx : l[k]? = some x) (hy : m[k]? = some y) (e : x = y) : l.take (k + 1) = m.take (k + 1) := by
  rw [List.take_add_one, List.take_add_one, h, hx, hy, e]

set_option maxRecDepth 20000 in
set_option maxHeartbeats 4000000 in
theorem rcompare_num (a b c a' b' c' : Int) (pa : Option Addr) (pn pc : Nat) (qa : Option Addr) (qn qc : Nat) (hne : [a, b, c] ≠ [a', b', c']) (w : World) :
    Calls Tryz.prog 22 #[.agg #[.int .i64 a, .int .i64 b, .int .i64 c, .slice pa pn pc], .agg #[.int .i64 a', .int .i64 b', .int .i64 c', .slice qa qn qc]] w (Gives (.int .i64 (cmpL cz [a, b, c] [a', b', c'])) w) := by
  have hR := hid (show cmpL cz [a, b, c] [a', b', c'] = cmpL cz ([a, b, c].drop 0) ([a', b', c'].drop 0) from rfl)
  generalize cmpL cz [a, b, c] [a', b', c'] = R at hR ⊢
  replace hne := hid hne
  have HI := hid ints_any
  obtain ⟨hA, hB⟩ := two_blk w [.int .i64 a, .int .i64 b, .int .i64 c, .slice pa pn pc] [.int .i64 a', .int .i64 b', .int .i64 c', .slice qa qn qc] 45 45
  have hbx := below_alloc (below_alloc (Below.refl w.heap.size w) (.cells #[.int .i64 a, .int .i64 b, .int .i64 c, .slice pa pn pc] 45)) (.cells #[.int .i64 a', .int .i64 b', .int .i64 c', .slice qa qn qc] 45)
  replace hA := hid hA
  replace hB := hid hB
  replace hbx := hid hbx
  go_enter Tryz.func22, Tryz.ntmps22
  go_upto_region 1 with (fail)
  have a0 := hA.out.cell 0 rfl
  have a1 := hA.out.cell 1 rfl
  have a2 := hA.out.cell 2 rfl
  have d0 := hB.out.cell 0 rfl
  have d1 := hB.out.cell 1 rfl
  have d2 := hB.out.cell 2 rfl
  have l1 := hA.out.lt
  have l2 := hB.out.lt
  replace hbx := hbx.out
  clear hA hB
  generalize ((w.alloc (.cells #[.int .i64 a, .int .i64 b, .int .i64 c, .slice pa pn pc] 45)).alloc (.cells #[.int .i64 a', .int .i64 b', .int .i64 c', .slice qa qn qc] 45)) = W at a0 a1 a2 d0 d1 d2 l1 l2 hbx ⊢
  generalize w.heap.size + 1 = b2 at d0 d1 d2 l2 ⊢
  generalize w.heap.size = b1 at a0 a1 a2 l1 ⊢
  go_cut [5, 6] (fun v u wx => ∃ g g' : Nat, v = .slice (some ⟨g, 0, none⟩) 3 3 ∧ u = .slice (some ⟨g', 0, none⟩) 3 3 ∧ Below W.heap.size W wx ∧ IntsAt wx g 0 [a, b, c] ∧ IntsAt wx g' 0 [a', b', c'])
  case first =>
    have T1 := hid (two_ints W a b c a' b' c' 3 3)
    have T2 := hid (two_ints W a' b' c' a b c 3 3)
    go_region
    all_goals
      go_wp2_with fail
      go_meet
      first
        | exact ⟨_, _, rfl, rfl, T1.out.2.2, T1.out.1, T1.out.2.1⟩
        | exact ⟨_, _, rfl, rfl, T2.out.2.2, T2.out.2.1, T2.out.1⟩
  case rest =>
    obtain ⟨g, g', rfl, rfl, hb2, i1, i2⟩ := hcut
    have hbw := below_trans hbx hb2
    have ST := hid (fun k x y => @cmpL_step _ cz [a, b, c] [a', b', c'] k x y)
    have TS := hid (fun k x y => @take_step [a, b, c] [a', b', c'] k x y)
    clear a0 a1 a2 d0 d1 d2 l1 l2 hb2 hbx
    have hl1 : ([a, b, c] : List Int).length = 3 := rfl
    have hl2 : ([a', b', c'] : List Int).length = 3 := rfl
    generalize [a, b, c] = xs at *
    generalize [a', b', c'] = ys at *
    replace i1 := hid i1
    replace i2 := hid i2
    replace hl1 := hid hl1
    replace hl2 := hid hl2
    go_wp2_with fail
    go_loopw [7] (fun v wr => ∃ k : Nat, k ≤ 3 ∧ v = .int .i64 k ∧ Below w.heap.size w wr ∧ IntsAt wr g 0 xs ∧ IntsAt wr g' 0 ys ∧ Hid (R = cmpL cz (xs.drop k) (ys.drop k)) ∧ Hid (xs.take k = ys.take k)) (fun v _ => 3 - (intOf v).toNat)
    case atStart => exact ⟨0, by omega, rfl, hbw, i1.out, i2.out, hid hR.out, hid rfl⟩
    case round =>
      obtain ⟨k, hk, rfl, hb, hx, hy, hp, ht⟩ := hrel
      clear hR i1 i2 hbw
      by_cases hlt : k < 3
      · have x1 := hid (at_getD (0 : Int) (show k < xs.length by rw [hl1.out]; exact hlt))
        have x2 := hid (at_getD (0 : Int) (show k < ys.length by rw [hl2.out]; exact hlt))
        have c1 := hx.2 k (by rw [hl1.out]; exact hlt)
        have c2 := hy.2 k (by rw [hl2.out]; exact hlt)
        have b1 := hx.1
        have b2 := hy.1
        rw [Nat.zero_add] at c1 c2
        generalize xs.getD k 0 = x at x1 c1
        generalize ys.getD k 0 = y at x2 c2
        have hs := hid (hp.out.trans (ST.out k x y x1.out x2.out))
        have k0 : (0 : Int) ≤ (k : Int) := by omega
        have k1 : (k : Int) < 3 := by omega
        replace hx := hid hx
        replace hy := hid hy
        clear hp
        by_cases hq : x = y
        · have hs2 := hid (hs.out.trans (if_pos (by rw [hq]; unfold cz; simp)))
          have ht2 := hid (TS.out k x y ht.out x1.out x2.out hq)
          have hq' : (x != y) = false := by simpa using hq
          clear hs hq x1 x2 ST TS ht HI
          go_wp2_with fail
          go_quiet (fail)
          go_wp2_with fail
          go_roundw
          case rel => exact ⟨k + 1, by omega, by go_num, below_drewN' hb _, hx.out.below (below_drewN (Below.refl _ _) _), hy.out.below (below_drewN (Below.refl _ _) _), hs2, ht2⟩
          case measure => simp [intOf]; omega
        · have hs2 := hid (hs.out.trans (if_neg (by unfold cz; split; simp; split; simp; omega)))
          have HIx := hid (HI.out x y)
          have hq' : (x != y) = true := by simpa using hq
          clear hs hq x1 x2 ST TS ht HI
          generalize cz x y = q at hs2 HIx
          go_wp2_with fail
          go_quiet (fail)
          go_wp2_with fail
          go_quiet (((with_reducible refine (HIx.out _).mono ?_); rintro e w3 ⟨rfl, rfl⟩; exact ⟨rfl, _, rfl⟩))
          go_wp2_with fail
          go_ret
          exact gives rfl (int_eq hs2.out.symm) (below_drewN' (below_drewN' hb _) _)
      · exfalso
        apply hne.out
        have := ht.out
        rwa [List.take_of_length_le (by rw [hl1.out]; omega), List.take_of_length_le (by rw [hl2.out]; omega)] at this
end Go.Proofs.YtjiofenpalokoaaGreatDoor.Vs
