/-
  SEVERAL TEXTS, one behind the other.
-/
import Derived.Test.YtebhgcejcdgdbaaGreatDoorMD
import Derived.Test.YtebhgcejcdgdbaaGreatDoorME
import Derived.BigRegion
import Derived.Lib.QuietBelow
/-
  LAYER 3, THE DOCUMENT'S Compare.
-/
namespace Go.Proofs.YtebhgcejcdgdbaaGreatDoor.Vs
open Go.RowKit
open Go.Proofs.YtebhgcejcdgdbaaGreatDoor Go.Proofs.YtebhgcejcdgdbaaGreatDoor.Nu

theorem ints_new (w : World) (xs : List Int) (e : TypeId) : IntsAt (w.alloc (.cells (xs.map (Value.int .i64)).toArray e)) w.heap.size 0 xs := by
  have h := Blk.new w (xs.map (Value.int .i64)) e
  refine ⟨h.lt, fun k hk => ?_⟩
  rw [Nat.zero_add]
  refine h.cell k ?_
  rw [List.getElem?_map, at_getD 0 hk]; rfl
/-- two rows of three numbers, laid one behind the other -/
theorem two_ints (w : World) (a b c a' b' c' : Int) (e e' : TypeId) :
    IntsAt ((w.alloc (.cells #[.int .i64 a, .int .i64 b, .int .i64 c] e)).alloc (.cells #[.int .i64 a', .int .i64 b', .int .i64 c'] e')).drew w.heap.size 0 [a, b, c] ∧
    IntsAt ((w.alloc (.cells #[.int .i64 a, .int .i64 b, .int .i64 c] e)).alloc (.cells #[.int .i64 a', .int .i64 b', .int .i64 c'] e')).drew (w.heap.size + 1) 0 [a', b', c'] ∧
    Below w.heap.size w ((w.alloc (.cells #[.int .i64 a, .int .i64 b, .int .i64 c] e)).alloc (.cells #[.int .i64 a', .int .i64 b', .int .i64 c'] e')).drew := by
  refine ⟨?_, ?_, below_drew (below_alloc (below_alloc (Below.refl _ _) _) _)⟩
  · exact (ints_new w [a, b, c] e).below (below_drew (below_alloc (Below.refl _ _) _))
  · have h := ints_new (w.alloc (.cells #[.int .i64 a, .int .i64 b, .int .i64 c] e)) [a', b', c'] e'
    have hz : (w.alloc (.cells #[.int .i64 a, .int .i64 b, .int .i64 c] e)).heap.size = w.heap.size + 1 := by simp
    rw [hz] at h
    exact h.below (below_drew (Below.refl _ _))
theorem take_step {l m : List Int} {k : Nat} {x y : Int} (h : l.take k = m.take k) (hx : l[k]? = some x) (hy : m[k]? = some y) (e : x = y) : l.take (k + 1) = m.take (k + 1) := by
  rw [List.take_add_one, List.take_add_one, h, hx, hy, e]

set_option maxRecDepth 20000 in
set_option maxHeartbeats 4000000 in
theorem rcompare_num (a b c a' b' c' : Int) (pa : Option Addr) (pn pc : Nat) (qa : Option Addr) (qn qc : Nat) (hne : [a, b, c] ≠ [a', b', c']) (w : World) :
    Calls Tryz.prog 22 #[.agg #[.int .i64 a, .int .i64 b, .int .i64 c, .slice pa pn pc], .agg #[.int .i64 a', .int .i64 b', .int .i64 c', .slice qa qn qc]] w (Gives (.int .i64 (cmpL cz [a, b, c] [a', b', c'])) w) := by
  have hR := hid (show cmpL cz [a, b, c] [a', b', c'] = cmpL cz ([a, b, c].drop 0) ([a', b', c'].drop 0) from rfl)
  generalize cmpL cz [a, b, c] [a', b', c'] = R at hR ⊢
  replace hne := hid hne
  have HI := hid ints_any
  obtain ⟨hA, hB⟩ := two_blk w [.int .i64 a, .int .i64 b, .int .i64 c, .slice pa pn pc] [.int .i64 a', .int .i64 b', .int .i64 c', .slice qa qn qc] 45 45
  have hbx := below_alloc (below_alloc (Below.refl w.heap.size w) (.cells #[.int .i64 a, .int .i64 b, .int .i64 c, .slice pa pn pc] 45)) (.cells #[.int .i64 a', .int .i64 b', .int .i64 c', .slice qa qn qc] 45)
  replace hA := hid hA
  replace hB := hid hB
  replace hbx := hid hbx
  go_enter Tryz.func22, Tryz.ntmps22
  go_upto_region 1 with (fail)
  have a0 := hA.out.cell 0 rfl
  have a1 := hA.out.cell 1 rfl
  have a2 := hA.out.cell 2 rfl
  have d0 := hB.out.cell 0 rfl
  have d1 := hB.out.cell 1 rfl
  have d2 := hB.out.cell 2 rfl
  have l1 := hA.out.lt
  have l2 := hB.out.lt
  replace hbx := hbx.out
  clear hA hB
  generalize ((w.alloc (.cells #[.int .i64 a, .int .i64 b, .int .i64 c, .slice pa pn pc] 45)).alloc (.cells #[.int .i64 a', .int .i64 b', .int .i64 c', .slice qa qn qc] 45)) = W at a0 a1 a2 d0 d1 d2 l1 l2 hbx ⊢
  generalize w.heap.size + 1 = b2 at d0 d1 d2 l2 ⊢
  generalize w.heap.size = b1 at a0 a1 a2 l1 ⊢
  go_cut [5, 6] (fun v u wx => ∃ g g' : Nat, v = .slice (some ⟨g, 0, none⟩) 3 3 ∧ u = .slice (some ⟨g', 0, none⟩) 3 3 ∧ Below W.heap.size W wx ∧ IntsAt wx g 0 [a, b, c] ∧ IntsAt wx g' 0 [a', b', c'])
  case first =>
    have T1 := hid (two_ints W a b c a' b' c' 3 3)
    have T2 := hid (two_ints W a' b' c' a b c 3 3)
    go_region
    all_goals
      go_wp2_with fail
      go_meet
      first
        | exact ⟨_, _, rfl, rfl, T1.out.2.2, T1.out.1, T1.out.2.1⟩
        | exact ⟨_, _, rfl, rfl, T2.out.2.2, T2.out.2.1, T2.out.1⟩
  case rest =>
    obtain ⟨g, g', rfl, rfl, hb2, i1, i2⟩ := hcut
    have hbw := below_trans hbx hb2
    have ST := hid (fun k x y => @cmpL_step _ cz [a, b, c] [a', b', c'] k x y)
    have TS := hid (fun k x y => @take_step [a, b, c] [a', b', c'] k x y)
    clear a0 a1 a2 d0 d1 d2 l1 l2 hb2 hbx
    have hl1 : ([a, b, c] : List Int).length = 3 := rfl
    have hl2 : ([a', b', c'] : List Int).length = 3 := rfl
    generalize [a, b, c] = xs at *
    generalize [a', b', c'] = ys at *
    replace i1 := hid i1
    replace i2 := hid i2
    replace hl1 := hid hl1
    replace hl2 := hid hl2
    go_wp2_with fail
    go_loopw [7] (fun v wr => ∃ k : Nat, k ≤ 3 ∧ v = .int .i64 k ∧ Below w.heap.size w wr ∧ IntsAt wr g 0 xs ∧ IntsAt wr g' 0 ys ∧ Hid (R = cmpL cz (xs.drop k) (ys.drop k)) ∧ Hid (xs.take k = ys.take k)) (fun v _ => 3 - (intOf v).toNat)
    case atStart => exact ⟨0, by omega, rfl, hbw, i1.out, i2.out, hid hR.out, hid rfl⟩
    case round =>
      obtain ⟨k, hk, rfl, hb, hx, hy, hp, ht⟩ := hrel
      clear hR i1 i2 hbw
      by_cases hlt : k < 3
      · have x1 := hid (at_getD (0 : Int) (show k < xs.length by rw [hl1.out]; exact hlt))
        have x2 := hid (at_getD (0 : Int) (show k < ys.length by rw [hl2.out]; exact hlt))
        have c1 := hx.2 k (by rw [hl1.out]; exact hlt)
        have c2 := hy.2 k (by rw [hl2.out]; exact hlt)
        have b1 := hx.1
        have b2 := hy.1
        rw [Nat.zero_add] at c1 c2
        generalize xs.getD k 0 = x at x1 c1
        generalize ys.getD k 0 = y at x2 c2
        have hs := hid (hp.out.trans (ST.out k x y x1.out x2.out))
        have k0 : (0 : Int) ≤ (k : Int) := by omega
        have k1 : (k : Int) < 3 := by omega
        replace hx := hid hx
        replace hy := hid hy
        clear hp
        by_cases hq : x = y
        · have hs2 := hid (hs.out.trans (if_pos (by rw [hq]; unfold cz; simp)))
          have ht2 := hid (TS.out k x y ht.out x1.out x2.out hq)
          have hq' : (x != y) = false := by simpa using hq
          clear hs hq x1 x2 ST TS ht HI
          go_wp2_with fail
          go_quiet (fail)
          go_wp2_with fail
          go_roundw
          case rel => exact ⟨k + 1, by omega, by go_num, below_drewN' hb _, hx.out.below (below_drewN (Below.refl _ _) _), hy.out.below (below_drewN (Below.refl _ _) _), hs2, ht2⟩
          case measure => simp [intOf]; omega
        · have hs2 := hid (hs.out.trans (if_neg (by unfold cz; split; simp; split; simp; omega)))
          have HIx := hid (HI.out x y)
          have hq' : (x != y) = true := by simpa using hq
          clear hs hq x1 x2 ST TS ht HI
          generalize cz x y = q at hs2 HIx
          go_wp2_with fail
          go_quiet (fail)
          go_wp2_with fail
          go_quiet (((with_reducible refine (HIx.out _).mono ?_); rintro e w3 ⟨rfl, rfl⟩; exact ⟨rfl, _, rfl⟩))
          go_wp2_with fail
          go_ret
          exact gives rfl (int_eq hs2.out.symm) (below_drewN' (below_drewN' hb _) _)
      · exfalso
        apply hne.out
        have := ht.out
        rwa [List.take_of_length_le (by rw [hl1.out]; omega), List.take_of_length_le (by rw [hl2.out]; omega)] at this
end Go.Proofs.YtebhgcejcdgdbaaGreatDoor.Vs

/-
  LAYER 3, THE DOCUMENT'S Compare, behind the same numbers.
-/
namespace Go.Proofs.YtebhgcejcdgdbaaGreatDoor.Vs
open Go.RowKit
open Go.Proofs.YtebhgcejcdgdbaaGreatDoor Go.Proofs.YtebhgcejcdgdbaaGreatDoor.Nu

theorem keepP {w a b : World} {b1 b2 : Nat} {s t : Value} (hb : Below a.heap.size a b) (h : Below w.heap.size w a ∧ a.cell? ⟨b1, 3, none⟩ = some s ∧ a.cell? ⟨b2, 3, none⟩ = some t) :
    Below w.heap.size w b ∧ b.cell? ⟨b1, 3, none⟩ = some s ∧ b.cell? ⟨b2, 3, none⟩ = some t :=
  ⟨below_trans h.1 hb, by rw [hb.cell (World.block_lt_of_cell? _ _ h.2.1)]; exact h.2.1, by rw [hb.cell (World.block_lt_of_cell? _ _ h.2.2)]; exact h.2.2⟩

set_option maxRecDepth 20000 in
set_option maxHeartbeats 4000000 in
theorem rcompare_short (a b c : Int) (pa : Option Addr) (pn pc : Nat) (qa : Option Addr) (qn qc : Nat) (hpn : pn ≤ 4) (hqn : qn ≤ 4) (hz : pn = 0 ∨ qn = 0) (w : World) :
    Calls Tryz.prog 22 #[.agg #[.int .i64 a, .int .i64 b, .int .i64 c, .slice pa pn pc], .agg #[.int .i64 a, .int .i64 b, .int .i64 c, .slice qa qn qc]] w (Gives (.int .i64 (cz qn pn)) w) := by
  have HI := hid (ints_any qn pn)
  have HR := hid (cz_len qn pn)
  generalize hR : cz (qn : Int) (pn : Int) = R at HI HR ⊢
  clear hR
  obtain ⟨hA, hB⟩ := two_blk w [.int .i64 a, .int .i64 b, .int .i64 c, .slice pa pn pc] [.int .i64 a, .int .i64 b, .int .i64 c, .slice qa qn qc] 45 45
  have hbx := below_alloc (below_alloc (Below.refl w.heap.size w) (.cells #[.int .i64 a, .int .i64 b, .int .i64 c, .slice pa pn pc] 45)) (.cells #[.int .i64 a, .int .i64 b, .int .i64 c, .slice qa qn qc] 45)
  replace hA := hid hA
  replace hB := hid hB
  replace hbx := hid hbx
  replace hz := hid hz
  replace hpn := hid hpn
  replace hqn := hid hqn
  go_enter Tryz.func22, Tryz.ntmps22
  go_upto_region 1 with (fail)
  have a0 := hA.out.cell 0 rfl
  have a1 := hA.out.cell 1 rfl
  have a2 := hA.out.cell 2 rfl
  have d0 := hB.out.cell 0 rfl
  have d1 := hB.out.cell 1 rfl
  have d2 := hB.out.cell 2 rfl
  have a3 := hid (hA.out.cell 3 rfl)
  have d3 := hid (hB.out.cell 3 rfl)
  have l1 := hA.out.lt
  have l2 := hB.out.lt
  replace hbx := hbx.out
  clear hA hB
  generalize ((w.alloc (.cells #[.int .i64 a, .int .i64 b, .int .i64 c, .slice pa pn pc] 45)).alloc (.cells #[.int .i64 a, .int .i64 b, .int .i64 c, .slice qa qn qc] 45)) = W at a0 a1 a2 a3 d0 d1 d2 d3 l1 l2 hbx ⊢
  generalize w.heap.size + 1 = b2 at d0 d1 d2 d3 l2 ⊢
  generalize w.heap.size = b1 at a0 a1 a2 a3 l1 ⊢
  go_cut [5, 6] (fun v u wx => ∃ g g' : Nat, v = .slice (some ⟨g, 0, none⟩) 3 3 ∧ u = .slice (some ⟨g', 0, none⟩) 3 3 ∧ Below W.heap.size W wx ∧ IntsAt wx g 0 [a, b, c] ∧ IntsAt wx g' 0 [a, b, c])
  case first =>
    have T1 := hid (two_ints W a b c a b c 3 3)
    go_region
    all_goals
      go_wp2_with fail
      go_meet
      first
        | exact ⟨_, _, rfl, rfl, T1.out.2.2, T1.out.1, T1.out.2.1⟩
        | exact ⟨_, _, rfl, rfl, T1.out.2.2, T1.out.2.1, T1.out.1⟩
  case rest =>
    obtain ⟨g, g', rfl, rfl, hb2, i1, i2⟩ := hcut
    clear a0 a1 a2 d0 d1 d2
    have hl1 : ([a, b, c] : List Int).length = 3 := rfl
    generalize [a, b, c] = xs at *
    replace i1 := hid i1
    replace i2 := hid i2
    replace hl1 := hid hl1
    replace l1 := hid l1
    replace l2 := hid l2
    replace hbx := hid hbx
    replace hb2 := hid hb2
    go_wp2_with fail
    go_loopw [7] (fun v wr => ∃ k : Nat, k ≤ 3 ∧ v = .int .i64 k ∧ Hid (Below W.heap.size W wr) ∧ IntsAt wr g 0 xs ∧ IntsAt wr g' 0 xs) (fun v _ => 3 - (intOf v).toNat)
    case atStart => exact ⟨0, by omega, rfl, hid hb2.out, i1.out, i2.out⟩
    case round =>
      obtain ⟨k, hk, rfl, hb, hx, hy⟩ := hrel
      clear i1 i2
      by_cases hlt : k < 3
      · have c1 := hx.2 k (by rw [hl1.out]; exact hlt)
        have c2 := hy.2 k (by rw [hl1.out]; exact hlt)
        have b1 := hx.1
        have b2 := hy.1
        rw [Nat.zero_add] at c1 c2
        generalize xs.getD k 0 = x at c1 c2
        have k0 : (0 : Int) ≤ (k : Int) := by omega
        have k1 : (k : Int) < 3 := by omega
        have hq' : (x != x) = false := by simp
        replace hx := hid hx
        replace hy := hid hy
        go_wp2_with fail
        go_quiet (fail)
        go_wp2_with fail
        go_roundw
        case rel => exact ⟨k + 1, by omega, by go_num, hid (below_drewN' hb.out _), hx.out.below (below_drewN (Below.refl _ _) _), hy.out.below (below_drewN (Below.refl _ _) _)⟩
        case measure => simp [intOf]; omega
      · have e1 : wr.cell? ⟨b1, 3, none⟩ = some (.slice pa pn pc) := by rw [hb.out.cell l1.out]; exact a3.out
        have e2 : wr.cell? ⟨b2, 3, none⟩ = some (.slice qa qn qc) := by rw [hb.out.cell l2.out]; exact d3.out
        have hbw := below_trans hbx.out hb.out
        clear hx hy hb2 hbx hb a3 d3 l1 l2
        have hS := hid (show Below w.heap.size w wr.drew ∧ wr.drew.cell? ⟨b1, 3, none⟩ = some (.slice pa pn pc) ∧ wr.drew.cell? ⟨b2, 3, none⟩ = some (.slice qa qn qc) from keepP (Below.refl wr.heap.size wr).drew ⟨hbw, e1, e2⟩)
        have cs : (pn = 0 ∧ (qn = 0 ∨ qn = 1 ∨ qn = 2 ∨ qn = 3 ∨ qn = 4)) ∨ (qn = 0 ∧ (pn = 1 ∨ pn = 2 ∨ pn = 3 ∨ pn = 4)) := by
          have := hz.out; have := hpn.out; have := hqn.out; omega
        clear hz hpn hqn
        rcases cs with ⟨rfl, rfl | rfl | rfl | rfl | rfl⟩ | ⟨rfl, rfl | rfl | rfl | rfl⟩
        · have HIc := hid (show ∀ w, Calls Tryz.prog 40 #[.int .i64 0, .int .i64 0] w (GivesE (.int .i64 (0)) w) from fun w => by
            have := ints_any 0 0 w
            rwa [show cz 0 0 = (0) by decide] at this)
          have hr := hid (show R = (0) by rw [HR.out]; decide)
          clear HI HR
          go_wp2_with fail
          go_region_held3 (fun w' => Below w.heap.size w w' ∧ w'.cell? ⟨b1, 3, none⟩ = some (.slice pa 0 pc) ∧ w'.cell? ⟨b2, 3, none⟩ = some (.slice qa 0 qc)) (first | (exact keepP (by assumption) (by assumption)) | (exact hS.out))
            (first | (go_at_call 40; (with_reducible refine (HIc.out _).mono ?_); rintro e w' ⟨rfl, rfl⟩))
          all_goals
            go_wp2_with fail
            go_ret
            exact gives rfl (int_eq (by rw [hr.out]; decide)) (below_drew hbw)
        · have HIc := hid (show ∀ w, Calls Tryz.prog 40 #[.int .i64 1, .int .i64 0] w (GivesE (.int .i64 (1)) w) from fun w => by
            have := ints_any 1 0 w
            rwa [show cz 1 0 = (1) by decide] at this)
          have hr := hid (show R = (1) by rw [HR.out]; decide)
          clear HI HR
          go_wp2_with fail
          go_region_held3 (fun w' => Below w.heap.size w w' ∧ w'.cell? ⟨b1, 3, none⟩ = some (.slice pa 0 pc) ∧ w'.cell? ⟨b2, 3, none⟩ = some (.slice qa 1 qc)) (first | (exact keepP (by assumption) (by assumption)) | (exact hS.out))
            (first | (go_at_call 40; (with_reducible refine (HIc.out _).mono ?_); rintro e w' ⟨rfl, rfl⟩))
          all_goals
            go_wp2_with fail
            go_ret
            exact gives rfl (int_eq (by rw [hr.out]; decide)) (below_drew hbw)
        · have HIc := hid (show ∀ w, Calls Tryz.prog 40 #[.int .i64 2, .int .i64 0] w (GivesE (.int .i64 (1)) w) from fun w => by
            have := ints_any 2 0 w
            rwa [show cz 2 0 = (1) by decide] at this)
          have hr := hid (show R = (1) by rw [HR.out]; decide)
          clear HI HR
          go_wp2_with fail
          go_region_held3 (fun w' => Below w.heap.size w w' ∧ w'.cell? ⟨b1, 3, none⟩ = some (.slice pa 0 pc) ∧ w'.cell? ⟨b2, 3, none⟩ = some (.slice qa 2 qc)) (first | (exact keepP (by assumption) (by assumption)) | (exact hS.out))
            (first | (go_at_call 40; (with_reducible refine (HIc.out _).mono ?_); rintro e w' ⟨rfl, rfl⟩))
          all_goals
            go_wp2_with fail
            go_ret
            exact gives rfl (int_eq (by rw [hr.out]; decide)) (below_drew hbw)
        · have HIc := hid (show ∀ w, Calls Tryz.prog 40 #[.int .i64 3, .int .i64 0] w (GivesE (.int .i64 (1)) w) from fun w => by
            have := ints_any 3 0 w
            rwa [show cz 3 0 = (1) by decide] at this)
          have hr := hid (show R = (1) by rw [HR.out]; decide)
          clear HI HR
          go_wp2_with fail
          go_region_held3 (fun w' => Below w.heap.size w w' ∧ w'.cell? ⟨b1, 3, none⟩ = some (.slice pa 0 pc) ∧ w'.cell? ⟨b2, 3, none⟩ = some (.slice qa 3 qc)) (first | (exact keepP (by assumption) (by assumption)) | (exact hS.out))
            (first | (go_at_call 40; (with_reducible refine (HIc.out _).mono ?_); rintro e w' ⟨rfl, rfl⟩))
          all_goals
            go_wp2_with fail
            go_ret
            exact gives rfl (int_eq (by rw [hr.out]; decide)) (below_drew hbw)
        · have HIc := hid (show ∀ w, Calls Tryz.prog 40 #[.int .i64 4, .int .i64 0] w (GivesE (.int .i64 (1)) w) from fun w => by
            have := ints_any 4 0 w
            rwa [show cz 4 0 = (1) by decide] at this)
          have hr := hid (show R = (1) by rw [HR.out]; decide)
          clear HI HR
          go_wp2_with fail
          go_region_held3 (fun w' => Below w.heap.size w w' ∧ w'.cell? ⟨b1, 3, none⟩ = some (.slice pa 0 pc) ∧ w'.cell? ⟨b2, 3, none⟩ = some (.slice qa 4 qc)) (first | (exact keepP (by assumption) (by assumption)) | (exact hS.out))
            (first | (go_at_call 40; (with_reducible refine (HIc.out _).mono ?_); rintro e w' ⟨rfl, rfl⟩))
          all_goals
            go_wp2_with fail
            go_ret
            exact gives rfl (int_eq (by rw [hr.out]; decide)) (below_drew hbw)
        · have HIc := hid (show ∀ w, Calls Tryz.prog 40 #[.int .i64 0, .int .i64 1] w (GivesE (.int .i64 (-1)) w) from fun w => by
            have := ints_any 0 1 w
            rwa [show cz 0 1 = (-1) by decide] at this)
          have hr := hid (show R = (-1) by rw [HR.out]; decide)
          clear HI HR
          go_wp2_with fail
          go_region_held3 (fun w' => Below w.heap.size w w' ∧ w'.cell? ⟨b1, 3, none⟩ = some (.slice pa 1 pc) ∧ w'.cell? ⟨b2, 3, none⟩ = some (.slice qa 0 qc)) (first | (exact keepP (by assumption) (by assumption)) | (exact hS.out))
            (first | (go_at_call 40; (with_reducible refine (HIc.out _).mono ?_); rintro e w' ⟨rfl, rfl⟩))
          all_goals
            go_wp2_with fail
            go_ret
            exact gives rfl (int_eq (by rw [hr.out]; decide)) (below_drew hbw)
        · have HIc := hid (show ∀ w, Calls Tryz.prog 40 #[.int .i64 0, .int .i64 2] w (GivesE (.int .i64 (-1)) w) from fun w => by
            have := ints_any 0 2 w
            rwa [show cz 0 2 = (-1) by decide] at this)
          have hr := hid (show R = (-1) by rw [HR.out]; decide)
          clear HI HR
          go_wp2_with fail
          go_region_held3 (fun w' => Below w.heap.size w w' ∧ w'.cell? ⟨b1, 3, none⟩ = some (.slice pa 2 pc) ∧ w'.cell? ⟨b2, 3, none⟩ = some (.slice qa 0 qc)) (first | (exact keepP (by assumption) (by assumption)) | (exact hS.out))
            (first | (go_at_call 40; (with_reducible refine (HIc.out _).mono ?_); rintro e w' ⟨rfl, rfl⟩))
          all_goals
            go_wp2_with fail
            go_ret
            exact gives rfl (int_eq (by rw [hr.out]; decide)) (below_drew hbw)
        · have HIc := hid (show ∀ w, Calls Tryz.prog 40 #[.int .i64 0, .int .i64 3] w (GivesE (.int .i64 (-1)) w) from fun w => by
            have := ints_any 0 3 w
            rwa [show cz 0 3 = (-1) by decide] at this)
          have hr := hid (show R = (-1) by rw [HR.out]; decide)
          clear HI HR
          go_wp2_with fail
          go_region_held3 (fun w' => Below w.heap.size w w' ∧ w'.cell? ⟨b1, 3, none⟩ = some (.slice pa 3 pc) ∧ w'.cell? ⟨b2, 3, none⟩ = some (.slice qa 0 qc)) (first | (exact keepP (by assumption) (by assumption)) | (exact hS.out))
            (first | (go_at_call 40; (with_reducible refine (HIc.out _).mono ?_); rintro e w' ⟨rfl, rfl⟩))
          all_goals
            go_wp2_with fail
            go_ret
            exact gives rfl (int_eq (by rw [hr.out]; decide)) (below_drew hbw)
        · have HIc := hid (show ∀ w, Calls Tryz.prog 40 #[.int .i64 0, .int .i64 4] w (GivesE (.int .i64 (-1)) w) from fun w => by
            have := ints_any 0 4 w
            rwa [show cz 0 4 = (-1) by decide] at this)
          have hr := hid (show R = (-1) by rw [HR.out]; decide)
          clear HI HR
          go_wp2_with fail
          go_region_held3 (fun w' => Below w.heap.size w w' ∧ w'.cell? ⟨b1, 3, none⟩ = some (.slice pa 4 pc) ∧ w'.cell? ⟨b2, 3, none⟩ = some (.slice qa 0 qc)) (first | (exact keepP (by assumption) (by assumption)) | (exact hS.out))
            (first | (go_at_call 40; (with_reducible refine (HIc.out _).mono ?_); rintro e w' ⟨rfl, rfl⟩))
          all_goals
            go_wp2_with fail
            go_ret
            exact gives rfl (int_eq (by rw [hr.out]; decide)) (below_drew hbw)
end Go.Proofs.YtebhgcejcdgdbaaGreatDoor.Vs

/-
  LAYER 3, THE DOCUMENT'S Compare, behind the same numbers: parts.
-/
namespace Go.Proofs.YtebhgcejcdgdbaaGreatDoor.Vs
open Go.RowKit Go.Sort
open Go.Proofs.YtebhgcejcdgdbaaGreatDoor Go.Proofs.YtebhgcejcdgdbaaGreatDoor.Nu

set_option maxRecDepth 20000 in
set_option maxHeartbeats 4000000 in
theorem rcompare_long (a b c : Int) (pg pc qg qc : Nat) (Q Q' : List (List UInt8)) (hpn : Q.length ≤ 4) (hqn : Q'.length ≤ 4) (hp0 : Q ≠ []) (hq0 : Q' ≠ []) (hQ : ∀ p, p ∈ Q → p.length < 4294967281 ∧ partV p = true) (hQ' : ∀ p, p ∈ Q' → p.length < 4294967281 ∧ partV p = true) (w : World) (hcp : CellsAt w pg 0 Q) (hcq : CellsAt w qg 0 Q') :
    Calls Tryz.prog 22 #[.agg #[.int .i64 a, .int .i64 b, .int .i64 c, .slice (some ⟨pg, 0, none⟩) Q.length pc], .agg #[.int .i64 a, .int .i64 b, .int .i64 c, .slice (some ⟨qg, 0, none⟩) Q'.length qc]] w (Gives (.int .i64 (cmpL cmpP Q Q')) w) := by
  have HI := hid (ints_any (Q.length : Int) (Q'.length : Int))
  have HC := hid (cz_len Q.length Q'.length)
  have hR := hid (show cmpL cmpP Q Q' = cmpL cmpP (Q.drop 0) (Q'.drop 0) from rfl)
  have HP := hid (fun (p q : List UInt8) (h1 : p.length < 4294967281 ∧ partV p = true) (h2 : q.length < 4294967281 ∧ partV q = true) w => rparts_any ⟨p.toArray⟩ ⟨q.toArray⟩ (sizeL _ _ h1.1) (sizeL _ _ h2.1) h1.2 h2.2 w)
  have ST := hid (fun k x y => @cmpL_step _ cmpP Q Q' k x y)
  have LO := hid (fun k => @cmpL_long _ cmpP Q Q' k)
  have EN := hid (fun k => @cmpL_end _ cmpP Q Q' k)
  have BO := hid (fun k => @cmpL_both _ cmpP Q Q' k)
  replace hp0 := hid (List.length_pos_iff.2 hp0)
  replace hq0 := hid (List.length_pos_iff.2 hq0)
  replace hQ := hid hQ
  replace hQ' := hid hQ'
  replace hcp := hid hcp
  replace hcq := hid hcq
  generalize cmpL cmpP Q Q' = R at hR ⊢
  generalize cz (Q.length : Int) (Q'.length : Int) = Z at HI HC
  obtain ⟨hA, hB⟩ := two_blk w [.int .i64 a, .int .i64 b, .int .i64 c, .slice (some ⟨pg, 0, none⟩) Q.length pc] [.int .i64 a, .int .i64 b, .int .i64 c, .slice (some ⟨qg, 0, none⟩) Q'.length qc] 45 45
  have hbx := below_alloc (below_alloc (Below.refl w.heap.size w) (.cells #[.int .i64 a, .int .i64 b, .int .i64 c, .slice (some ⟨pg, 0, none⟩) Q.length pc] 45)) (.cells #[.int .i64 a, .int .i64 b, .int .i64 c, .slice (some ⟨qg, 0, none⟩) Q'.length qc] 45)
  replace hA := hid hA
  replace hB := hid hB
  replace hbx := hid hbx
  replace hpn := hid hpn
  replace hqn := hid hqn
  go_enter Tryz.func22, Tryz.ntmps22
  go_upto_region 1 with (fail)
  have a0 := hA.out.cell 0 rfl
  have a1 := hA.out.cell 1 rfl
  have a2 := hA.out.cell 2 rfl
  have d0 := hB.out.cell 0 rfl
  have d1 := hB.out.cell 1 rfl
  have d2 := hB.out.cell 2 rfl
  have a3 := hid (hA.out.cell 3 rfl)
  have d3 := hid (hB.out.cell 3 rfl)
  have l1 := hA.out.lt
  have l2 := hB.out.lt
  replace hbx := hbx.out
  clear hA hB
  generalize ((w.alloc (.cells #[.int .i64 a, .int .i64 b, .int .i64 c, .slice (some ⟨pg, 0, none⟩) Q.length pc] 45)).alloc (.cells #[.int .i64 a, .int .i64 b, .int .i64 c, .slice (some ⟨qg, 0, none⟩) Q'.length qc] 45)) = W at a0 a1 a2 a3 d0 d1 d2 d3 l1 l2 hbx ⊢
  generalize w.heap.size + 1 = b2 at d0 d1 d2 d3 l2 ⊢
  generalize w.heap.size = b1 at a0 a1 a2 a3 l1 ⊢
  go_cut [5, 6] (fun v u wx => ∃ g g' : Nat, v = .slice (some ⟨g, 0, none⟩) 3 3 ∧ u = .slice (some ⟨g', 0, none⟩) 3 3 ∧ Below W.heap.size W wx ∧ IntsAt wx g 0 [a, b, c] ∧ IntsAt wx g' 0 [a, b, c])
  case first =>
    have T1 := hid (two_ints W a b c a b c 3 3)
    go_region
    all_goals
      go_wp2_with fail
      go_meet
      first
        | exact ⟨_, _, rfl, rfl, T1.out.2.2, T1.out.1, T1.out.2.1⟩
        | exact ⟨_, _, rfl, rfl, T1.out.2.2, T1.out.2.1, T1.out.1⟩
  case rest =>
    obtain ⟨g, g', rfl, rfl, hb2, i1, i2⟩ := hcut
    clear a0 a1 a2 d0 d1 d2
    have hl1 : ([a, b, c] : List Int).length = 3 := rfl
    generalize [a, b, c] = xs at *
    replace i1 := hid i1
    replace i2 := hid i2
    replace hl1 := hid hl1
    replace l1 := hid l1
    replace l2 := hid l2
    replace hbx := hid hbx
    replace hb2 := hid hb2
    go_wp2_with fail
    go_loopw [7] (fun v wr => ∃ k : Nat, k ≤ 3 ∧ v = .int .i64 k ∧ Hid (Below W.heap.size W wr) ∧ IntsAt wr g 0 xs ∧ IntsAt wr g' 0 xs) (fun v _ => 3 - (intOf v).toNat)
    case atStart => exact ⟨0, by omega, rfl, hid hb2.out, i1.out, i2.out⟩
    case round =>
      obtain ⟨k, hk, rfl, hb, hx, hy⟩ := hrel
      clear i1 i2
      by_cases hlt : k < 3
      · have c1 := hx.2 k (by rw [hl1.out]; exact hlt)
        have c2 := hy.2 k (by rw [hl1.out]; exact hlt)
        have b1 := hx.1
        have b2 := hy.1
        rw [Nat.zero_add] at c1 c2
        generalize xs.getD k 0 = x at c1 c2
        have k0 : (0 : Int) ≤ (k : Int) := by omega
        have k1 : (k : Int) < 3 := by omega
        have hq' : (x != x) = false := by simp
        replace hx := hid hx
        replace hy := hid hy
        go_wp2_with fail
        go_quiet (fail)
        go_wp2_with fail
        go_roundw
        case rel => exact ⟨k + 1, by omega, by go_num, hid (below_drewN' hb.out _), hx.out.below (below_drewN (Below.refl _ _) _), hy.out.below (below_drewN (Below.refl _ _) _)⟩
        case measure => simp [intOf]; omega
      · have e1 : wr.cell? ⟨b1, 3, none⟩ = some (.slice (some ⟨pg, 0, none⟩) Q.length pc) := by rw [hb.out.cell l1.out]; exact a3.out
        have e2 : wr.cell? ⟨b2, 3, none⟩ = some (.slice (some ⟨qg, 0, none⟩) Q'.length qc) := by rw [hb.out.cell l2.out]; exact d3.out
        have hbw := below_trans hbx.out hb.out
        have u1 := hid (hcp.out.below hbw)
        have u2 := hid (hcq.out.below hbw)
        replace e1 := hid e1
        replace e2 := hid e2
        have n1 : ((Q.length : Int) == 0) = false := by rw [beq_eq_false_iff_ne]; have := hp0.out; omega
        have n2 : ((Q'.length : Int) == 0) = false := by rw [beq_eq_false_iff_ne]; have := hq0.out; omega
        have f1 := e1.out
        have f2 := e2.out
        clear hx hy hb2 hbx hb a3 d3 l1 l2 hcp hcq
        replace hbw := hid hbw
        go_wp2_with fail
        clear n1 n2 f1 f2 hk hlt
        go_loopw [8, 9] (fun v _ wz => ∃ k : Nat, k ≤ Q.length ∧ k ≤ Q'.length ∧ v = .int .i64 k ∧ Hid (Below wr.heap.size wr wz) ∧ Hid (R = cmpL cmpP (Q.drop k) (Q'.drop k))) (fun v _ _ => Q.length - (intOf v).toNat)
        case atStart => exact ⟨0, by omega, by omega, rfl, hid (Below.refl _ _), hid hR.out⟩
        case round =>
          obtain ⟨k, hk1, hk2, rfl, hb, hp⟩ := hrel
          clear hR
          have f1 := (keepP hb.out ⟨hbw.out, e1.out, e2.out⟩).2.1
          have f2 := (keepP hb.out ⟨hbw.out, e1.out, e2.out⟩).2.2
          by_cases hlt : k < Q.length
          · by_cases hlt2 : k < Q'.length
            · have c1 := (u1.out.below hb.out).2 k hlt
              have c2 := (u2.out.below hb.out).2 k hlt2
              rw [Nat.zero_add] at c1 c2
              have x1 := hid (at_getD ([] : List UInt8) hlt)
              have x2 := hid (at_getD ([] : List UInt8) hlt2)
              generalize Q.getD k [] = x at x1 c1
              generalize Q'.getD k [] = y at x2 c2
              have hs := hid (hp.out.trans (ST.out k x y x1.out x2.out))
              have HPx := hid (HP.out x y (hQ.out x (List.mem_of_getElem? x1.out)) (hQ'.out y (List.mem_of_getElem? x2.out)))
              generalize cmpP x y = q at hs HPx
              have k0 : (0 : Int) ≤ (k : Int) := by omega
              have k1 : (k : Int) < (Q.length : Int) := by omega
              have k2 : (k : Int) < (Q'.length : Int) := by omega
              have r1 := cell_regrown f1
              have r2 := cell_regrown f2
              have r3 := cell_regrown c1
              have r4 := cell_regrown c2
              have q0 := hid (show ∀ d os, Calls Tryz.prog 41 #[.string ⟨x.toArray⟩, .string ⟨y.toArray⟩] (grow (redrawn wr d) os) fun e w'' => e = .returned (.int .i64 q) ∧ ∃ p : Regrown, w'' = grow (redrawn wr p.d) p.os from fun d os => Calls.regrown_of (HPx.out _))
              clear hp x1 x2 ST LO EN BO HI HC HP
              go_wp2_with fail
              refine wp_region_quiet_below (by kernel_rfl) (by kernel_rfl) ?_
              repeat (quiet_step (first | with_reducible exact q0.out _ _))
              refine wpQuiet_nil ?_
              intro _ hw'
              obtain ⟨⟨dq, osq⟩, hw''⟩ := hw'
              subst hw''
              have hbz := hid (below_trans hb.out (below_regrown wr dq osq))
              show Exit.then _ _ Exit.normal _ (grow (redrawn wr dq) osq)
              clear r1 r2 r3 r4 q0 c1 c2 f1 f2
              generalize grow (redrawn wr dq) osq = W5 at hbz ⊢
              by_cases hq : q = 0
              · have hs2 := hid (hs.out.trans (if_pos hq))
                subst hq
                clear hs
                have k3 : k < 4 := Nat.lt_of_lt_of_le hlt hpn.out
                go_wp2_with fail
                go_roundw
                case rel => exact ⟨k + 1, by omega, by omega, by go_num, hbz, hs2⟩
                case measure => simp [intOf]; omega
              · have hs2 := hid (hs.out.trans (if_neg hq))
                have hq' : (q != 0) = true := by simpa using hq
                clear hs hq
                go_wp2_with fail
                go_ret
                exact gives rfl (int_eq hs2.out.symm) (below_trans hbw.out hbz.out)
            · have hr := hid (hp.out.trans (LO.out k hlt (by omega)))
              have hz := hid (show Z = 1 by rw [HC.out, if_neg (by omega), if_pos (by omega)])
              clear hp ST LO EN BO HC HP
              go_wp2_with (go_at_call 40; (with_reducible refine (HI.out _).mono ?_); rintro e w3 ⟨rfl, rfl⟩)
              go_ret
              exact gives rfl (int_eq (hz.out.trans hr.out.symm)) (below_trans hbw.out hb.out)
          · have hz := hid (show Z = R by
              rw [HC.out]
              by_cases h : Q.length < Q'.length
              · rw [if_pos h, hp.out, EN.out k (by omega) (by omega)]
              · rw [if_neg h, if_neg (by omega), hp.out, BO.out k (by omega) (by omega)])
            clear hp ST LO EN BO HC HP
            go_wp2_with (go_at_call 40; (with_reducible refine (HI.out _).mono ?_); rintro e w3 ⟨rfl, rfl⟩)
            go_ret
            exact gives rfl (int_eq hz.out) (below_trans hbw.out hb.out)
end Go.Proofs.YtebhgcejcdgdbaaGreatDoor.Vs
