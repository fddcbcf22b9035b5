/-
  LAYER 3, THE DOCUMENT'S Compare, behind the same numbers.
-/
import Derived.Test.YtjiofenpalokoaaGreatDoorVersionCmpR
import Derived.Lib.QuietBelow
namespace Go.Proofs.YtjiofenpalokoaaGreatDoor.Vs
open Go.RowKit
open Go.Proofs.YtjiofenpalokoaaGreatDoor Go.Proofs.YtjiofenpalokoaaGreatDoor.Nu

theorem keepP {w a b : World} {b1 b2 : Nat} {s t : Value} (hb : Below a.heap.size a b) (h : Below w.heap.size w a ∧ a.cell? ⟨b1, 3, none⟩ = some s ∧ a.cell? ⟨b2, 3, none⟩ = some t) :
    Below w.heap.size w b ∧ b.cell? ⟨b1, 3, none⟩ = some s ∧ b.cell? ⟨b2, 3, none⟩ = some t :=
  ⟨below_trans h.1 hb, by rw [hb.cell (World.block_lt_of_cell? _ _ h.2.1)]; exact h.2.1, by rw [hb.cell (World.block_lt_of_cell? _ _ h.2.2)]; exact h.2.2⟩

set_option maxRecDepth 20000 in
set_option maxHeartbeats 4000000 in
theorem rcompare_short (a b c : Int) (pa : Option Addr) (pn pc : Nat) (qa : Option Addr) (qn qc : Nat) (hpn : pn ≤ 4) (hqn : qn ≤ 4) (hz : pn = 0 ∨ qn = 0) (w : World) :
    Calls Tryz.prog 22 #[.agg #[.int .i64 a, .int .i64 b, .int .i64 c, .slice pa pn pc], .agg #[.int .i64 a, .int .i64 b, .int .i64 c, .slice qa qn qc]] w (Gives (.int .i64 (cz qn pn)) w) := by
  have HI := hid (ints_any qn pn)
  have HR := hid (cz_len qn pn)
  generalize hR : cz (qn : Int) (pn : Int) = R at HI HR ⊢
  clear hR
  obtain ⟨hA, hB⟩ := two_blk w [.int .i64 a, .int .i64 b, .int .i64 c, .slice pa pn pc] [.int .i64 a, .int .i64 b, .int .i64 c, .slice qa qn qc] 45 45
  have hbx := below_alloc (below_alloc (Below.refl w.heap.size w) (.cells #[.int .i64 a, .int .i64 b, .int .i64 c, .slice pa pn pc] 45)) (.cells #[.int .i64 a, .int .i64 b, .int .i64 c, .slice qa qn qc] 45)
  replace hA := hid hA
  replace hB := hid hB
  replace hbx := hid hbx
  replace hz := hid hz
  replace hpn := hid hpn
  replace hqn := hid hqn
  go_enter Tryz.func22, Tryz.ntmps22
  go_upto_region 1 with (fail)
  have a0 := hA.out.cell 0 rfl
  have a1 := hA.out.cell 1 rfl
  have a2 := hA.out.cell 2 rfl
  have d0 := hB.out.cell 0 rfl
  have d1 := hB.out.cell 1 rfl
  have d2 := hB.out.cell 2 rfl
  have a3 := hid (hA.out.cell 3 rfl)
  have d3 := hid (hB.out.cell 3 rfl)
  have l1 := hA.out.lt
  have l2 := hB.out.lt
  replace hbx := hbx.out
  clear hA hB
  generalize ((w.alloc (.cells #[.int .i64 a, .int .i64 b, .int .i64 c, .slice pa pn pc] 45)).alloc (.cells #[.int .i64 a, .int .i64 b, .int .i64 c, .slice qa qn qc] 45)) = W at a0 a1 a2 a3 d0 d1 d2 d3 l1 l2 hbx ⊢
  generalize w.heap.size + 1 = b2 at d0 d1 d2 d3 l2 ⊢
  generalize w.heap.size = b1 at a0 a1 a2 a3 l1 ⊢
  go_cut [5, 6] (fun v u wx => ∃ g g' : Nat, v = .slice (some ⟨g, 0, none⟩) 3 3 ∧ u = .slice (some ⟨g', 0, none⟩) 3 3 ∧ Below W.heap.size W wx ∧ IntsAt wx g 0 [a, b, c] ∧ IntsAt wx g' 0 [a, b, c])
  case first =>
    have T1 := hid (two_ints W a b c a b c 3 3)
    go_region
    all_goals
      go_wp2_with fail
      go_meet
      first
        | exact ⟨_, _, rfl, rfl, T1.out.2.2, T1.out.1, T1.out.2.1⟩
        | exact ⟨_, _, rfl, rfl, T1.out.2.2, T1.out.2.1, T1.out.1⟩
  case rest =>
    obtain ⟨g, g', rfl, rfl, hb2, i1, i2⟩ := hcut
    clear a0 a1 a2 d0 d1 d2
    have hl1 : ([a, b, c] : List Int).length = 3 := rfl
    generalize [a, b, c] = xs at *
    replace i1 := hid i1
    replace i2 := hid i2
    replace hl1 := hid hl1
    replace l1 := hid l1
    replace l2 := hid l2
    replace hbx := hid hbx
    replace hb2 := hid hb2
    go_wp2_with fail
    go_loopw [7] (fun v wr => ∃ k : Nat, k ≤ 3 ∧ v = .int .i64 k ∧ Hid (Below W.heap.size W wr) ∧ IntsAt wr g 0 xs ∧ IntsAt wr g' 0 xs) (fun v _ => 3 - (intOf v).toNat)
    case atStart => exact ⟨0, by omega, rfl, hid hb2.out, i1.out, i2.out⟩
    case round =>
      obtain ⟨k, hk, rfl, hb, hx, hy⟩ := hrel
      clear i1 i2
      by_cases hlt : k < 3
      · have c1 := hx.2 k (by rw [hl1.out]; exact hlt)
        have c2 := hy.2 k (by rw [hl1.out]; exact hlt)
        have b1 := hx.1
        have b2 := hy.1
        rw [Nat.zero_add] at c1 c2
        generalize xs.getD k 0 = x at c1 c2
        have k0 : (0 : Int) ≤ (k : Int) := by omega
        have k1 : (k : Int) < 3 := by omega
        have hq' : (x != x) = false := by simp
        replace hx := hid hx
        replace hy := hid hy
        go_wp2_with fail
        go_quiet (fail)
        go_wp2_with fail
        go_roundw
        case rel => exact ⟨k + 1, by omega, by go_num, hid (below_drewN' hb.out _), hx.out.below (below_drewN (Below.refl _ _) _), hy.out.below (below_drewN (Below.refl _ _) _)⟩
        case measure => simp [intOf]; omega
      · have e1 : wr.cell? ⟨b1, 3, none⟩ = some (.slice pa pn pc) := by rw [hb.out.cell l1.out]; exact a3.out
        have e2 : wr.cell? ⟨b2, 3, none⟩ = some (.slice qa qn qc) := by rw [hb.out.cell l2.out]; exact d3.out
        have hbw := below_trans hbx.out hb.out
        clear hx hy hb2 hbx hb a3 d3 l1 l2
        have hS := hid (show Below w.heap.size w wr.drew ∧ wr.drew.cell? ⟨b1, 3, none⟩ = some (.slice pa pn pc) ∧ wr.drew.cell? ⟨b2, 3, none⟩ = some (.slice qa qn qc) from keepP (Below.refl wr.heap.size wr).drew ⟨hbw, e1, e2⟩)
        have cs : (pn = 0 ∧ (qn = 0 ∨ qn = 1 ∨ qn = 2 ∨ qn = 3 ∨ qn = 4)) ∨ (qn = 0 ∧ (pn = 1 ∨ pn = 2 ∨ pn = 3 ∨ pn = 4)) := by
          have := hz.out; have := hpn.out; have := hqn.out; omega
        clear hz hpn hqn
        rcases cs with ⟨rfl, rfl | rfl | rfl | rfl | rfl⟩ | ⟨rfl, rfl | rfl | rfl | rfl⟩
        · have HIc := hid (show ∀ w, Calls Tryz.prog 40 #[.int .i64 0, .int .i64 0] w (GivesE (.int .i64 (0)) w) from fun w => by
            have := ints_any 0 0 w
            rwa [show cz 0 0 = (0) by decide] at this)
          have hr := hid (show R = (0) by rw [HR.out]; decide)
          clear HI HR
          go_wp2_with fail
          go_region_held3 (fun w' => Below w.heap.size w w' ∧ w'.cell? ⟨b1, 3, none⟩ = some (.slice pa 0 pc) ∧ w'.cell? ⟨b2, 3, none⟩ = some (.slice qa 0 qc)) (first | (exact keepP (by assumption) (by assumption)) | (exact hS.out))
            (first | (go_at_call 40; (with_reducible refine (HIc.out _).mono ?_); rintro e w' ⟨rfl, rfl⟩))
          all_goals
            go_wp2_with fail
            go_ret
            exact gives rfl (int_eq (by rw [hr.out]; decide)) (below_drew hbw)
        · have HIc := hid (show ∀ w, Calls Tryz.prog 40 #[.int .i64 1, .int .i64 0] w (GivesE (.int .i64 (1)) w) from fun w => by
            have := ints_any 1 0 w
            rwa [show cz 1 0 = (1) by decide] at this)
          have hr := hid (show R = (1) by rw [HR.out]; decide)
          clear HI HR
          go_wp2_with fail
          go_region_held3 (fun w' => Below w.heap.size w w' ∧ w'.cell? ⟨b1, 3, none⟩ = some (.slice pa 0 pc) ∧ w'.cell? ⟨b2, 3, none⟩ = some (.slice qa 1 qc)) (first | (exact keepP (by assumption) (by assumption)) | (exact hS.out))
            (first | (go_at_call 40; (with_reducible refine (HIc.out _).mono ?_); rintro e w' ⟨rfl, rfl⟩))
          all_goals
            go_wp2_with fail
            go_ret
            exact gives rfl (int_eq (by rw [hr.out]; decide)) (below_drew hbw)
        · have HIc := hid (show ∀ w, Calls Tryz.prog 40 #[.int .i64 2, .int .i64 0] w (GivesE (.int .i64 (1)) w) from fun w => by
            have := ints_any 2 0 w
            rwa [show cz 2 0 = (1) by decide] at this)
          have hr := hid (show R = (1) by rw [HR.out]; decide)
          clear HI HR
          go_wp2_with fail
          go_region_held3 (fun w' => Below w.heap.size w w' ∧ w'.cell? ⟨b1, 3, none⟩ = some (.slice pa 0 pc) ∧ w'.cell? ⟨b2, 3, none⟩ = some (.slice qa 2 qc)) (first | (exact keepP (by assumption) (by assumption)) | (exact hS.out))
            (first | (go_at_call 40; (with_reducible refine (HIc.out _).mono ?_); rintro e w' ⟨rfl, rfl⟩))
          all_goals
            go_wp2_with fail
            go_ret
            exact gives rfl (int_eq (by rw [hr.out]; decide)) (below_drew hbw)
        · have HIc := hid (show ∀ w, Calls Tryz.prog 40 #[.int .i64 3, .int .i64 0] w (GivesE (.int .i64 (1)) w) from fun w => by
            have := ints_any 3 0 w
            rwa [show cz 3 0 = (1) by decide] at this)
          have hr := hid (show R = (1) by rw [HR.out]; decide)
          clear HI HR
          go_wp2_with fail
          go_region_held3 (fun w' => Below w.heap.size w w' ∧ w'.cell? ⟨b1, 3, none⟩ = some (.slice pa 0 pc) ∧ w'.cell? ⟨b2, 3, none⟩ = some (.slice qa 3 qc)) (first | (exact keepP (by assumption) (by assumption)) | (exact hS.out))
            (first | (go_at_call 40; (with_reducible refine (HIc.out _).mono ?_); rintro e w' ⟨rfl, rfl⟩))
          all_goals
            go_wp2_with fail
            go_ret
            exact gives rfl (int_eq (by rw [hr.out]; decide)) (below_drew hbw)
        · have HIc := hid (show ∀ w, Calls Tryz.prog 40 #[.int .i64 4, .int .i64 0] w (GivesE (.int .i64 (1)) w) from fun w => by
            have := ints_any 4 0 w
            rwa [show cz 4 0 = (1) by decide] at this)
          have hr := hid (show R = (1) by rw [HR.out]; decide)
          clear HI HR
          go_wp2_with fail
          go_region_held3 (fun w' => Below w.heap.size w w' ∧ w'.cell? ⟨b1, 3, none⟩ = some (.slice pa 0 pc) ∧ w'.cell? ⟨b2, 3, none⟩ = some (.slice qa 4 qc)) (first | (exact keepP (by assumption) (by assumption)) | (exact hS.out))
            (first | (go_at_call 40; (with_reducible refine (HIc.out _).mono ?_); rintro e w' ⟨rfl, rfl⟩))
          all_goals
            go_wp2_with fail
            go_ret
            exact gives rfl (int_eq (by rw [hr.out]; decide)) (below_drew hbw)
        · have HIc := hid (show ∀ w, Calls Tryz.prog 40 #[.int .i64 0, .int .i64 1] w (GivesE (.int .i64 (-1)) w) from fun w => by
            have := ints_any 0 1 w
            rwa [show cz 0 1 = (-1) by decide] at this)
          have hr := hid (show R = (-1) by rw [HR.out]; decide)
          clear HI HR
          go_wp2_with fail
          go_region_held3 (fun w' => Below w.heap.size w w' ∧ w'.cell? ⟨b1, 3, none⟩ = some (.slice pa 1 pc) ∧ w'.cell? ⟨b2, 3, none⟩ = some (.slice qa 0 qc)) (first | (exact keepP (by assumption) (by assumption)) | (exact hS.out))
            (first | (go_at_call 40; (with_reducible refine (HIc.out _).mono ?_); rintro e w' ⟨rfl, rfl⟩))
          all_goals
            go_wp2_with fail
            go_ret
            exact gives rfl (int_eq (by rw [hr.out]; decide)) (below_drew hbw)
        · have HIc := hid (show ∀ w, Calls Tryz.prog 40 #[.int .i64 0, .int .i64 2] w (GivesE (.int .i64 (-1)) w) from fun w => by
            have := ints_any 0 2 w
            rwa [show cz 0 2 = (-1) by decide] at this)
          have hr := hid (show R = (-1) by rw [HR.out]; decide)
          clear HI HR
          go_wp2_with fail
          go_region_held3 (fun w' => Below w.heap.size w w' ∧ w'.cell? ⟨b1, 3, none⟩ = some (.slice pa 2 pc) ∧ w'.cell? ⟨b2, 3, none⟩ = some (.slice qa 0 qc)) (first | (exact keepP (by assumption) (by assumption)) | (exact hS.out))
            (first | (go_at_call 40; (with_reducible refine (HIc.out _).mono ?_); rintro e w' ⟨rfl, rfl⟩))
          all_goals
            go_wp2_with fail
            go_ret
            exact gives rfl (int_eq (by rw [hr.out]; decide)) (below_drew hbw)
        · have HIc := hid (show ∀ w, Calls Tryz.prog 40 #[.int .i64 0, .int .i64 3] w (GivesE (.int .i64 (-1)) w) from fun w => by
            have := ints_any 0 3 w
            rwa [show cz 0 3 = (-1) by decide] at this)
          have hr := hid (show R = (-1) by rw [HR.out]; decide)
          clear HI HR
          go_wp2_with fail
          go_region_held3 (fun w' => Below w.heap.size w w' ∧ w'.cell? ⟨b1, 3, none⟩ = some (.slice pa 3 pc) ∧ w'.cell? ⟨b2, 3, none⟩ = some (.slice qa 0 qc)) (first | (exact keepP (by assumption) (by assumption)) | (exact hS.out))
            (first | (go_at_call 40; (with_reducible refine (HIc.out _).mono ?_); rintro e w' ⟨rfl, rfl⟩))
          all_goals
            go_wp2_with fail
            go_ret
            exact gives rfl (int_eq (by rw [hr.out]; decide)) (below_drew hbw)
        · have HIc := hid (show ∀ w, Calls Tryz.prog 40 #[.int .i64 0, .int .i64 4] w (GivesE (.int .i64 (-1)) w) from fun w => by
            have := ints_any 0 4 w
            rwa [show cz 0 4 = (-1) by decide] at this)
          have hr := hid (show R = (-1) by rw [HR.out]; decide)
          clear HI HR
          go_wp2_with fail
          go_region_held3 (fun w' => Below w.heap.size w w' ∧ w'.cell? ⟨b1, 3, none⟩ = some (.slice pa 4 pc) ∧ w'.cell? ⟨b2, 3, none⟩ = some (.slice qa 0 qc)) (first | (exact keepP (by assumption) (by assumption)) | (exact hS.out))
            (first | (go_at_call 40; (with_reducible refine (HIc.out _).mono ?_); rintro e w' ⟨rfl, rfl⟩))
          all_goals
            go_wp2_with fail
            go_ret
            exact gives rfl (int_eq (by rw [hr.out]; decide)) (below_drew hbw)
end Go.Proofs.YtjiofenpalokoaaGreatDoor.Vs
