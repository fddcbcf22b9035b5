/-
  LAYER 12: held: the literals that are so, by their variables.
-/
import Derived.Test.YtopneceicamakaaCnfOpen
import Derived.OwnWalk
namespace Go.Proofs.Ytopneceicamakaa.Cf
open Go.RowKit Go.Proofs.Ytopneceicamakaa Go.Proofs.Ytopneceicamakaa.Ln

/-- the literals of the first k variables that are so -/
def heldTo (N : Nat) (is : List Bool) : Nat → List Int
  | 0 => []
  | k + 1 => heldTo N is k ++ ((if is.getD (N - (k + 1)) false then [-((k : Int) + 1)] else []) ++ (if is.getD (N + (k + 1)) false then [(k : Int) + 1] else []))
theorem heldTo_len (N : Nat) (is : List Bool) (k : Nat) : (heldTo N is k).length ≤ 2 * k := by
  induction k with
  | zero => simp [heldTo]
  | succ k ih =>
    unfold heldTo
    simp only [List.length_append]
    split <;> split <;> simp <;> omega
theorem infoJ : (Try.prog.info? 3).map (fun i => (i.zero, i.size, i.bytes)) = some (some (.int .i64 0), 1, 8) := by kernel_rfl

set_option maxHeartbeats 4000000 in
theorem held_any (N : Nat) (hN : N ≤ 400) (is : List Bool) (sB cp : Nat) (w : World) (hB : sB < w.heap.size) (hc : ∀ j, j < 2 * N + 1 → w.cell? ⟨sB, j, none⟩ = some (.bool (is.getD j false))) :
    Calls Try.prog 55 #[.slice (some ⟨sB, 0, none⟩) (2 * N + 1) cp, .int .i64 (N : Int)] w fun e w' => ∃ v', e = .returned v' ∧ w'.ownsRow w.heap.size 3 1 v' (heldTo N is N).length (intsV (heldTo N is N)) ∧ Below w.heap.size w w' := by
  obtain ⟨i0, q1, q2, q3, q4⟩ := info_parts infoJ
  have hi := hid q1
  have hz0 := hid q2
  have hz1 := hid q3
  have hz2 := hid q4
  have HC := hid hc
  clear q1 q2 q3 q4 hc
  go_enter Try.func55, Try.ntmps55
  go_wp2_with fail
  go_loopw [5, 6] (fun v u wr => ∃ k L : Nat, u = .int .i64 ((k : Int) + 1) ∧ k ≤ N ∧ L ≤ 2 * k ∧ Hid (L = (heldTo N is k).length) ∧ wr.ownsRow w.heap.size 3 1 v L (intsV (heldTo N is k)) ∧ Below w.heap.size w wr) (fun _ u _ => N + 1 - (intOf u).toNat)
  case atStart => exact ⟨0, 0, rfl, by omega, by omega, hid rfl, World.ownsRow_nil _ _ _ _, Below.refl _ _⟩
  case round =>
    obtain ⟨k, L, rfl, hk, hL, HL, hown, hbl⟩ := hrel
    by_cases hlt : k < N
    · have d1 : decide ((k : Int) + 1 ≤ (N : Int)) = true := decide_eq_true (by omega)
      have d2 : decide (k + 1 ≤ N) = true := decide_eq_true (by omega)
      have cn : wr.cell? ⟨sB, N - (k + 1), none⟩ = some (.bool (is.getD (N - (k + 1)) false)) := (hbl.cell (p := ⟨sB, N - (k + 1), none⟩) hB).trans (HC.out _ (by omega))
      have cq : wr.cell? ⟨sB, N + (k + 1), none⟩ = some (.bool (is.getD (N + (k + 1)) false)) := (hbl.cell (p := ⟨sB, N + (k + 1), none⟩) hB).trans (HC.out _ (by omega))
      have HS := hid (show heldTo N is (k + 1) = heldTo N is k ++ ((if is.getD (N - (k + 1)) false then [-((k : Int) + 1)] else []) ++ (if is.getD (N + (k + 1)) false then [(k : Int) + 1] else [])) from rfl)
      have hsz2 := hbl.size
      have en : ((N : Int) - ((k : Int) + 1)) = ((N - (k + 1) : Nat) : Int) := by omega
      have ep : ((N : Int) + ((k : Int) + 1)) = ((N + (k + 1) : Nat) : Int) := by omega
      have in1 : N - (k + 1) < 2 * N + 1 := by omega
      have ip1 : N + (k + 1) < 2 * N + 1 := by omega
      generalize hin : N - (k + 1) = jn at *
      generalize hip : N + (k + 1) = jp at *
      clear hin hip
      cases hbn : is.getD jn false
      · rw [hbn] at cn HS
        clear hbn
        cases hbp : is.getD jp false
        · rw [hbp] at cq HS
          have HSS := hid (show heldTo N is (k + 1) = heldTo N is k ++ [] by rw [HS.out]; rfl)
          clear hbp HS
          go_wp2_with fail
          go_roundw
          case rel => exact ⟨k + 1, L, by go_num, by omega, by omega, hid (by rw [HSS.out, List.length_append, ← HL.out]; rfl), by rw [HSS.out]; simpa [intsV] using hown, hbl⟩
          case measure => simp [intOf]; omega
        · rw [hbp] at cq HS
          have HSS := hid (show heldTo N is (k + 1) = heldTo N is k ++ [(k : Int) + 1] by rw [HS.out]; rfl)
          clear hbp HS
          go_wp2_with (at_builtin; refine wpList_append_own _ rfl (.tmp 29) (.tmp 31) 31 rfl w.heap.size 3 i0 (.int .i64 0) 1 8 Try.underlying31 hi.out hz0.out hz1.out hz2.out rfl (by decide) _ _ _ rfl (hown.alloc _) ⟨wr.heap.size, 0, none⟩ 1 1 [.int .i64 ((k : Int) + 1)] rfl rfl ?e1 ?e2 ?e3 ?e4 ?e5 ?_)
          case e1 => exact cell_one_new _ _ _
          case e2 => intro u hu; simp at hu; subst hu; rfl
          case e3 => unfold maxLen; omega
          case e4 => omega
          case e5 => simp; omega
          intro v2 w2 hown2 hgrow2 _
          have hb2 : Below w.heap.size w w2 := (hbl.alloc (by omega) _).grown hgrow2 (by simp; omega) (fun k hk => (hown.lt k hk).1)
          clear hgrow2 hown hbl
          go_wp2_with fail
          go_roundw
          case rel => exact ⟨k + 1, L + 1, by go_num, by omega, by omega, hid (by rw [HSS.out, List.length_append, ← HL.out]; rfl), by rw [HSS.out]; simpa [intsV] using hown2, hb2⟩
          case measure => simp [intOf]; omega
      · rw [hbn] at cn HS
        clear hbn
        cases hbp : is.getD jp false
        · rw [hbp] at cq HS
          have HSS := hid (show heldTo N is (k + 1) = heldTo N is k ++ [-((k : Int) + 1)] by rw [HS.out]; rfl)
          clear hbp HS
          go_wp2_with (at_builtin; refine wpList_append_own _ rfl (.tmp 18) (.tmp 21) 31 rfl w.heap.size 3 i0 (.int .i64 0) 1 8 Try.underlying31 hi.out hz0.out hz1.out hz2.out rfl (by decide) _ _ _ rfl (hown.alloc _) ⟨wr.heap.size, 0, none⟩ 1 1 [.int .i64 (-((k : Int) + 1))] rfl rfl ?c1 ?c2 ?c3 ?c4 ?c5 ?_)
          case c1 => exact cell_one_new _ _ _
          case c2 => intro u hu; simp at hu; subst hu; rfl
          case c3 => unfold maxLen; omega
          case c4 => omega
          case c5 => simp; omega
          intro v1 w1 hown1 hgrow _
          have hb1 : Below w.heap.size w w1 := (hbl.alloc (by omega) _).grown hgrow (by simp; omega) (fun k hk => (hown.lt k hk).1)
          have cq1 : w1.cell? ⟨sB, jp, none⟩ = some (.bool false) := (hb1.cell (p := ⟨sB, jp, none⟩) hB).trans ((hbl.cell (p := ⟨sB, jp, none⟩) hB).symm.trans cq)
          have hsz1 := hb1.size
          clear hgrow hown hbl cn cq
          go_wp2_with fail
          go_roundw
          case rel => exact ⟨k + 1, L + 1, by go_num, by omega, by omega, hid (by rw [HSS.out, List.length_append, ← HL.out]; rfl), by rw [HSS.out]; simpa [intsV] using hown1, hb1⟩
          case measure => simp [intOf]; omega
        · rw [hbp] at cq HS
          have HSS := hid (show heldTo N is (k + 1) = heldTo N is k ++ [-((k : Int) + 1), (k : Int) + 1] by rw [HS.out]; rfl)
          clear hbp HS
          go_wp2_with (at_builtin; refine wpList_append_own _ rfl (.tmp 18) (.tmp 21) 31 rfl w.heap.size 3 i0 (.int .i64 0) 1 8 Try.underlying31 hi.out hz0.out hz1.out hz2.out rfl (by decide) _ _ _ rfl (hown.alloc _) ⟨wr.heap.size, 0, none⟩ 1 1 [.int .i64 (-((k : Int) + 1))] rfl rfl ?c1 ?c2 ?c3 ?c4 ?c5 ?_)
          case c1 => exact cell_one_new _ _ _
          case c2 => intro u hu; simp at hu; subst hu; rfl
          case c3 => unfold maxLen; omega
          case c4 => omega
          case c5 => simp; omega
          intro v1 w1 hown1 hgrow _
          have hb1 : Below w.heap.size w w1 := (hbl.alloc (by omega) _).grown hgrow (by simp; omega) (fun k hk => (hown.lt k hk).1)
          have cq1 : w1.cell? ⟨sB, jp, none⟩ = some (.bool true) := (hb1.cell (p := ⟨sB, jp, none⟩) hB).trans ((hbl.cell (p := ⟨sB, jp, none⟩) hB).symm.trans cq)
          have hsz1 := hb1.size
          clear hgrow hown hbl cn cq
          go_wp2_with (at_builtin; refine wpList_append_own _ rfl (.tmp 29) (.tmp 31) 31 rfl w.heap.size 3 i0 (.int .i64 0) 1 8 Try.underlying31 hi.out hz0.out hz1.out hz2.out rfl (by decide) _ _ _ rfl (hown1.alloc _) ⟨w1.heap.size, 0, none⟩ 1 1 [.int .i64 ((k : Int) + 1)] rfl rfl ?e1 ?e2 ?e3 ?e4 ?e5 ?_)
          case e1 => exact cell_one_new _ _ _
          case e2 => intro u hu; simp at hu; subst hu; rfl
          case e3 => unfold maxLen; omega
          case e4 => omega
          case e5 => simp; omega
          intro v2 w2 hown2 hgrow2 _
          have hb2 : Below w.heap.size w w2 := (hb1.alloc (by omega) _).grown hgrow2 (by simp; omega) (fun k hk => (hown1.lt k hk).1)
          clear hgrow2 hown1 hb1
          go_wp2_with fail
          go_roundw
          case rel => exact ⟨k + 1, L + 2, by go_num, by omega, by omega, hid (by rw [HSS.out, List.length_append, ← HL.out]; rfl), by rw [HSS.out]; simpa [intsV] using hown2, hb2⟩
          case measure => simp [intOf]; omega
    · obtain rfl : k = N := by omega
      have d1 : decide ((k : Int) + 1 ≤ (k : Int)) = false := decide_eq_false (by omega)
      have d2 : decide (k + 1 ≤ k) = false := decide_eq_false (by omega)
      have HF := hid (show wr.ownsRow w.heap.size 3 1 _ (heldTo k is k).length (intsV (heldTo k is k)) by rw [← HL.out]; exact hown)
      obtain ⟨va, vc, rfl⟩ := own_shape hown
      clear hown
      go_wp2_with fail
      go_ret
      exact ⟨_, rfl, HF.out, hbl⟩
end Go.Proofs.Ytopneceicamakaa.Cf
