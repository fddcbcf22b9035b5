/-
  LAYER 12: Taut.
-/
import Derived.Test.YtopneceicamakaaCnfNorm2
import Derived.Test.YtopneceicamakaaCnfTrue
namespace Go.Proofs.Ytopneceicamakaa.Cf
open Go.RowKit Go.Proofs.Ytopneceicamakaa Go.Proofs.Ytopneceicamakaa.Ln

theorem okL_norm {l : List Int} (h : okL l) : okL (normC l) := fun x hx => h x ((normC_mem l x).1 hx)
theorem adjT_yes {r : List Int} {k : Nat} (h1 : 1 ≤ k) (hk : k < r.length) (h : (r.getD k 0 == - r.getD (k - 1) 0) = true) : adjT r = true := by
  unfold adjT
  exact List.any_eq_true.2 ⟨k, by simpa using hk, by rw [h, decide_eq_true h1]; rfl⟩
theorem adjT_no {r : List Int} (h : ∀ k, 1 ≤ k → k < r.length → (r.getD k 0 == - r.getD (k - 1) 0) = false) : adjT r = false := by
  unfold adjT
  rw [List.any_eq_false]
  intro k hk
  have hk' : k < r.length := by simpa using hk
  by_cases h1 : 1 ≤ k
  · rw [h k h1 hk']; simp
  · rw [decide_eq_false h1]; simp

set_option maxHeartbeats 1000000 in
theorem taut_any (v : Value) (l : List Int) (hl : okL l) (w : World) (h : Ints w v l) :
    Calls Try.prog 19 #[v] w fun e w' => e = .returned (.bool (adjT (normC l))) ∧ Below w.heap.size w w' := by
  have HN := hid (norm_any v l w h)
  have hk := hid (okL_norm hl)
  have hlen := norm_len l
  obtain ⟨a, c, rfl, h2, h3, h4⟩ := h.shape
  clear h h2 h4 hl
  generalize normC l = r at *
  go_enter Try.func19, Try.ntmps19
  go_wp2_with fail
  refine HN.out.mono ?_
  rintro e w1 ⟨v1, rfl, ho, hb⟩
  have HI := hid (Owned.ints ho (by omega))
  have HB := hid hb
  obtain ⟨a1, c1, rfl, h21, h31, h41⟩ := HI.out.shape
  have HC := hid h41
  clear ho hb h41 HN
  go_wp2_with fail
  go_loopw [4] (fun u wr => ∃ k : Nat, u = .int .i64 ((k : Int) + 1) ∧ k ≤ r.length + 1 ∧ Hid (Drawn w1 wr ∧ ∀ i, 1 ≤ i → i ≤ k → i < r.length → (r.getD i 0 == - r.getD (i - 1) 0) = false)) (fun u _ => r.length + 2 - (intOf u).toNat)
  case atStart => exact ⟨0, rfl, by omega, hid ⟨Drawn.refl _, fun i h1 h2 => by omega⟩⟩
  case round =>
    obtain ⟨k, rfl, hkl, HD⟩ := hrel
    have HB2 := hid (HB.out.trans (HD.out.1.below.mono HB.out.size))
    by_cases hlt : k + 1 < r.length
    · obtain ⟨B, o, rfl, hBl, hcell⟩ := HC.out (by omega)
      have ck : wr.cell? ⟨B, o + (k + 1), none⟩ = some (.int .i64 (r.getD (k + 1) 0)) := (HD.out.1.below.cell (p := ⟨B, o + (k + 1), none⟩) hBl).trans (hcell (k + 1) hlt)
      have cj : wr.cell? ⟨B, o + k, none⟩ = some (.int .i64 (r.getD k 0)) := (HD.out.1.below.cell (p := ⟨B, o + k, none⟩) hBl).trans (hcell k (by omega))
      have hx := hk.out.at k (by omega)
      have d1 : decide ((k : Int) + 1 < (r.length : Int)) = true := decide_eq_true (by omega)
      have d2 : decide (k + 1 < r.length) = true := decide_eq_true hlt
      have hkr : k < r.length := by omega
      clear hcell
      obtain ⟨x, hxe⟩ : ∃ x, x = r.getD k 0 := ⟨_, rfl⟩
      obtain ⟨y, hye⟩ : ∃ y, y = r.getD (k + 1) 0 := ⟨_, rfl⟩
      rw [← hye] at ck
      rw [← hxe] at cj hx
      have wn : IntKind.i64.wrap (-x) = -x := IntWalk.i64_in _ (by omega)
      have ws : IntKind.i64.wrap ((k : Int) + 1 - 1) = (k : Int) := by rw [show (k : Int) + 1 - 1 = k by omega]; exact IntWalk.i64_in _ (by omega)
      have hx1 := hx.1
      have hx2 := hx.2
      have HXY := hid (And.intro hxe hye)
      clear hxe hye hx
      cases hq : y == -x
      · have HQ := hid (show (r.getD (k + 1) 0 == - r.getD (k + 1 - 1) 0) = false by rw [Nat.add_sub_cancel, ← HXY.out.1, ← HXY.out.2]; exact hq)
        go_wp2_with fail
        go_quiet (fail)
        go_wp2_with fail
        go_roundw
        case rel =>
          refine ⟨k + 1, by go_num, by omega, hid ⟨HD.out.1.more _, fun i h1 h2 h3 => ?_⟩⟩
          by_cases e : i = k + 1
          · subst e; exact HQ.out
          · exact HD.out.2 i h1 (by omega) h3
        case measure => simp [intOf]; omega
      · have HQ := hid (adjT_yes (r := r) (k := k + 1) (by omega) hlt (by rw [Nat.add_sub_cancel, ← HXY.out.1, ← HXY.out.2]; exact hq))
        go_wp2_with fail
        go_quiet (fail)
        go_wp2_with fail
        go_ret
        exact ⟨by rw [HQ.out]; rfl, below_drewN' HB2.out _⟩
    · have d1 : decide ((k : Int) + 1 < (r.length : Int)) = false := decide_eq_false (by omega)
      have d2 : decide (k + 1 < r.length) = false := decide_eq_false hlt
      have HQ := hid (adjT_no (r := r) (fun i h1 h2 => HD.out.2 i h1 (by omega) h2))
      go_wp2_with fail
      go_ret
      exact ⟨by rw [HQ.out]; rfl, HB2.out⟩
end Go.Proofs.Ytopneceicamakaa.Cf
