/-
  LAYER 12: the document's Model: the k-th of all models.
-/
import Derived.Test.YtopneceicamakaaCnfHolds
import Derived.OwnWalk
namespace Go.Proofs.Ytopneceicamakaa.Cf
open Go.RowKit Go.Proofs.Ytopneceicamakaa Go.Proofs.Ytopneceicamakaa.Ln

/-- the k-th of all models over n variables -/
def modelL (n k : Nat) : List Bool := (List.range n).map fun i => decide (k / 2 ^ i % 2 = 1)
theorem modelL_len (n k : Nat) : (modelL n k).length = n := by simp [modelL]
theorem modelL_succ (n k : Nat) : modelL (n + 1) k = modelL n k ++ [decide (k / 2 ^ n % 2 = 1)] := by simp [modelL, List.range_succ]
theorem Cells.of_own {w : World} {base : Nat} {e : TypeId} {v : Value} {n : Nat} {vs : List Value} (h : w.ownsRow base e 1 v n vs) (hl : n ≤ 17592186044416) : Cells w v vs := by
  have hN : vs.length = n := by have := h.1; rw [Nat.mul_one] at this; exact this
  rcases ownsRow_one h with ⟨rfl, h1, h2⟩ | ⟨g, c, rfl, h1, h2, h3, h4, h5⟩
  · subst h2; exact Cells.nil w none 0
  · refine ⟨some ⟨g, 0, none⟩, c, by rw [hN], by omega, by omega, fun _ => ⟨g, 0, rfl, h2, fun j hj => ?_⟩⟩
    rw [Nat.zero_add]
    exact h5 j _ (List.getElem?_eq_getElem hj)
theorem infoB : (Try.prog.info? 4).map (fun i => (i.zero, i.size, i.bytes)) = some (some (.bool false), 1, 1) := by kernel_rfl

set_option maxHeartbeats 2000000 in
theorem refModel_any (n k : Nat) (hn : n ≤ 12) (w : World) :
    Calls Try.prog 49 #[.int .i64 (n : Int), .int .i64 (k : Int)] w fun e w' => ∃ v', e = .returned v' ∧ Bools w' v' (modelL n k) ∧ Below w.heap.size w w' := by
  obtain ⟨i0, q1, q2, q3, q4⟩ := info_parts infoB
  have hi := hid q1
  have hz0 := hid q2
  have hz1 := hid q3
  have hz2 := hid q4
  clear q1 q2 q3 q4
  go_enter Try.func49, Try.ntmps49
  go_wp2_with fail
  go_loopw [5, 6] (fun v u wr => ∃ i : Nat, u = .int .i64 (i : Int) ∧ i ≤ n ∧ wr.ownsRow w.heap.size 4 1 v i (boolsV (modelL i k)) ∧ Below w.heap.size w wr) (fun _ u _ => n - (intOf u).toNat)
  case atStart => exact ⟨0, rfl, by omega, World.ownsRow_nil _ _ _ _, Below.refl _ _⟩
  case round =>
    obtain ⟨i, rfl, hin, hown, hbl⟩ := hrel
    by_cases hlt : i < n
    · have hsz2 := hbl.size
      have HS := hid (modelL_succ i k)
      have hb : ((k : Int) / 2 ^ i).tmod 2 = ((k / 2 ^ i % 2 : Nat) : Int) := by
        rw [show ((k : Int) / 2 ^ i) = ((k / 2 ^ i : Nat) : Int) by norm_cast, Int.tmod_eq_emod_of_nonneg (Int.natCast_nonneg _)]; norm_cast
      have hq : decide (k / 2 ^ i % 2 = 1) = (((k : Int) / 2 ^ i).tmod 2 == 1) := by
        rw [hb, Bool.eq_iff_iff, decide_eq_true_iff, beq_iff_eq]; omega
      clear hb
      rw [hq] at HS
      clear hq
      go_wp2_with (at_builtin; refine wpList_append_own _ rfl (.tmp 12) (.tmp 18) 44 rfl w.heap.size 4 i0 (.bool false) 1 1 Try.underlying44 hi.out hz0.out hz1.out hz2.out rfl (by decide) _ _ _ rfl (hown.alloc _) ⟨wr.heap.size, 0, none⟩ 1 1 [.bool (((k : Int) / 2 ^ i).tmod 2 == 1)] rfl rfl ?e1 ?e2 ?e3 ?e4 ?e5 ?_)
      case e1 => exact cell_one_new _ _ _
      case e2 => intro u hu; simp at hu; subst hu; rfl
      case e3 => unfold maxLen; omega
      case e4 => omega
      case e5 => simp; omega
      intro v2 w2 hown2 hgrow2 _
      have hb2 : Below w.heap.size w w2 := (hbl.alloc (by omega) _).grown hgrow2 (by simp; omega) (fun k hk => (hown.lt k hk).1)
      clear hgrow2 hown hbl
      go_wp2_with fail
      go_roundw
      case rel => exact ⟨i + 1, by go_num, by omega, by rw [HS.out]; simpa [boolsV] using hown2, hb2⟩
      case measure => simp [intOf]; omega
    · obtain rfl : i = n := by omega
      have HF := hid hown
      obtain ⟨va, vc, rfl⟩ := own_shape hown
      clear hown
      go_wp2_with fail
      go_ret
      exact ⟨_, rfl, Cells.of_own HF.out (by omega), hbl⟩
end Go.Proofs.Ytopneceicamakaa.Cf
