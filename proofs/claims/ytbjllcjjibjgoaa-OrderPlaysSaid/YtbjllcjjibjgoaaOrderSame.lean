/-
  LAYER 13: the law's same: all that is told of one variable is the same.
-/
import Derived.Test.YtbjllcjjibjgoaaBagNew
namespace Go.Proofs.Ytbjllcjjibjgoaa.Hp
open Go.RowKit Go.Proofs.Ytbjllcjjibjgoaa.Ln

theorem quiet_w {P : Program} {f : FuncId} {args : Array Value} {w : World} {n : Nat} {v : Value} (h : Calls P f args (w.drewN n) fun e w' => e = .returned v ∧ w.drewN n = w') : Calls P f args (w.drewN n) fun e w'' => e = .returned v ∧ ∃ m, w'' = w.drewN m :=
  h.mono fun _ _ ⟨he, hm⟩ => ⟨he, n, hm.symm⟩

set_option maxHeartbeats 2000000 in
theorem same_any {w : World} {m : Hm} {b : Bm} {N : Nat} {S : List Nat} {I : List Bool} (h : Heap w m N S I) (hb : Bag w b N S I) (v : Int) :
    Calls Try.prog 18 #[.pointer (some ⟨m.p, 0, none⟩), .pointer (some ⟨b.p, 0, none⟩), .int .i64 v] w fun e w' => e = .returned (.bool true) ∧ Drawn w w' := by
  have hf := h.facts
  have L1 := hid (len_at h)
  have L2 := hid (baglen_any hb hf.2.2.2.1)
  have K := hid (known_any hb v)
  have HH := hid h
  have HB := hid hb
  have he : ((cnt I : Int) != (cnt I : Int)) = false := by simp
  cases hk : knowsV N v
  · have A1 := hid (has_at h v)
    rw [show isV N I v = false by unfold isV; rw [hk]; rfl] at A1
    have A2 := hid (score_at h v)
    rw [show scoreV N S v = 0 by unfold scoreV; rw [hk]; rfl] at A2
    rw [hk] at K
    clear h hb hf hk
    generalize cnt I = c at *
    go_enter Try.func18, Try.ntmps18
    go_wp2_with fail
    refine L1.out.mono ?_
    rintro e w' ⟨rfl, rfl⟩
    go_wp2_with fail
    refine L2.out.mono ?_
    rintro e w' ⟨rfl, rfl⟩
    go_wp2_with fail
    refine K.out.mono ?_
    rintro e w' ⟨rfl, rfl⟩
    go_wp2_with fail
    refine A1.out.mono ?_
    rintro e w' ⟨rfl, rfl⟩
    go_wp2_with fail
    refine A2.out.mono ?_
    rintro e w' ⟨rfl, rfl⟩
    go_wp2_with fail
    go_ret
    exact ⟨rfl, Drawn.refl _⟩
  · have hv := of_decide_eq_true hk
    obtain ⟨x, rfl⟩ : ∃ x : Nat, v = (x : Int) := ⟨v.toNat, by omega⟩
    have A1 := fun z => hid (has_at (h.below (below_drewN' (Below.refl _ _) z)) (x : Int))
    rw [isV_nat (by omega) (by omega)] at A1
    have A2 := fun z => hid (score_at (h.below (below_drewN' (Below.refl _ _) z)) (x : Int))
    rw [scoreV_nat (by omega) (by omega)] at A2
    rw [hk] at K
    have c0 := hb.head.cell 0 rfl
    have c1 := hb.head.cell 1 rfl
    have ci := hb.isin (show x ≤ N by omega)
    have cs := hb.score (show x ≤ N by omega)
    have ix : x < N + 1 := by omega
    clear h hb hk
    have hbit : decide (0 < bitN (I.getD x false)) = I.getD x false := by unfold bitN; cases I.getD x false <;> rfl
    generalize bitN (I.getD x false) = bi at *
    generalize I.getD x false = bx at *
    generalize S.getD x 0 = sx at *
    generalize cnt I = c at *
    have hN400 := hf.1
    clear hf
    go_enter Try.func18, Try.ntmps18
    go_wp2_with fail
    refine L1.out.mono ?_
    rintro e w' ⟨rfl, rfl⟩
    go_wp2_with fail
    refine L2.out.mono ?_
    rintro e w' ⟨rfl, rfl⟩
    go_wp2_with fail
    refine K.out.mono ?_
    rintro e w' ⟨rfl, rfl⟩
    go_wp2_with fail
    go_quiet (first | (go_at_call 20; with_reducible exact quiet_w (A1 _).out) | (go_at_call 21; with_reducible exact quiet_w (A2 _).out))
    go_wp2_with fail
    go_ret
    exact ⟨rfl, ⟨_, rfl⟩⟩
end Go.Proofs.Ytbjllcjjibjgoaa.Hp
