/-
  LAYER 12: (Formula).Check.
-/
import Derived.Test.YtopneceicamakaaCnfCheck
namespace Go.Proofs.Ytopneceicamakaa.Cf
open Go.RowKit Go.Proofs.Ytopneceicamakaa Go.Proofs.Ytopneceicamakaa.Ln

def checkE (N : Int) (ll : List (List Int)) : Int :=
  if N < 0 ∨ 400 < N then 8 else if 8000 < ll.length then 2 else if ll.any (fun l => !ckC l N) then 8 else 0
theorem rangeE_ne (b : Bool) : (rangeE b != 0) = !b := by cases b <;> rfl

theorem check1_any (v : Value) (l : List Int) (N : Int) (hn : N ≤ 9223372036854775807) (b : Nat) (w : World) (h : Ints w v l) (hc : w.cell? ⟨b, 0, none⟩ = some (.int .i64 N)) :
    Calls Try.prog 37 #[v, .pointer (some ⟨b, 0, none⟩)] w fun e w' => e = .returned (.bool (!ckC l N)) ∧ Below w.heap.size w w' := by
  have HC := hid (checkClause_any v l N hn w h)
  have HE := hid (rangeE_ne (ckC l N))
  obtain ⟨a, c, rfl, _, _, _⟩ := h.shape
  clear h
  generalize rangeE (ckC l N) = x at *
  go_enter Try.func37, Try.ntmps37
  go_wp2_with fail
  refine HC.out.mono ?_
  rintro e w2 ⟨rfl, hb2⟩
  go_wp2_with fail
  go_ret
  exact ⟨ret_bool HE.out, hb2⟩

theorem lists_get {w : World} {v : Value} {ll : List (List Int)} (h : Lists w v ll) : ∃ vs, Cells w v vs ∧ vs.length = ll.length ∧ ∀ j (h : j < vs.length), Ints w vs[j] (ll.getD j []) := by
  obtain ⟨vs, h1, h2, h3⟩ := h
  refine ⟨vs, h1, h2, fun j hj => ?_⟩
  rw [List.getD_eq_getElem?_getD, List.getElem?_eq_getElem (by omega)]
  exact h3 j hj (by omega)

set_option maxHeartbeats 1000000 in
theorem check_any (cv : Value) (N : Int) (hn : N ≤ 9223372036854775807) (ll : List (List Int)) (w : World) (h : Lists w cv ll) :
    Calls Try.prog 12 #[.agg #[.int .i64 N, cv]] w fun e w' => e = .returned (.int .i64 (checkE N ll)) ∧ Below w.heap.size w w' := by
  obtain ⟨vs, hc, hl, hi⟩ := lists_get h
  have hany : (List.range vs.length).any (fun j => !ckC (ll.getD j []) N) = ll.any (fun l => !ckC l N) := by rw [hl]; exact any_list ll [] (fun l => !ckC l N)
  have CF := fun W (hB : Below w.heap.size w W) (b : Nat) (hb : W.cell? ⟨b, 0, none⟩ = some (.int .i64 N)) => hid (containsFunc2_any 37 #[.pointer (some ⟨b, 0, none⟩)] (fun _ _ => by kernel_rfl) cv vs (fun j => !ckC (ll.getD j []) N) W (hc.below hB) (by
    intro j hj W' hW'
    have hlt := World.block_lt_of_cell? W _ hb
    exact check1_any vs[j] (ll.getD j []) N hn b W' (((hi j hj).below hB).below hW') ((hW'.cell (p := ⟨b, 0, none⟩) hlt).trans hb)))
  rw [hany] at CF
  obtain ⟨a, c, rfl, _, _, _⟩ := id hc
  by_cases h1 : N < 0
  · have E := hid (show checkE N ll = 8 by unfold checkE; rw [if_pos (.inl h1)])
    clear CF hany hi hc h
    go_enter Try.func12, Try.ntmps12
    go_wp2_with fail
    go_ret
    exact ⟨ret_int E.out.symm, (Below.refl _ _).alloc (Nat.le_refl _) _⟩
  by_cases h2 : 400 < N
  · have E := hid (show checkE N ll = 8 by unfold checkE; rw [if_pos (.inr h2)])
    clear CF hany hi hc h
    go_enter Try.func12, Try.ntmps12
    go_wp2_with fail
    go_ret
    exact ⟨ret_int E.out.symm, (Below.refl _ _).alloc (Nat.le_refl _) _⟩
  have hg : ¬ (N < 0 ∨ 400 < N) := by omega
  have hvl : (vs.length : Int) = (ll.length : Int) := by rw [hl]
  by_cases h3 : 8000 < ll.length
  · have E := hid (show checkE N ll = 2 by unfold checkE; rw [if_neg hg, if_pos h3])
    have h3' : (8000 : Int) < (vs.length : Int) := by omega
    clear CF hany hi hc h hg hl hvl h3
    go_enter Try.func12, Try.ntmps12
    go_wp2_with fail
    go_ret
    exact ⟨ret_int E.out.symm, (Below.refl _ _).alloc (Nat.le_refl _) _⟩
  · have h3' : ¬ (8000 : Int) < (vs.length : Int) := by omega
    cases hb : ll.any (fun l => !ckC l N)
    · have E := hid (show checkE N ll = 0 by unfold checkE; rw [if_neg hg, if_neg h3, hb]; rfl)
      rw [hb] at CF
      clear hany hi hc h hg hl hvl h3 hb
      go_enter Try.func12, Try.ntmps12
      go_wp2_with fail
      refine (CF _ ((Below.refl _ _).alloc (Nat.le_refl _) _) _ (by simp [go_sem])).out.mono ?_
      rintro e w2 ⟨rfl, hb2⟩
      have hb3 := below_trans (below_alloc (Below.refl w.heap.size w) _) hb2
      clear CF hb2
      go_wp2_with fail
      go_ret
      exact ⟨ret_int E.out.symm, hb3⟩
    · have E := hid (show checkE N ll = 8 by unfold checkE; rw [if_neg hg, if_neg h3, hb]; rfl)
      rw [hb] at CF
      clear hany hi hc h hg hl hvl h3 hb
      go_enter Try.func12, Try.ntmps12
      go_wp2_with fail
      refine (CF _ ((Below.refl _ _).alloc (Nat.le_refl _) _) _ (by simp [go_sem])).out.mono ?_
      rintro e w2 ⟨rfl, hb2⟩
      have hb3 := below_trans (below_alloc (Below.refl w.heap.size w) _) hb2
      clear CF hb2
      go_wp2_with fail
      go_ret
      exact ⟨ret_int E.out.symm, hb3⟩
end Go.Proofs.Ytopneceicamakaa.Cf
