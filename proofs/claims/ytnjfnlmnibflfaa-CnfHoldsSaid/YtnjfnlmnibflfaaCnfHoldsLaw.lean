/-
  LAYER 12: the law CnfHolds walked.
-/
import Derived.Test.YtnjfnlmnibflfaaCnfDocTrue
import Derived.Test.YtnjfnlmnibflfaaCnfOpensB
import Derived.BigQuiet
namespace Go.Proofs.Ytnjfnlmnibflfaa.Cf
open Go.RowKit Go.Proofs.Ytnjfnlmnibflfaa Go.Proofs.Ytnjfnlmnibflfaa.Ln

theorem rawB_shape {w : World} {v : Value} {m : List Bool} (h : RawC w v (boolsV m)) : ∃ a c, v = .slice a m.length c ∧ m.length ≤ c := by
  obtain ⟨a, c, h1, h2, _⟩ := h
  rw [show (boolsV m).length = m.length from List.length_map _] at h1 h2
  exact ⟨a, c, h1, h2⟩

set_option maxHeartbeats 2000000 in
/-- where the law asks nothing -/
theorem law_holds_off (N : Int) (hn : N ≤ 9223372036854775807) (v : Value) (ll : List (List Int)) (mv : Value) (m : List Bool) (w : World) (h : RawL w v ll) (hm : RawC w mv (boolsV m))
    (hoff : 500 < m.length ∨ fewC ll 200 40 = false ∨ checkE N ll ≠ 0) :
    Calls Try.prog 6 #[.int .i64 N, v, mv] w fun e w' => e = .returned (.bool true) ∧ Below w.heap.size w w' := by
  have R0 := hid (resolved_any w)
  have H := hid h
  obtain ⟨a, n, c, rfl, hl, hc, hcells⟩ := rawL_shape h
  obtain ⟨a2, c2, rfl, hc2⟩ := rawB_shape hm
  clear h hcells hm
  by_cases hlong : 500 < m.length
  · have d1 : (500 : Int) < (m.length : Int) := by omega
    generalize m.length = k at *
    clear hoff hl hc hlong H
    go_enter Try.func6, Try.ntmps6
    go_wp2_with fail
    refine R0.out.mono ?_
    rintro e w1 ⟨rfl, hb1⟩
    have B1 := hid hb1
    clear hb1 R0
    go_wp2_with fail
    refine (resolved_any w1).mono ?_
    rintro e w2 ⟨rfl, hb2⟩
    have B2 := hid (B1.out.trans (hb2.mono B1.out.size))
    clear hb2 B1
    go_wp2_with fail
    go_ret
    exact ⟨rfl, B2.out⟩
  have d1 : ¬ (500 : Int) < (m.length : Int) := by omega
  generalize m.length = k at *
  cases hf : fewC ll 200 40
  · clear hoff hl hc hlong
    go_enter Try.func6, Try.ntmps6
    go_wp2_with fail
    refine R0.out.mono ?_
    rintro e w1 ⟨rfl, hb1⟩
    have H1 := hid (H.out.below hb1)
    have B1 := hid hb1
    clear hb1 R0 H
    go_wp2_with fail
    refine (few_any _ ll 200 40 (by decide) w1 H1.out).mono ?_
    rintro e w2 ⟨rfl, rfl⟩
    rw [hf]
    clear H1 hf
    go_wp2_with fail
    refine (resolved_any w1).mono ?_
    rintro e w2 ⟨rfl, hb2⟩
    have B2 := hid (B1.out.trans (hb2.mono B1.out.size))
    clear hb2 B1
    go_wp2_with fail
    go_ret
    exact ⟨rfl, B2.out⟩
  · have hck : checkE N ll ≠ 0 := by
      rcases hoff with h | h | h
      · exact absurd h hlong
      · rw [hf] at h; cases h
      · exact h
    have hckb : (checkE N ll != 0) = true := by simpa using hck
    obtain ⟨hlen, hshort⟩ := fewC_yes hf
    have HL := hid (H.out.lists (by omega) (fun l hl => by have := hshort l hl; omega))
    clear hoff hlen hshort hl hc hlong hck
    go_enter Try.func6, Try.ntmps6
    go_wp2_with fail
    refine R0.out.mono ?_
    rintro e w1 ⟨rfl, hb1⟩
    have H1 := hid (H.out.below hb1)
    have L1 := hid (HL.out.below hb1)
    have B1 := hid hb1
    clear hb1 R0 H HL
    go_wp2_with fail
    refine (few_any _ ll 200 40 (by decide) w1 H1.out).mono ?_
    rintro e w2 ⟨rfl, rfl⟩
    rw [hf]
    have RC := hid (refCheck_any N hn _ ll w1 L1.out)
    clear H1 hf L1
    generalize checkE N ll = r at *
    go_wp2_with fail
    refine RC.out.mono ?_
    rintro e w2 ⟨rfl, rfl⟩
    clear RC
    go_wp2_with fail
    refine (resolved_any w1).mono ?_
    rintro e w2 ⟨rfl, hb2⟩
    have B2 := hid (B1.out.trans (hb2.mono B1.out.size))
    clear hb2 B1
    go_wp2_with fail
    go_ret
    exact ⟨rfl, B2.out⟩

set_option maxHeartbeats 2000000 in
theorem law_holds (N : Int) (hn : N ≤ 9223372036854775807) (v : Value) (ll : List (List Int)) (mv : Value) (m : List Bool) (w : World) (h : RawL w v ll) (hm : RawC w mv (boolsV m))
    (hlong : ¬ 500 < m.length) (hf : fewC ll 200 40 = true) (hck : checkE N ll = 0) :
    Calls Try.prog 6 #[.int .i64 N, v, mv] w fun e w' => e = .returned (.bool true) ∧ Below w.heap.size w w' := by
  have R0 := hid (resolved_any w)
  have H := hid h
  obtain ⟨a, n, c, rfl, hl, hc, hcells⟩ := rawL_shape h
  have HM := hid (show Bools w mv m from RawC.cells hm (by rw [show (boolsV m).length = m.length from List.length_map _]; omega))
  obtain ⟨a2, c2, rfl, hc2⟩ := rawB_shape hm
  clear h hcells hm
  have d1 : ¬ (500 : Int) < (m.length : Int) := by omega
  have hok := checkE_ok hck
  have LO : Hid (∀ l ∈ ll, litsOk l) := hid (fun l hl => litsOk_of hok.2.1 (hok.2.2.2 l hl))
  obtain ⟨hlen, hshort⟩ := fewC_yes hf
  have HL := hid (H.out.lists (by omega) (fun l hl => by have := hshort l hl; omega))
  generalize hk : m.length = k at *
  clear hlen hshort hc hlong hok hk
  have HLL := hid hl
  clear hl
  go_enter Try.func6, Try.ntmps6
  go_wp2_with fail
  refine R0.out.mono ?_
  rintro e w1 ⟨rfl, hb1⟩
  have H1 := hid (H.out.below hb1)
  have L1 := hid (HL.out.below hb1)
  have M1 := hid (HM.out.below hb1)
  have B1 := hid hb1
  clear hb1 R0 H HL HM
  go_wp2_with fail
  refine (few_any _ ll 200 40 (by decide) w1 H1.out).mono ?_
  rintro e w2 ⟨rfl, rfl⟩
  rw [hf]
  have RC := hid (refCheck_any N hn _ ll w1 L1.out)
  rw [hck] at RC
  clear H1 hf hck
  go_wp2_with fail
  refine RC.out.mono ?_
  rintro e w2 ⟨rfl, rfl⟩
  clear RC
  go_wp2_with fail
  refine (holds_any N _ ll (fun l hl => (LO.out l hl).ok) _ m _ (L1.out.below ((Below.refl _ _).alloc (Nat.le_refl _) _)) (M1.out.below ((Below.refl _ _).alloc (Nat.le_refl _) _))).mono ?_
  rintro e w2 ⟨rfl, hb2⟩
  have hb12 := below_trans (below_alloc (Below.refl w1.heap.size w1) _) hb2
  have B2 := hid (B1.out.trans (hb12.mono B1.out.size))
  have L2 := hid (L1.out.below hb12)
  have M2 := hid (M1.out.below hb12)
  clear hb2 hb12 B1 L1 M1
  have RC := hid (refHolds_any _ ll LO.out _ m w2 L2.out M2.out)
  have hne : (holdsC ll m != holdsC ll m) = false := by simp
  generalize holdsC ll m = r at *
  go_wp2_with fail
  refine RC.out.mono ?_
  rintro e w3 ⟨rfl, rfl⟩
  clear RC
  rcases Nat.eq_zero_or_pos n with h0 | hpos
  · subst h0
    clear HLL L2 M2 LO
    go_wp2_with fail
    go_quiet (fail)
    go_wp2_with fail
    go_ret
    exact ⟨rfl, below_drewN' B2.out _⟩
  · have hz : ((n : Int) == 0) = false := by rw [beq_eq_false_iff_ne]; omega
    obtain ⟨vs, hc, hvl, hi⟩ := lists_get L2.out
    obtain ⟨a3, c3, hv3, _, _, hcells⟩ := hc
    simp only [Value.slice.injEq] at hv3
    obtain ⟨rfl, hn2, rfl⟩ := hv3
    obtain ⟨B, o, rfl, hB, hcc⟩ := hcells (by omega)
    have c0 := hcc 0 (by omega)
    rw [Nat.add_zero] at c0
    have i0 := hi 0 (by omega)
    have lo := LO.out (ll.getD 0 []) (by
      have := HLL.out
      rw [List.getD_eq_getElem?_getD, List.getElem?_eq_getElem (by omega : 0 < ll.length)]
      exact List.getElem_mem _)
    generalize vs[0]'(by omega) = u at *
    generalize ll.getD 0 [] = l0 at *
    clear hcc hcells hi hvl hn2 L2 HLL LO
    obtain ⟨a4, c4, rfl, _, _, hcell4⟩ := i0.shape
    rcases Nat.eq_zero_or_pos l0.length with hy0 | hyp
    · rw [hy0] at c0
      clear i0 hcell4 hy0 lo M2
      go_wp2_with fail
      go_quiet (fail)
      go_wp2_with fail
      go_ret
      exact ⟨rfl, below_drewN' B2.out _⟩
    · obtain ⟨B5, o5, rfl, hB5, hcc5⟩ := hcell4 hyp
      have c5 := hcc5 0 hyp
      rw [Nat.add_zero] at c5
      have hx := lo.at 0 hyp
      have hyz : ((l0.length : Int) == 0) = false := by rw [beq_eq_false_iff_ne]; omega
      generalize l0.getD 0 0 = x at *
      have CT := fun W (hW : Below w2.heap.size w2 W) => hid ((true_any x hx.2.1 hx.2.2 _ m W (M2.out.below hW)).mono (fun _ _ h => And.intro h.1 h.2.symm))
      have RT := fun W (hW : Below w2.heap.size w2 W) => hid ((refTrue_any x hx.1 hx.2.1 hx.2.2 _ m W (M2.out.below hW)).mono (fun _ _ h => And.intro h.1 h.2.symm))
      generalize trueC x m = b at *
      have hbb : (b == b) = true := by simp
      generalize l0.length = y at *
      clear i0 hcell4 hcc5 hx lo M2
      go_wp2_with fail
      go_quiet (first
        | (go_at_call 28; exact Calls.quiet_of_same (CT _ (below_drewN' (Below.refl _ _) _)).out)
        | (go_at_call 29; exact Calls.quiet_of_same (RT _ (below_drewN' (Below.refl _ _) _)).out))
      go_wp2_with fail
      go_ret
      exact ⟨rfl, below_drewN' B2.out _⟩
end Go.Proofs.Ytnjfnlmnibflfaa.Cf
