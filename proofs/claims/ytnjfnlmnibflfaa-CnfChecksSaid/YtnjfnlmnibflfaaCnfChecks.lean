/-
  LAYER 12: the law CnfChecks walked.
-/
import Derived.Test.YtnjfnlmnibflfaaCnfDoc
import Derived.Deep.RegionHeld3
namespace Go.Proofs.Ytnjfnlmnibflfaa.Cf
open Go.RowKit Go.Proofs.Ytnjfnlmnibflfaa Go.Proofs.Ytnjfnlmnibflfaa.Ln

set_option maxHeartbeats 2000000 in
theorem law_checks (N : Int) (hn : N ≤ 9223372036854775807) (v : Value) (ll : List (List Int)) (w : World) (h : RawL w v ll) :
    Calls Try.prog 3 #[.int .i64 N, v] w fun e w' => e = .returned (.bool true) ∧ Below w.heap.size w w' := by
  have R0 := hid (resolved_any w)
  have H := hid h
  obtain ⟨a, n, c, rfl, hl, hc, hcells⟩ := rawL_shape h
  clear h hcells
  cases hf : fewC ll 8010 500
  · clear hl hc
    go_enter Try.func3, Try.ntmps3
    go_wp2_with fail
    refine R0.out.mono ?_
    rintro e w1 ⟨rfl, hb1⟩
    have H1 := hid (H.out.below hb1)
    have B1 := hid hb1
    clear hb1 R0 H
    go_wp2_with fail
    refine (few_any _ ll 8010 500 (by decide) w1 H1.out).mono ?_
    rintro e w2 ⟨rfl, rfl⟩
    rw [hf]
    clear H1 hf
    go_wp2_with fail
    refine (resolved_any w1).mono ?_
    rintro e w2 ⟨rfl, hb2⟩
    have B2 := hid (B1.out.trans (hb2.mono B1.out.size))
    clear hb2 B1
    go_wp2_with fail
    go_ret
    exact ⟨rfl, B2.out⟩
  · obtain ⟨hlen, hshort⟩ := fewC_yes hf
    have HL := hid (H.out.lists (by omega) (fun l hl => by have := hshort l hl; omega))
    have HSH := hid hl
    clear hlen hshort hl hc
    go_enter Try.func3, Try.ntmps3
    go_wp2_with fail
    refine R0.out.mono ?_
    rintro e w1 ⟨rfl, hb1⟩
    have H1 := hid (H.out.below hb1)
    have L1 := hid (HL.out.below hb1)
    have B1 := hid hb1
    clear hb1 R0 H HL
    go_wp2_with fail
    refine (few_any _ ll 8010 500 (by decide) w1 H1.out).mono ?_
    rintro e w2 ⟨rfl, rfl⟩
    rw [hf]
    clear H1 hf
    go_wp2_with fail
    refine (check_any _ N hn ll _ (L1.out.below ((Below.refl _ _).alloc (Nat.le_refl _) _))).mono ?_
    rintro e w2 ⟨rfl, hb2⟩
    have hb12 := below_trans (below_alloc (Below.refl w1.heap.size w1) _) hb2
    have B2 := hid (B1.out.trans (hb12.mono B1.out.size))
    have L2 := hid (L1.out.below hb12)
    clear hb2 hb12 B1 L1
    have RC := hid (refCheck_any N hn _ ll w2 L2.out)
    have hne : (checkE N ll != checkE N ll) = false := by simp
    generalize checkE N ll = r at *
    go_wp2_with fail
    refine RC.out.mono ?_
    rintro e w3 ⟨rfl, rfl⟩
    clear RC
    rcases Nat.eq_zero_or_pos n with h0 | hpos
    · subst h0
      clear HSH L2
      go_wp2_with fail
      go_quiet (fail)
      go_wp2_with fail
      go_ret
      exact ⟨rfl, below_drewN' B2.out _⟩
    · have hz : ((n : Int) == 0) = false := by rw [beq_eq_false_iff_ne]; omega
      obtain ⟨vs, hc, hvl, hi⟩ := lists_get L2.out
      obtain ⟨a2, c2, hv2, _, _, hcells⟩ := hc
      simp only [Value.slice.injEq] at hv2
      obtain ⟨rfl, hn2, rfl⟩ := hv2
      obtain ⟨B, o, rfl, hB, hcc⟩ := hcells (by omega)
      have c0 := hcc 0 (by omega)
      rw [Nat.add_zero] at c0
      have i0 := hi 0 (by omega)
      generalize vs[0]'(by omega) = u at *
      generalize ll.getD 0 [] = l0 at *
      clear hcc hcells hi hvl hn2 L2 HSH
      have CC := hid (fun W (hW : Below w2.heap.size w2 W) => checkClause_any u l0 N hn W (i0.below hW))
      have RR := hid (fun W (hW : Below w2.heap.size w2 W) => refCheckClause_any u l0 N hn W (i0.below hW))
      obtain ⟨a3, c3, rfl, _, _, _⟩ := i0.shape
      clear i0
      generalize rangeE (ckC l0 N) = q at *
      have hq : (q == q) = true := by simp
      generalize l0.length = y at *
      go_wp2_with fail
      have hd : Below w2.heap.size w2 w2.drew := below_drew (Below.refl _ _)
      have cd : w2.drew.cell? ⟨B, o, none⟩ = some (.slice a3 y c3) := by simpa [go_sem] using c0
      clear c0
      go_region_held3 (fun w' => w'.cell? ⟨B, o, none⟩ = some (.slice a3 y c3)) (first | (exact cx) | (exact cd))
        (first
          | (go_at_call 14; (with_reducible refine (CC.out _ hd).mono ?_); rintro e wx ⟨rfl, hbx⟩; have hdx := below_trans hd hbx; have cx := (hbx.cell (p := ⟨B, o, none⟩) hB).trans cd)
          | (go_at_call 15; (with_reducible refine (RR.out _ (by first | exact hdx | exact hd)).mono ?_); rintro e wy ⟨rfl, rfl⟩))
      all_goals
        go_wp2_with fail
        go_ret
        exact ⟨rfl, B2.out.trans (hdx.mono B2.out.size)⟩
end Go.Proofs.Ytnjfnlmnibflfaa.Cf
