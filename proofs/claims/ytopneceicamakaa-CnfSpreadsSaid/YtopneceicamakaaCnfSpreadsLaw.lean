/-
  LAYER 12: the law CnfSpreads walked.
-/
import Derived.Test.YtopneceicamakaaCnfDocSpread
import Derived.Test.YtopneceicamakaaCnfSubsLaw
namespace Go.Proofs.Ytopneceicamakaa.Cf
open Go.RowKit Go.Proofs.Ytopneceicamakaa Go.Proofs.Ytopneceicamakaa.Ln

set_option maxHeartbeats 4000000 in
/-- where the law asks nothing -/
theorem law_spreads_off (N : Int) (cv : Value) (cls : List (List Int)) (v : Value) (lits : List Int) (w : World) (hC : RawL w cv cls) (hL : RawC w v (intsV lits)) (hoff : 30 < N ∨ 40 < lits.length ∨ fewC cls 60 12 = false) :
    Calls Try.prog 7 #[.int .i64 N, cv, v] w fun e w' => e = .returned (.bool true) ∧ Below w.heap.size w w' := by
  have R0 := hid (resolved_any w)
  have RW := fun W => hid (resolved_any W)
  have KC := hid hC
  obtain ⟨a, n, c, rfl, hl, hc, hcells⟩ := rawL_shape hC
  obtain ⟨al, cl, rfl, hcl⟩ := rawI hL
  clear hC hL hcells
  generalize lits.length = k at *
  by_cases h1 : 30 < N
  · clear hoff KC hl hc hcl
    go_enter Try.func7, Try.ntmps7
    go_wp2_with fail
    refine R0.out.mono ?_
    rintro e w1 ⟨rfl, hb1⟩
    have B1 := hid hb1
    clear hb1 R0
    go_wp2_with fail
    refine (RW w1).out.mono ?_
    rintro e w2 ⟨rfl, hb2⟩
    have B2 := hid (B1.out.trans (hb2.mono B1.out.size))
    clear hb2 B1
    go_wp2_with fail
    go_ret
    exact ⟨rfl, B2.out⟩
  by_cases h2 : 40 < k
  · have d2 : (40 : Int) < (k : Int) := by omega
    clear hoff KC hl hc hcl h2
    go_enter Try.func7, Try.ntmps7
    go_wp2_with fail
    refine R0.out.mono ?_
    rintro e w1 ⟨rfl, hb1⟩
    have B1 := hid hb1
    clear hb1 R0
    go_wp2_with fail
    refine (RW w1).out.mono ?_
    rintro e w2 ⟨rfl, hb2⟩
    have B2 := hid (B1.out.trans (hb2.mono B1.out.size))
    clear hb2 B1
    go_wp2_with fail
    go_ret
    exact ⟨rfl, B2.out⟩
  · have d2 : ¬ (40 : Int) < (k : Int) := by omega
    have hf : fewC cls 60 12 = false := by
      rcases hoff with h | h | h
      · exact absurd h h1
      · exact absurd h h2
      · exact h
    have FW := fun W (hW : Below w.heap.size w W) => hid (few_any _ cls 60 12 (by decide) W (KC.out.below hW))
    rw [hf] at FW
    clear hoff KC hl hc hcl h2 hf
    go_enter Try.func7, Try.ntmps7
    go_wp2_with fail
    refine R0.out.mono ?_
    rintro e w1 ⟨rfl, hb1⟩
    have B1 := hid hb1
    clear hb1 R0
    go_wp2_with fail
    refine (FW w1 B1.out).out.mono ?_
    rintro e w2 ⟨rfl, rfl⟩
    clear FW
    go_wp2_with fail
    refine (RW w1).out.mono ?_
    rintro e w2 ⟨rfl, hb2⟩
    have B2 := hid (B1.out.trans (hb2.mono B1.out.size))
    clear hb2 B1
    go_wp2_with fail
    go_ret
    exact ⟨rfl, B2.out⟩

set_option maxHeartbeats 8000000 in
theorem law_spreads (N : Int) (cv : Value) (cls : List (List Int)) (v : Value) (lits : List Int) (w : World) (hC : RawL w cv cls) (hL : RawC w v (intsV lits)) (h1 : ¬ 30 < N) (h2 : ¬ 40 < lits.length) (hf : fewC cls 60 12 = true) :
    Calls Try.prog 7 #[.int .i64 N, cv, v] w fun e w' => e = .returned (.bool true) ∧ Below w.heap.size w w' := by
  have R0 := hid (resolved_any w)
  have d2 : ¬ (40 : Int) < (lits.length : Int) := by omega
  obtain ⟨hlen, hshort⟩ := fewC_yes hf
  have LC := hid (hC.lists (by omega) (fun l hl => by have := hshort l hl; omega))
  have LI := hid (show Ints w v lits from RawC.cells hL (by rw [show (intsV lits).length = lits.length from List.length_map _]; omega))
  have FW := fun W (hW : Below w.heap.size w W) => hid (few_any _ cls 60 12 (by decide) W (hC.below hW))
  rw [hf] at FW
  have SP := fun W (hW : Below w.heap.size w W) => hid (spread_any N (by omega) cv v cls lits W (LC.out.below hW) (LI.out.below hW))
  have CK := fun W (hW : Below w.heap.size w W) => hid (refCheck_any N (by omega) cv cls W (LC.out.below hW))
  have CC := fun W (hW : Below w.heap.size w W) => hid (refCheckClause_any v lits N (by omega) W (LI.out.below hW))
  have SD := hid (fun W (hW : Below w.heap.size w W) (g0 : checkE N cls = 0) (g1 : ckC lits N = true) => show Calls Try.prog 31 #[.int .i64 N, cv, v] W (Spr N cls lits W) by
    obtain ⟨n0, _, _, _⟩ := checkE_zero g0
    obtain ⟨M, rfl⟩ : ∃ M : Nat, N = (M : Int) := ⟨N.toNat, by omega⟩
    exact refSpread_any M (by omega) cv v cls lits g0 g1 (by omega) W (LC.out.below hW) (LI.out.below hW))
  have OFF := hid (show (checkE N cls ≠ 0 ∨ ckC lits N = false) → spreadC N cls lits = (none, false) from fun h => by unfold spreadC; rw [if_pos h])
  obtain ⟨a, n, c, rfl, hl, hc, hcells⟩ := rawL_shape hC
  obtain ⟨al, cl, rfl, hcl⟩ := rawI hL
  clear hC hL hcells hlen hshort hf
  generalize lits.length = k at *
  by_cases h0 : checkE N cls = 0
  · rw [h0] at CK
    cases hck : ckC lits N
    · have E := hid (OFF.out (.inr hck))
      rw [show rangeE (ckC lits N) = 8 by rw [hck]; rfl] at CC
      clear SD OFF LC LI hck h0 hl hc hcl
      go_enter Try.func7, Try.ntmps7
      go_wp2_with fail
      refine R0.out.mono ?_
      rintro e w1 ⟨rfl, hb1⟩
      have B1 := hid hb1
      clear hb1 R0
      go_wp2_with fail
      refine (FW w1 B1.out).out.mono ?_
      rintro e w2 ⟨rfl, rfl⟩
      clear FW
      go_wp2_with fail
      refine (SP w1 B1.out).out.mono ?_
      rintro e w2 ⟨⟨v2, rfl, hi2, hn2⟩, hb2⟩
      rw [E.out] at hn2
      obtain rfl := hn2 rfl
      rw [E.out]
      have B2 := hid (B1.out.trans (hb2.mono B1.out.size))
      clear hb2 SP hi2 hn2
      go_wp2_with fail
      refine (CK w2 B2.out).out.mono ?_
      rintro e w3 ⟨rfl, rfl⟩
      clear CK
      go_wp2_with fail
      refine (CC w2 B2.out).out.mono ?_
      rintro e w3 ⟨rfl, rfl⟩
      clear CC
      go_wp2_with fail
      go_ret
      exact ⟨rfl, B2.out⟩
    · rw [show rangeE (ckC lits N) = 0 by rw [hck]; rfl] at CC
      have SD2 := fun W hW => hid (SD.out W hW h0 hck)
      clear SD OFF LC LI hck h0 hl hc hcl
      unfold Spr at SP SD2
      generalize spreadC N cls lits = r at *
      obtain ⟨ro, rb⟩ := r
      go_enter Try.func7, Try.ntmps7
      go_wp2_with fail
      refine R0.out.mono ?_
      rintro e w1 ⟨rfl, hb1⟩
      have B1 := hid hb1
      clear hb1 R0
      go_wp2_with fail
      refine (FW w1 B1.out).out.mono ?_
      rintro e w2 ⟨rfl, rfl⟩
      clear FW
      go_wp2_with fail
      refine (SP w1 B1.out).out.mono ?_
      rintro e w2 ⟨⟨v2, rfl, hi2, hn2⟩, hb2⟩
      have B2 := hid (B1.out.trans (hb2.mono B1.out.size))
      have I2 := hid hi2
      try simp only [] at I2
      generalize ro.getD [] = x at *
      obtain ⟨a2, c2, rfl, _, _, _⟩ := I2.out.shape
      clear hb2 SP hi2 hn2
      go_wp2_with fail
      refine (CK w2 B2.out).out.mono ?_
      rintro e w3 ⟨rfl, rfl⟩
      clear CK
      go_wp2_with fail
      refine (CC w2 B2.out).out.mono ?_
      rintro e w3 ⟨rfl, rfl⟩
      clear CC
      go_wp2_with fail
      refine (SD2 w2 B2.out).out.mono ?_
      rintro e w3 ⟨⟨v3, rfl, hi3, hn3⟩, hb3⟩
      have B3 := hid (B2.out.trans (hb3.mono B2.out.size))
      have I3 := hid hi3
      have I2' := hid (I2.out.below hb3)
      try simp only [] at I3
      obtain ⟨a3, c3, rfl, _, _, _⟩ := I3.out.shape
      have IE := hid (ints_any _ _ x x _ I2'.out I3.out)
      rw [decide_eq_true (rfl : x = x)] at IE
      generalize x.length = kx at *
      clear hb3 SD2 hi3 hn3 I2
      go_wp2_with fail
      refine IE.out.mono ?_
      rintro e w4 ⟨rfl, hd4⟩
      have B4 := hid (B3.out.trans (hd4.below.mono B3.out.size))
      clear hd4
      go_wp2_with fail
      go_ret
      exact ⟨ret_bool (by first | rfl | simp), B4.out⟩
  · have E := hid (OFF.out (.inl h0))
    have t0 : (checkE N cls != 0) = true := by rw [bne_iff_ne]; exact h0
    clear SD OFF LC LI h0 hl hc hcl CC
    generalize checkE N cls = z at *
    go_enter Try.func7, Try.ntmps7
    go_wp2_with fail
    refine R0.out.mono ?_
    rintro e w1 ⟨rfl, hb1⟩
    have B1 := hid hb1
    clear hb1 R0
    go_wp2_with fail
    refine (FW w1 B1.out).out.mono ?_
    rintro e w2 ⟨rfl, rfl⟩
    clear FW
    go_wp2_with fail
    refine (SP w1 B1.out).out.mono ?_
    rintro e w2 ⟨⟨v2, rfl, hi2, hn2⟩, hb2⟩
    rw [E.out] at hn2
    obtain rfl := hn2 rfl
    rw [E.out]
    have B2 := hid (B1.out.trans (hb2.mono B1.out.size))
    clear hb2 SP hi2 hn2
    go_wp2_with fail
    refine (CK w2 B2.out).out.mono ?_
    rintro e w3 ⟨rfl, rfl⟩
    clear CK
    go_wp2_with fail
    go_ret
    exact ⟨rfl, B2.out⟩
end Go.Proofs.Ytopneceicamakaa.Cf
