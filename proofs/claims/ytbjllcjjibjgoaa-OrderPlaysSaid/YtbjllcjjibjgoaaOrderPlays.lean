/-
  LAYER 13: the law OrderPlays walked.
-/
import Derived.Test.YtbjllcjjibjgoaaOpsOpen
import Derived.Deep.RegionWith
namespace Go.Proofs.Ytbjllcjjibjgoaa.Hp
open Go.RowKit Go.Proofs.Ytbjllcjjibjgoaa.Ln

/-- a heap and a bag of the law's own, that say the same -/
structure Both (w wr : World) (m : Hm) (b : Bm) (N : Nat) (S : List Nat) (I : List Bool) : Prop where
  bel : Below w.heap.size w wr
  heap : Heap wr m N S I
  bag : Bag wr b N S I
theorem Bm.lt {w : World} {b : Bm} {N : Nat} {S : List Nat} {I : List Bool} (h : Bag w b N S I) : ∀ c, b.own c → c < w.heap.size := by
  rintro c (rfl | rfl | rfl)
  · exact h.head.lt
  · exact h.scores.lt
  · exact h.ins.lt
theorem Hm.lt' {w : World} {m : Hm} {N : Nat} {S : List Nat} {I : List Bool} (h : Heap w m N S I) : ∀ c, m.own c → c < w.heap.size := by
  obtain ⟨⟨P, R, g1, _, _⟩, _⟩ := h
  rintro b (rfl | rfl | rfl | rfl)
  · exact g1.head.lt
  · exact g1.scores.lt
  · exact g1.places.lt
  · exact g1.tree.lt

theorem Both.below {w wr w' : World} {m : Hm} {b : Bm} {N : Nat} {S : List Nat} {I : List Bool} (h : Both w wr m b N S I) (hb : Below wr.heap.size wr w') : Both w w' m b N S I :=
  ⟨h.bel.trans (hb.mono h.bel.size), h.heap.below hb, h.bag.below hb⟩

theorem law_plays_long (k : Int) (a : Option Addr) (n c : Nat) (h : 300 < n) (w : World) :
    Calls Try.prog 3 #[.int .i64 k, .slice a n c] w fun e w' => e = .returned (.bool true) ∧ Below w.heap.size w w' := by
  have h1' : (300 : Int) < (n : Int) := by omega
  go_enter Try.func3, Try.ntmps3
  go_wp2_with fail
  refine (popped_any _).mono ?_
  rintro e w1 ⟨rfl, hb1⟩
  go_wp2_with fail
  refine (popped_any _).mono ?_
  rintro e w2 ⟨rfl, hb2⟩
  have hb := below_trans hb1 hb2
  go_wp2_with fail
  go_ret
  exact ⟨rfl, hb⟩
theorem law_plays_out (k : Int) (a : Option Addr) (n c : Nat) (h : n ≤ 300) (hk : ¬ (0 ≤ k ∧ k ≤ 400)) (w : World) :
    Calls Try.prog 3 #[.int .i64 k, .slice a n c] w fun e w' => e = .returned (.bool true) ∧ Below w.heap.size w w' := by
  have h1' : ¬ (300 : Int) < (n : Int) := by omega
  have HK := hid hk
  by_cases h0 : k < 0
  · clear hk
    go_enter Try.func3, Try.ntmps3
    go_wp2_with fail
    refine (popped_any _).mono ?_
    rintro e w1 ⟨rfl, hb1⟩
    go_wp2_with fail
    refine (new_out _ HK.out _).mono ?_
    rintro e w2 ⟨rfl, rfl⟩
    go_wp2_with fail
    go_ret
    exact ⟨rfl, hb1⟩
  · have h2 : 400 < k := by omega
    clear hk
    go_enter Try.func3, Try.ntmps3
    go_wp2_with fail
    refine (popped_any _).mono ?_
    rintro e w1 ⟨rfl, hb1⟩
    go_wp2_with fail
    refine (new_out _ HK.out _).mono ?_
    rintro e w2 ⟨rfl, rfl⟩
    go_wp2_with fail
    go_ret
    exact ⟨rfl, hb1⟩

/-- the law's own copy of one operation, in a block of its own -/
structure AtO (w W : World) (p : Nat) (kind v by' : Int) : Prop where
  bel : Below w.heap.size w W
  lo : w.heap.size ≤ p
  c0 : W.cell? ⟨p, 0, none⟩ = some (.int .i64 kind)
  c1 : W.cell? ⟨p, 1, none⟩ = some (.int .i64 v)
  c2 : W.cell? ⟨p, 2, none⟩ = some (.int .i64 by')
theorem AtO.only {w W W' : World} {p : Nat} {kind v by' : Int} (h : AtO w W p kind v by') {F : Nat → Prop} (ho : Only F W W') (hp : ¬ F p) (hF : ∀ b, F b → w.heap.size ≤ b) : AtO w W' p kind v by' :=
  ⟨h.bel.trans (ho.below (B := w.heap.size) h.bel.size (fun b hb hx => by have := hF b hx; omega)), h.lo, ho.cell hp h.c0, ho.cell hp h.c1, ho.cell hp h.c2⟩
theorem AtO.new {w wr : World} (h : Below w.heap.size w wr) (kind v by' : Int) (t : TypeId) : AtO w (wr.alloc (.cells #[.int .i64 kind, .int .i64 v, .int .i64 by'] t)) wr.heap.size kind v by' := by
  have hb := Blk.new wr [.int .i64 kind, .int .i64 v, .int .i64 by'] t
  exact ⟨below_alloc h _, h.size, hb.cell 0 rfl, hb.cell 1 rfl, hb.cell 2 rfl⟩

/-- operations that came in -/
def OpsIn (w : World) (a : Option Addr) (n : Nat) (os : List OpO) : Prop :=
  n = os.length ∧ (0 < n → ∃ B oo, a = some ⟨B, oo, none⟩ ∧ B < w.heap.size ∧ OpsAt w B oo os)

set_option maxRecDepth 100000 in
set_option maxHeartbeats 4000000 in
theorem law_plays (N : Nat) (hN : N ≤ 400) (a : Option Addr) (n c : Nat) (hn : n ≤ 300) (os : List OpO) (w : World) (hA : OpsIn w a n os) :
    Calls Try.prog 3 #[.int .i64 (N : Int), .slice a n c] w fun e w' => e = .returned (.bool true) ∧ Below w.heap.size w w' := by
  have h1' : ¬ (300 : Int) < (n : Int) := by omega
  have HA := hid hA
  clear hA
  go_enter Try.func3, Try.ntmps3
  go_wp2_with fail
  refine (popped_any _).mono ?_
  rintro e w1 ⟨rfl, hb1⟩
  have HB1 := hid hb1
  clear hb1
  go_wp2_with fail
  refine (new_any N hN w1).mono ?_
  rintro e w2 ⟨m, rfl, hb2, hown, hheap⟩
  have HM := hid (show (∀ b, m.own b → w.heap.size ≤ b) from fun b hb => Nat.le_trans HB1.out.size (hown b hb))
  have HN := hid (show HW w w2 m N (List.replicate (N + 1) 0) (allIn N) from ⟨below_trans HB1.out hb2, hheap⟩)
  clear hb2 hown hheap
  go_wp2_with fail
  refine (bagnew_any N hN w2).mono ?_
  rintro e w3 ⟨b, rfl, hb3, hown, hbag⟩
  have HD := hid (show (∀ c, m.own c → ¬ b.own c) ∧ (∀ c, b.own c → ¬ m.own c) ∧ (∀ c, b.own c → w.heap.size ≤ c) from
    ⟨fun c h1 h2 => by have := Hm.lt' HN.out.2 c h1; have := hown c h2; omega, fun c h2 h1 => by have := Hm.lt' HN.out.2 c h1; have := hown c h2; omega, fun c h2 => Nat.le_trans HN.out.1.size (hown c h2)⟩)
  have H3 := hid (show Both w w3 m b N (List.replicate (N + 1) 0) (allIn N) from ⟨below_trans HN.out.1 hb3, HN.out.2.below hb3, hbag⟩)
  clear hb3 hown hbag HN HB1
  go_wp2_with fail
  go_loopw [8, 9, 10, 11, 12] (fun u _ _ _ _ wr => ∃ i : Nat, u = .int .i64 (i : Int) ∧ i ≤ n ∧ ∃ S I, Hid (Both w wr m b N S I)) (fun u _ _ _ _ _ => n - (intOf u).toNat)
  case atStart => exact ⟨0, rfl, by omega, _, _, H3⟩
  case round =>
    clear H3
    obtain ⟨i, rfl, hi, S, I, HH⟩ := hrel
    by_cases hlt : i < n
    · obtain ⟨B, oo, rfl, hBl, hops⟩ := HA.out.2 (by omega)
      have hcs := hops i (by rw [← HA.out.1]; exact hlt)
      have k0 : wr.cell? ⟨B, oo + i * 3, none⟩ = some (.int .i64 (os[i]'(by rw [← HA.out.1]; exact hlt)).kind) := (HH.out.bel.cell (p := ⟨B, oo + i * 3, none⟩) hBl).trans hcs.1
      have k1 : wr.cell? ⟨B, oo + i * 3 + 1, none⟩ = some (.int .i64 (os[i]'(by rw [← HA.out.1]; exact hlt)).v) := (HH.out.bel.cell (p := ⟨B, oo + i * 3 + 1, none⟩) hBl).trans hcs.2.1
      have k2 : wr.cell? ⟨B, oo + i * 3 + 2, none⟩ = some (.int .i64 (os[i]'(by rw [← HA.out.1]; exact hlt)).by') := (HH.out.bel.cell (p := ⟨B, oo + i * 3 + 2, none⟩) hBl).trans hcs.2.2
      generalize (os[i]'(by rw [← HA.out.1]; exact hlt)) = op at *
      obtain ⟨kind, v, by'⟩ := op
      simp only at k0 k1 k2
      clear hops hcs
      have hq := hid (And.intro (AtO.new HH.out.bel kind v by' 31) (And.intro (HH.out.heap.below ((Below.refl _ _).alloc (Nat.le_refl _) (.cells #[.int .i64 kind, .int .i64 v, .int .i64 by'] 31))) (HH.out.bag.below ((Below.refl _ _).alloc (Nat.le_refl _) (.cells #[.int .i64 kind, .int .i64 v, .int .i64 by'] 31)))))
      have hnp := hid (show ¬ m.own wr.heap.size ∧ ¬ b.own wr.heap.size from ⟨fun h => by have := Hm.lt' HH.out.heap _ h; omega, fun h => by have := Bm.lt HH.out.bag _ h; omega⟩)
      have hf := hid HH.out.heap.facts
      clear HH
      by_cases hk1 : kind = 1
      · subst hk1
        go_wp2_with fail
        refine (push_at hq.out.2.1 v).mono ?_
        rintro e W1 ⟨rfl, ho, hh⟩
        have A1 := hid (hq.out.1.only ho hnp.out.1 HM.out)
        have B1 := hid (hq.out.2.2.only ho (fun c hc => HD.out.2.1 c hc))
        have G1 := hid hh
        have c1 := A1.out.c1
        clear ho hh hq k0 k1 k2
        generalize wr.heap.size = p at *
        go_wp2_with fail
        refine (known_any B1.out v).mono ?_
        rintro e w' ⟨rfl, rfl⟩
        cases hk : knowsV N v
        · have hI : pushI N I v = I := by unfold pushI; rw [hk]; rfl
          have G2 := hid (show Heap W1 m N S I by rw [← hI]; exact G1.out)
          clear hI hk
          have SM := hid (same_any G2.out B1.out v)
          go_wp2_with fail
          refine SM.out.mono ?_
          rintro e wz ⟨rfl, hdr⟩
          have HZ := hid (Both.below ⟨A1.out.bel, G2.out, B1.out⟩ hdr.below)
          clear hdr
          go_wp2_with fail
          go_roundw
          case rel => exact ⟨i + 1, by go_num, by omega, _, _, HZ⟩
          case measure => simp [intOf]; omega
        · have hv := of_decide_eq_true hk
          obtain ⟨x, rfl⟩ : ∃ x : Nat, v = (x : Int) := ⟨v.toNat, by omega⟩
          have hI : pushI N I (x : Int) = I.set x true := by unfold pushI; rw [hk]; rfl
          have b1 := B1.out.head.cell 1 rfl
          have bi := B1.out.isin (show x ≤ N by omega)
          have fi := B1.out.ins.free x
          have ix : x < N + 1 := by omega
          have B2 := hid (B1.out.wrote_in x true).drew
          have ho : Only b.own W1 (W1.setCell ⟨b.i, x, none⟩ (.int .i64 (bitN true : Nat))).drew := ((Only.refl b.own W1).setCell (p := ⟨b.i, x, none⟩) (.inr (.inr rfl)) _).drew
          have A2 := hid (A1.out.only ho hnp.out.2 HD.out.2.2)
          have G2 := hid (show Heap (W1.setCell ⟨b.i, x, none⟩ (.int .i64 (bitN true : Nat))).drew m N S (I.set x true) by rw [← hI]; exact G1.out.only ho HD.out.1)
          clear hI hk ho
          go_wp2_with fail
          go_region
          have c1 := A2.out.c1
          have e1 : ((bitN true : Nat) : Int) = 1 := rfl
          rw [e1] at A2 B2 G2 c1
          clear bi fi b1
          generalize (W1.setCell ⟨b.i, x, none⟩ (.int .i64 1)).drew = W2 at *
          have SM := hid (same_any G2.out B2.out (x : Int))
          go_wp2_with fail
          refine SM.out.mono ?_
          rintro e wz ⟨rfl, hdr⟩
          have HZ := hid (Both.below ⟨A2.out.bel, G2.out, B2.out⟩ hdr.below)
          clear hdr
          go_wp2_with fail
          go_roundw
          case rel => exact ⟨i + 1, by go_num, by omega, _, _, HZ⟩
          case measure => simp [intOf]; omega
      · by_cases hk2 : kind = 2
        · subst hk2
          clear hk1
          have hgt : decide (0 < best N S I) = decide (best N S I ≠ 0) := by rw [decide_eq_decide]; omega
          go_wp2_with fail
          refine (pop_at hq.out.2.1).mono ?_
          rintro e W1 ⟨rfl, ho, hh⟩
          have A1 := hid (hq.out.1.only ho hnp.out.1 HM.out)
          have B1 := hid (hq.out.2.2.only ho (fun c hc => HD.out.2.1 c hc))
          have G1 := hid hh
          clear ho hh hq k0 k1 k2
          go_wp2_with fail
          refine (bagpop_any B1.out hf.out.2.2.2.1).mono ?_
          rintro e W2 ⟨rfl, ho, hb⟩
          have A2 := hid (A1.out.only ho hnp.out.2 HD.out.2.2)
          have G2 := hid (G1.out.only ho HD.out.1)
          have B2 := hid hb
          have c1 := A2.out.c1
          clear ho hb
          generalize wr.heap.size = p at *
          have hbb : (((best N S I : Nat) : Int) != ((best N S I : Nat) : Int)) = false := by simp
          generalize popI N S I = I2 at *
          generalize best N S I = bs at *
          have SM := hid (same_any G2.out B2.out v)
          go_wp2_with fail
          refine SM.out.mono ?_
          rintro e wz ⟨rfl, hdr⟩
          have HZ := hid (Both.below ⟨A2.out.bel, G2.out, B2.out⟩ hdr.below)
          clear hdr
          go_wp2_with fail
          go_roundw
          case rel => exact ⟨i + 1, by go_num, by omega, _, _, HZ⟩
          case measure => simp [intOf]; omega
        · by_cases hk3 : kind = 3
          · subst hk3
            clear hk1 hk2
            have A0 := hq.out.1
            have G0 := hq.out.2.1
            have B0 := hq.out.2.2
            have c1 := A0.c1
            have c2 := A0.c2
            have np1 := hnp.out.1
            have np2 := hnp.out.2
            have dd1 := HD.out.2.1
            have dd2 := HD.out.1
            have lo1 := HM.out
            have lo2 := HD.out.2.2
            have hbound := hf.out.2.2.2.2
            have hne : (bumpB N S v by' != bumpB N S v by') = false := by simp
            clear hq
            go_wp2_with fail
            clear HA k0 k1 k2
            generalize wr.alloc (.cells #[.int .i64 3, .int .i64 v, .int .i64 by'] 31) = W0 at *
            generalize wr.heap.size = p at *
            replace G0 : Heap W0.drew m N S I := G0.below (below_drew (Below.refl _ _))
            replace B0 := B0.drew
            replace A0 : AtO w W0.drew p 3 v by' := ⟨below_drew A0.bel, A0.lo, A0.c0, A0.c1, A0.c2⟩
            go_region_held3 (fun w' => w'.cell? ⟨p, 1, none⟩ = some (.int .i64 v) ∧ w'.cell? ⟨p, 2, none⟩ = some (.int .i64 by')) (first | (exact ⟨hy1, hy2⟩) | (exact ⟨hx1, hx2⟩) | (exact ⟨A0.c1, A0.c2⟩))
              (first
                | (go_at_call 16; (with_reducible refine (bump_at (m := m) G0 v by').mono ?_); rintro e wx ⟨rfl, hox, hgx⟩; have hbx := Bag.only B0 hox dd1; have hax := AtO.only A0 hox np1 lo1; have hx1 := hax.c1; have hx2 := hax.c2)
                | (go_at_call 17; (with_reducible refine (bagbump_any (m := b) hbx hbound v by').mono ?_); rintro e wy ⟨rfl, hoy, hby⟩; have hgy := Heap.only hgx hoy dd2; have hay := AtO.only hax hoy np2 lo2; have hy1 := hay.c1; have hy2 := hay.c2))
            all_goals
              go_wp2_with fail
              refine (same_any hgy hby v).mono ?_
              rintro e wz ⟨rfl, hdr⟩
              have HZ := hid (Both.below ⟨hay.bel, hgy, hby⟩ hdr.below)
              clear hdr hgy hby hay hbx hgx hax G0 B0 A0
              go_wp2_with fail
              go_roundw
              case rel => exact ⟨i + 1, by go_num, by omega, _, _, HZ⟩
              case measure => simp [intOf]; omega
          · have d1 : (kind == 1) = false := by rw [beq_eq_false_iff_ne]; exact hk1
            have d2 : (kind == 2) = false := by rw [beq_eq_false_iff_ne]; exact hk2
            have d3 : (kind == 3) = false := by rw [beq_eq_false_iff_ne]; exact hk3
            have A2 := hid hq.out.1
            have G2 := hid hq.out.2.1
            have B2 := hid hq.out.2.2
            have SM := hid (same_any G2.out B2.out v)
            clear hq hk1 hk2 hk3
            go_wp2_with fail
            refine SM.out.mono ?_
            rintro e wz ⟨rfl, hdr⟩
            have HZ := hid (Both.below ⟨A2.out.bel, G2.out, B2.out⟩ hdr.below)
            clear hdr SM A2 G2 B2
            go_wp2_with fail
            go_roundw
            case rel => exact ⟨i + 1, by go_num, by omega, _, _, HZ⟩
            case measure => simp [intOf]; omega
    · clear HA
      obtain ⟨wo, rfl⟩ : ∃ wo : World, wo = wr := ⟨_, rfl⟩
      go_wp2_with fail
      go_loopw [13] (fun u wr => ∃ k : Nat, u = .int .i64 (k : Int) ∧ k ≤ N + 2 ∧ Hid (Both w wr m b N S I)) (fun u _ => N + 2 - (intOf u).toNat)
      case atStart => exact ⟨0, rfl, by omega, HH⟩
      case round =>
        clear HH
        obtain ⟨k, rfl, hk, HH⟩ := hrel
        by_cases hlt : k ≤ N + 1
        · have d1 : decide ((k : Int) ≤ (N : Int) + 1) = true := decide_eq_true (by omega)
          have SM := hid (same_any HH.out.heap HH.out.bag (k : Int))
          go_wp2_with fail
          refine SM.out.mono ?_
          rintro e wz ⟨rfl, hdr⟩
          have HZ := hid (HH.out.below hdr.below)
          clear hdr SM
          go_wp2_with fail
          go_roundw
          case rel => exact ⟨k + 1, by go_num, by omega, HZ⟩
          case measure => simp [intOf]; omega
        · have d1 : decide ((k : Int) ≤ (N : Int) + 1) = false := decide_eq_false (by omega)
          go_wp2_with fail
          go_ret
          exact ⟨rfl, HH.out.bel⟩
end Go.Proofs.Ytbjllcjjibjgoaa.Hp
