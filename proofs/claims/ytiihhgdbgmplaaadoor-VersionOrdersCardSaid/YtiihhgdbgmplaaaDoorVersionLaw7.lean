/-
  LAYER 3, THE LAW VersionOrders.
-/
import Derived.Test.YtiihhgdbgmplaaaDoorVersionCmpA
import Derived.Test.YtiihhgdbgmplaaaDoorVersionLaw1
import Derived.Test.YtiihhgdbgmplaaaDoorVersionOrd2
namespace Go.Proofs.YtiihhgdbgmplaaaDoor.Vs
open Go.RowKit Go.Sort
open Go.Proofs.YtiihhgdbgmplaaaDoor Go.Proofs.YtiihhgdbgmplaaaDoor.Nu

/-- the text of a version says which one it is -/
theorem textV_inj {a b c a' b' c' : Nat} {p q : List UInt8} (ha : a < 1000000) (hb : b < 1000000) (hc : c < 1000000) (ha' : a' < 1000000) (hb' : b' < 1000000) (hc' : c' < 1000000) (h : textV a b c p = textV a' b' c' q) : [a, b, c] = [a', b', c'] ∧ p = q := by
  have h1 := of_text (pre := p) ha hb hc
  have h2 := of_text (pre := q) ha' hb' hc'
  rw [h] at h1
  obtain ⟨_, x0, x1, x2, x3⟩ := h1
  obtain ⟨_, y0, y1, y2, y3⟩ := h2
  exact ⟨by rw [← x0, ← x1, ← x2, y0, y1, y2], by rw [← x3, y3]⟩

/-- three versions in a row: what the law asks of their three comparisons -/
structure Row3 (k m n : Int) : Prop where
  hk : k = -1 ∨ k = 0 ∨ k = 1
  hm : m = -1 ∨ m = 0 ∨ m = 1
  low : k ≤ 0 → m ≤ 0 → n ≤ 0
  high : 0 ≤ k → 0 ≤ m → 0 ≤ n
theorem row3 (l1 l2 l3 : List Nat) (p1 p2 p3 : List UInt8) : Row3 (cmpV l1 l2 p1 p2) (cmpV l2 l3 p2 p3) (cmpV l1 l3 p1 p3) := by
  have h := cmpV_cmp
  have t := h.trans (l1, p1) (l2, p2) (l3, p3) trivial trivial trivial
  have t' := h.trans (l3, p3) (l2, p2) (l1, p1) trivial trivial trivial
  have e1 := h.anti (l1, p1) (l2, p2)
  have e2 := h.anti (l2, p2) (l3, p3)
  have e3 := h.anti (l1, p1) (l3, p3)
  simp only at t t' e1 e2 e3
  exact ⟨h.vals (l1, p1) (l2, p2), h.vals (l2, p2) (l3, p3), t, fun x y => by have := t' (by omega) (by omega); omega⟩

set_option maxRecDepth 20000 in
set_option maxHeartbeats 40000000 in
theorem law_orders (s t u : ByteArray) (w : World) (hm : MaxAt w) (ht : TenAt w) :
    Calls Tryd.prog 6 #[.string s, .string t, .string u] w fun e w' => e = .returned (.bool true) ∧ Below w.heap.size w w' := by
  have HPD := hid parsed_any
  have BIG : ∀ (h : (100 : Int) < s.size ∨ ((s.size : Int) ≤ 100 ∧ (100 : Int) < t.size) ∨ ((s.size : Int) ≤ 100 ∧ (t.size : Int) ≤ 100 ∧ (100 : Int) < u.size)), Calls Tryd.prog 6 #[.string s, .string t, .string u] w fun e w' => e = .returned (.bool true) ∧ Below w.heap.size w w' := by
    intro h
    rcases h with h | ⟨h, k⟩ | ⟨h, k, j⟩
    all_goals
      go_enter Tryd.func6, Tryd.ntmps6
      go_wp2_with (go_at_call 8; (with_reducible refine (HPD.out _ hm ht).mono ?_); rintro e w1 ⟨rfl, hb1⟩)
      go_ret
      exact ⟨rfl, hb1⟩
  by_cases hbig : (100 : Int) < s.size ∨ ((s.size : Int) ≤ 100 ∧ (100 : Int) < t.size) ∨ ((s.size : Int) ≤ 100 ∧ (t.size : Int) ≤ 100 ∧ (100 : Int) < u.size)
  · exact BIG hbig
  · clear BIG
    have h100 : (s.size : Int) ≤ 100 := by omega
    have h101 : (t.size : Int) ≤ 100 := by omega
    have h102 : (u.size : Int) ≤ 100 := by omega
    clear hbig
    obtain ⟨a1, b1, c1, p1, la1, lb1, lc1, K1, _, HO1⟩ := of_v s (by omega)
    obtain ⟨a2, b2, c2, p2, la2, lb2, lc2, K2, _, HO2⟩ := of_v t (by omega)
    obtain ⟨a3, b3, c3, p3, _, _, _, K3, _, HO3⟩ := of_v u (by omega)
    have RR := hid (row3 [a1, b1, c1] [a2, b2, c2] [a3, b3, c3] p1 p2 p3)
    have C12 := hid (compare_any a1 b1 c1 a2 b2 c2 p1 p2 K1 K2)
    have C23 := hid (compare_any a2 b2 c2 a3 b3 c3 p2 p3 K2 K3)
    have C13 := hid (compare_any a1 b1 c1 a3 b3 c3 p1 p3 K1 K3)
    have C21 := hid (compare_any a2 b2 c2 a1 b1 c1 p2 p1 K2 K1)
    have AN := hid (cmpV_cmp.anti ([a1, b1, c1], p1) ([a2, b2, c2], p2))
    have EQ := hid (cmpV_cmp.eq ([a1, b1, c1], p1) ([a2, b2, c2], p2) trivial trivial)
    have SE := hid (cmpV_cmp.self ([a1, b1, c1], p1))
    have T1 := hid (text_yes a1 b1 c1 p1 K1.1 la1 lb1 lc1 K1.2)
    have T2 := hid (text_yes a2 b2 c2 p2 K2.1 la2 lb2 lc2 K2.2)
    have TE := hid (show ((⟨(textV a1 b1 c1 p1).toArray⟩ : ByteArray).toList == (⟨(textV a2 b2 c2 p2).toArray⟩ : ByteArray).toList) = decide (cmpV [a1, b1, c1] [a2, b2, c2] p1 p2 = 0) by
      by_cases h : cmpV [a1, b1, c1] [a2, b2, c2] p1 p2 = 0
      · have := EQ.out h
        simp only [Prod.mk.injEq, List.cons.injEq, and_true] at this
        obtain ⟨⟨rfl, rfl, rfl⟩, rfl⟩ := this
        rw [decide_eq_true h]; simp
      · rw [decide_eq_false h]
        refine list_ne fun e => h ?_
        obtain ⟨e1, e2⟩ := textV_inj la1 lb1 lc1 la2 lb2 lc2 e
        rw [← e1, ← e2]; exact SE.out)
    simp only at AN
    rw [AN.out] at C21
    unfold verA at C12 C23 C13 C21
    clear EQ SE AN la1 lb1 lc1 la2 lb2 lc2 K1 K2 K3
    generalize cmpV [a1, b1, c1] [a2, b2, c2] p1 p2 = k at RR C12 C21 TE
    generalize cmpV [a2, b2, c2] [a3, b3, c3] p2 p3 = m at RR C23
    generalize cmpV [a1, b1, c1] [a3, b3, c3] p1 p3 = n at RR C13
    generalize (⟨(textV a1 b1 c1 p1).toArray⟩ : ByteArray) = X1 at T1 TE
    generalize (⟨(textV a2 b2 c2 p2).toArray⟩ : ByteArray) = X2 at T2 TE
    generalize (⟨p1.toArray⟩ : ByteArray) = P1 at *
    generalize rows p1 = Q1 at HO1
    replace HO1 := hid HO1
    generalize (⟨p2.toArray⟩ : ByteArray) = P2 at *
    generalize rows p2 = Q2 at HO2
    replace HO2 := hid HO2
    generalize (⟨p3.toArray⟩ : ByteArray) = P3 at *
    generalize rows p3 = Q3 at HO3
    replace HO3 := hid HO3
    go_enter Tryd.func6, Tryd.ntmps6
    go_wp2_with fail
    refine (HO1.out _ hm).mono ?_
    rintro e w1 ⟨pa1, pc1, rfl, _, hb1⟩
    have z1 := hid (below_alloc (below_alloc hb1 (.cells #[.int .i64 (a1 : Int), .int .i64 (b1 : Int), .int .i64 (c1 : Int), .string P1] 25)) (.cells #[.int .i64 (a1 : Int), .int .i64 (b1 : Int), .int .i64 (c1 : Int), .slice pa1 Q1.length pc1] 30))
    have v1 := hid (two_blk w1 [.int .i64 (a1 : Int), .int .i64 (b1 : Int), .int .i64 (c1 : Int), .string P1] [.int .i64 (a1 : Int), .int .i64 (b1 : Int), .int .i64 (c1 : Int), .slice pa1 Q1.length pc1] 25 30).1
    clear hb1
    go_wp2_with fail
    generalize (w1.alloc (.cells #[.int .i64 (a1 : Int), .int .i64 (b1 : Int), .int .i64 (c1 : Int), .string P1] 25)).alloc (.cells #[.int .i64 (a1 : Int), .int .i64 (b1 : Int), .int .i64 (c1 : Int), .slice pa1 Q1.length pc1] 30) = W1 at v1 z1 ⊢
    generalize w1.heap.size + 1 = x1 at *
    generalize w1.heap.size = d1 at v1 ⊢
    refine (HO2.out _ (hm.below z1.out)).mono ?_
    rintro e w2 ⟨pa2, pc2, rfl, _, hb2⟩
    have z2 := hid (below_alloc (below_alloc (below_trans z1.out hb2) (.cells #[.int .i64 (a2 : Int), .int .i64 (b2 : Int), .int .i64 (c2 : Int), .string P2] 25)) (.cells #[.int .i64 (a2 : Int), .int .i64 (b2 : Int), .int .i64 (c2 : Int), .slice pa2 Q2.length pc2] 30))
    have v2 := hid (two_blk w2 [.int .i64 (a2 : Int), .int .i64 (b2 : Int), .int .i64 (c2 : Int), .string P2] [.int .i64 (a2 : Int), .int .i64 (b2 : Int), .int .i64 (c2 : Int), .slice pa2 Q2.length pc2] 25 30).1
    replace v1 := hid (((v1.out.below hb2).alloc (.cells #[.int .i64 (a2 : Int), .int .i64 (b2 : Int), .int .i64 (c2 : Int), .string P2] 25)).alloc (.cells #[.int .i64 (a2 : Int), .int .i64 (b2 : Int), .int .i64 (c2 : Int), .slice pa2 Q2.length pc2] 30))
    clear hb2 z1
    go_wp2_with fail
    generalize (w2.alloc (.cells #[.int .i64 (a2 : Int), .int .i64 (b2 : Int), .int .i64 (c2 : Int), .string P2] 25)).alloc (.cells #[.int .i64 (a2 : Int), .int .i64 (b2 : Int), .int .i64 (c2 : Int), .slice pa2 Q2.length pc2] 30) = W2 at v1 v2 z2 ⊢
    generalize w2.heap.size + 1 = x2 at *
    generalize w2.heap.size = d2 at v2 ⊢
    refine (HO3.out _ (hm.below z2.out)).mono ?_
    rintro e w3 ⟨pa3, pc3, rfl, _, hb3⟩
    have z3 := hid (below_alloc (below_alloc (below_trans z2.out hb3) (.cells #[.int .i64 (a3 : Int), .int .i64 (b3 : Int), .int .i64 (c3 : Int), .string P3] 25)) (.cells #[.int .i64 (a3 : Int), .int .i64 (b3 : Int), .int .i64 (c3 : Int), .slice pa3 Q3.length pc3] 30))
    have v3 := hid (two_blk w3 [.int .i64 (a3 : Int), .int .i64 (b3 : Int), .int .i64 (c3 : Int), .string P3] [.int .i64 (a3 : Int), .int .i64 (b3 : Int), .int .i64 (c3 : Int), .slice pa3 Q3.length pc3] 25 30).1
    replace v1 := hid (((v1.out.below hb3).alloc (.cells #[.int .i64 (a3 : Int), .int .i64 (b3 : Int), .int .i64 (c3 : Int), .string P3] 25)).alloc (.cells #[.int .i64 (a3 : Int), .int .i64 (b3 : Int), .int .i64 (c3 : Int), .slice pa3 Q3.length pc3] 30))
    replace v2 := hid (((v2.out.below hb3).alloc (.cells #[.int .i64 (a3 : Int), .int .i64 (b3 : Int), .int .i64 (c3 : Int), .string P3] 25)).alloc (.cells #[.int .i64 (a3 : Int), .int .i64 (b3 : Int), .int .i64 (c3 : Int), .slice pa3 Q3.length pc3] 30))
    clear hb3 z2
    go_wp2_with fail
    generalize (w3.alloc (.cells #[.int .i64 (a3 : Int), .int .i64 (b3 : Int), .int .i64 (c3 : Int), .string P3] 25)).alloc (.cells #[.int .i64 (a3 : Int), .int .i64 (b3 : Int), .int .i64 (c3 : Int), .slice pa3 Q3.length pc3] 30) = W3 at v1 v2 v3 z3 ⊢
    generalize w3.heap.size + 1 = x3 at *
    generalize w3.heap.size = d3 at v3 ⊢
    have B := hid (fun d os => below_trans z3.out (below_regrown W3 d os))
    have q12 := hid (show ∀ d os, Calls Tryd.prog 15 #[.agg #[.int .i64 (a1 : Int), .int .i64 (b1 : Int), .int .i64 (c1 : Int), .string P1], .agg #[.int .i64 (a2 : Int), .int .i64 (b2 : Int), .int .i64 (c2 : Int), .string P2]] (grow (redrawn W3 d) os) fun e w'' => e = .returned (.int .i64 k) ∧ ∃ p : Regrown, w'' = grow (redrawn W3 p.d) p.os from fun d os => Calls.regrown_of (C12.out _ (hm.below (B.out d os))))
    have q23 := hid (show ∀ d os, Calls Tryd.prog 15 #[.agg #[.int .i64 (a2 : Int), .int .i64 (b2 : Int), .int .i64 (c2 : Int), .string P2], .agg #[.int .i64 (a3 : Int), .int .i64 (b3 : Int), .int .i64 (c3 : Int), .string P3]] (grow (redrawn W3 d) os) fun e w'' => e = .returned (.int .i64 m) ∧ ∃ p : Regrown, w'' = grow (redrawn W3 p.d) p.os from fun d os => Calls.regrown_of (C23.out _ (hm.below (B.out d os))))
    have q13 := hid (show ∀ d os, Calls Tryd.prog 15 #[.agg #[.int .i64 (a1 : Int), .int .i64 (b1 : Int), .int .i64 (c1 : Int), .string P1], .agg #[.int .i64 (a3 : Int), .int .i64 (b3 : Int), .int .i64 (c3 : Int), .string P3]] (grow (redrawn W3 d) os) fun e w'' => e = .returned (.int .i64 n) ∧ ∃ p : Regrown, w'' = grow (redrawn W3 p.d) p.os from fun d os => Calls.regrown_of (C13.out _ (hm.below (B.out d os))))
    have r0 := cell_regrown (v1.out.cell 0 rfl)
    have r1 := cell_regrown (v1.out.cell 1 rfl)
    have r2 := cell_regrown (v1.out.cell 2 rfl)
    have r3 := cell_regrown (v1.out.cell 3 rfl)
    have s0 := cell_regrown (v2.out.cell 0 rfl)
    have s1 := cell_regrown (v2.out.cell 1 rfl)
    have s2 := cell_regrown (v2.out.cell 2 rfl)
    have s3 := cell_regrown (v2.out.cell 3 rfl)
    have t0 := cell_regrown (v3.out.cell 0 rfl)
    have t1 := cell_regrown (v3.out.cell 1 rfl)
    have t2 := cell_regrown (v3.out.cell 2 rfl)
    have t3 := cell_regrown (v3.out.cell 3 rfl)
    refine wp_region_quiet_below (by kernel_rfl) (by kernel_rfl) ?_
    repeat (quiet_step (first | with_reducible exact q12.out _ _ | with_reducible exact q23.out _ _ | with_reducible exact q13.out _ _))
    refine wpQuiet_nil ?_
    intro _ hw'
    obtain ⟨⟨dq, osq⟩, hw''⟩ := hw'
    subst hw''
    show Exit.then _ _ Exit.normal _ (grow (redrawn W3 dq) osq)
    have z4 := hid (B.out dq osq)
    replace v1 := hid (v1.out.below (below_regrown W3 dq osq))
    replace v2 := hid (v2.out.below (below_regrown W3 dq osq))
    clear r0 r1 r2 r3 s0 s1 s2 s3 t0 t1 t2 t3 q12 q23 q13 B z3 v3 C12 C23 C13 HO1 HO2 HO3
    generalize grow (redrawn W3 dq) osq = W4 at z4 v1 v2 ⊢
    obtain ⟨hk, hmm, low, high⟩ := RR.out
    clear RR
    replace low := hid low
    replace high := hid high
    have B := hid (fun d os => below_trans z4.out (below_regrown W4 d os))
    have qP := hid (show ∀ d os, Calls Tryd.prog 8 #[] (grow (redrawn W4 d) os) fun e w'' => e = .returned (.bool true) ∧ ∃ p : Regrown, w'' = grow (redrawn W4 p.d) p.os from fun d os => Calls.regrown_of (HPD.out _ (hm.below (B.out d os)) (ht.below (B.out d os))))
    have q21 := hid (show ∀ d os, Calls Tryd.prog 15 #[.agg #[.int .i64 (a2 : Int), .int .i64 (b2 : Int), .int .i64 (c2 : Int), .string P2], .agg #[.int .i64 (a1 : Int), .int .i64 (b1 : Int), .int .i64 (c1 : Int), .string P1]] (grow (redrawn W4 d) os) fun e w'' => e = .returned (.int .i64 (-k)) ∧ ∃ p : Regrown, w'' = grow (redrawn W4 p.d) p.os from fun d os => Calls.regrown_of (C21.out _ (hm.below (B.out d os))))
    have qT1 := hid (show ∀ d os, Calls Tryd.prog 12 #[.agg #[.int .i64 (a1 : Int), .int .i64 (b1 : Int), .int .i64 (c1 : Int), .string P1]] (grow (redrawn W4 d) os) fun e w'' => e = .returned (.string X1) ∧ ∃ p : Regrown, w'' = grow (redrawn W4 p.d) p.os from fun d os => Calls.regrown_of (T1.out _ (hm.below (B.out d os)) (ht.below (B.out d os))))
    have qT2 := hid (show ∀ d os, Calls Tryd.prog 12 #[.agg #[.int .i64 (a2 : Int), .int .i64 (b2 : Int), .int .i64 (c2 : Int), .string P2]] (grow (redrawn W4 d) os) fun e w'' => e = .returned (.string X2) ∧ ∃ p : Regrown, w'' = grow (redrawn W4 p.d) p.os from fun d os => Calls.regrown_of (T2.out _ (hm.below (B.out d os)) (ht.below (B.out d os))))
    have r0 := cell_regrown (v1.out.cell 0 rfl)
    have r1 := cell_regrown (v1.out.cell 1 rfl)
    have r2 := cell_regrown (v1.out.cell 2 rfl)
    have r3 := cell_regrown (v1.out.cell 3 rfl)
    have s0 := cell_regrown (v2.out.cell 0 rfl)
    have s1 := cell_regrown (v2.out.cell 1 rfl)
    have s2 := cell_regrown (v2.out.cell 2 rfl)
    have s3 := cell_regrown (v2.out.cell 3 rfl)
    clear HPD C21 T1 T2 z4 v1 v2 h100 h101 h102
    go_wp2_with fail
    rcases hk with rfl | rfl | rfl <;> rcases hmm with rfl | rfl | rfl
    · have te := TE.out
      rw [show decide ((-1 : Int) = 0) = false by decide] at te
      have hn := low.out (by decide) (by decide)
      clear TE low high
      simp only [Int.neg_neg] at q21
      refine wp_region_quiet_below (by kernel_rfl) (by kernel_rfl) ?_
      repeat (quiet_step (first | with_reducible exact qP.out _ _ | with_reducible exact q21.out _ _ | with_reducible exact qT1.out _ _ | with_reducible exact qT2.out _ _))
      refine wpQuiet_nil ?_
      intro _ hw'
      obtain ⟨⟨dq, osq⟩, hw''⟩ := hw'
      subst hw''
      show Exit.then _ _ Exit.normal _ (grow (redrawn W4 dq) osq)
      have hbz := B.out dq osq
      clear r0 r1 r2 r3 s0 s1 s2 s3 qP q21 qT1 qT2 B
      generalize grow (redrawn W4 dq) osq = W5 at hbz ⊢
      go_wp2_with fail
      go_ret
      exact ⟨rfl, hbz⟩
    · have te := TE.out
      rw [show decide ((-1 : Int) = 0) = false by decide] at te
      have hn := low.out (by decide) (by decide)
      clear TE low high
      simp only [Int.neg_neg] at q21
      refine wp_region_quiet_below (by kernel_rfl) (by kernel_rfl) ?_
      repeat (quiet_step (first | with_reducible exact qP.out _ _ | with_reducible exact q21.out _ _ | with_reducible exact qT1.out _ _ | with_reducible exact qT2.out _ _))
      refine wpQuiet_nil ?_
      intro _ hw'
      obtain ⟨⟨dq, osq⟩, hw''⟩ := hw'
      subst hw''
      show Exit.then _ _ Exit.normal _ (grow (redrawn W4 dq) osq)
      have hbz := B.out dq osq
      clear r0 r1 r2 r3 s0 s1 s2 s3 qP q21 qT1 qT2 B
      generalize grow (redrawn W4 dq) osq = W5 at hbz ⊢
      go_wp2_with fail
      go_ret
      exact ⟨rfl, hbz⟩
    · have te := TE.out
      rw [show decide ((-1 : Int) = 0) = false by decide] at te
      clear TE low high
      simp only [Int.neg_neg] at q21
      refine wp_region_quiet_below (by kernel_rfl) (by kernel_rfl) ?_
      repeat (quiet_step (first | with_reducible exact qP.out _ _ | with_reducible exact q21.out _ _ | with_reducible exact qT1.out _ _ | with_reducible exact qT2.out _ _))
      refine wpQuiet_nil ?_
      intro _ hw'
      obtain ⟨⟨dq, osq⟩, hw''⟩ := hw'
      subst hw''
      show Exit.then _ _ Exit.normal _ (grow (redrawn W4 dq) osq)
      have hbz := B.out dq osq
      clear r0 r1 r2 r3 s0 s1 s2 s3 qP q21 qT1 qT2 B
      generalize grow (redrawn W4 dq) osq = W5 at hbz ⊢
      go_wp2_with fail
      go_ret
      exact ⟨rfl, hbz⟩
    · have te := TE.out
      rw [show decide ((0 : Int) = 0) = true by decide] at te
      have hn := low.out (by decide) (by decide)
      clear TE low high
      simp only [Int.neg_zero] at q21
      refine wp_region_quiet_below (by kernel_rfl) (by kernel_rfl) ?_
      repeat (quiet_step (first | with_reducible exact qP.out _ _ | with_reducible exact q21.out _ _ | with_reducible exact qT1.out _ _ | with_reducible exact qT2.out _ _))
      refine wpQuiet_nil ?_
      intro _ hw'
      obtain ⟨⟨dq, osq⟩, hw''⟩ := hw'
      subst hw''
      show Exit.then _ _ Exit.normal _ (grow (redrawn W4 dq) osq)
      have hbz := B.out dq osq
      clear r0 r1 r2 r3 s0 s1 s2 s3 qP q21 qT1 qT2 B
      generalize grow (redrawn W4 dq) osq = W5 at hbz ⊢
      go_wp2_with fail
      go_ret
      exact ⟨rfl, hbz⟩
    · have te := TE.out
      rw [show decide ((0 : Int) = 0) = true by decide] at te
      have hn := low.out (by decide) (by decide)
      have hn' := high.out (by decide) (by decide)
      clear TE low high
      simp only [Int.neg_zero] at q21
      refine wp_region_quiet_below (by kernel_rfl) (by kernel_rfl) ?_
      repeat (quiet_step (first | with_reducible exact qP.out _ _ | with_reducible exact q21.out _ _ | with_reducible exact qT1.out _ _ | with_reducible exact qT2.out _ _))
      refine wpQuiet_nil ?_
      intro _ hw'
      obtain ⟨⟨dq, osq⟩, hw''⟩ := hw'
      subst hw''
      show Exit.then _ _ Exit.normal _ (grow (redrawn W4 dq) osq)
      have hbz := B.out dq osq
      clear r0 r1 r2 r3 s0 s1 s2 s3 qP q21 qT1 qT2 B
      generalize grow (redrawn W4 dq) osq = W5 at hbz ⊢
      go_wp2_with fail
      go_ret
      exact ⟨rfl, hbz⟩
    · have te := TE.out
      rw [show decide ((0 : Int) = 0) = true by decide] at te
      have hn' := high.out (by decide) (by decide)
      clear TE low high
      simp only [Int.neg_zero] at q21
      refine wp_region_quiet_below (by kernel_rfl) (by kernel_rfl) ?_
      repeat (quiet_step (first | with_reducible exact qP.out _ _ | with_reducible exact q21.out _ _ | with_reducible exact qT1.out _ _ | with_reducible exact qT2.out _ _))
      refine wpQuiet_nil ?_
      intro _ hw'
      obtain ⟨⟨dq, osq⟩, hw''⟩ := hw'
      subst hw''
      show Exit.then _ _ Exit.normal _ (grow (redrawn W4 dq) osq)
      have hbz := B.out dq osq
      clear r0 r1 r2 r3 s0 s1 s2 s3 qP q21 qT1 qT2 B
      generalize grow (redrawn W4 dq) osq = W5 at hbz ⊢
      go_wp2_with fail
      go_ret
      exact ⟨rfl, hbz⟩
    · have te := TE.out
      rw [show decide ((1 : Int) = 0) = false by decide] at te
      clear TE low high
      refine wp_region_quiet_below (by kernel_rfl) (by kernel_rfl) ?_
      repeat (quiet_step (first | with_reducible exact qP.out _ _ | with_reducible exact q21.out _ _ | with_reducible exact qT1.out _ _ | with_reducible exact qT2.out _ _))
      refine wpQuiet_nil ?_
      intro _ hw'
      obtain ⟨⟨dq, osq⟩, hw''⟩ := hw'
      subst hw''
      show Exit.then _ _ Exit.normal _ (grow (redrawn W4 dq) osq)
      have hbz := B.out dq osq
      clear r0 r1 r2 r3 s0 s1 s2 s3 qP q21 qT1 qT2 B
      generalize grow (redrawn W4 dq) osq = W5 at hbz ⊢
      go_wp2_with fail
      go_ret
      exact ⟨rfl, hbz⟩
    · have te := TE.out
      rw [show decide ((1 : Int) = 0) = false by decide] at te
      have hn' := high.out (by decide) (by decide)
      clear TE low high
      refine wp_region_quiet_below (by kernel_rfl) (by kernel_rfl) ?_
      repeat (quiet_step (first | with_reducible exact qP.out _ _ | with_reducible exact q21.out _ _ | with_reducible exact qT1.out _ _ | with_reducible exact qT2.out _ _))
      refine wpQuiet_nil ?_
      intro _ hw'
      obtain ⟨⟨dq, osq⟩, hw''⟩ := hw'
      subst hw''
      show Exit.then _ _ Exit.normal _ (grow (redrawn W4 dq) osq)
      have hbz := B.out dq osq
      clear r0 r1 r2 r3 s0 s1 s2 s3 qP q21 qT1 qT2 B
      generalize grow (redrawn W4 dq) osq = W5 at hbz ⊢
      go_wp2_with fail
      go_ret
      exact ⟨rfl, hbz⟩
    · have te := TE.out
      rw [show decide ((1 : Int) = 0) = false by decide] at te
      have hn' := high.out (by decide) (by decide)
      clear TE low high
      refine wp_region_quiet_below (by kernel_rfl) (by kernel_rfl) ?_
      repeat (quiet_step (first | with_reducible exact qP.out _ _ | with_reducible exact q21.out _ _ | with_reducible exact qT1.out _ _ | with_reducible exact qT2.out _ _))
      refine wpQuiet_nil ?_
      intro _ hw'
      obtain ⟨⟨dq, osq⟩, hw''⟩ := hw'
      subst hw''
      show Exit.then _ _ Exit.normal _ (grow (redrawn W4 dq) osq)
      have hbz := B.out dq osq
      clear r0 r1 r2 r3 s0 s1 s2 s3 qP q21 qT1 qT2 B
      generalize grow (redrawn W4 dq) osq = W5 at hbz ⊢
      go_wp2_with fail
      go_ret
      exact ⟨rfl, hbz⟩
end Go.Proofs.YtiihhgdbgmplaaaDoor.Vs
