/-
  LAYER 3, THE LAW VersionCompares.
-/
import Derived.Test.YtiihhgdbgmplaaaDoorVersionCmpA
import Derived.Test.YtiihhgdbgmplaaaDoorVersionLaw1
namespace Go.Proofs.YtiihhgdbgmplaaaDoor.Vs
open Go.RowKit Go.Sort
open Go.Proofs.YtiihhgdbgmplaaaDoor Go.Proofs.YtiihhgdbgmplaaaDoor.Nu

set_option maxRecDepth 20000 in
set_option maxHeartbeats 4000000 in
theorem law_compares (s t : ByteArray) (w : World) (hm : MaxAt w) (ht : TenAt w) :
    Calls Tryd.prog 5 #[.string s, .string t] w fun e w' => e = .returned (.bool true) ∧ Below w.heap.size w w' := by
  have HPD := hid parsed_any
  by_cases h100 : (100 : Int) < s.size
  · go_enter Tryd.func5, Tryd.ntmps5
    go_wp2_with (go_at_call 8; (with_reducible refine (HPD.out _ hm ht).mono ?_); rintro e w1 ⟨rfl, hb1⟩)
    go_ret
    exact ⟨rfl, hb1⟩
  · by_cases h101 : (100 : Int) < t.size
    · go_enter Tryd.func5, Tryd.ntmps5
      go_wp2_with (go_at_call 8; (with_reducible refine (HPD.out _ hm ht).mono ?_); rintro e w1 ⟨rfl, hb1⟩)
      go_ret
      exact ⟨rfl, hb1⟩
    · obtain ⟨a, b, c, p, _, _, _, K1, _, HO1⟩ := of_v s (by omega)
      obtain ⟨a', b', c', q, _, _, _, K2, _, HO2⟩ := of_v t (by omega)
      replace K1 := hid K1
      replace K2 := hid K2
      replace HO1 := hid HO1
      replace HO2 := hid HO2
      go_enter Tryd.func5, Tryd.ntmps5
      go_wp2_with fail
      refine (HO1.out _ hm).mono ?_
      rintro e w1 ⟨pa, pc, rfl, hp1, hb1⟩
      go_wp2_with fail
      obtain ⟨v1, x1⟩ := two_blk w1 [.int .i64 (a : Int), .int .i64 (b : Int), .int .i64 (c : Int), .string ⟨p.toArray⟩] [.int .i64 (a : Int), .int .i64 (b : Int), .int .i64 (c : Int), .slice pa (rows p).length pc] 25 30
      have y1 := hp1.below (below_alloc (below_alloc (Below.refl _ _) (.cells #[.int .i64 (a : Int), .int .i64 (b : Int), .int .i64 (c : Int), .string ⟨p.toArray⟩] 25)) (.cells #[.int .i64 (a : Int), .int .i64 (b : Int), .int .i64 (c : Int), .slice pa (rows p).length pc] 30))
      have z1 := below_alloc (below_alloc hb1 (.cells #[.int .i64 (a : Int), .int .i64 (b : Int), .int .i64 (c : Int), .string ⟨p.toArray⟩] 25)) (.cells #[.int .i64 (a : Int), .int .i64 (b : Int), .int .i64 (c : Int), .slice pa (rows p).length pc] 30)
      generalize (w1.alloc (.cells #[.int .i64 (a : Int), .int .i64 (b : Int), .int .i64 (c : Int), .string ⟨p.toArray⟩] 25)).alloc (.cells #[.int .i64 (a : Int), .int .i64 (b : Int), .int .i64 (c : Int), .slice pa (rows p).length pc] 30) = W1 at v1 x1 y1 z1 ⊢
      generalize w1.heap.size + 1 = b1' at x1 ⊢
      generalize w1.heap.size = b1 at v1 ⊢
      clear hp1 hb1
      refine (HO2.out _ (hm.below z1)).mono ?_
      rintro e w2 ⟨qa, qc, rfl, hp2, hb2⟩
      have v1' := hid (((v1.below hb2).alloc (.cells #[.int .i64 (a' : Int), .int .i64 (b' : Int), .int .i64 (c' : Int), .string ⟨q.toArray⟩] 25)).alloc (.cells #[.int .i64 (a' : Int), .int .i64 (b' : Int), .int .i64 (c' : Int), .slice qa (rows q).length qc] 30))
      have x1' := hid (((x1.below hb2).alloc (.cells #[.int .i64 (a' : Int), .int .i64 (b' : Int), .int .i64 (c' : Int), .string ⟨q.toArray⟩] 25)).alloc (.cells #[.int .i64 (a' : Int), .int .i64 (b' : Int), .int .i64 (c' : Int), .slice qa (rows q).length qc] 30))
      obtain ⟨v2, x2⟩ := two_blk w2 [.int .i64 (a' : Int), .int .i64 (b' : Int), .int .i64 (c' : Int), .string ⟨q.toArray⟩] [.int .i64 (a' : Int), .int .i64 (b' : Int), .int .i64 (c' : Int), .slice qa (rows q).length qc] 25 30
      have hal := below_alloc (below_alloc (Below.refl w2.heap.size w2) (.cells #[.int .i64 (a' : Int), .int .i64 (b' : Int), .int .i64 (c' : Int), .string ⟨q.toArray⟩] 25)) (.cells #[.int .i64 (a' : Int), .int .i64 (b' : Int), .int .i64 (c' : Int), .slice qa (rows q).length qc] 30)
      have y1' := hid ((y1.below hb2).below hal)
      have y2 := hid (hp2.below hal)
      have z2 := hid (below_trans (below_trans z1 hb2) hal)
      replace v2 := hid v2
      replace x2 := hid x2
      clear v1 x1 y1 z1 hp2 hb2 hal
      go_wp2_with fail
      generalize (w2.alloc (.cells #[.int .i64 (a' : Int), .int .i64 (b' : Int), .int .i64 (c' : Int), .string ⟨q.toArray⟩] 25)).alloc (.cells #[.int .i64 (a' : Int), .int .i64 (b' : Int), .int .i64 (c' : Int), .slice qa (rows q).length qc] 30) = W at v1' x1' v2 x2 y1' y2 z2 ⊢
      generalize w2.heap.size + 1 = b2' at x2 ⊢
      generalize w2.heap.size = b2 at v2 ⊢
      have B := hid (fun d os => below_trans z2.out (below_regrown W d os))
      have qP := hid (show ∀ d os, Calls Tryd.prog 8 #[] (grow (redrawn W d) os) fun e w'' => e = .returned (.bool true) ∧ ∃ p : Regrown, w'' = grow (redrawn W p.d) p.os from fun d os => Calls.regrown_of (HPD.out _ (hm.below (B.out d os)) (ht.below (B.out d os))))
      have qC := hid (show ∀ d os, Calls Tryd.prog 15 #[.agg #[.int .i64 (a : Int), .int .i64 (b : Int), .int .i64 (c : Int), .string ⟨p.toArray⟩], .agg #[.int .i64 (a' : Int), .int .i64 (b' : Int), .int .i64 (c' : Int), .string ⟨q.toArray⟩]] (grow (redrawn W d) os) fun e w'' => e = .returned (.int .i64 (cmpV [a, b, c] [a', b', c'] p q)) ∧ ∃ p : Regrown, w'' = grow (redrawn W p.d) p.os from fun d os => Calls.regrown_of (compare_any a b c a' b' c' p q K1.out K2.out _ (hm.below (B.out d os))))
      have qR := hid (show ∀ d os, Calls Tryd.prog 16 #[.agg #[.int .i64 (a : Int), .int .i64 (b : Int), .int .i64 (c : Int), .slice pa (rows p).length pc], .agg #[.int .i64 (a' : Int), .int .i64 (b' : Int), .int .i64 (c' : Int), .slice qa (rows q).length qc]] (grow (redrawn W d) os) fun e w'' => e = .returned (.int .i64 (cmpV [a, b, c] [a', b', c'] p q)) ∧ ∃ p : Regrown, w'' = grow (redrawn W p.d) p.os from fun d os => Calls.regrown_of (rcompare_any a b c a' b' c' p q K1.out K2.out _ _ _ (y1'.out.below (below_regrown W d os)) (y2.out.below (below_regrown W d os))))
      have TW := hid (fun w => twin_any (a : Int) b c a' b' c' ⟨p.toArray⟩ ⟨q.toArray⟩ w)
      generalize cmpV [a, b, c] [a', b', c'] p q = R at qC qR
      have s0 := cell_regrown (v1'.out.cell 0 rfl)
      have s1 := cell_regrown (v1'.out.cell 1 rfl)
      have s2 := cell_regrown (v1'.out.cell 2 rfl)
      have s3 := cell_regrown (v1'.out.cell 3 rfl)
      have t0 := cell_regrown (x1'.out.cell 0 rfl)
      have t1 := cell_regrown (x1'.out.cell 1 rfl)
      have t2 := cell_regrown (x1'.out.cell 2 rfl)
      have t3 := cell_regrown (x1'.out.cell 3 rfl)
      have u0 := cell_regrown (v2.out.cell 0 rfl)
      have u1 := cell_regrown (v2.out.cell 1 rfl)
      have u2 := cell_regrown (v2.out.cell 2 rfl)
      have u3 := cell_regrown (v2.out.cell 3 rfl)
      have o0 := cell_regrown (x2.out.cell 0 rfl)
      have o1 := cell_regrown (x2.out.cell 1 rfl)
      have o2 := cell_regrown (x2.out.cell 2 rfl)
      have o3 := cell_regrown (x2.out.cell 3 rfl)
      have four : (((a : Int) == (a' : Int)) = false) ∨ (((a : Int) == (a' : Int)) = true ∧ ((b : Int) == (b' : Int)) = false) ∨ (((a : Int) == (a' : Int)) = true ∧ ((b : Int) == (b' : Int)) = true ∧ ((c : Int) == (c' : Int)) = false) ∨ (((a : Int) == (a' : Int)) = true ∧ ((b : Int) == (b' : Int)) = true ∧ ((c : Int) == (c' : Int)) = true) := by
        cases ((a : Int) == (a' : Int)) <;> cases ((b : Int) == (b' : Int)) <;> cases ((c : Int) == (c' : Int)) <;> simp
      clear v1' x1' v2 x2 y1' y2 K1 K2 HO1 HO2 HPD h100 h101
      rcases four with E1 | ⟨E1, E2⟩ | ⟨E1, E2, E3⟩ | ⟨E1, E2, E3⟩
      · have qT := hid (show ∀ d os, Calls Tryd.prog 17 #[.agg #[.int .i64 (a : Int), .int .i64 (b : Int), .int .i64 (c : Int), .string ⟨p.toArray⟩], .agg #[.int .i64 (a' : Int), .int .i64 (b' : Int), .int .i64 (c' : Int), .string ⟨q.toArray⟩]] (grow (redrawn W d) os) fun e w'' => e = .returned (.bool false) ∧ ∃ p : Regrown, w'' = grow (redrawn W p.d) p.os from fun d os => Calls.regrown_of (by have := TW.out (grow (redrawn W d) os); rw [E1] at this; exact this))
        clear TW
        refine wp_region_quiet_below (by kernel_rfl) (by kernel_rfl) ?_
        repeat (quiet_step (first | with_reducible exact qP.out _ _ | with_reducible exact qC.out _ _ | with_reducible exact qR.out _ _ | with_reducible exact qT.out _ _))
        refine wpQuiet_nil ?_
        intro _ hw'
        obtain ⟨⟨dq, osq⟩, hw''⟩ := hw'
        subst hw''
        show Exit.then _ _ Exit.normal _ (grow (redrawn W dq) osq)
        have hbz := B.out dq osq
        clear s0 s1 s2 s3 t0 t1 t2 t3 u0 u1 u2 u3 o0 o1 o2 o3 qP qC qR qT B z2
        generalize grow (redrawn W dq) osq = W5 at hbz ⊢
        go_wp2_with fail
        go_ret
        exact ⟨rfl, hbz⟩
      · have qT := hid (show ∀ d os, Calls Tryd.prog 17 #[.agg #[.int .i64 (a : Int), .int .i64 (b : Int), .int .i64 (c : Int), .string ⟨p.toArray⟩], .agg #[.int .i64 (a' : Int), .int .i64 (b' : Int), .int .i64 (c' : Int), .string ⟨q.toArray⟩]] (grow (redrawn W d) os) fun e w'' => e = .returned (.bool false) ∧ ∃ p : Regrown, w'' = grow (redrawn W p.d) p.os from fun d os => Calls.regrown_of (by have := TW.out (grow (redrawn W d) os); rw [E1, E2] at this; exact this))
        clear TW
        refine wp_region_quiet_below (by kernel_rfl) (by kernel_rfl) ?_
        repeat (quiet_step (first | with_reducible exact qP.out _ _ | with_reducible exact qC.out _ _ | with_reducible exact qR.out _ _ | with_reducible exact qT.out _ _))
        refine wpQuiet_nil ?_
        intro _ hw'
        obtain ⟨⟨dq, osq⟩, hw''⟩ := hw'
        subst hw''
        show Exit.then _ _ Exit.normal _ (grow (redrawn W dq) osq)
        have hbz := B.out dq osq
        clear s0 s1 s2 s3 t0 t1 t2 t3 u0 u1 u2 u3 o0 o1 o2 o3 qP qC qR qT B z2
        generalize grow (redrawn W dq) osq = W5 at hbz ⊢
        go_wp2_with fail
        go_ret
        exact ⟨rfl, hbz⟩
      · have qT := hid (show ∀ d os, Calls Tryd.prog 17 #[.agg #[.int .i64 (a : Int), .int .i64 (b : Int), .int .i64 (c : Int), .string ⟨p.toArray⟩], .agg #[.int .i64 (a' : Int), .int .i64 (b' : Int), .int .i64 (c' : Int), .string ⟨q.toArray⟩]] (grow (redrawn W d) os) fun e w'' => e = .returned (.bool false) ∧ ∃ p : Regrown, w'' = grow (redrawn W p.d) p.os from fun d os => Calls.regrown_of (by have := TW.out (grow (redrawn W d) os); rw [E1, E2, E3] at this; exact this))
        clear TW
        refine wp_region_quiet_below (by kernel_rfl) (by kernel_rfl) ?_
        repeat (quiet_step (first | with_reducible exact qP.out _ _ | with_reducible exact qC.out _ _ | with_reducible exact qR.out _ _ | with_reducible exact qT.out _ _))
        refine wpQuiet_nil ?_
        intro _ hw'
        obtain ⟨⟨dq, osq⟩, hw''⟩ := hw'
        subst hw''
        show Exit.then _ _ Exit.normal _ (grow (redrawn W dq) osq)
        have hbz := B.out dq osq
        clear s0 s1 s2 s3 t0 t1 t2 t3 u0 u1 u2 u3 o0 o1 o2 o3 qP qC qR qT B z2
        generalize grow (redrawn W dq) osq = W5 at hbz ⊢
        go_wp2_with fail
        go_ret
        exact ⟨rfl, hbz⟩
      · have qT := hid (show ∀ d os, Calls Tryd.prog 17 #[.agg #[.int .i64 (a : Int), .int .i64 (b : Int), .int .i64 (c : Int), .string ⟨p.toArray⟩], .agg #[.int .i64 (a' : Int), .int .i64 (b' : Int), .int .i64 (c' : Int), .string ⟨q.toArray⟩]] (grow (redrawn W d) os) fun e w'' => e = .returned (.bool true) ∧ ∃ p : Regrown, w'' = grow (redrawn W p.d) p.os from fun d os => Calls.regrown_of (by have := TW.out (grow (redrawn W d) os); rw [E1, E2, E3] at this; exact this))
        clear TW
        refine wp_region_quiet_below (by kernel_rfl) (by kernel_rfl) ?_
        repeat (quiet_step (first | with_reducible exact qP.out _ _ | with_reducible exact qC.out _ _ | with_reducible exact qR.out _ _ | with_reducible exact qT.out _ _))
        refine wpQuiet_nil ?_
        intro _ hw'
        obtain ⟨⟨dq, osq⟩, hw''⟩ := hw'
        subst hw''
        show Exit.then _ _ Exit.normal _ (grow (redrawn W dq) osq)
        have hbz := B.out dq osq
        clear s0 s1 s2 s3 t0 t1 t2 t3 u0 u1 u2 u3 o0 o1 o2 o3 qP qC qR qT B z2
        generalize grow (redrawn W dq) osq = W5 at hbz ⊢
        go_wp2_with fail
        go_ret
        exact ⟨rfl, hbz⟩
end Go.Proofs.YtiihhgdbgmplaaaDoor.Vs
