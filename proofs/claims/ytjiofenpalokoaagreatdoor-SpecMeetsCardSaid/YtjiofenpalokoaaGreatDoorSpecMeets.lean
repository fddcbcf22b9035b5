/-
  LAYER 4, THE LAW SpecMeets.
-/
import Derived.Test.YtjiofenpalokoaaGreatDoorSpecLaws
namespace Go.Proofs.YtjiofenpalokoaaGreatDoor.Sp
open Go.RowKit Go.Sort
open Go.Proofs.YtjiofenpalokoaaGreatDoor Go.Proofs.YtjiofenpalokoaaGreatDoor.Nu Go.Proofs.YtjiofenpalokoaaGreatDoor.Vs

theorem cut_single {c : UInt8} {l : List UInt8} (h : (cutl c l).length = 1) : c ∉ l := by
  intro hc
  obtain ⟨a, r, rfl, ha⟩ := splits l hc
  rw [cutl_hit ha, List.length_cons] at h
  have := List.length_pos_iff.2 (cutl_ne c r)
  omega
theorem rngOf_one {s : List UInt8} {cs : List CompT} (h : rngOf s = some [cs]) : 124 ∉ s ∧ altOf s = some cs ∧ s.length ≤ 80 := by
  have h1 := cut_single (by rw [rngOf_len h]; rfl : (cutl 124 s).length = 1)
  unfold rngOf at h
  split at h
  · rename_i hc
    rw [cutl_no h1] at h
    simp only [allOf] at h
    cases ha : altOf s with
    | none => rw [ha] at h; cases h
    | some ds =>
      rw [ha] at h
      simp only [Option.some.injEq, List.cons.injEq, and_true] at h
      exact ⟨h1, by rw [h], hc.1⟩
  · cases h
theorem altOf_len {s : List UInt8} {cs : List CompT} (h : altOf s = some cs) : (cutl 44 s).length = cs.length ∧ allOf compOf (cutl 44 s) = some cs := by
  unfold altOf at h
  split at h
  · exact ⟨(allOf_len h).symm, h⟩
  · cases h
theorem rngOf_meet {s t : List UInt8} {cs ds : List CompT} (hs : rngOf s = some [cs]) (ht : rngOf t = some [ds]) (hl : s.length + t.length ≤ 79) (h4 : cs.length + ds.length ≤ 4) : rngOf (s ++ 44 :: t) = some [cs ++ ds] := by
  obtain ⟨a1, a2, _⟩ := rngOf_one hs
  obtain ⟨b1, b2, _⟩ := rngOf_one ht
  obtain ⟨c1, c2⟩ := altOf_len a2
  obtain ⟨d1, d2⟩ := altOf_len b2
  have hno : (124 : UInt8) ∉ s ++ 44 :: t := by
    intro h
    rcases List.mem_append.1 h with h | h
    · exact a1 h
    · rcases List.mem_cons.1 h with h | h
      · cases h
      · exact b1 h
  have ha : altOf (s ++ 44 :: t) = some (cs ++ ds) := by
    unfold altOf
    rw [cutl_app t _ s (Nat.le_refl _), if_pos (by rw [List.length_append, c1, d1]; exact h4), allOf_app, c2, d2]
  unfold rngOf
  rw [cutl_no hno, if_pos ⟨by simp; omega, by simp⟩]
  simp only [allOf, ha]
theorem rngHas_one (cs : List CompT) (x y z : Nat) (q : List UInt8) : rngHas [cs] x y z q = altHas cs x y z q := by unfold rngHas; simp
/-- a range of one alternative in memory: the cell that holds it -/
theorem RngAt.one {w : World} {oa : Option Addr} {n cp : Nat} {cs : List CompT} (h : RngAt w (.slice oa n cp) [cs]) : ∃ G B c2, oa = some ⟨G, 0, none⟩ ∧ n = 1 ∧ w.cell? ⟨G, 0, none⟩ = some (.slice (some ⟨B, 0, none⟩) cs.length c2) := by
  obtain ⟨G, cp, vs, h1, _, _, _, h5, h6⟩ := h
  obtain ⟨_, v, h7, h8⟩ := h6.2 0 cs rfl
  obtain ⟨B, c2, rfl, _⟩ := h8
  injection h1 with e1 e2 e3
  exact ⟨G, B, c2, e1, e2, h5 0 _ h7⟩

set_option maxRecDepth 20000 in
set_option maxHeartbeats 3000000 in
theorem law_meets (s t u : ByteArray) (w : World) (hm : MaxAt w) (ht : TenAt w) (hg : SignsAt w) :
    Calls Tryz.prog 8 #[.string s, .string t, .string u] w fun e w' => e = .returned (.bool true) ∧ Below w.heap.size w w' := by
  have HPD := hid taken_any
  have BIG : ∀ (h : (100 : Int) < s.size ∨ ((s.size : Int) ≤ 100 ∧ (100 : Int) < t.size) ∨ ((s.size : Int) ≤ 100 ∧ (t.size : Int) ≤ 100 ∧ (100 : Int) < u.size)), Calls Tryz.prog 8 #[.string s, .string t, .string u] w fun e w' => e = .returned (.bool true) ∧ Below w.heap.size w w' := by
    intro h
    rcases h with h | ⟨h, k⟩ | ⟨h, k, j⟩
    all_goals
      go_enter Tryz.func8, Tryz.ntmps8
      go_wp2_with (go_at_call 11; (with_reducible refine (HPD.out _ hm ht hg).mono ?_); rintro e w1 ⟨rfl, hb1⟩)
      go_ret
      exact ⟨rfl, hb1⟩
  by_cases hbig : (100 : Int) < s.size ∨ ((s.size : Int) ≤ 100 ∧ (100 : Int) < t.size) ∨ ((s.size : Int) ≤ 100 ∧ (t.size : Int) ≤ 100 ∧ (100 : Int) < u.size)
  · exact BIG hbig
  · clear BIG
    have h100 : (s.size : Int) ≤ 100 := by omega
    have h101 : (t.size : Int) ≤ 100 := by omega
    have h102 : (u.size : Int) ≤ 100 := by omega
    clear hbig
    obtain ⟨x, y, z, q, lx, ly, lz, Kq, _, HV⟩ := of_v u (by omega)
    replace HV := hid HV
    have hOkV := hid (show OkV x y z q from ⟨lx, ly, lz, Kq.2⟩)
    have P1 := hid (parse_o s (by omega))
    have P2 := hid (parse_o t (by omega))
    have hXs : (s ++ ⟨#[44]⟩ ++ t).size = s.size + 1 + t.size := by
      rw [ByteArray.size_append, ByteArray.size_append]; rfl
    have P3 := hid (parse_o (s ++ ⟨#[44]⟩ ++ t) (by omega))
    rw [cat_data] at P3
    have hls := lenS s
    have hlt := lenS t
    have YES := hid (fun cs ds hs ht hl h4 => @rngOf_meet s.data.toList t.data.toList cs ds hs ht hl h4)
    rw [hls, hlt] at YES
    have OK1 := hid (fun rs (h : rngOf s.data.toList = some rs) => (rngOf_ok h).2)
    have OK2 := hid (fun rs (h : rngOf t.data.toList = some rs) => (rngOf_ok h).2)
    have OK3 := hid (fun rs (h : rngOf (s.data.toList ++ 44 :: t.data.toList) = some rs) => (rngOf_ok h).2)
    have n1 : ¬ 9223372036854775807 < s.size + 1 := by omega
    have n2 : ¬ 9223372036854775807 < s.size + 1 + t.size := by omega
    have HAS := hid (fun rs v hok w hm ht hg hr => hasR_any rs v hok x y z q hOkV.out w hm ht hg hr)
    have hqn := hid (list_nil q)
    generalize (⟨q.toArray⟩ : ByteArray) = Q at HV HAS hqn
    clear hls hlt hXs lx ly lz Kq
    generalize rngOf (s.data.toList ++ 44 :: t.data.toList) = o3 at *
    generalize rngOf s.data.toList = o1 at *
    generalize rngOf t.data.toList = o2 at *
    generalize hf1 : o1.isSome = f1 at P1
    generalize hf2 : o2.isSome = f2 at P2
    generalize hf3 : o3.isSome = f3 at P3
    replace hf1 := hid hf1
    replace hf2 := hid hf2
    replace hf3 := hid hf3
    go_enter Tryz.func8, Tryz.ntmps8
    go_wp2_with fail
    refine (P1.out _ hm hg).mono ?_
    rintro e w1 ⟨oa1, m1, cp1, rfl, hb1, N1, hr1⟩
    have z1 := hid (below_alloc hb1 (.cells #[.slice oa1 m1 cp1] 25))
    have v1 := hid (Blk.new w1 [.slice oa1 m1 cp1] 25)
    have M1 := hid (fun rs h => (hr1 rs h).1)
    replace hr1 := hid (fun rs h => (hr1 rs h).2.below (below_alloc (Below.refl w1.heap.size w1) (.cells #[.slice oa1 m1 cp1] 25)))
    clear hb1 N1
    go_wp2_with fail
    generalize w1.alloc (.cells [.slice oa1 m1 cp1].toArray 25) = W1 at v1 hr1 z1 ⊢
    generalize w1.heap.size = b1' at v1 ⊢
    refine (P2.out _ (hm.below z1.out) (hg.below z1.out)).mono ?_
    rintro e w2 ⟨oa2, m2, cp2, rfl, hb2, N2, hr2⟩
    have z2 := hid (below_alloc (below_trans z1.out hb2) (.cells #[.slice oa2 m2 cp2] 25))
    have v2 := hid (Blk.new w2 [.slice oa2 m2 cp2] 25)
    have M2 := hid (fun rs h => (hr2 rs h).1)
    replace hr2 := hid (fun rs h => (hr2 rs h).2.below (below_alloc (Below.refl w2.heap.size w2) (.cells #[.slice oa2 m2 cp2] 25)))
    replace v1 := hid ((v1.out.below hb2).alloc (.cells #[.slice oa2 m2 cp2] 25))
    replace hr1 := hid (fun rs h => ((hr1.out rs h).below hb2).below (below_alloc (Below.refl w2.heap.size w2) (.cells #[.slice oa2 m2 cp2] 25)))
    clear hb2 N2 z1
    go_wp2_with fail
    generalize w2.alloc (.cells [.slice oa2 m2 cp2].toArray 25) = W2 at v1 hr1 v2 hr2 z2 ⊢
    generalize w2.heap.size = b2' at v2 ⊢
    refine (HV.out _ (hm.below z2.out)).mono ?_
    rintro e w4 ⟨pa, pc, rfl, _, hb4⟩
    have z4 := hid (below_alloc (below_alloc (below_trans z2.out hb4) (.cells #[.int .i64 (x : Int), .int .i64 (y : Int), .int .i64 (z : Int), .string Q] 38)) (.cells #[.int .i64 (x : Int), .int .i64 (y : Int), .int .i64 (z : Int), .slice pa (rows q).length pc] 45))
    have al4 := hid (below_alloc (below_alloc (Below.refl w4.heap.size w4) (.cells #[.int .i64 (x : Int), .int .i64 (y : Int), .int .i64 (z : Int), .string Q] 38)) (.cells #[.int .i64 (x : Int), .int .i64 (y : Int), .int .i64 (z : Int), .slice pa (rows q).length pc] 45))
    have v4 := hid (two_blk w4 [.int .i64 (x : Int), .int .i64 (y : Int), .int .i64 (z : Int), .string Q] [.int .i64 (x : Int), .int .i64 (y : Int), .int .i64 (z : Int), .slice pa (rows q).length pc] 38 45).1
    replace v1 := hid ((v1.out.below hb4).below al4.out)
    replace hr1 := hid (fun rs h => ((hr1.out rs h).below hb4).below al4.out)
    replace v2 := hid ((v2.out.below hb4).below al4.out)
    replace hr2 := hid (fun rs h => ((hr2.out rs h).below hb4).below al4.out)
    clear hb4 al4 z2
    go_wp2_with fail
    generalize (w4.alloc (.cells #[.int .i64 (x : Int), .int .i64 (y : Int), .int .i64 (z : Int), .string Q] 38)).alloc (.cells #[.int .i64 (x : Int), .int .i64 (y : Int), .int .i64 (z : Int), .slice pa (rows q).length pc] 45) = W4 at v1 v2 v4 hr1 hr2 z4 ⊢
    generalize w4.heap.size + 1 = b5' at *
    generalize w4.heap.size = b4' at v4 ⊢
    have B := hid (fun d os => below_trans z4.out (below_regrown W4 d os))
    have qP := hid (show ∀ d os, Calls Tryz.prog 11 #[] (grow (redrawn W4 d) os) fun e w'' => e = .returned (.bool true) ∧ ∃ p : Regrown, w'' = grow (redrawn W4 p.d) p.os from fun d os => Calls.regrown_of (HPD.out _ (hm.below (B.out d os)) (ht.below (B.out d os)) (hg.below (B.out d os))))
    have r1 := cell_regrown (v1.out.cell 0 rfl)
    have r2 := cell_regrown (v2.out.cell 0 rfl)
    have r4 := cell_regrown (v4.out.cell 3 rfl)
    cases o1 with
    | none =>
      obtain rfl : f1 = false := hf1.out.symm
      clear YES OK1 OK2 OK3 hr1 hr2 M1 M2 HAS P1 P2 P3 HV hf1 hf2 hf3 hqn hOkV v1 v2 v4 z4
      refine wp_region_quiet_below (by kernel_rfl) (by kernel_rfl) ?_
      repeat (go_big_quiet_step (with_reducible exact qP.out _ _))
      refine wpQuiet_nil ?_
      intro _ hw'
      obtain ⟨⟨dq, osq⟩, hw''⟩ := hw'
      subst hw''
      show Exit.then _ _ Exit.normal _ (grow (redrawn W4 dq) osq)
      have hbz := hid (B.out dq osq)
      clear qP r1 r2 r4 B
      generalize grow (redrawn W4 dq) osq = W5 at hbz ⊢
      go_wp2_with fail
      refine (HPD.out _ (hm.below hbz.out) (ht.below hbz.out) (hg.below hbz.out)).mono ?_
      rintro e w6 ⟨rfl, hb6⟩
      go_wp2_with fail
      go_ret
      exact ⟨rfl, below_trans hbz.out hb6⟩
    | some xs =>
      obtain rfl : f1 = true := hf1.out.symm
      cases o2 with
      | none =>
        obtain rfl : f2 = false := hf2.out.symm
        clear YES OK1 OK2 OK3 hr1 hr2 M1 M2 HAS P1 P2 P3 HV hf1 hf2 hf3 hqn hOkV v1 v2 v4 z4
        refine wp_region_quiet_below (by kernel_rfl) (by kernel_rfl) ?_
        repeat (go_big_quiet_step (with_reducible exact qP.out _ _))
        refine wpQuiet_nil ?_
        intro _ hw'
        obtain ⟨⟨dq, osq⟩, hw''⟩ := hw'
        subst hw''
        show Exit.then _ _ Exit.normal _ (grow (redrawn W4 dq) osq)
        have hbz := hid (B.out dq osq)
        clear qP r1 r2 r4 B
        generalize grow (redrawn W4 dq) osq = W5 at hbz ⊢
        go_wp2_with fail
        refine (HPD.out _ (hm.below hbz.out) (ht.below hbz.out) (hg.below hbz.out)).mono ?_
        rintro e w6 ⟨rfl, hb6⟩
        go_wp2_with fail
        go_ret
        exact ⟨rfl, below_trans hbz.out hb6⟩
      | some ys =>
        obtain rfl : f2 = true := hf2.out.symm
        have e1 := M1.out xs rfl
        have e2 := M2.out ys rfl
        by_cases hx1 : m1 = 1
        · subst hx1
          by_cases hy1 : m2 = 1
          · subst hy1
            obtain ⟨cs, rfl⟩ := List.length_eq_one_iff.1 e1.symm
            obtain ⟨ds, rfl⟩ := List.length_eq_one_iff.1 e2.symm
            clear e1 e2
            have lx4 := ((OK1.out _ rfl).2.2.1 cs (by simp)).2.1
            have ly4 := ((OK2.out _ rfl).2.2.1 ds (by simp)).2.1
            obtain ⟨G1, B1, d1, rfl, _, k1⟩ := (hr1.out _ rfl).one
            obtain ⟨G2, B2, d2, rfl, _, k2⟩ := (hr2.out _ rfl).one
            replace k1 := cell_regrown k1
            replace k2 := cell_regrown k2
            by_cases hl : (79 : Int) < (s.size : Int) + (t.size : Int)
            · have hl' := decide_eq_true hl
              clear YES OK1 OK2 OK3 hr1 hr2 M1 M2 HAS P1 P2 P3 HV hf1 hf2 hf3 hqn hOkV v1 v2 v4 z4
              refine wp_region_quiet_below (by kernel_rfl) (by kernel_rfl) ?_
              repeat (go_big_quiet_step (with_reducible exact qP.out _ _))
              refine wpQuiet_nil ?_
              intro _ hw'
              obtain ⟨⟨dq, osq⟩, hw''⟩ := hw'
              subst hw''
              show Exit.then _ _ Exit.normal _ (grow (redrawn W4 dq) osq)
              have hbz := hid (B.out dq osq)
              clear qP r1 r2 r4 B
              generalize grow (redrawn W4 dq) osq = W5 at hbz ⊢
              go_wp2_with fail
              refine (HPD.out _ (hm.below hbz.out) (ht.below hbz.out) (hg.below hbz.out)).mono ?_
              rintro e w6 ⟨rfl, hb6⟩
              go_wp2_with fail
              go_ret
              exact ⟨rfl, below_trans hbz.out hb6⟩
            · have hl' := decide_eq_false hl
              by_cases h4 : (4 : Int) < (cs.length : Int) + (ds.length : Int)
              · have h4' := decide_eq_true h4
                clear YES OK1 OK2 OK3 hr1 hr2 M1 M2 HAS P1 P2 P3 HV hf1 hf2 hf3 hqn hOkV v1 v2 v4 z4
                refine wp_region_quiet_below (by kernel_rfl) (by kernel_rfl) ?_
                repeat (go_big_quiet_step (with_reducible exact qP.out _ _))
                refine wpQuiet_nil ?_
                intro _ hw'
                obtain ⟨⟨dq, osq⟩, hw''⟩ := hw'
                subst hw''
                show Exit.then _ _ Exit.normal _ (grow (redrawn W4 dq) osq)
                have hbz := hid (B.out dq osq)
                clear qP r1 r2 r4 B
                generalize grow (redrawn W4 dq) osq = W5 at hbz ⊢
                go_wp2_with fail
                refine (HPD.out _ (hm.below hbz.out) (ht.below hbz.out) (hg.below hbz.out)).mono ?_
                rintro e w6 ⟨rfl, hb6⟩
                go_wp2_with fail
                go_ret
                exact ⟨rfl, below_trans hbz.out hb6⟩
              · have h4' := decide_eq_false h4
                have YE := hid (YES.out cs ds rfl rfl (by omega) (by omega))
                by_cases hq : q = []
                · have hqt : (Q.toList == []) = true := by rw [hqn.out, hq]; rfl
                  have e3 := YE.out
                  subst e3
                  obtain rfl : f3 = true := hf3.out.symm
                  have A1 := hid (fun w hm ht hg hr => HAS.out [cs] (.slice (some ⟨G1, 0, none⟩) 1 cp1) (OK1.out _ rfl) w hm ht hg hr)
                  have A2 := hid (fun w hm ht hg hr => HAS.out [ds] (.slice (some ⟨G2, 0, none⟩) 1 cp2) (OK2.out _ rfl) w hm ht hg hr)
                  have A3 := hid (fun v w hm ht hg hr => HAS.out [cs ++ ds] v (OK3.out _ rfl) w hm ht hg hr)
                  rw [rngHas_one] at A1 A2
                  have R3 := hid (show rngHas [cs ++ ds] x y z q = (altHas cs x y z q && altHas ds x y z q) by rw [rngHas_one, hq, altHas_app])
                  generalize rngHas [cs ++ ds] x y z q = h3 at A3 R3
                  generalize altHas cs x y z q = h1 at A1 R3
                  generalize altHas ds x y z q = h2 at A2 R3
                  have hra := hid (hr1.out _ rfl)
                  have hrb := hid (hr2.out _ rfl)
                  clear YES OK1 OK2 OK3 hr1 hr2 M1 M2 HPD HAS P1 P2 HV hf1 hf2 hf3 hqn hOkV hq YE
                  refine wp_region_quiet_below (by kernel_rfl) (by kernel_rfl) ?_
                  repeat (go_big_quiet_step (with_reducible exact qP.out _ _))
                  refine wpQuiet_nil ?_
                  intro _ hw'
                  obtain ⟨⟨dq, osq⟩, hw''⟩ := hw'
                  subst hw''
                  show Exit.then _ _ Exit.normal _ (grow (redrawn W4 dq) osq)
                  have hbz := hid (B.out dq osq)
                  have al4 := hid (below_regrown W4 dq osq)
                  replace v1 := hid (v1.out.below al4.out)
                  replace v2 := hid (v2.out.below al4.out)
                  replace v4 := hid (v4.out.below al4.out)
                  replace hra := hid (hra.out.below al4.out)
                  replace hrb := hid (hrb.out.below al4.out)
                  clear qP r1 r2 r4 k1 k2 B al4 z4
                  generalize grow (redrawn W4 dq) osq = W5 at hbz v1 v2 v4 hra hrb ⊢
                  go_wp2_with fail
                  refine (P3.out _ (hm.below hbz.out) (hg.below hbz.out)).mono ?_
                  rintro e w6 ⟨oa3, m3, cp3, rfl, hb6, _, hr3⟩
                  replace hr3 := hid ((hr3 _ rfl).2.below (below_alloc (Below.refl w6.heap.size w6) (.cells #[.slice oa3 m3 cp3] 25)))
                  have z6 := hid (below_alloc (below_trans hbz.out hb6) (.cells #[.slice oa3 m3 cp3] 25))
                  have al6 := hid (below_trans hb6 (below_alloc (Below.refl w6.heap.size w6) (.cells #[.slice oa3 m3 cp3] 25)))
                  have v3 := hid (Blk.new w6 [.slice oa3 m3 cp3] 25)
                  replace v1 := hid (v1.out.below al6.out)
                  replace v2 := hid (v2.out.below al6.out)
                  replace v4 := hid (v4.out.below al6.out)
                  replace hra := hid (hra.out.below al6.out)
                  replace hrb := hid (hrb.out.below al6.out)
                  clear hb6 al6 hbz P3
                  go_wp2_with fail
                  generalize w6.alloc (.cells [.slice oa3 m3 cp3].toArray 25) = W6 at hr3 z6 v3 v1 v2 v4 hra hrb ⊢
                  generalize w6.heap.size = b6' at v3 ⊢
                  have B := hid (fun d os => below_trans z6.out (below_regrown W6 d os))
                  have q1 := hid (show ∀ d os, Calls Tryz.prog 19 #[.agg #[.slice (some ⟨G1, 0, none⟩) 1 cp1], .agg #[.int .i64 (x : Int), .int .i64 (y : Int), .int .i64 (z : Int), .string Q]] (grow (redrawn W6 d) os) fun e w'' => e = .returned (.bool h1) ∧ ∃ p : Regrown, w'' = grow (redrawn W6 p.d) p.os from fun d os => Calls.regrown_of (A1.out _ (hm.below (B.out d os)) (ht.below (B.out d os)) (hg.below (B.out d os)) (hra.out.below (below_regrown W6 d os))))
                  have q2 := hid (show ∀ d os, Calls Tryz.prog 19 #[.agg #[.slice (some ⟨G2, 0, none⟩) 1 cp2], .agg #[.int .i64 (x : Int), .int .i64 (y : Int), .int .i64 (z : Int), .string Q]] (grow (redrawn W6 d) os) fun e w'' => e = .returned (.bool h2) ∧ ∃ p : Regrown, w'' = grow (redrawn W6 p.d) p.os from fun d os => Calls.regrown_of (A2.out _ (hm.below (B.out d os)) (ht.below (B.out d os)) (hg.below (B.out d os)) (hrb.out.below (below_regrown W6 d os))))
                  have q3 := hid (show ∀ d os, Calls Tryz.prog 19 #[.agg #[.slice oa3 m3 cp3], .agg #[.int .i64 (x : Int), .int .i64 (y : Int), .int .i64 (z : Int), .string Q]] (grow (redrawn W6 d) os) fun e w'' => e = .returned (.bool h3) ∧ ∃ p : Regrown, w'' = grow (redrawn W6 p.d) p.os from fun d os => Calls.regrown_of (A3.out _ _ (hm.below (B.out d os)) (ht.below (B.out d os)) (hg.below (B.out d os)) (hr3.out.below (below_regrown W6 d os))))
                  have r1 := cell_regrown (v1.out.cell 0 rfl)
                  have r2 := cell_regrown (v2.out.cell 0 rfl)
                  have r3 := cell_regrown (v3.out.cell 0 rfl)
                  have r4 := cell_regrown (v4.out.cell 0 rfl)
                  have r5 := cell_regrown (v4.out.cell 1 rfl)
                  have r6 := cell_regrown (v4.out.cell 2 rfl)
                  have r7 := cell_regrown (v4.out.cell 3 rfl)
                  clear A1 A2 A3 hra hrb hr3 v1 v2 v3 v4
                  obtain rfl := R3.out
                  clear R3
                  cases h1 <;> cases h2
                  all_goals
                    refine wp_region_quiet_below (by kernel_rfl) (by kernel_rfl) ?_
                    repeat (quiet_step (first | with_reducible exact q1.out _ _ | with_reducible exact q2.out _ _ | with_reducible exact q3.out _ _))
                    refine wpQuiet_nil ?_
                    intro _ hw'
                    obtain ⟨⟨dq, osq⟩, hw''⟩ := hw'
                    subst hw''
                    show Exit.then _ _ Exit.normal _ (grow (redrawn W6 dq) osq)
                    have hbz := B.out dq osq
                    clear q1 q2 q3 r1 r2 r3 r4 r5 r6 r7 B
                    generalize grow (redrawn W6 dq) osq = W7 at hbz ⊢
                    go_wp2_with fail
                    go_ret
                    exact ⟨rfl, hbz⟩
                · have hqt : (Q.toList == []) = false := by rw [hqn.out, decide_eq_false hq]
                  clear hq YE
                  clear YES OK1 OK2 OK3 hr1 hr2 M1 M2 HAS P1 P2 P3 HV hf1 hf2 hf3 hqn hOkV v1 v2 v4 z4
                  refine wp_region_quiet_below (by kernel_rfl) (by kernel_rfl) ?_
                  repeat (go_big_quiet_step (with_reducible exact qP.out _ _))
                  refine wpQuiet_nil ?_
                  intro _ hw'
                  obtain ⟨⟨dq, osq⟩, hw''⟩ := hw'
                  subst hw''
                  show Exit.then _ _ Exit.normal _ (grow (redrawn W4 dq) osq)
                  have hbz := hid (B.out dq osq)
                  clear qP r1 r2 r4 B
                  generalize grow (redrawn W4 dq) osq = W5 at hbz ⊢
                  go_wp2_with fail
                  refine (HPD.out _ (hm.below hbz.out) (ht.below hbz.out) (hg.below hbz.out)).mono ?_
                  rintro e w6 ⟨rfl, hb6⟩
                  go_wp2_with fail
                  go_ret
                  exact ⟨rfl, below_trans hbz.out hb6⟩
          · have l2 : ((m2 : Int) != 1) = true := by simp; omega
            clear hy1 e1 e2
            clear YES OK1 OK2 OK3 hr1 hr2 M1 M2 HAS P1 P2 P3 HV hf1 hf2 hf3 hqn hOkV v1 v2 v4 z4
            refine wp_region_quiet_below (by kernel_rfl) (by kernel_rfl) ?_
            repeat (go_big_quiet_step (with_reducible exact qP.out _ _))
            refine wpQuiet_nil ?_
            intro _ hw'
            obtain ⟨⟨dq, osq⟩, hw''⟩ := hw'
            subst hw''
            show Exit.then _ _ Exit.normal _ (grow (redrawn W4 dq) osq)
            have hbz := hid (B.out dq osq)
            clear qP r1 r2 r4 B
            generalize grow (redrawn W4 dq) osq = W5 at hbz ⊢
            go_wp2_with fail
            refine (HPD.out _ (hm.below hbz.out) (ht.below hbz.out) (hg.below hbz.out)).mono ?_
            rintro e w6 ⟨rfl, hb6⟩
            go_wp2_with fail
            go_ret
            exact ⟨rfl, below_trans hbz.out hb6⟩
        · have l1 : ((m1 : Int) != 1) = true := by simp; omega
          clear hx1 e1 e2
          clear YES OK1 OK2 OK3 hr1 hr2 M1 M2 HAS P1 P2 P3 HV hf1 hf2 hf3 hqn hOkV v1 v2 v4 z4
          refine wp_region_quiet_below (by kernel_rfl) (by kernel_rfl) ?_
          repeat (go_big_quiet_step (with_reducible exact qP.out _ _))
          refine wpQuiet_nil ?_
          intro _ hw'
          obtain ⟨⟨dq, osq⟩, hw''⟩ := hw'
          subst hw''
          show Exit.then _ _ Exit.normal _ (grow (redrawn W4 dq) osq)
          have hbz := hid (B.out dq osq)
          clear qP r1 r2 r4 B
          generalize grow (redrawn W4 dq) osq = W5 at hbz ⊢
          go_wp2_with fail
          refine (HPD.out _ (hm.below hbz.out) (ht.below hbz.out) (hg.below hbz.out)).mono ?_
          rintro e w6 ⟨rfl, hb6⟩
          go_wp2_with fail
          go_ret
          exact ⟨rfl, below_trans hbz.out hb6⟩
end Go.Proofs.YtjiofenpalokoaaGreatDoor.Sp
