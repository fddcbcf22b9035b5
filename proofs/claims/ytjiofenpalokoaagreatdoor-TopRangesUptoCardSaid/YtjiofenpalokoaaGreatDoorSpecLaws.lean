/-
  LAYER 4: general contracts for the laws.
-/
import Derived.Test.YtjiofenpalokoaaGreatDoorSpecTaken
namespace Go.Proofs.YtjiofenpalokoaaGreatDoor.Sp
open Go.RowKit Go.Sort
open Go.Proofs.YtjiofenpalokoaaGreatDoor Go.Proofs.YtjiofenpalokoaaGreatDoor.Nu Go.Proofs.YtjiofenpalokoaaGreatDoor.Vs

/-- what a range's text is parsed as: a range, or none -/
def RngO (o : Option (List (List CompT))) (f : Bool) (w : World) (e : Ending) (w' : World) : Prop :=
  ∃ oa n cp, e = .returned (.tuple #[.agg #[.slice oa n cp], .bool f]) ∧ Below w.heap.size w w' ∧ (o = none → oa = none ∧ n = 0 ∧ cp = 0) ∧ ∀ rs, o = some rs → n = rs.length ∧ RngAt w' (.slice oa n cp) rs
theorem parse_o (s : ByteArray) (hs : s.size < 4294967281) (w : World) (hm : MaxAt w) (hg : SignsAt w) :
    Calls Tryz.prog 12 #[.string s] w (RngO (rngOf s.data.toList) (rngOf s.data.toList).isSome w) := by
  cases h : rngOf s.data.toList with
  | none =>
    refine (parse_none s hs h w hm hg).mono ?_
    rintro e w' ⟨rfl, hb⟩
    exact ⟨none, 0, 0, rfl, hb, fun _ => ⟨rfl, rfl, rfl⟩, fun rs h => by cases h⟩
  | some rs =>
    refine (parse_some s hs h w hm hg).mono ?_
    rintro e w' ⟨G, cp, rfl, hb, hr⟩
    exact ⟨_, _, _, rfl, hb, (fun h => nomatch h), fun rs' h' => by injection h' with e; subst e; exact ⟨rfl, hr⟩⟩

theorem allOf_none_l {α β : Type} {f : α → Option β} {l m : List α} (h : allOf f l = none) : allOf f (l ++ m) = none := by rw [allOf_app, h]
theorem allOf_none_r {α β : Type} {f : α → Option β} {l m : List α} (h : allOf f m = none) : allOf f (l ++ m) = none := by
  rw [allOf_app, h]
  cases allOf f l <;> rfl
/-- what is joined by a stroke is a range only if both are -/
theorem rngOf_none {s t : List UInt8} (h : rngOf s = none ∨ rngOf t = none) : rngOf (s ++ 124 :: t) = none := by
  unfold rngOf at *
  rw [cutl_app t _ s (Nat.le_refl _)]
  by_cases hc : (s ++ 124 :: t).length ≤ 80 ∧ (cutl 124 s ++ cutl 124 t).length ≤ 4
  · rw [if_pos hc]
    simp only [List.length_append, List.length_cons] at hc
    rw [if_pos ⟨by omega, by omega⟩, if_pos ⟨by omega, by omega⟩] at h
    rcases h with h | h
    · exact allOf_none_l h
    · exact allOf_none_r h
  · rw [if_neg hc]
theorem rngOf_len {s : List UInt8} {rs : List (List CompT)} (h : rngOf s = some rs) : (cutl 124 s).length = rs.length := by
  unfold rngOf at h
  split at h
  · exact (allOf_len h).symm
  · cases h
theorem rngOf_both {s t : List UInt8} {xs ys : List (List CompT)} (hs : rngOf s = some xs) (ht : rngOf t = some ys) (hl : s.length + t.length ≤ 79) (h4 : xs.length + ys.length ≤ 4) : rngOf (s ++ 124 :: t) = some (xs ++ ys) := by
  rw [rngOf_join hl (by rw [rngOf_len hs, rngOf_len ht]; exact h4), hs, ht]
theorem cat_data (s t : ByteArray) (c : UInt8) : (s ++ ⟨#[c]⟩ ++ t).data.toList = s.data.toList ++ c :: t.data.toList := by
  simp [ByteArray.data_append]

set_option maxRecDepth 20000 in
set_option maxHeartbeats 8000000 in
theorem law_joins (s t u : ByteArray) (w : World) (hm : MaxAt w) (ht : TenAt w) (hg : SignsAt w) :
    Calls Tryz.prog 7 #[.string s, .string t, .string u] w fun e w' => e = .returned (.bool true) ∧ Below w.heap.size w w' := by
  have HPD := hid taken_any
  have BIG : ∀ (h : (100 : Int) < s.size ∨ ((s.size : Int) ≤ 100 ∧ (100 : Int) < t.size) ∨ ((s.size : Int) ≤ 100 ∧ (t.size : Int) ≤ 100 ∧ (100 : Int) < u.size)), Calls Tryz.prog 7 #[.string s, .string t, .string u] w fun e w' => e = .returned (.bool true) ∧ Below w.heap.size w w' := by
    intro h
    rcases h with h | ⟨h, k⟩ | ⟨h, k, j⟩
    all_goals
      go_enter Tryz.func7, Tryz.ntmps7
      go_wp2_with (go_at_call 11; (with_reducible refine (HPD.out _ hm ht hg).mono ?_); rintro e w1 ⟨rfl, hb1⟩)
      go_ret
      exact ⟨rfl, hb1⟩
  by_cases hbig : (100 : Int) < s.size ∨ ((s.size : Int) ≤ 100 ∧ (100 : Int) < t.size) ∨ ((s.size : Int) ≤ 100 ∧ (t.size : Int) ≤ 100 ∧ (100 : Int) < u.size)
  · exact BIG hbig
  · clear BIG
    have h100 : (s.size : Int) ≤ 100 := by omega
    have h101 : (t.size : Int) ≤ 100 := by omega
    have h102 : (u.size : Int) ≤ 100 := by omega
    clear hbig
    obtain ⟨x, y, z, q, lx, ly, lz, Kq, _, HV⟩ := of_v u (by omega)
    replace HV := hid HV
    have hOkV := hid (show OkV x y z q from ⟨lx, ly, lz, Kq.2⟩)
    have P1 := hid (parse_o s (by omega))
    have P2 := hid (parse_o t (by omega))
    have hXs : (s ++ ⟨#[124]⟩ ++ t).size = s.size + 1 + t.size := by
      rw [ByteArray.size_append, ByteArray.size_append]; rfl
    have P3 := hid (parse_o (s ++ ⟨#[124]⟩ ++ t) (by omega))
    rw [cat_data] at P3
    have hls := lenS s
    have hlt := lenS t
    have NO := hid (@rngOf_none s.data.toList t.data.toList)
    have YES := hid (fun xs ys hs ht hl h4 => @rngOf_both s.data.toList t.data.toList xs ys hs ht hl h4)
    rw [hls, hlt] at YES
    have OK1 := hid (fun rs (h : rngOf s.data.toList = some rs) => (rngOf_ok h).2)
    have OK2 := hid (fun rs (h : rngOf t.data.toList = some rs) => (rngOf_ok h).2)
    have OK3 := hid (fun rs (h : rngOf (s.data.toList ++ 124 :: t.data.toList) = some rs) => (rngOf_ok h).2)
    have n1 : ¬ 9223372036854775807 < s.size + 1 := by omega
    have n2 : ¬ 9223372036854775807 < s.size + 1 + t.size := by omega
    have HAS := hid (fun rs v hok w hm ht hg hr => hasR_any rs v hok x y z q hOkV.out w hm ht hg hr)
    clear hls hlt hXs lx ly lz Kq
    generalize rngOf (s.data.toList ++ 124 :: t.data.toList) = o3 at *
    generalize rngOf s.data.toList = o1 at *
    generalize rngOf t.data.toList = o2 at *
    generalize hf1 : o1.isSome = f1 at P1
    generalize hf2 : o2.isSome = f2 at P2
    generalize hf3 : o3.isSome = f3 at P3
    replace hf1 := hid hf1
    replace hf2 := hid hf2
    replace hf3 := hid hf3
    go_enter Tryz.func7, Tryz.ntmps7
    go_wp2_with fail
    refine (P1.out _ hm hg).mono ?_
    rintro e w1 ⟨oa1, m1, cp1, rfl, hb1, N1, hr1⟩
    have z1 := hid (below_alloc hb1 (.cells #[.slice oa1 m1 cp1] 25))
    have v1 := hid (Blk.new w1 [.slice oa1 m1 cp1] 25)
    have M1 := hid (fun rs h => (hr1 rs h).1)
    replace hr1 := hid (fun rs h => (hr1 rs h).2.below (below_alloc (Below.refl w1.heap.size w1) (.cells #[.slice oa1 m1 cp1] 25)))
    clear hb1 N1
    go_wp2_with fail
    generalize w1.alloc (.cells [.slice oa1 m1 cp1].toArray 25) = W1 at v1 hr1 z1 ⊢
    generalize w1.heap.size = b1' at v1 ⊢
    refine (P2.out _ (hm.below z1.out) (hg.below z1.out)).mono ?_
    rintro e w2 ⟨oa2, m2, cp2, rfl, hb2, N2, hr2⟩
    have z2 := hid (below_alloc (below_trans z1.out hb2) (.cells #[.slice oa2 m2 cp2] 25))
    have v2 := hid (Blk.new w2 [.slice oa2 m2 cp2] 25)
    have M2 := hid (fun rs h => (hr2 rs h).1)
    replace hr2 := hid (fun rs h => (hr2 rs h).2.below (below_alloc (Below.refl w2.heap.size w2) (.cells #[.slice oa2 m2 cp2] 25)))
    replace v1 := hid ((v1.out.below hb2).alloc (.cells #[.slice oa2 m2 cp2] 25))
    replace hr1 := hid (fun rs h => ((hr1.out rs h).below hb2).below (below_alloc (Below.refl w2.heap.size w2) (.cells #[.slice oa2 m2 cp2] 25)))
    clear hb2 N2 z1
    go_wp2_with fail
    generalize w2.alloc (.cells [.slice oa2 m2 cp2].toArray 25) = W2 at v1 hr1 v2 hr2 z2 ⊢
    generalize w2.heap.size = b2' at v2 ⊢
    refine (P3.out _ (hm.below z2.out) (hg.below z2.out)).mono ?_
    rintro e w3 ⟨oa3, m3, cp3, rfl, hb3, N3, hr3⟩
    have z3 := hid (below_alloc (below_trans z2.out hb3) (.cells #[.slice oa3 m3 cp3] 25))
    have v3 := hid (Blk.new w3 [.slice oa3 m3 cp3] 25)
    have M3 := hid (fun rs h => (hr3 rs h).1)
    replace hr3 := hid (fun rs h => (hr3 rs h).2.below (below_alloc (Below.refl w3.heap.size w3) (.cells #[.slice oa3 m3 cp3] 25)))
    replace v1 := hid ((v1.out.below hb3).alloc (.cells #[.slice oa3 m3 cp3] 25))
    replace hr1 := hid (fun rs h => ((hr1.out rs h).below hb3).below (below_alloc (Below.refl w3.heap.size w3) (.cells #[.slice oa3 m3 cp3] 25)))
    replace v2 := hid ((v2.out.below hb3).alloc (.cells #[.slice oa3 m3 cp3] 25))
    replace hr2 := hid (fun rs h => ((hr2.out rs h).below hb3).below (below_alloc (Below.refl w3.heap.size w3) (.cells #[.slice oa3 m3 cp3] 25)))
    clear hb3 N3 z2
    go_wp2_with fail
    generalize w3.alloc (.cells [.slice oa3 m3 cp3].toArray 25) = W3 at v1 hr1 v2 hr2 v3 hr3 z3 ⊢
    generalize w3.heap.size = b3' at v3 ⊢
    refine (HV.out _ (hm.below z3.out)).mono ?_
    rintro e w4 ⟨pa, pc, rfl, _, hb4⟩
    have z4 := hid (below_alloc (below_alloc (below_trans z3.out hb4) (.cells #[.int .i64 (x : Int), .int .i64 (y : Int), .int .i64 (z : Int), .string ⟨q.toArray⟩] 38)) (.cells #[.int .i64 (x : Int), .int .i64 (y : Int), .int .i64 (z : Int), .slice pa (rows q).length pc] 45))
    have al4 := hid (below_alloc (below_alloc (Below.refl w4.heap.size w4) (.cells #[.int .i64 (x : Int), .int .i64 (y : Int), .int .i64 (z : Int), .string ⟨q.toArray⟩] 38)) (.cells #[.int .i64 (x : Int), .int .i64 (y : Int), .int .i64 (z : Int), .slice pa (rows q).length pc] 45))
    have v4 := hid (two_blk w4 [.int .i64 (x : Int), .int .i64 (y : Int), .int .i64 (z : Int), .string ⟨q.toArray⟩] [.int .i64 (x : Int), .int .i64 (y : Int), .int .i64 (z : Int), .slice pa (rows q).length pc] 38 45).1
    replace v1 := hid ((v1.out.below hb4).below al4.out)
    replace hr1 := hid (fun rs h => ((hr1.out rs h).below hb4).below al4.out)
    replace v2 := hid ((v2.out.below hb4).below al4.out)
    replace hr2 := hid (fun rs h => ((hr2.out rs h).below hb4).below al4.out)
    replace v3 := hid ((v3.out.below hb4).below al4.out)
    replace hr3 := hid (fun rs h => ((hr3.out rs h).below hb4).below al4.out)
    clear hb4 al4 z3
    go_wp2_with fail
    generalize (w4.alloc (.cells #[.int .i64 (x : Int), .int .i64 (y : Int), .int .i64 (z : Int), .string ⟨q.toArray⟩] 38)).alloc (.cells #[.int .i64 (x : Int), .int .i64 (y : Int), .int .i64 (z : Int), .slice pa (rows q).length pc] 45) = W4 at v1 v2 v3 v4 hr1 hr2 hr3 z4 ⊢
    generalize w4.heap.size + 1 = b5' at *
    generalize w4.heap.size = b4' at v4 ⊢
    refine (HPD.out _ (hm.below z4.out) (ht.below z4.out) (hg.below z4.out)).mono ?_
    rintro e w5 ⟨rfl, hb5⟩
    replace v1 := hid (v1.out.below hb5)
    replace v2 := hid (v2.out.below hb5)
    replace v3 := hid (v3.out.below hb5)
    replace v4 := hid (v4.out.below hb5)
    replace hr1 := hid (fun rs h => (hr1.out rs h).below hb5)
    replace hr2 := hid (fun rs h => (hr2.out rs h).below hb5)
    replace hr3 := hid (fun rs h => (hr3.out rs h).below hb5)
    have z5 := hid (below_trans z4.out hb5)
    clear hb5 z4
    have TK := hid (HPD.out _ (hm.below z5.out) (ht.below z5.out) (hg.below z5.out))
    have g1 := v1.out.cell 0 rfl
    have g2 := v2.out.cell 0 rfl
    cases o1 with
    | none =>
      have e3 := NO.out (.inl rfl)
      subst e3
      obtain rfl : f1 = false := hf1.out.symm
      obtain rfl : f3 = false := hf3.out.symm
      clear YES OK1 OK2 OK3 hr1 hr2 hr3 M1 M2 M3 NO HPD HAS P1 P2 P3 HV
      go_wp2_with fail
      refine TK.out.mono ?_
      rintro e w6 ⟨rfl, hb6⟩
      go_wp2_with fail
      go_ret
      exact ⟨rfl, below_trans z5.out hb6⟩
    | some xs =>
      obtain rfl : f1 = true := hf1.out.symm
      cases o2 with
      | none =>
        have e3 := NO.out (.inr rfl)
        subst e3
        obtain rfl : f2 = false := hf2.out.symm
        obtain rfl : f3 = false := hf3.out.symm
        clear YES OK1 OK2 OK3 hr1 hr2 hr3 M1 M2 M3 NO HPD HAS P1 P2 P3 HV
        go_wp2_with fail
        refine TK.out.mono ?_
        rintro e w6 ⟨rfl, hb6⟩
        go_wp2_with fail
        go_ret
        exact ⟨rfl, below_trans z5.out hb6⟩
      | some ys =>
        obtain rfl : f2 = true := hf2.out.symm
        obtain rfl := M1.out xs rfl
        obtain rfl := M2.out ys rfl
        have lx4 := (OK1.out xs rfl).2.1
        have ly4 := (OK2.out ys rfl).2.1
        by_cases hl : (79 : Int) < (s.size : Int) + (t.size : Int)
        · clear YES OK1 OK2 OK3 hr1 hr2 hr3 M1 M2 M3 NO HPD HAS P1 P2 P3 HV hf1 hf2 hf3
          cases f3
          all_goals
            go_wp2_with fail
            refine TK.out.mono ?_
            rintro e w6 ⟨rfl, hb6⟩
            go_wp2_with fail
            go_ret
            exact ⟨rfl, below_trans z5.out hb6⟩
        · by_cases h4 : (4 : Int) < (xs.length : Int) + (ys.length : Int)
          · clear YES OK1 OK2 OK3 hr1 hr2 hr3 M1 M2 M3 NO HPD HAS P1 P2 P3 HV hf1 hf2 hf3
            cases f3
            all_goals
              go_wp2_with fail
              refine TK.out.mono ?_
              rintro e w6 ⟨rfl, hb6⟩
              go_wp2_with fail
              go_ret
              exact ⟨rfl, below_trans z5.out hb6⟩
          · have e3 := YES.out xs ys rfl rfl (by omega) (by omega)
            subst e3
            obtain rfl : f3 = true := hf3.out.symm
            have A1 := hid (fun w hm ht hg hr => HAS.out xs (.slice oa1 xs.length cp1) (OK1.out xs rfl) w hm ht hg hr)
            have A2 := hid (fun w hm ht hg hr => HAS.out ys (.slice oa2 ys.length cp2) (OK2.out ys rfl) w hm ht hg hr)
            have A3 := hid (fun w hm ht hg hr => HAS.out (xs ++ ys) (.slice oa3 m3 cp3) (OK3.out _ rfl) w hm ht hg hr)
            rw [rngHas_app] at A3
            replace hr1 := hid (hr1.out xs rfl)
            replace hr2 := hid (hr2.out ys rfl)
            replace hr3 := hid (hr3.out _ rfl)
            clear YES OK1 OK2 OK3 M1 M2 M3 NO HPD HAS P1 P2 P3 HV hf1 hf2 hf3 TK
            generalize rngHas xs x y z q = h1 at A1 A3
            generalize rngHas ys x y z q = h2 at A2 A3
            go_wp2_with fail
            have B := hid (fun d os => below_trans z5.out (below_regrown w5 d os))
            have q1 := hid (show ∀ d os, Calls Tryz.prog 19 #[.agg #[.slice oa1 xs.length cp1], .agg #[.int .i64 (x : Int), .int .i64 (y : Int), .int .i64 (z : Int), .string ⟨q.toArray⟩]] (grow (redrawn w5 d) os) fun e w'' => e = .returned (.bool h1) ∧ ∃ p : Regrown, w'' = grow (redrawn w5 p.d) p.os from fun d os => Calls.regrown_of (A1.out _ (hm.below (B.out d os)) (ht.below (B.out d os)) (hg.below (B.out d os)) (hr1.out.below (below_regrown w5 d os))))
            have q2 := hid (show ∀ d os, Calls Tryz.prog 19 #[.agg #[.slice oa2 ys.length cp2], .agg #[.int .i64 (x : Int), .int .i64 (y : Int), .int .i64 (z : Int), .string ⟨q.toArray⟩]] (grow (redrawn w5 d) os) fun e w'' => e = .returned (.bool h2) ∧ ∃ p : Regrown, w'' = grow (redrawn w5 p.d) p.os from fun d os => Calls.regrown_of (A2.out _ (hm.below (B.out d os)) (ht.below (B.out d os)) (hg.below (B.out d os)) (hr2.out.below (below_regrown w5 d os))))
            have q3 := hid (show ∀ d os, Calls Tryz.prog 19 #[.agg #[.slice oa3 m3 cp3], .agg #[.int .i64 (x : Int), .int .i64 (y : Int), .int .i64 (z : Int), .string ⟨q.toArray⟩]] (grow (redrawn w5 d) os) fun e w'' => e = .returned (.bool (h1 || h2)) ∧ ∃ p : Regrown, w'' = grow (redrawn w5 p.d) p.os from fun d os => Calls.regrown_of (A3.out _ (hm.below (B.out d os)) (ht.below (B.out d os)) (hg.below (B.out d os)) (hr3.out.below (below_regrown w5 d os))))
            have r1 := cell_regrown (v1.out.cell 0 rfl)
            have r2 := cell_regrown (v2.out.cell 0 rfl)
            have r3 := cell_regrown (v3.out.cell 0 rfl)
            have r4 := cell_regrown (v4.out.cell 0 rfl)
            have r5 := cell_regrown (v4.out.cell 1 rfl)
            have r6 := cell_regrown (v4.out.cell 2 rfl)
            have r7 := cell_regrown (v4.out.cell 3 rfl)
            clear g1 g2 A1 A2 A3 hr1 hr2 hr3 v1 v2 v3 v4
            cases h1 <;> cases h2
            all_goals
              refine wp_region_quiet_below (by kernel_rfl) (by kernel_rfl) ?_
              repeat (quiet_step (first | with_reducible exact q1.out _ _ | with_reducible exact q2.out _ _ | with_reducible exact q3.out _ _))
              refine wpQuiet_nil ?_
              intro _ hw'
              obtain ⟨⟨dq, osq⟩, hw''⟩ := hw'
              subst hw''
              show Exit.then _ _ Exit.normal _ (grow (redrawn w5 dq) osq)
              have hbz := B.out dq osq
              clear q1 q2 q3 r1 r2 r3 r4 r5 r6 r7 B
              generalize grow (redrawn w5 dq) osq = W6 at hbz ⊢
              go_wp2_with fail
              go_ret
              exact ⟨rfl, hbz⟩
end Go.Proofs.YtjiofenpalokoaaGreatDoor.Sp
