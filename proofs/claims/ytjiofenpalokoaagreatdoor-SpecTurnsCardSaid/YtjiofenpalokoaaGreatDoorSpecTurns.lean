/-
  LAYER 4, THE LAW SpecTurns.
-/
import Derived.Test.YtjiofenpalokoaaGreatDoorSpecLaws
import Derived.Test.YtjiofenpalokoaaGreatDoorSpecSign
namespace Go.Proofs.YtjiofenpalokoaaGreatDoor.Sp
open Go.RowKit Go.Sort
open Go.Proofs.YtjiofenpalokoaaGreatDoor Go.Proofs.YtjiofenpalokoaaGreatDoor.Nu Go.Proofs.YtjiofenpalokoaaGreatDoor.Vs

def boolsTo (K : Int) (k : Nat) : List Value := (List.range k).map fun i => .bool (okOp (opI i) K)
theorem boolsTo_succ (K : Int) (k : Nat) : boolsTo K (k + 1) = boolsTo K k ++ [.bool (okOp (opI k) K)] := by
  unfold boolsTo; rw [List.range_succ, List.map_append]; rfl
theorem boolsTo_at {K : Int} {k j : Nat} (h : j < k) : (boolsTo K k)[j]? = some (.bool (okOp (opI j) K)) := by
  unfold boolsTo; rw [List.getElem?_map, List.getElem?_range h]; rfl
theorem infoBl : (Tryz.prog.info? 4).map (fun i => (i.zero, i.size, i.bytes)) = some (some (.bool false), 1, 1) := by kernel_rfl
def signL : List (List UInt8) := [[61], [33, 61], [60], [62, 61], [62], [60, 61]]
theorem signL_at {k : Nat} (h : k < 6) : signL.getD k [] = sgn (opI k) := by
  have ways : k = 0 ∨ k = 1 ∨ k = 2 ∨ k = 3 ∨ k = 4 ∨ k = 5 := by omega
  rcases ways with rfl | rfl | rfl | rfl | rfl | rfl <;> rfl
theorem sign_size {k : Nat} (h : k < 6) : (⟨(sgn (opI k)).toArray⟩ : ByteArray).size ≤ 2 := by
  have ways : k = 0 ∨ k = 1 ∨ k = 2 ∨ k = 3 ∨ k = 4 ∨ k = 5 := by omega
  rcases ways with rfl | rfl | rfl | rfl | rfl | rfl <;> decide

def oneR (l : List UInt8) (k : Nat) : List (List CompT) := [[ofV (opI k) l]]

set_option maxRecDepth 20000 in
set_option maxHeartbeats 4000000 in
theorem law_turns (s t : ByteArray) (w : World) (hm : MaxAt w) (ht : TenAt w) (hg : SignsAt w) :
    Calls Tryz.prog 9 #[.string s, .string t] w fun e w' => e = .returned (.bool true) ∧ Below w.heap.size w w' := by
  have HPD := hid taken_any
  have BIG : ∀ (h : (30 : Int) < s.size ∨ ((s.size : Int) ≤ 30 ∧ (100 : Int) < t.size)), Calls Tryz.prog 9 #[.string s, .string t] w fun e w' => e = .returned (.bool true) ∧ Below w.heap.size w w' := by
    intro h
    rcases h with h | ⟨h, k⟩
    all_goals
      go_enter Tryz.func9, Tryz.ntmps9
      go_wp2_with (go_at_call 11; (with_reducible refine (HPD.out _ hm ht hg).mono ?_); rintro e w1 ⟨rfl, hb1⟩)
      go_ret
      exact ⟨rfl, hb1⟩
  by_cases hbig : (30 : Int) < s.size ∨ ((s.size : Int) ≤ 30 ∧ (100 : Int) < t.size)
  · exact BIG hbig
  · clear BIG
    have h100 : (s.size : Int) ≤ 30 := by omega
    have h101 : (t.size : Int) ≤ 100 := by omega
    clear hbig
    obtain ⟨x, y, z, q, lx, ly, lz, Kq, _, HV⟩ := of_v t (by omega)
    replace HV := hid HV
    have hOkV := hid (show OkV x y z q from ⟨lx, ly, lz, Kq.2⟩)
    have P1 := hid (parse_any s (by omega))
    have hls := lenS s
    have es : (⟨s.data.toList.toArray⟩ : ByteArray) = s := by simp
    have hqn := hid (list_nil q)
    cases hv : verV s.data.toList
    · have hT : parseT s.data.toList = .tuple #[.agg #[.int .i64 0, .int .i64 0, .int .i64 0, .string ⟨#[]⟩], .bool false] := by unfold parseT; rw [hv]; rfl
      rw [hT] at P1
      clear hT hv es hls hqn hOkV Kq lx ly lz
      generalize (⟨q.toArray⟩ : ByteArray) = Q at HV
      go_enter Tryz.func9, Tryz.ntmps9
      go_wp2_with fail
      refine (P1.out _ hm).mono ?_
      rintro e w1 ⟨rfl, hb1⟩
      have z1 := hid (below_alloc hb1 (.cells #[.int .i64 0, .int .i64 0, .int .i64 0, .string ⟨#[]⟩] 38))
      clear hb1
      go_wp2_with fail
      generalize w1.alloc (.cells #[.int .i64 0, .int .i64 0, .int .i64 0, .string ⟨#[]⟩] 38) = W1 at z1 ⊢
      refine (HV.out _ (hm.below z1.out)).mono ?_
      rintro e w2 ⟨pa, pc, rfl, _, hb2⟩
      have z2 := hid (below_alloc (below_alloc (below_trans z1.out hb2) (.cells #[.int .i64 (x : Int), .int .i64 (y : Int), .int .i64 (z : Int), .string Q] 38)) (.cells #[.int .i64 (x : Int), .int .i64 (y : Int), .int .i64 (z : Int), .slice pa (rows q).length pc] 45))
      clear hb2 z1
      go_wp2_with fail
      refine (HPD.out _ (hm.below z2.out) (ht.below z2.out) (hg.below z2.out)).mono ?_
      rintro e w3 ⟨rfl, hb3⟩
      have z3 := hid (below_trans z2.out hb3)
      clear hb3
      go_wp2_with fail
      refine (HPD.out _ (hm.below z3.out) (ht.below z3.out) (hg.below z3.out)).mono ?_
      rintro e w4 ⟨rfl, hb4⟩
      go_wp2_with fail
      go_ret
      exact ⟨rfl, below_trans z3.out hb4⟩
    · obtain ⟨tx, l0, l1, l2, hpp, _⟩ := text_of hv
      have hT : parseT s.data.toList = .tuple #[.agg #[.int .i64 (nth s.data.toList 0 : Int), .int .i64 (nth s.data.toList 1 : Int), .int .i64 (nth s.data.toList 2 : Int), .string ⟨(aft 45 s.data.toList).toArray⟩], .bool true] := by unfold parseT; rw [hv]; rfl
      rw [hT] at P1
      have HX := hid (fun w hm ht => text_yes (nth s.data.toList 0) (nth s.data.toList 1) (nth s.data.toList 2) (aft 45 s.data.toList) (by have := pre_len hpp; omega) l0 l1 l2 hpp w hm ht)
      rw [tx, es] at HX
      have HCM := hid (show ∀ w, MaxAt w → Calls Tryz.prog 26 #[.agg #[.int .i64 (x : Int), .int .i64 (y : Int), .int .i64 (z : Int), .string ⟨q.toArray⟩], .agg #[.int .i64 (nth s.data.toList 0 : Int), .int .i64 (nth s.data.toList 1 : Int), .int .i64 (nth s.data.toList 2 : Int), .string ⟨(aft 45 s.data.toList).toArray⟩]] w (Gives (.int .i64 (cmpV [x, y, z] [nth s.data.toList 0, nth s.data.toList 1, nth s.data.toList 2] q (aft 45 s.data.toList))) w) from fun w hm => compare_any x y z (nth s.data.toList 0) (nth s.data.toList 1) (nth s.data.toList 2) q (aft 45 s.data.toList) Kq (okPre_of hpp) w hm)
      have HP := hid (show ∀ k, k < 6 → ∀ w, MaxAt w → SignsAt w → Calls Tryz.prog 12 #[.string (⟨(sgn (opI k)).toArray⟩ ++ s)] w (SomeRng 1 (oneR s.data.toList k) w) from fun k hk w hm hg => by
        have hz : ((⟨(sgn (opI k)).toArray⟩ : ByteArray) ++ s).size < 4294967281 := by rw [ByteArray.size_append]; have := sign_size hk; omega
        have hd : rngOf ((⟨(sgn (opI k)).toArray⟩ : ByteArray) ++ s).data.toList = some [[ofV (opI k) s.data.toList]] := by
          rw [ByteArray.data_append]; simp only [Array.toList_append]; exact rngOf_sign hv (by omega) hk
        have := parse_some _ hz hd w hm hg
        exact this)
      have HH := hid (show q = [] → ∀ k, k < 6 → ∀ v w, MaxAt w → TenAt w → SignsAt w → RngAt w v (oneR s.data.toList k) → Calls Tryz.prog 19 #[.agg #[v], .agg #[.int .i64 (x : Int), .int .i64 (y : Int), .int .i64 (z : Int), .string ⟨q.toArray⟩]] w (Gives (.bool (okOp (opI k) (cmpV [x, y, z] [nth s.data.toList 0, nth s.data.toList 1, nth s.data.toList 2] q (aft 45 s.data.toList)))) w) from fun hq k hk v w hm ht hg hr => by
        have := hasR_any [[ofV (opI k) s.data.toList]] v (rngOf_ok (rngOf_sign hv (by omega) hk)).2 x y z q hOkV.out w hm ht hg hr
        have hR : rngHas [[ofV (opI k) s.data.toList]] x y z q = okOp (opI k) (cmpV [x, y, z] [nth s.data.toList 0, nth s.data.toList 1, nth s.data.toList 2] q (aft 45 s.data.toList)) := by rw [hq]; exact rngHas_sign hk x y z
        rw [hR] at this
        exact this)
      have HK := hid ((cmpV_cmp).vals ([x, y, z], q) ([nth s.data.toList 0, nth s.data.toList 1, nth s.data.toList 2], aft 45 s.data.toList))
      simp only at HK
      have hq0 := hid (show q = [] ∨ q ≠ [] by by_cases h : q = [] <;> simp [h])
      clear hT hls es tx l0 l1 l2 hpp lx ly lz Kq hv hOkV
      generalize cmpV [x, y, z] [nth s.data.toList 0, nth s.data.toList 1, nth s.data.toList 2] q (aft 45 s.data.toList) = K at HCM HH HK
      generalize oneR s.data.toList = RS at HP HH
      generalize (nth s.data.toList 0 : Int) = a at *
      generalize (nth s.data.toList 1 : Int) = b at *
      generalize (nth s.data.toList 2 : Int) = c at *
      generalize (⟨(aft 45 s.data.toList).toArray⟩ : ByteArray) = PT at *
      generalize (⟨q.toArray⟩ : ByteArray) = Q at *
      go_enter Tryz.func9, Tryz.ntmps9
      go_wp2_with fail
      refine (P1.out _ hm).mono ?_
      rintro e w1 ⟨rfl, hb1⟩
      have z1 := hid (below_alloc hb1 (.cells #[.int .i64 a, .int .i64 b, .int .i64 c, .string PT] 38))
      have v1 := hid (Blk.new w1 [.int .i64 a, .int .i64 b, .int .i64 c, .string PT] 38)
      clear hb1
      go_wp2_with fail
      generalize w1.alloc (.cells [.int .i64 a, .int .i64 b, .int .i64 c, .string PT].toArray 38) = W1 at z1 v1 ⊢
      generalize w1.heap.size = b1' at v1 ⊢
      refine (HV.out _ (hm.below z1.out)).mono ?_
      rintro e w2 ⟨pa, pc, rfl, _, hb2⟩
      have al2 := hid (below_alloc (below_alloc (Below.refl w2.heap.size w2) (.cells #[.int .i64 (x : Int), .int .i64 (y : Int), .int .i64 (z : Int), .string Q] 38)) (.cells #[.int .i64 (x : Int), .int .i64 (y : Int), .int .i64 (z : Int), .slice pa (rows q).length pc] 45))
      have z2 := hid (below_trans (below_trans z1.out hb2) al2.out)
      have v2 := hid (two_blk w2 [.int .i64 (x : Int), .int .i64 (y : Int), .int .i64 (z : Int), .string Q] [.int .i64 (x : Int), .int .i64 (y : Int), .int .i64 (z : Int), .slice pa (rows q).length pc] 38 45).1
      replace v1 := hid ((v1.out.below hb2).below al2.out)
      clear hb2 al2 z1
      go_wp2_with fail
      generalize (w2.alloc (.cells #[.int .i64 (x : Int), .int .i64 (y : Int), .int .i64 (z : Int), .string Q] 38)).alloc (.cells #[.int .i64 (x : Int), .int .i64 (y : Int), .int .i64 (z : Int), .slice pa (rows q).length pc] 45) = W2 at z2 v1 v2 ⊢
      generalize w2.heap.size + 1 = b3' at *
      generalize w2.heap.size = b2' at v2 ⊢
      refine (HPD.out _ (hm.below z2.out) (ht.below z2.out) (hg.below z2.out)).mono ?_
      rintro e w3 ⟨rfl, hb3⟩
      have z3 := hid (below_trans z2.out hb3)
      replace v1 := hid (v1.out.below hb3)
      replace v2 := hid (v2.out.below hb3)
      clear hb3 z2
      have i0 := v2.out.cell 3 rfl
      rcases hq0.out with hq | hq
      · have hqt : (Q.toList == []) = true := by rw [hqn.out, hq]; rfl
        have HHq := hid (HH.out hq)
        have j0 := v1.out.cell 0 rfl
        have j1 := v1.out.cell 1 rfl
        have j2 := v1.out.cell 2 rfl
        have j3 := v1.out.cell 3 rfl
        clear HH hq hqn
        go_wp2_with fail
        refine (HX.out _ (hm.below z3.out) (ht.below z3.out)).mono ?_
        rintro e w4 ⟨rfl, hb4⟩
        have z4 := hid (below_alloc (below_trans z3.out hb4) (.cells #[.string ⟨#[61]⟩, .string ⟨#[33, 61]⟩, .string ⟨#[60]⟩, .string ⟨#[62, 61]⟩, .string ⟨#[62]⟩, .string ⟨#[60, 61]⟩] 9))
        have v3 := hid (Blk.new w4 [.string ⟨#[61]⟩, .string ⟨#[33, 61]⟩, .string ⟨#[60]⟩, .string ⟨#[62, 61]⟩, .string ⟨#[62]⟩, .string ⟨#[60, 61]⟩] 9)
        replace v1 := hid ((v1.out.below hb4).alloc (.cells #[.string ⟨#[61]⟩, .string ⟨#[33, 61]⟩, .string ⟨#[60]⟩, .string ⟨#[62, 61]⟩, .string ⟨#[62]⟩, .string ⟨#[60, 61]⟩] 9))
        replace v2 := hid ((v2.out.below hb4).alloc (.cells #[.string ⟨#[61]⟩, .string ⟨#[33, 61]⟩, .string ⟨#[60]⟩, .string ⟨#[62, 61]⟩, .string ⟨#[62]⟩, .string ⟨#[60, 61]⟩] 9))
        clear hb4 z3 i0 j0 j1 j2 j3 hqt
        go_wp2_with fail
        generalize w4.alloc (.cells [.string ⟨#[61]⟩, .string ⟨#[33, 61]⟩, .string ⟨#[60]⟩, .string ⟨#[62, 61]⟩, .string ⟨#[62]⟩, .string ⟨#[60, 61]⟩].toArray 9) = W4 at z4 v1 v2 v3 ⊢
        generalize w4.heap.size = bs at v3 ⊢
        have L1 := hid v1.out.lt
        have L2 := hid v2.out.lt
        have L3 := hid v3.out.lt
        have NB := hid (Nat.le_refl W4.heap.size)
        generalize hnb : W4.heap.size = nb at L1 L2 L3
        replace hnb := hid hnb
        have WN := hid (show w.heap.size ≤ nb by rw [← hnb.out]; exact z4.out.size)
        go_loopw [10, 11, 12, 13] (fun o i _ _ wr => ∃ k : Nat, k ≤ 6 ∧ i = .int .i64 k ∧ Hid (Below w.heap.size w wr) ∧ Hid (nb ≤ wr.heap.size) ∧ Hid (Blk wr bs [.string ⟨#[61]⟩, .string ⟨#[33, 61]⟩, .string ⟨#[60]⟩, .string ⟨#[62, 61]⟩, .string ⟨#[62]⟩, .string ⟨#[60, 61]⟩] 9) ∧ Hid (Blk wr b2' [.int .i64 (x : Int), .int .i64 (y : Int), .int .i64 (z : Int), .string Q] 38) ∧ Hid (Blk wr b1' [.int .i64 a, .int .i64 b, .int .i64 c, .string PT] 38) ∧ Hid (wr.ownsRow nb 4 1 o k (boolsTo K k))) (fun _ i _ _ _ => 6 - (intOf i).toNat)
        case atStart => exact ⟨0, by omega, rfl, z4, hid (by rw [← hnb.out]; exact Nat.le_refl _), v3, v2, v1, hid (World.ownsRow_nil _ _ _ _)⟩
        case round =>
          obtain ⟨k, hk, rfl, hb, hz, h3, h2, h1, hown⟩ := hrel
          clear z4 v1 v2 v3
          obtain ⟨oa, oc, hoe⟩ := own_shape hown.out
          subst hoe
          by_cases hlt : k < 6
          · have hcell : wr.cell? ⟨bs, k, none⟩ = some (.string ⟨(sgn (opI k)).toArray⟩) := by
              have ways : k = 0 ∨ k = 1 ∨ k = 2 ∨ k = 3 ∨ k = 4 ∨ k = 5 := by omega
              rcases ways with rfl | rfl | rfl | rfl | rfl | rfl <;> exact h3.out.cell _ rfl
            have hbl := h3.out.lt
            have HPk := hid (HP.out k hlt)
            have HHk := hid (HHq.out k hlt)
            have hsg := hid (sign_size hlt)
            have SU := hid (boolsTo_succ K k)
            have k0 : (0 : Int) ≤ (k : Int) := by omega
            have k1 : (k : Int) < 6 := by omega
            generalize okOp (opI k) K = ok at HHk SU
            generalize (⟨(sgn (opI k)).toArray⟩ : ByteArray) = SG at hcell HPk hsg
            have hsg' := hsg.out
            have n1 : ¬ 9223372036854775807 < SG.size + s.size := by omega
            clear HP HHq hsg
            go_wp2_with fail
            refine (HPk.out _ (hm.below hb.out) (hg.below hb.out)).mono ?_
            rintro e w5 ⟨G, cp, rfl, hb5, hr5⟩
            have hr6 := hid (hr5.below (below_alloc (Below.refl w5.heap.size w5) (.cells #[.slice (some ⟨G, 0, none⟩) 1 cp] 25)))
            have al5 := hid (below_trans hb5 (below_alloc (Below.refl w5.heap.size w5) (.cells #[.slice (some ⟨G, 0, none⟩) 1 cp] 25)))
            have hb6 := hid (below_trans hb.out al5.out)
            have hz6 := hid (Nat.le_trans hz.out al5.out.size)
            have h36 := hid (h3.out.below al5.out)
            have h26 := hid (h2.out.below al5.out)
            have h16 := hid (h1.out.below al5.out)
            have ho6 := hid (ownsRow_below hown.out al5.out)
            have d0 := (h2.out.below hb5).cell 0 rfl
            have d1 := (h2.out.below hb5).cell 1 rfl
            have d2 := (h2.out.below hb5).cell 2 rfl
            have d3 := (h2.out.below hb5).cell 3 rfl
            have dl := (h2.out.below hb5).lt
            have hr7 := hid (Blk.new w5 [.slice (some ⟨G, 0, none⟩) 1 cp] 25)
            obtain ⟨iC, hi, hz0, hz1, hz2⟩ := info_parts infoBl
            have hi := hid hi
            have hz0 := hid hz0
            have hz1 := hid hz1
            have hz2 := hid hz2
            clear hb hz h3 h2 h1 hown hb5 hr5 al5 hcell hbl n1 hsg' HPk
            generalize boolsTo K k = bl at ho6 SU
            have k6 := hid (show k ≤ 6 from hk)
            go_wp2_with (first
              | (go_at_call 19; (with_reducible refine (HHk.out _ _ (hm.below hb6.out) (ht.below hb6.out) (hg.below hb6.out) hr6.out).mono ?_); rintro e w6 ⟨rfl, hb7⟩)
              | (at_builtin; refine wpList_append_lies _ rfl _ _ 57 rfl nb 4 iC (.bool false) 1 1 Tryz.underlying57 hi.out hz0.out hz1.out hz2.out rfl (by decide) _ _ _ rfl ((ownsRow_below ho6.out hb7).alloc _) ⟨_, 0, none⟩ 1 1 [.bool ok] rfl rfl ?c1 ?c2 ?cm ?c3 ?c4 ?c5 _ rfl ?_))
            case c1 => exact cell_one_at _ _ _ _ (by simp)
            case c2 => intro u hu; simp at hu; subst hu; rfl
            case cm => decide
            case c3 => have := k6.out; unfold maxLen; omega
            case c4 => have := k6.out; omega
            case c5 => have := hz6.out; have := hb7.size; simp; omega
            intro g cap w7 hown7 hgrow hat7 hlt7
            have far := hid (fun (b : Nat) (hb : b < nb) => show some b ≠ (Value.slice oa k oc).ownBlock from fun e => by
              have := (ho6.out.lt b e.symm).1; omega)
            have al7 := hid (below_alloc hb7 (.cells #[.bool ok] 4))
            have hn8 := hid (show nb ≤ w7.heap.size from by have := hz6.out; have := al7.out.size; have := hgrow.size; omega)
            have hb8 := hid ((below_trans hb6.out al7.out).grown hgrow (by have := hb6.out.size; have := al7.out.size; omega) (fun j hj => by
              have e1 := (ho6.out.lt j hj).1
              have := WN.out; omega))
            have h38 := hid (((h36.out.below hb7).alloc (.cells #[.bool ok] 4)).grown hgrow (far.out bs L3.out))
            have h28 := hid (((h26.out.below hb7).alloc (.cells #[.bool ok] 4)).grown hgrow (far.out b2' L2.out))
            have h18 := hid (((h16.out.below hb7).alloc (.cells #[.bool ok] 4)).grown hgrow (far.out b1' L1.out))
            have HOWN7 := hid hown7
            clear hown7 hgrow hat7 ho6 hb7 al7 hr6 hr7 hb6 hz6 h36 h26 h16 far
            go_wp2_with fail
            go_roundw
            case rel =>
              refine ⟨k + 1, by omega, by go_num, hb8, hn8, h38, h28, h18, hid ?_⟩
              rw [SU.out]; exact HOWN7.out
            case measure => simp [intOf]; omega
          · obtain rfl : k = 6 := by omega
            obtain ⟨g, cc, hv, q1, q2, q3, q4, q5⟩ := ownsRow_any hown.out (by decide)
            cases hv
            have e0 := h2.out.cell 0 rfl
            have e1 := h2.out.cell 1 rfl
            have e2 := h2.out.cell 2 rfl
            have e3 := h2.out.cell 3 rfl
            have f0 := h1.out.cell 0 rfl
            have f1 := h1.out.cell 1 rfl
            have f2 := h1.out.cell 2 rfl
            have f3 := h1.out.cell 3 rfl
            have CE := hid (fun j (hj : j < 6) => q5 j _ (boolsTo_at hj))
            replace q2 := hid q2
            clear q1 q3 q4 q5 hown HP HHq
            go_wp2_with fail
            refine (HCM.out _ (hm.below hb.out)).mono ?_
            rintro e w9 ⟨rfl, hb9⟩
            have hbz := hid (below_trans hb.out hb9)
            have CF := hid (fun j (hj : j < 6) => show w9.cell? ⟨g, j, none⟩ = some (.bool (okOp (opI j) K)) from by rw [hb9.cell q2.out]; exact CE.out j hj)
            clear e0 e1 e2 e3 f0 f1 f2 f3 CE q2 hb9 hb HCM HPD HX P1 HV h1 h2 h3
            rcases HK.out with rfl | rfl | rfl
            · have y0 : w9.cell? ⟨g, 0, none⟩ = some (.bool false) := CF.out 0 (by decide)
              have y1 : w9.cell? ⟨g, 1, none⟩ = some (.bool true) := CF.out 1 (by decide)
              have y2 : w9.cell? ⟨g, 2, none⟩ = some (.bool true) := CF.out 2 (by decide)
              have y3 : w9.cell? ⟨g, 3, none⟩ = some (.bool false) := CF.out 3 (by decide)
              have y4 : w9.cell? ⟨g, 4, none⟩ = some (.bool false) := CF.out 4 (by decide)
              have y5 : w9.cell? ⟨g, 5, none⟩ = some (.bool true) := CF.out 5 (by decide)
              clear CF HK
              go_wp2_with fail
              go_quiet (fail)
              go_wp2_with fail
              go_ret
              exact ⟨rfl, below_drewN' hbz.out _⟩
            · have y0 : w9.cell? ⟨g, 0, none⟩ = some (.bool true) := CF.out 0 (by decide)
              have y1 : w9.cell? ⟨g, 1, none⟩ = some (.bool false) := CF.out 1 (by decide)
              have y2 : w9.cell? ⟨g, 2, none⟩ = some (.bool false) := CF.out 2 (by decide)
              have y3 : w9.cell? ⟨g, 3, none⟩ = some (.bool true) := CF.out 3 (by decide)
              have y4 : w9.cell? ⟨g, 4, none⟩ = some (.bool false) := CF.out 4 (by decide)
              have y5 : w9.cell? ⟨g, 5, none⟩ = some (.bool true) := CF.out 5 (by decide)
              clear CF HK
              go_wp2_with fail
              go_quiet (fail)
              go_wp2_with fail
              go_ret
              exact ⟨rfl, below_drewN' hbz.out _⟩
            · have y0 : w9.cell? ⟨g, 0, none⟩ = some (.bool false) := CF.out 0 (by decide)
              have y1 : w9.cell? ⟨g, 1, none⟩ = some (.bool true) := CF.out 1 (by decide)
              have y2 : w9.cell? ⟨g, 2, none⟩ = some (.bool false) := CF.out 2 (by decide)
              have y3 : w9.cell? ⟨g, 3, none⟩ = some (.bool true) := CF.out 3 (by decide)
              have y4 : w9.cell? ⟨g, 4, none⟩ = some (.bool true) := CF.out 4 (by decide)
              have y5 : w9.cell? ⟨g, 5, none⟩ = some (.bool false) := CF.out 5 (by decide)
              clear CF HK
              go_wp2_with fail
              go_quiet (fail)
              go_wp2_with fail
              go_ret
              exact ⟨rfl, below_drewN' hbz.out _⟩
      · have hqt : (Q.toList == []) = false := by rw [hqn.out, decide_eq_false hq]
        clear HH hq hqn HK HCM HP HX P1 HV
        go_wp2_with fail
        refine (HPD.out _ (hm.below z3.out) (ht.below z3.out) (hg.below z3.out)).mono ?_
        rintro e w4 ⟨rfl, hb4⟩
        replace i0 := (v2.out.below hb4).cell 3 rfl
        have z4 := hid (below_trans z3.out hb4)
        clear hb4 v1 v2
        go_wp2_with fail
        go_ret
        exact ⟨rfl, z4.out⟩
end Go.Proofs.YtjiofenpalokoaaGreatDoor.Sp
