/-
  LAYER 4: SpecHighests.
-/
import Derived.Test.YtebhgcejcdgdbaaGreatDoorSpecHighM
import Derived.RegionTactic
namespace Go.Proofs.YtebhgcejcdgdbaaGreatDoor.Sp
open Go.RowKit Go.Sort
open Go.Proofs.YtebhgcejcdgdbaaGreatDoor Go.Proofs.YtebhgcejcdgdbaaGreatDoor.Nu Go.Proofs.YtebhgcejcdgdbaaGreatDoor.Vs

set_option maxRecDepth 20000 in
set_option maxHeartbeats 8000000 in
theorem law_highests (s : ByteArray) (w : World) (a : Option Addr) (n c : Nat) (B0 o0 : Nat) (ws : List ByteArray) (hn : n = ws.length) (ha : n ≠ 0 → a = some ⟨B0, o0, none⟩) (hcell : ∀ k (h : k < ws.length), w.cell? ⟨B0, o0 + k, none⟩ = some (.string ws[k])) (hm : MaxAt w) (ht : TenAt w) (hg : SignsAt w) :
    Calls Tryz.prog 6 #[.string s, .slice a n c] w fun e w' => e = .returned (.bool true) ∧ Below w.heap.size w w' := by
  have HPD := hid taken_any
  have BIG : ∀ (h : (200 : Int) < s.size ∨ ((s.size : Int) ≤ 200 ∧ (40 : Int) < (n : Int))), Calls Tryz.prog 6 #[.string s, .slice a n c] w fun e w' => e = .returned (.bool true) ∧ Below w.heap.size w w' := by
    intro h
    rcases h with h | ⟨h, k⟩
    all_goals
      go_enter Tryz.func6, Tryz.ntmps6
      go_wp2_with (go_at_call 11; (with_reducible refine (HPD.out _ hm ht hg).mono ?_); rintro e w1 ⟨rfl, hb1⟩)
      go_ret
      exact ⟨rfl, hb1⟩
  by_cases hbig : (200 : Int) < s.size ∨ ((s.size : Int) ≤ 200 ∧ (40 : Int) < (n : Int))
  · exact BIG hbig
  · clear BIG
    have h100 : (s.size : Int) ≤ 200 := by omega
    have h101 : (n : Int) ≤ 40 := by omega
    clear hbig
    have P1 := hid (parse_o s (by omega))
    have P2 := hid (rrparse_o s (by omega))
    have OK1 := hid (fun rs (h : rngOf s.data.toList = some rs) => (rngOf_ok h).2)
    generalize rngOf s.data.toList = o1 at *
    generalize hf1 : o1.isSome = f1 at P1 P2
    replace hf1 := hid hf1
    replace hcell := hid hcell
    replace ha := hid ha
    have hn' := hid hn
    clear hn
    go_enter Tryz.func6, Tryz.ntmps6
    go_wp2_with fail
    refine (P1.out _ hm hg).mono ?_
    rintro e w1 ⟨oa1, m1, cp1, rfl, hb1, N1, hr1⟩
    have z1 := hid (below_alloc hb1 (.cells #[.slice oa1 m1 cp1] 25))
    have v1 := hid (Blk.new w1 [.slice oa1 m1 cp1] 25)
    have M1 := hid (fun rs h => (hr1 rs h).1)
    replace N1 := hid N1
    replace hr1 := hid (fun rs h => (hr1 rs h).2.below (below_alloc (Below.refl w1.heap.size w1) (.cells #[.slice oa1 m1 cp1] 25)))
    clear hb1
    go_wp2_with fail
    generalize w1.alloc (.cells [.slice oa1 m1 cp1].toArray 25) = W1 at v1 hr1 z1 ⊢
    generalize w1.heap.size = b1' at v1 ⊢
    refine (P2.out _).mono ?_
    rintro e w2 ⟨oa2, m2, cp2, rfl, hb2, hr2⟩
    have z2 := hid (below_trans z1.out hb2)
    have M2 := hid (fun rs h => (hr2 rs h).1)
    replace hr2 := hid (fun rs h => (hr2 rs h).2)
    replace v1 := hid (v1.out.below hb2)
    replace hr1 := hid (fun rs h => (hr1.out rs h).below hb2)
    clear hb2 z1
    have hbest0 := hid (Blk.new w2 [.int .i64 0, .int .i64 0, .int .i64 0, .slice none 0 0] 45)
    have hb20 := hid (below_alloc (Below.refl w2.heap.size w2) (.cells #[.int .i64 0, .int .i64 0, .int .i64 0, .slice none 0 0] 45))
    have hsz0 := hid (show w2.heap.size + 1 ≤ (w2.alloc (.cells #[.int .i64 0, .int .i64 0, .int .i64 0, .slice none 0 0] 45)).heap.size by simp)
    go_wp2_with fail
    generalize w2.alloc (.cells [.int .i64 0, .int .i64 0, .int .i64 0, .slice none 0 0].toArray 45) = W2 at hbest0 hb20 hsz0 ⊢
    go_loopw [9, 10, 12, 13, 14] (fun o at_ i _ _ wr => ∃ (k : Nat) (out : List VerT) (H : Option Nat) (b : VerT) (pa : Option Addr) (pc : Nat), k ≤ n ∧ i = .int .i64 k ∧ at_ = .int .i64 (hiI H) ∧ Hid (out.length = k) ∧ Hid (∀ (k : Nat) (v : VerT), out[k]? = some v → v.ok) ∧ Hid (Best o1 out H b) ∧ Hid b.ok ∧ Hid (Below w2.heap.size w2 wr) ∧ Hid (Blk wr w2.heap.size [.int .i64 (b.a : Int), .int .i64 (b.b : Int), .int .i64 (b.c : Int), .slice pa (rows b.p).length pc] 45) ∧ Hid (PreAt wr (.slice pa (rows b.p).length pc) (rows b.p)) ∧ Hid (w2.heap.size + 1 ≤ wr.heap.size) ∧ Hid (wr.ownsRow (w2.heap.size + 1) 38 4 o out.length (cellsV out)) ∧ Hid (out.length = 0 → o.ownBlock = none)) (fun _ _ i _ _ _ => n - (intOf i).toNat)
    case atStart => exact ⟨0, [], none, zeroT, none, 0, by omega, rfl, rfl, hid rfl, hid (by simp), hid (Best.start o1), hid ⟨by decide, by decide, by decide, .inl rfl⟩, hb20, hbest0, hid (.inl ⟨rfl, rfl⟩), hsz0, hid (World.ownsRow_nil _ _ _ _), hid (fun _ => rfl)⟩
    case round =>
      obtain ⟨k, out, H, b, pa, pc, hk, rfl, rfl, hol, hok, hB, hbok, hb, hbb, hpb, hsz, hown, ho0⟩ := hrel
      clear hbest0 hb20 hsz0
      obtain ⟨oa, oc, hoe⟩ := own_shape hown.out
      subst hoe
      have zw := hid (below_trans z2.out hb.out)
      by_cases hlt : k < n
      · have hlt2 : k < ws.length := by rw [← hn'.out]; exact hlt
        obtain rfl := ha.out (by omega)
        have hce := bc zw.out (hcell.out k hlt2)
        have k40 : k < 40 := by omega
        generalize ws[k] = x at hce
        by_cases hx : (100 : Int) < (x.size : Int)
        · go_wp2_with (go_at_call 11; (with_reducible refine (HPD.out _ (hm.below zw.out) (ht.below zw.out) (hg.below zw.out)).mono ?_); rintro e w3 ⟨rfl, hb3⟩)
          go_ret
          exact ⟨rfl, below_trans zw.out hb3⟩
        · obtain ⟨xa, xb, xc, xp, lx, ly, lz, Kq, _, HV⟩ := of_v x (by omega)
          have hvok := hid (show VerT.ok ⟨xa, xb, xc, xp⟩ from ⟨lx, ly, lz, Kq.2⟩)
          have HVx := hid (HV _ (hm.below zw.out))
          unfold OfV at HVx
          clear HV lx ly lz
          have hcells := hid (show cellsV (out ++ [⟨xa, xb, xc, xp⟩]) = cellsV out ++ [.int .i64 (xa : Int), .int .i64 (xb : Int), .int .i64 (xc : Int), .string ⟨xp.toArray⟩] by
            unfold cellsV; rw [List.flatMap_append]; simp [verCells])
          have hint := hid (@cellsV_int out)
          obtain ⟨iC, hi, hz0, hz1, hz2⟩ := info_parts infoV
          have hi := hid hi
          have hz0 := hid hz0
          have hz1 := hid hz1
          have hz2 := hid hz2
          generalize cellsV out = oc5 at hown hcells hint
          generalize hon : out.length = on at hown hol ho0 ⊢
          replace hon := hid hon
          have on5 := hid (show on < 40 by have := hol.out; omega)
          generalize hql : (rows xp).length = ql at HVx
          replace hql := hid hql
          go_wp2_with fail
          refine HVx.out.mono ?_
          rintro e w3 ⟨pa3, pc3, rfl, hp3, hb3⟩
          have AL3 := hid (below_alloc (below_alloc (below_alloc (Below.refl w3.heap.size w3) (.cells #[.int .i64 (xa : Int), .int .i64 (xb : Int), .int .i64 (xc : Int), .string ⟨xp.toArray⟩] 38)) (.cells #[.int .i64 (xa : Int), .int .i64 (xb : Int), .int .i64 (xc : Int), .slice pa3 ql pc3] 45)) (.cells #[.int .i64 (xa : Int), .int .i64 (xb : Int), .int .i64 (xc : Int), .string ⟨xp.toArray⟩] 38))
          have v5 := hid (two_blk w3 [.int .i64 (xa : Int), .int .i64 (xb : Int), .int .i64 (xc : Int), .string ⟨xp.toArray⟩] [.int .i64 (xa : Int), .int .i64 (xb : Int), .int .i64 (xc : Int), .slice pa3 ql pc3] 38 45).2
          go_wp2_with (at_builtin; refine wpList_append_lies _ rfl _ _ 50 rfl (w2.heap.size + 1) 38 iC (.agg #[.int .i64 0, .int .i64 0, .int .i64 0, .string ⟨#[]⟩]) 4 40 Tryz.underlying50 hi.out hz0.out hz1.out hz2.out rfl (by decide) _ _ _ rfl ((((ownsRow_below hown.out hb3).alloc _).alloc _).alloc _) ⟨_, 0, none⟩ 1 1 [.int .i64 (xa : Int), .int .i64 (xb : Int), .int .i64 (xc : Int), .string ⟨xp.toArray⟩] rfl rfl ?c1 ?c2 ?cm ?c3 ?c4 ?c5 _ rfl ?_)
          case c1 => exact cells_new _ [_, _, _, _] _ _ (by simp)
          case c2 => intro u hu; simp at hu; rcases hu with rfl | rfl | rfl | rfl <;> rfl
          case cm => decide
          case c3 => have := on5.out; unfold maxLen; omega
          case c4 => have := on5.out; omega
          case c5 => have h9 := hsz.out; have h8 := hb3.size; simp; omega
          intro g cap w4 hown4 hgrow hat4 hlt4
          have OW3 := hid ((((ownsRow_below hown.out hb3).alloc (.cells #[.int .i64 (xa : Int), .int .i64 (xb : Int), .int .i64 (xc : Int), .string ⟨xp.toArray⟩] 38)).alloc (.cells #[.int .i64 (xa : Int), .int .i64 (xb : Int), .int .i64 (xc : Int), .slice pa3 ql pc3] 45)).alloc (.cells #[.int .i64 (xa : Int), .int .i64 (xb : Int), .int .i64 (xc : Int), .string ⟨xp.toArray⟩] 38))
          have kp := hid ((below_trans (below_trans hb.out hb3) AL3.out).grown hgrow (by have h9 := hsz.out; have h8 := hb3.size; simp; omega) (fun k hk => by have := (OW3.out.lt k hk).1; omega))
          have kk := hid (grown_keeps OW3.out (by decide) hint.out ho0.out hgrow)
          have hbb4 := hid (Blk.grown ((hbb.out.below hb3).below AL3.out) hgrow (own_ne OW3.out (by omega)))
          have hpb4 := hid (pre_keeps ((hpb.out.below hb3).below AL3.out) kk.out)
          have hp4 := hid (pre_keeps (by rw [← hql.out] at AL3 ⊢; exact hp3.below AL3.out) kk.out)
          have hvb4 := hid (Blk.grown (v5.out.alloc (.cells #[.int .i64 (xa : Int), .int .i64 (xb : Int), .int .i64 (xc : Int), .string ⟨xp.toArray⟩] 38)) hgrow (fun e => by
            have h1 := (hown.out.lt _ e.symm).2
            have h2 := hb3.size
            omega))
          have hs4 := hid (show w2.heap.size + 1 ≤ w4.heap.size by have h9 := hsz.out; have h8 := hb3.size; have h7 := hgrow.size; simp at h7; omega)
          have HOWN4 := hid hown4
          have hokn := hid (fun (j : Nat) (u : VerT) (hj : (out ++ [(⟨xa, xb, xc, xp⟩ : VerT)])[j]? = some u) => show u.ok by
            by_cases hjl : j < out.length
            · rw [List.getElem?_append_left hjl] at hj; exact hok.out j u hj
            · rw [List.getElem?_append_right (by omega)] at hj
              have : u ∈ [(⟨xa, xb, xc, xp⟩ : VerT)] := List.mem_of_getElem? hj
              rw [List.mem_singleton.1 this]; exact hvok.out)
          clear hown4 hgrow hat4 hown OW3 kk hpb hbb hb3 AL3 v5 hce
          generalize w3.heap.size + 1 = b14 at hvb4 ⊢
          have m0 := hvb4.out.cell 0 rfl
          have m1 := hvb4.out.cell 1 rfl
          have m2 := hvb4.out.cell 2 rfl
          have m3 := hvb4.out.cell 3 rfl
          have ml := hvb4.out.lt
          cases o1 with
          | none =>
            obtain rfl : f1 = false := hf1.out.symm
            go_wp2_with fail
            go_roundw
            case rel => exact ⟨k + 1, out ++ [⟨xa, xb, xc, xp⟩], H, b, pa, pc, by omega, by go_num, rfl, hid (by rw [List.length_append, hon.out, hol.out]; rfl), hokn, hid (hB.out.no rfl), hbok, kp, hbb4, hpb4, hs4, hid (by rw [hcells.out, List.length_append, hon.out]; exact HOWN4.out), hid (fun h => by simp at h)⟩
            case measure => simp [intOf]; omega
          | some rs =>
            obtain rfl : f1 = true := hf1.out.symm
            obtain rfl := M2.out rs rfl
            have hokr := hid (OK1.out rs rfl)
            have A2 := hid (rrhas_any rs (.slice oa2 rs.length cp2) hokr.out.2.1 hokr.out.2.2.1 xa xb xc xp hvok.out.2.2.2 pa3 pc3 w4 ((hr2.out rs rfl).below kp.out) (by rw [hql.out]; exact hp4.out))
            have hfh := hid (show hasO (some rs) ⟨xa, xb, xc, xp⟩ = rngHas rs xa xb xc xp from rfl)
            rw [hql.out] at A2
            generalize rngHas rs xa xb xc xp = hy at A2 hfh
            cases hy
            · go_wp2_with (go_at_call 21; (with_reducible refine A2.out.mono ?_); rintro e w5 ⟨rfl, hb5⟩)
              go_roundw
              case rel => exact ⟨k + 1, out ++ [⟨xa, xb, xc, xp⟩], H, b, pa, pc, by omega, by go_num, rfl, hid (by rw [List.length_append, hon.out, hol.out]; rfl), hokn, hid (hB.out.no hfh.out), hbok, hid (below_trans kp.out hb5), hid (hbb4.out.below hb5), hid (hpb4.out.below hb5), hid (Nat.le_trans hs4.out (hb5).size), hid (by rw [hcells.out, List.length_append, hon.out]; exact ownsRow_below HOWN4.out hb5), hid (fun h => by simp at h)⟩
              case measure => simp [intOf]; omega
            · cases H with
              | none =>
                rw [show hiI none = -1 from rfl]
                go_upto_region 16 with (go_at_call 21; (with_reducible refine A2.out.mono ?_); rintro e w5 ⟨rfl, hb5⟩)
                have q0 := (hbb4.out.below hb5).cell 0 rfl
                have q1 := (hbb4.out.below hb5).cell 1 rfl
                have q2 := (hbb4.out.below hb5).cell 2 rfl
                have q3 := (hbb4.out.below hb5).cell 3 rfl
                have qf := (hbb4.out.below hb5).free
                have ql2 := (hbb4.out.below hb5).lt
                have u0 := (hvb4.out.below hb5).cell 0 rfl
                have u1 := (hvb4.out.below hb5).cell 1 rfl
                have u2 := (hvb4.out.below hb5).cell 2 rfl
                have u3 := (hvb4.out.below hb5).cell 3 rfl
                have hbest := hid (hon.out ▸ hB.out.first hfh.out)
                have S1 := hid (best_set (hbb4.out.below hb5) (.int .i64 (xa : Int)) (.int .i64 (xb : Int)) (.int .i64 (xc : Int)) (.slice pa3 ql pc3))
                have S2 := hid (best_pre (hp4.out.below hb5) (hbb4.out.below hb5) (.int .i64 (xa : Int)) (.int .i64 (xb : Int)) (.int .i64 (xc : Int)) (.slice pa3 ql pc3))
                have S3 := hid (((((below_trans kp.out hb5).setCell (p := ⟨w2.heap.size, 0, none⟩) (Nat.le_refl _) (.int .i64 (xa : Int))).setCell (p := ⟨w2.heap.size, 1, none⟩) (Nat.le_refl _) (.int .i64 (xb : Int))).setCell (p := ⟨w2.heap.size, 2, none⟩) (Nat.le_refl _) (.int .i64 (xc : Int))).setCell (p := ⟨w2.heap.size, 3, none⟩) (Nat.le_refl _) (.slice pa3 ql pc3))
                have S4 := hid (ownsRow_setCell_below (ownsRow_setCell_below (ownsRow_setCell_below (ownsRow_setCell_below (ownsRow_below HOWN4.out hb5) (a := ⟨w2.heap.size, 0, none⟩) (Nat.lt_succ_self _) (.int .i64 (xa : Int))) (a := ⟨w2.heap.size, 1, none⟩) (Nat.lt_succ_self _) (.int .i64 (xb : Int))) (a := ⟨w2.heap.size, 2, none⟩) (Nat.lt_succ_self _) (.int .i64 (xc : Int))) (a := ⟨w2.heap.size, 3, none⟩) (Nat.lt_succ_self _) (.slice pa3 ql pc3))
                have S5 := hid (show w2.heap.size + 1 ≤ (((((w5).setCell ⟨w2.heap.size, 0, none⟩ (.int .i64 (xa : Int))).setCell ⟨w2.heap.size, 1, none⟩ (.int .i64 (xb : Int))).setCell ⟨w2.heap.size, 2, none⟩ (.int .i64 (xc : Int))).setCell ⟨w2.heap.size, 3, none⟩ (.slice pa3 ql pc3)).heap.size by have := Nat.le_trans hs4.out (hb5).size; simpa using this)
                go_wp2_with fail
                go_region
                all_goals
                  go_wp2_with fail
                  go_roundw
                  case rel => exact ⟨k + 1, out ++ [⟨xa, xb, xc, xp⟩], some on, ⟨xa, xb, xc, xp⟩, pa3, pc3, by omega, by go_num, by rw [show hiI (some on) = (on : Int) from rfl, hol.out], hid (by rw [List.length_append, hon.out, hol.out]; rfl), hokn, hbest, hvok, hid (below_drew S3.out), hid (by rw [hql.out]; exact S1.out.below (below_drew (Below.refl _ _))), hid (by have h9 := S2.out.below (below_drew (Below.refl _ _)); rw [← hql.out] at h9 ⊢; exact h9), hid (by have := S5.out; simpa using this), hid (by rw [hcells.out, List.length_append, hon.out]; exact ownsRow_below S4.out (below_drew (Below.refl _ _))), hid (fun h => by simp at h)⟩
                  case measure => simp [intOf]; omega
              | some h =>
                rw [show hiI (some h) = (h : Int) from rfl]
                have CM := hid (fun w' (hb : Below w4.heap.size w4 w') => rcompare_any xa xb xc b.a b.b b.c xp b.p (okPre_of hvok.out.2.2.2) (okPre_of hbok.out.2.2.2) _ _ w' ((show PreAt w4 (.slice pa3 (rows xp).length pc3) (rows xp) by rw [hql.out]; exact hp4.out).below hb) (hpb4.out.below hb))
                rw [hql.out] at CM
                have hcm := hid (show cmpT ⟨xa, xb, xc, xp⟩ b = cmpV [xa, xb, xc] [b.a, b.b, b.c] xp b.p from rfl)
                generalize cmpV [xa, xb, xc] [b.a, b.b, b.c] xp b.p = cv at CM hcm
                unfold rVal at CM
                have h0 : ¬ (h : Int) < 0 := by omega
                by_cases hcp : 0 < cv
                · go_upto_region 16 with (first
                    | (go_at_call 21; (with_reducible refine A2.out.mono ?_); rintro e w5 ⟨rfl, hb5⟩; have i0 := bc hb5 m0; have i1 := bc hb5 m1; have i2 := bc hb5 m2; have i3 := bc hb5 m3; have j0 := (hbb4.out.below hb5).cell 0 rfl; have j1 := (hbb4.out.below hb5).cell 1 rfl; have j2 := (hbb4.out.below hb5).cell 2 rfl; have j3 := (hbb4.out.below hb5).cell 3 rfl)
                    | (go_at_call 22; (with_reducible refine (CM.out _ hb5).mono ?_); rintro e w6 ⟨rfl, hb6⟩))
                  have hb56 := below_trans hb5 hb6
                  have q0 := (hbb4.out.below hb56).cell 0 rfl
                  have q1 := (hbb4.out.below hb56).cell 1 rfl
                  have q2 := (hbb4.out.below hb56).cell 2 rfl
                  have q3 := (hbb4.out.below hb56).cell 3 rfl
                  have qf := (hbb4.out.below hb56).free
                  have ql2 := (hbb4.out.below hb56).lt
                  have u0 := (hvb4.out.below hb56).cell 0 rfl
                  have u1 := (hvb4.out.below hb56).cell 1 rfl
                  have u2 := (hvb4.out.below hb56).cell 2 rfl
                  have u3 := (hvb4.out.below hb56).cell 3 rfl
                  have hbest := hid (hon.out ▸ hB.out.more hfh.out (by rw [hcm.out]; exact hcp))
                  have S1 := hid (best_set (hbb4.out.below hb56) (.int .i64 (xa : Int)) (.int .i64 (xb : Int)) (.int .i64 (xc : Int)) (.slice pa3 ql pc3))
                  have S2 := hid (best_pre (hp4.out.below hb56) (hbb4.out.below hb56) (.int .i64 (xa : Int)) (.int .i64 (xb : Int)) (.int .i64 (xc : Int)) (.slice pa3 ql pc3))
                  have S3 := hid (((((below_trans kp.out hb56).setCell (p := ⟨w2.heap.size, 0, none⟩) (Nat.le_refl _) (.int .i64 (xa : Int))).setCell (p := ⟨w2.heap.size, 1, none⟩) (Nat.le_refl _) (.int .i64 (xb : Int))).setCell (p := ⟨w2.heap.size, 2, none⟩) (Nat.le_refl _) (.int .i64 (xc : Int))).setCell (p := ⟨w2.heap.size, 3, none⟩) (Nat.le_refl _) (.slice pa3 ql pc3))
                  have S4 := hid (ownsRow_setCell_below (ownsRow_setCell_below (ownsRow_setCell_below (ownsRow_setCell_below (ownsRow_below HOWN4.out hb56) (a := ⟨w2.heap.size, 0, none⟩) (Nat.lt_succ_self _) (.int .i64 (xa : Int))) (a := ⟨w2.heap.size, 1, none⟩) (Nat.lt_succ_self _) (.int .i64 (xb : Int))) (a := ⟨w2.heap.size, 2, none⟩) (Nat.lt_succ_self _) (.int .i64 (xc : Int))) (a := ⟨w2.heap.size, 3, none⟩) (Nat.lt_succ_self _) (.slice pa3 ql pc3))
                  have S5 := hid (show w2.heap.size + 1 ≤ (((((w6).setCell ⟨w2.heap.size, 0, none⟩ (.int .i64 (xa : Int))).setCell ⟨w2.heap.size, 1, none⟩ (.int .i64 (xb : Int))).setCell ⟨w2.heap.size, 2, none⟩ (.int .i64 (xc : Int))).setCell ⟨w2.heap.size, 3, none⟩ (.slice pa3 ql pc3)).heap.size by have := Nat.le_trans hs4.out (hb56).size; simpa using this)
                  go_wp2_with fail
                  go_region
                  all_goals
                    go_wp2_with fail
                    go_roundw
                    case rel => exact ⟨k + 1, out ++ [⟨xa, xb, xc, xp⟩], some on, ⟨xa, xb, xc, xp⟩, pa3, pc3, by omega, by go_num, by rw [show hiI (some on) = (on : Int) from rfl, hol.out], hid (by rw [List.length_append, hon.out, hol.out]; rfl), hokn, hbest, hvok, hid (below_drew S3.out), hid (by rw [hql.out]; exact S1.out.below (below_drew (Below.refl _ _))), hid (by have h9 := S2.out.below (below_drew (Below.refl _ _)); rw [← hql.out] at h9 ⊢; exact h9), hid (by have := S5.out; simpa using this), hid (by rw [hcells.out, List.length_append, hon.out]; exact ownsRow_below S4.out (below_drew (Below.refl _ _))), hid (fun h => by simp at h)⟩
                    case measure => simp [intOf]; omega
                · go_wp2_with (first
                    | (go_at_call 21; (with_reducible refine A2.out.mono ?_); rintro e w5 ⟨rfl, hb5⟩; have i0 := bc hb5 m0; have i1 := bc hb5 m1; have i2 := bc hb5 m2; have i3 := bc hb5 m3; have j0 := (hbb4.out.below hb5).cell 0 rfl; have j1 := (hbb4.out.below hb5).cell 1 rfl; have j2 := (hbb4.out.below hb5).cell 2 rfl; have j3 := (hbb4.out.below hb5).cell 3 rfl)
                    | (go_at_call 22; (with_reducible refine (CM.out _ hb5).mono ?_); rintro e w6 ⟨rfl, hb6⟩))
                  go_roundw
                  case rel => exact ⟨k + 1, out ++ [⟨xa, xb, xc, xp⟩], some h, b, pa, pc, by omega, by go_num, rfl, hid (by rw [List.length_append, hon.out, hol.out]; rfl), hokn, hid (hB.out.less hfh.out (by rw [hcm.out]; omega)), hbok, hid (below_trans kp.out (below_trans hb5 hb6)), hid (hbb4.out.below (below_trans hb5 hb6)), hid (hpb4.out.below (below_trans hb5 hb6)), hid (Nat.le_trans hs4.out ((below_trans hb5 hb6)).size), hid (by rw [hcells.out, List.length_append, hon.out]; exact ownsRow_below HOWN4.out (below_trans hb5 hb6)), hid (fun h => by simp at h)⟩
                  case measure => simp [intOf]; omega
      · have hke : k = n := by omega
        have hvb := hid (v1.out.below hb.out)
        have TK := hid (HPD.out _ (hm.below zw.out) (ht.below zw.out) (hg.below zw.out))
        go_wp2_with fail
        refine TK.out.mono ?_
        rintro e w3 ⟨rfl, hb3⟩
        have y := (hvb.out.below hb3).cell 0 rfl
        have zw3 := hid (below_trans zw.out hb3)
        cases o1 with
        | none =>
          obtain rfl : f1 = false := hf1.out.symm
          obtain ⟨rfl, rfl, rfl⟩ := N1.out rfl
          have hH : H = none := hB.out.1
          subst hH
          rw [show hiI none = -1 from rfl]
          have HZ := hid (highest_zero oa out.length oc)
          clear hB hown hpb hbb hok hr1 hr2 M1 M2 OK1 P1 P2 HPD TK
          go_wp2_with (go_at_call 23; (with_reducible refine (HZ.out _).mono ?_); rintro e w4 ⟨rfl, hb4⟩)
          go_ret
          exact ⟨rfl, below_trans zw3.out hb4⟩
        | some rs =>
          obtain rfl : f1 = true := hf1.out.symm
          obtain rfl := M1.out rs rfl
          have okr := hid (OK1.out rs rfl)
          have hn40 := hid (show out.length ≤ 40 by rw [hol.out]; omega)
          have hokk := hid (show ∀ k, k < out.length → (out.getD k zeroT).ok from fun k hk => hok.out k _ (by rw [List.getD_eq_getElem?_getD, List.getElem?_eq_getElem hk]; rfl))
          have hal : ∃ g, Hid (out.length ≠ 0 → oa = some ⟨g, 0, none⟩) ∧ Hid (out.length ≠ 0 → VersAt wr g 0 out) := by
            by_cases h0 : out.length = 0
            · exact ⟨0, hid (fun h => absurd h0 h), hid (fun h => absurd h0 h)⟩
            · obtain ⟨g, cc, hv, _, q2, q3, q4, q5⟩ := ownsRow_any hown.out h0
              cases hv
              refine ⟨g, hid (fun _ => rfl), hid (fun _ => ⟨q2, fun j hj => ?_⟩)⟩
              have hx : out[j]? = some (out.getD j zeroT) := by rw [List.getD_eq_getElem?_getD, List.getElem?_eq_getElem hj]; rfl
              rw [Nat.zero_add]
              exact ⟨q5 _ _ (cellsV_at hx 0 _ rfl), q5 _ _ (cellsV_at hx 1 _ rfl), q5 _ _ (cellsV_at hx 2 _ rfl), q5 _ _ (cellsV_at hx 3 _ rfl)⟩
          obtain ⟨g, hoa, hva⟩ := hal
          have hH := hid (show H = hiT rs out out.length from hB.out.1)
          have HI := hid (highest_any rs (.slice oa1 rs.length cp1) okr.out out (by have := hn40.out; omega) hokk.out g oc oa hoa.out w3 (hm.below zw3.out) (ht.below zw3.out) (hg.below zw3.out) (((hr1.out rs rfl).below hb.out).below hb3) (fun h => (hva.out h).below hb3))
          rw [← hH.out] at HI
          clear hB hown hpb hbb hok hr1 hr2 M1 M2 OK1 P1 P2 HPD TK hH hoa hva hokk okr
          generalize hiI H = hh at HI ⊢
          go_wp2_with (go_at_call 23; (with_reducible refine HI.out.mono ?_); rintro e w4 ⟨rfl, hb4⟩)
          go_ret
          exact ⟨rfl, below_trans zw3.out hb4⟩
end Go.Proofs.YtebhgcejcdgdbaaGreatDoor.Sp
