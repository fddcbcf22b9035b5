/-
  LAYER 4, THE LAWS' own 'of': the document's alternatives of a range that may be one.
-/
import Derived.Test.YtebhgcejcdgdbaaGreatDoorMK
import Derived.Test.YtebhgcejcdgdbaaGreatDoorMI
import Derived.Deep.AppendLies
namespace Go.Proofs.YtebhgcejcdgdbaaGreatDoor.Sp
open Go.RowKit Go.Sort
open Go.Proofs.YtebhgcejcdgdbaaGreatDoor Go.Proofs.YtebhgcejcdgdbaaGreatDoor.Nu Go.Proofs.YtebhgcejcdgdbaaGreatDoor.Vs

/-- the document's version of a version's text -/
def ParsedV (a b c : Nat) (p : List UInt8) (w : World) (e : Ending) (w' : World) : Prop :=
  ∃ pa pc, e = .returned (.tuple #[.agg #[.int .i64 (a : Int), .int .i64 (b : Int), .int .i64 (c : Int), .slice pa (rows p).length pc], .bool true]) ∧ Below w.heap.size w w' ∧ PreAt w' (.slice pa (rows p).length pc) (rows p)
theorem rparseV_any (a b c : Nat) (p : List UInt8) (ha : a < 1000000) (hb : b < 1000000) (hc : c < 1000000) (hp : p = [] ∨ preV p = true) (w : World) :
    Calls Tryz.prog 36 #[.string ⟨(textV a b c p).toArray⟩] w (ParsedV a b c p w) := by
  obtain ⟨h0, h1, h2, h3, h4⟩ := of_text (pre := p) ha hb hc
  rw [decide_eq_true hp] at h0
  have hl : (textV a b c p).length < 4294967281 := by
    have := compText_len (c := ⟨0, a, b, c, p⟩) (.inl ⟨by show 0 < 8; omega, ha, hb, hc, hp⟩)
    unfold compText at this
    rw [if_neg (by show ¬ 0 = 8; omega), List.length_append] at this
    have h5 : (textV (CompT.a ⟨0, a, b, c, p⟩) (CompT.b ⟨0, a, b, c, p⟩) (CompT.c ⟨0, a, b, c, p⟩) (CompT.p ⟨0, a, b, c, p⟩)).length = (textV a b c p).length := rfl
    omega
  refine (rparse_any ⟨(textV a b c p).toArray⟩ (sizeL _ _ hl) w).mono ?_
  rintro e w' ⟨hb', ⟨hv, _⟩ | ⟨_, pv, rfl, hpre⟩⟩
  · have : verV (textV a b c p) = false := hv
    rw [h0] at this; cases this
  · have hpre' : PreAt w' pv (preL (textV a b c p)) := hpre
    rw [preL_rows h0, h4] at hpre'
    obtain ⟨pa, pc, rfl⟩ := hpre'.shape
    refine ⟨pa, pc, ?_, hb', hpre'⟩
    show Ending.returned (.tuple #[rVal (nth (textV a b c p) 0) (nth (textV a b c p) 1) (nth (textV a b c p) 2) _, .bool true]) = _
    rw [h1, h2, h3]; rfl

def OfR (rs : List (List CompT)) (w : World) (e : Ending) (w' : World) : Prop := ∃ oa cp, e = .returned (.slice oa rs.length cp) ∧ Below w.heap.size w w' ∧ RRngAt w' (.slice oa rs.length cp) rs

theorem five_blk {W : World} {b : Nat} {e : TypeId} {x y0 y1 y2 y3 : Value} (h : Blk W b [x, y0, y1, y2, y3] e) (a0 a1 a2 a3 : Value) : Blk ((((W.setCell ⟨b, 1, none⟩ a0).setCell ⟨b, 2, none⟩ a1).setCell ⟨b, 3, none⟩ a2).setCell ⟨b, 4, none⟩ a3) b [x, a0, a1, a2, a3] e := (((h.set 1 a0).set 2 a1).set 3 a2).set 4 a3
theorem pre_four {W : World} {b : Nat} {e : TypeId} {k : IntKind} {x : Int} {r : List Value} {pv : Value} {Q : List (List UInt8)} (h : PreAt W pv Q) (hx : Blk W b (.int k x :: r) e) (a0 a1 a2 a3 : Value) :
    PreAt ((((W.setCell ⟨b, 1, none⟩ a0).setCell ⟨b, 2, none⟩ a1).setCell ⟨b, 3, none⟩ a2).setCell ⟨b, 4, none⟩ a3) pv Q := by
  rcases h with h | ⟨g, cc, h1, h2, h3, h4, h5⟩
  · exact .inl h
  · have n1 := cells_ne h5 h1 hx
    exact .inr ⟨g, cc, h1, h2, h3, h4, (((h5.other n1 a0).other n1 a1).other n1 a2).other n1 a3⟩

set_option maxRecDepth 20000 in
set_option maxHeartbeats 8000000 in
theorem of_rng (rs : List (List CompT)) (v : Value) (h1 : 1 ≤ rs.length) (h4 : rs.length ≤ 4) (hok : ∀ cs, cs ∈ rs → 1 ≤ cs.length ∧ cs.length ≤ 4 ∧ ∀ c, c ∈ cs → OkC c) (w : World) (hm : MaxAt w) (ht : TenAt w) (hr : RngAt w v rs) :
    Calls Tryz.prog 17 #[.agg #[v]] w (OfR rs w) := by
  obtain ⟨G, cp, vs, rfl, hcp, hcm, hGl, hGc, hal⟩ := hr
  have HAT := hid hal.2
  have HOK := hid hok
  have h4' := hid h4
  have h1' := hid h1
  replace hGc := hid hGc
  have hcp' := hid hcp
  clear hal hok h4 hcp h1
  have hb0 := hid (below_alloc (Below.refl w.heap.size w) (.cells #[.slice (some ⟨G, 0, none⟩) rs.length cp] 25))
  have hn0 := hid (Blk.new w [.slice (some ⟨G, 0, none⟩) rs.length cp] 25)
  replace hGc := hid (fun k x (h : vs[k]? = some x) => bc hb0.out (hGc.out k x h))
  replace HAT := hid (fun k cs (h : rs[k]? = some cs) => show cs ≠ [] ∧ ∃ v, vs[k]? = some v ∧ AltAt _ v cs from ⟨(HAT.out k cs h).1, by obtain ⟨_, v, h1, h2⟩ := HAT.out k cs h; exact ⟨v, h1, h2.below hb0.out⟩⟩)
  replace hm := hm.below hb0.out
  replace ht := ht.below hb0.out
  replace hGl := Nat.lt_of_lt_of_le hGl hb0.out.size
  go_enter Tryz.func17, Tryz.ntmps17
  go_wp2_with fail
  generalize w.alloc (.cells [.slice (some ⟨G, 0, none⟩) rs.length cp].toArray 25) = W at hb0 hn0 hGc HAT hm ht hGl ⊢
  generalize hbe : w.heap.size = b at hn0 ⊢
  replace hbe := hid hbe
  go_loopw [3, 4, 5, 6, 7] (fun o i _ _ _ wr => ∃ (k : Nat) (out : List (List CompT)) (us : List Value), k ≤ rs.length ∧ i = .int .i64 k ∧ Hid (out = rs.take k) ∧ Hid (out.length = k) ∧ Hid (Below W.heap.size W wr) ∧ Hid (wr.ownsRow W.heap.size 63 1 o out.length us) ∧ Hid (out.length = 0 → o.ownBlock = none) ∧ Hid (RAltsAt wr us out)) (fun _ i _ _ _ _ => rs.length - (intOf i).toNat)
  case atStart => exact ⟨0, [], [], by omega, rfl, hid rfl, hid rfl, hid (Below.refl _ _), hid (World.ownsRow_nil _ _ _ _), hid (fun _ => rfl), hid ⟨rfl, fun k cs h => by simp at h⟩⟩
  case round =>
    obtain ⟨k, out, us, hk, rfl, hot, hol, hb, hown, ho0, hat⟩ := hrel
    obtain ⟨oa, oc, hoe⟩ := own_shape hown.out
    subst hoe
    have r0 := (hn0.out.below hb.out).cell 0 rfl
    have rl := (hn0.out.below hb.out).lt
    by_cases hlt : k < rs.length
    · have k4 : k < 4 := by have := h4'.out; omega
      have hx := List.getElem?_eq_getElem hlt
      generalize rs[k] = cs at hx
      have hcs := HOK.out cs (List.mem_of_getElem? hx)
      obtain ⟨hcn, v, hv1, hv2⟩ := HAT.out k cs hx
      obtain ⟨B, cq, rfl, hq1, hq2, hBl, hBc⟩ := hv2
      have hgk := hid (hGc.out k _ hv1)
      have hBC := hid hBc
      have HC := hid hcs.2.2
      have hcne := hid hcn
      have hc4 : cs.length ≤ 4 := hcs.2.1
      have htk := hid (show rs.take (k + 1) = rs.take k ++ [cs] by rw [List.take_add_one, hx]; rfl)
      clear hx hv1 hBc hcs hcn
      have g0 := bc hb.out hgk.out
      go_wp2_with fail
      clear g0 r0 rl
      generalize hw2e : wr = w2 at *
      clear hw2e
      go_loopw [5, 6, 7] (fun a i _ wx => ∃ (j : Nat) (ds : List RC), j ≤ cs.length ∧ i = .int .i64 j ∧ Hid (ds.length = j) ∧ Hid (ds.map Prod.fst = cs.take j) ∧ Hid (Below w2.heap.size w2 wx) ∧ Hid (wx.ownsRow w2.heap.size 65 5 a ds.length (cellsR ds)) ∧ Hid (ds.length = 0 → a.ownBlock = none) ∧ Hid (PresAt wx ds)) (fun _ i _ _ => cs.length - (intOf i).toNat)
      case atStart => exact ⟨0, [], by omega, rfl, hid rfl, hid rfl, hid (Below.refl _ _), hid (World.ownsRow_nil _ _ _ _), hid (fun _ => rfl), hid (fun d hd => by simp at hd)⟩
      case round =>
        obtain ⟨j, ds, hj, rfl, hdl, hdt, hbi, hia, hi0, hpr⟩ := hrel
        obtain ⟨aa, ac, hae⟩ := own_shape hia.out
        subst hae
        have hbW := hid (below_trans hb.out hbi.out)
        have r0 := (hn0.out.below hbW.out).cell 0 rfl
        have rl := (hn0.out.below hbW.out).lt
        have g0 := bc hbW.out hgk.out
        have gl := Nat.lt_of_lt_of_le hGl hbW.out.size
        by_cases hlt2 : j < cs.length
        · have j4 : j < 4 := by omega
          have hx := List.getElem?_eq_getElem hlt2
          generalize cs[j] = c at hx
          obtain ⟨e0, e1, e2, e3, e4⟩ := elem_cells hBC.out hx
          have hokc := hid (HC.out c (List.mem_of_getElem? hx))
          have htk2 := hid (show cs.take (j + 1) = cs.take j ++ [c] by rw [List.take_add_one, hx]; rfl)
          have hd5 := hid (show ds.length ≤ 4 by have := hdl.out; omega)
          clear hx
          have y0 := bc hbW.out e0
          have y1 := bc hbW.out e1
          have y2 := bc hbW.out e2
          have y3 := bc hbW.out e3
          have y4 := bc hbW.out e4
          have yl := Nat.lt_of_lt_of_le hBl hbW.out.size
          have hcells := hid (fun pv => show cellsR (ds ++ [(c, pv)]) = cellsR ds ++ [.int .i64 (c.op : Int), .int .i64 (c.a : Int), .int .i64 (c.b : Int), .int .i64 (c.c : Int), pv] by
            unfold cellsR; rw [List.flatMap_append]; simp [rcCells])
          have hint := hid (@cellsR_int ds)
          generalize cellsR ds = dc5 at hia hcells hint
          generalize hdn : ds.length = dn at hia hdl hd5 hi0 ⊢
          replace hdn := hid hdn
          obtain ⟨iC, hi, hz0, hz1, hz2⟩ := info_parts infoRC
          have hi := hid hi
          have hz0 := hid hz0
          have hz1 := hid hz1
          have hz2 := hid hz2
          by_cases h8 : c.op = 8
          · have hca : c = anyC := by
              rcases hokc.out with ⟨h, _⟩ | h
              · omega
              · exact h
            subst hca
            clear h8 e0 e1 e2 e3 e4
            have z0 : wr.cell? ⟨B, j * 5, none⟩ = some (.int .i64 8) := y0
            have hcells2 := hid (show cellsR (ds ++ [(anyC, .slice none 0 0)]) = dc5 ++ [.int .i64 8, .int .i64 0, .int .i64 0, .int .i64 0, .slice none 0 0] from hcells.out _)
            clear y0 y1 y2 y3 y4 hcells
            go_wp2_with (at_builtin; refine wpList_append_lies _ rfl _ _ 63 rfl w2.heap.size 65 iC (.agg #[.int .i64 0, .int .i64 0, .int .i64 0, .int .i64 0, .slice none 0 0]) 5 56 Tryz.underlying63 hi.out hz0.out hz1.out hz2.out rfl (by decide) _ _ _ rfl ((hia.out.alloc _).alloc _) ⟨_, 0, none⟩ 1 1 [.int .i64 8, .int .i64 0, .int .i64 0, .int .i64 0, .slice none 0 0] rfl rfl ?c1 ?c2 ?cm ?c3 ?c4 ?c5 _ rfl ?_)
            case c1 => exact cells_new _ [_, _, _, _, _] _ _ (by simp)
            case c2 => intro u hu; simp at hu; rcases hu with rfl | rfl | rfl <;> rfl
            case cm => decide
            case c3 => have := hd5.out; unfold maxLen; omega
            case c4 => have := hd5.out; omega
            case c5 => have := hbi.out.size; simp; omega
            intro g cap w4 hown4 hgrow hat4 hlt4
            have AL := hid (below_alloc (below_alloc (Below.refl wr.heap.size wr) (.cells #[.int .i64 8, .int .i64 0, .int .i64 0, .int .i64 0, .slice none 0 0] 65)) (.cells #[.int .i64 8, .int .i64 0, .int .i64 0, .int .i64 0, .slice none 0 0] 65))
            have kp := hid ((below_trans hbi.out AL.out).grown hgrow (by have := hbi.out.size; simp; omega) (fun k hk => (hia.out.lt k hk).1))
            have kk := hid (grown_keeps ((hia.out.alloc (.cells #[.int .i64 8, .int .i64 0, .int .i64 0, .int .i64 0, .slice none 0 0] 65)).alloc (.cells #[.int .i64 8, .int .i64 0, .int .i64 0, .int .i64 0, .slice none 0 0] 65)) (by decide) hint.out hi0.out hgrow)
            have hpr4 := hid (((hpr.out.below AL.out).keeps kk.out).push (d := (anyC, .slice none 0 0)) (.inl ⟨rfl, rfl⟩))
            have HOWN4 := hid hown4
            clear hown4 hgrow hat4 hia kk AL hpr
            go_wp2
            go_roundw
            case rel =>
              refine ⟨j + 1, ds ++ [(anyC, .slice none 0 0)], by omega, by go_num, hid (by rw [List.length_append, hdn.out, hdl.out]; rfl), hid (by rw [List.map_append, hdt.out, htk2.out]; rfl), kp, hid ?_, hid (fun h => by simp at h), hpr4⟩
              rw [hcells2.out, List.length_append, hdn.out]
              exact HOWN4.out
            case measure => simp [intOf]; omega
          · obtain ⟨oka, okb, okc, okp⟩ := okN hokc.out h8
            have TX := hid (fun w hm ht => text_yes c.a c.b c.c c.p (okPre_of okp).1 oka okb okc okp w hm ht)
            have PX := hid (fun w => rparseV_any c.a c.b c.c c.p oka okb okc okp w)
            unfold ParsedV at PX
            have o8 : ((c.op : Int) != 8) = true := by simp; omega
            have hmr := hid (fun w' (h : Below W.heap.size W w') => And.intro (hm.below h) (ht.below h))
            clear oka okb okc okp h8 e0 e1 e2 e3 e4 hokc
            generalize (⟨(textV c.a c.b c.c c.p).toArray⟩ : ByteArray) = tx at TX PX
            generalize hpn : (rows c.p).length = pn at PX
            replace hpn := hid hpn
            generalize (c.op : Int) = x0 at y0 hcells o8
            generalize (c.a : Int) = x1 at y1 hcells TX PX
            generalize (c.b : Int) = x2 at y2 hcells TX PX
            generalize (c.c : Int) = x3 at y3 hcells TX PX
            generalize (⟨c.p.toArray⟩ : ByteArray) = x4 at y4 TX
            have hbn := hid (below_alloc hbW.out (.cells #[.int .i64 x0, .int .i64 0, .int .i64 0, .int .i64 0, .slice none 0 0] 65))
            have hcn := hid (Blk.new wr [.int .i64 x0, .int .i64 0, .int .i64 0, .int .i64 0, .slice none 0 0] 65)
            have AL0 := hid (below_alloc (Below.refl wr.heap.size wr) (.cells #[.int .i64 x0, .int .i64 0, .int .i64 0, .int .i64 0, .slice none 0 0] 65))
            go_wp2_with fail
            generalize wr.alloc (.cells [.int .i64 x0, .int .i64 0, .int .i64 0, .int .i64 0, .slice none 0 0].toArray 65) = W1 at hbn hcn AL0 ⊢
            generalize hbx : wr.heap.size = bx at hcn ⊢
            replace hbx := hid hbx
            refine (TX.out _ (hmr.out _ hbn.out).1 (hmr.out _ hbn.out).2).mono ?_
            rintro e w3 ⟨rfl, hb3⟩
            go_wp2_with fail
            refine (PX.out _).mono ?_
            rintro e w4 ⟨pa, pc, rfl, hb4, hp4⟩
            have hc9 := (hcn.out.below hb3).below hb4
            have E4 := below_trans (below_trans AL0.out hb3) hb4
            have d1 := hc9.cell 1 rfl
            have d2 := hc9.cell 2 rfl
            have d3 := hc9.cell 3 rfl
            have d4 := hc9.cell 4 rfl
            have df := hc9.free
            have hb5 := hid (five_blk hc9 (.int .i64 x1) (.int .i64 x2) (.int .i64 x3) (.slice pa pn pc))
            have E5 := hid ((((E4.setCell (p := ⟨bx, 1, none⟩) (by show wr.heap.size ≤ bx; rw [hbx.out]; exact Nat.le_refl _) (.int .i64 x1)).setCell (p := ⟨bx, 2, none⟩) (by show wr.heap.size ≤ bx; rw [hbx.out]; exact Nat.le_refl _) (.int .i64 x2)).setCell (p := ⟨bx, 3, none⟩) (by show wr.heap.size ≤ bx; rw [hbx.out]; exact Nat.le_refl _) (.int .i64 x3)).setCell (p := ⟨bx, 4, none⟩) (by show wr.heap.size ≤ bx; rw [hbx.out]; exact Nat.le_refl _) (.slice pa pn pc))
            have hp5 := hid (pre_four hp4 hc9 (.int .i64 x1) (.int .i64 x2) (.int .i64 x3) (.slice pa pn pc))
            replace hc9 := hid hc9
            clear hb3 hb4 hp4 E4 hbn hcn AL0 y0 y1 y2 y3 y4 g0 r0 rl gl yl
            go_upto_region 12 with (fail)
            generalize (((w4.setCell ⟨bx, 1, none⟩ (.int .i64 x1)).setCell ⟨bx, 2, none⟩ (.int .i64 x2)).setCell ⟨bx, 3, none⟩ (.int .i64 x3)).setCell ⟨bx, 4, none⟩ (.slice pa pn pc) = W5 at hb5 E5 hp5 ⊢
            clear d1 d2 d3 d4 df hc9
            have c0 := hb5.out.cell 0 rfl
            have c1 := hb5.out.cell 1 rfl
            have c2 := hb5.out.cell 2 rfl
            have c3 := hb5.out.cell 3 rfl
            have c4 := hb5.out.cell 4 rfl
            have hia5 := hid (ownsRow_below hia.out E5.out)
            have hpr5 := hid (hpr.out.below E5.out)
            go_wp2_with (at_builtin; refine wpList_append_lies _ rfl _ _ 63 rfl w2.heap.size 65 iC (.agg #[.int .i64 0, .int .i64 0, .int .i64 0, .int .i64 0, .slice none 0 0]) 5 56 Tryz.underlying63 hi.out hz0.out hz1.out hz2.out rfl (by decide) _ _ _ rfl (hia5.out.alloc _) ⟨_, 0, none⟩ 1 1 [.int .i64 x0, .int .i64 x1, .int .i64 x2, .int .i64 x3, .slice pa pn pc] rfl rfl ?c1 ?c2 ?cm ?c3 ?c4 ?c5 _ rfl ?_)
            case c1 => exact cells_new _ [_, _, _, _, _] _ _ (by simp)
            case c2 => intro u hu; simp at hu; rcases hu with rfl | rfl | rfl | rfl | rfl <;> rfl
            case cm => decide
            case c3 => have := hd5.out; unfold maxLen; omega
            case c4 => have := hd5.out; omega
            case c5 => have h9 := hbi.out.size; have h8 := E5.out.size; simp; omega
            intro g cap w6 hown4 hgrow hat4 hlt4
            have hbi5 := hid (below_trans hbi.out E5.out)
            have AL := hid (below_alloc (Below.refl W5.heap.size W5) (.cells #[.int .i64 x0, .int .i64 x1, .int .i64 x2, .int .i64 x3, .slice pa pn pc] 65))
            have kp := hid ((below_trans hbi5.out AL.out).grown hgrow (by have := hbi5.out.size; simp; omega) (fun k hk => (hia5.out.lt k hk).1))
            have kk := hid (grown_keeps (hia5.out.alloc (.cells #[.int .i64 x0, .int .i64 x1, .int .i64 x2, .int .i64 x3, .slice pa pn pc] 65)) (by decide) hint.out hi0.out hgrow)
            have hp6 := hid (pre_keeps (hp5.out.below AL.out) kk.out)
            have hpr4 := hid (((hpr5.out.below AL.out).keeps kk.out).push (d := (c, .slice pa pn pc)) hp6.out)
            have HOWN4 := hid hown4
            clear hown4 hgrow hat4 hia hia5 kk AL hpr hpr5 hp5 hp6 c0 c1 c2 c3 c4
            go_wp2
            go_roundw
            case rel =>
              refine ⟨j + 1, ds ++ [(c, .slice pa pn pc)], by omega, by go_num, hid (by rw [List.length_append, hdn.out, hdl.out]; rfl), hid (by rw [List.map_append, hdt.out, htk2.out]; rfl), kp, hid ?_, hid (fun h => by simp at h), hpr4⟩
              rw [hcells.out, List.length_append, hdn.out]
              exact HOWN4.out
            case measure => simp [intOf]; omega
        · have hje := hid (show j = cs.length by omega)
          have hfin := hid (show ds.map Prod.fst = cs by rw [hdt.out, hje.out, List.take_length])
          have h0 := hid (show ds.length ≠ 0 by
            rw [hdl.out, hje.out]; intro e; exact hcne.out (List.eq_nil_of_length_eq_zero e))
          obtain ⟨g, cc, hv, _, q2, q3, q4, q5⟩ := ownsRow_any hia.out h0.out
          cases hv
          have fin := hid (show RAltAt wr (.slice (some ⟨g, 0, none⟩) ds.length ac) (ds.map Prod.fst) from ⟨g, ac, ds, by rw [List.length_map], by rw [List.length_map]; exact q3, q4, q2, rfl, hpr.out, q5⟩)
          rw [hfin.out] at fin
          have hown3 := hid (ownsRow_below hown.out hbi.out)
          have hat3 := hid (hat.out.below hbi.out)
          clear q2 q3 q4 q5 hia hpr hown hat hbi hi0 hdt hfin
          generalize ds.length = cl at fin h0 ⊢
          obtain ⟨iC, hi, hz0, hz1, hz2⟩ := info_parts infoRA
          have hi := hid hi
          have hz0 := hid hz0
          have hz1 := hid hz1
          have hz2 := hid hz2
          generalize hon : out.length = on at hown3 hol ho0 ⊢
          replace hon := hid hon
          have on5 := hid (show on ≤ 4 by have := hol.out; omega)
          go_wp2_with (at_builtin; refine wpList_append_lies _ rfl _ _ 28 rfl W.heap.size 63 iC (.slice none 0 0) 1 24 Tryz.underlying28 hi.out hz0.out hz1.out hz2.out rfl (by decide) _ _ _ rfl (hown3.out.alloc _) ⟨_, 0, none⟩ 1 1 [.slice (some ⟨g, 0, none⟩) cl ac] rfl rfl ?e1 ?e2 ?em ?e3 ?e4 ?e5 _ rfl ?_)
          case e1 => exact cell_one_at _ _ _ _ (by simp)
          case e2 => intro u hu; simp at hu; subst hu; rfl
          case em => decide
          case e3 => have := on5.out; unfold maxLen; omega
          case e4 => have := on5.out; omega
          case e5 => have := hbW.out.size; simp; omega
          intro g2 cap w4 hown4 hgrow hat4 hlt4
          have AL := hid (below_alloc (Below.refl wr.heap.size wr) (.cells #[.slice (some ⟨g, 0, none⟩) cl ac] 63))
          have kp := hid ((below_trans hbW.out AL.out).grown hgrow (by have := hbW.out.size; simp; omega) (fun k hk => (hown3.out.lt k hk).1))
          have kk := hid (grown_keeps (hown3.out.alloc (.cells #[.slice (some ⟨g, 0, none⟩) cl ac] 63)) (by decide) hat3.out.slice ho0.out hgrow)
          have hat5 := hid (((hat3.out.below AL.out).keeps kk.out).push hcne.out ((fin.out.below AL.out).keeps hcne.out kk.out))
          have HOWN4 := hid hown4
          clear hown4 hgrow hat4 hown3 hat3 kk AL fin hbW r0 g0 rl gl
          go_wp2
          go_roundw
          case rel =>
            refine ⟨k + 1, out ++ [cs], us ++ [.slice (some ⟨g, 0, none⟩) cl ac], by omega, by go_num, hid (by rw [htk.out, ← hot.out]), hid (by rw [List.length_append, hon.out, hol.out]; rfl), kp, hid ?_, hid (fun h => by simp at h), hat5⟩
            rw [List.length_append, hon.out]
            exact HOWN4.out
          case measure => simp [intOf]; omega
    · have hke := hid (show k = rs.length by omega)
      have hor := hid (show out = rs by rw [hot.out, hke.out, List.take_length])
      have h0 := hid (show out.length ≠ 0 by rw [hol.out, hke.out]; have := h1'.out; omega)
      obtain ⟨g, cc, hv, q1, q2, q3, q4, q5⟩ := ownsRow_any hown.out h0.out
      cases hv
      have fin := hid (show RRngAt wr (.slice (some ⟨g, 0, none⟩) out.length oc) out from ⟨g, oc, us, rfl, q3, q4, q2, q5, hat.out⟩)
      clear q1 q2 q3 q4 q5 hown hat HAT HOK hot hol h0 ho0
      have hor2 := hor.out
      subst hor2
      go_wp2_with fail
      go_ret
      exact ⟨_, _, rfl, below_trans hb0.out hb.out, fin.out⟩
end Go.Proofs.YtebhgcejcdgdbaaGreatDoor.Sp
