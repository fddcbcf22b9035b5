/-
  LAYER 1: the document's own ReadMost and Read.
-/
import Derived.Test.YtmeaajhongalaaaGreatDoorLinesRead
namespace Go.Proofs.YtmeaajhongalaaaGreatDoor.Ln
open Go.RowKit

theorem infoR : (Tryz.prog.info? 80).map (fun i => (i.zero, i.size, i.bytes)) = some (some (.agg #[.int .i64 0, .slice none 0 0, .slice none 0 0]), 3, 56) := by kernel_rfl
theorem refSplit_list (l : List UInt8) (hs : l.length ≤ 1099511627776) (no : Int) (w : World) :
    Calls Tryz.prog 128 #[.string ⟨l.toArray⟩, .int .i64 no] w (SplitIs (lineOf l) no w) :=
  refSplit_any ⟨l.toArray⟩ (by show l.toArray.size ≤ _; simpa using hs) no w
theorem byte_list (l : List UInt8) (k : Nat) (h : k < l.length) : ∀ h' : k < (⟨l.toArray⟩ : ByteArray).size, l[k]? = some (⟨l.toArray⟩ : ByteArray)[k] := by
  intro h'
  rw [List.getElem?_eq_getElem h]; rfl
theorem run_drop (p : UInt8 → Bool) (l : List UInt8) (a : Nat) : ((l.drop a).takeWhile p).length = run p l a := rfl

set_option maxRecDepth 100000 in
set_option maxHeartbeats 8000000 in
theorem refMost_any (l0 : List UInt8) (hs : l0.length ≤ 1099511627776) (most : Nat) (hm : most ≤ 1099511627777) (w : World) :
    Calls Tryz.prog 73 #[.string ⟨l0.toArray⟩, .int .i64 (most : Int)] w (ReadIs 80 (rdC most l0 1 []) w) := by
  generalize hres : rdC most l0 1 [] = RES
  have HRES := hid hres
  clear hres
  go_enter Tryz.func73, Tryz.ntmps73
  go_wp2_with fail
  have hflt : Blk (w.alloc (.cells #[.int .i64 0, .int .i64 0, .int .i64 0] 74)) w.heap.size [.int .i64 0, .int .i64 0, .int .i64 0] 74 := Blk.new w [.int .i64 0, .int .i64 0, .int .i64 0] _
  go_loopw [6, 7, 8] (fun v i s wr => ∃ a no out, s = .int .i64 (a : Nat) ∧ i = .int .i64 (no : Nat) ∧ a ≤ l0.length + 1 ∧ no ≤ a + 1 ∧ rdC most l0 1 [] = rdC most (l0.drop a) no out ∧ Below w.heap.size w wr ∧ Blk wr w.heap.size [.int .i64 0, .int .i64 0, .int .i64 0] 74 ∧ LinesV wr 80 (w.heap.size + 1) v out ∧ out.length < no) (fun _ _ s _ => l0.length + 1 - (intOf s).toNat)
  case atStart => exact ⟨0, 1, [], rfl, rfl, by omega, by omega, rfl, below_alloc (Below.refl _ _) _, hflt, LinesV.nil _ _ _, by decide⟩
  case round =>
    obtain ⟨a, no, out, rfl, rfl, ha, hno, hrd, hbl, hft, hout, hol⟩ := hrel
    have HRD := hid hrd
    clear hrd hflt
    have f0 := hft.cell 0 rfl
    have f1 := hft.cell 1 rfl
    have f2 := hft.cell 2 rfl
    have ff := hft.free
    by_cases hal : a < l0.length
    · have hne : l0.drop a ≠ [] := by
        intro h
        have := congrArg List.length h
        rw [List.length_drop] at this
        simp at this; omega
      have hrl := run_le (· != 10) l0 a (by omega)
      generalize ht : a + run (· != 10) l0 a = t at hrl
      have ht' := hid ht
      clear ht
      have hat : a ≤ t := by have := ht'.out; omega
      have hne' := hid hne
      clear hne
      go_upto_block 2 with (fail)
      go_cut [9] (fun v wx => v = .int .i64 (t : Nat) ∧ wx = wr)
      case first =>
        go_wp2_with fail
        go_loop [9] (fun v => ∃ j : Nat, a ≤ j ∧ j ≤ t ∧ v = .int .i64 j ∧ t = j + run (· != 10) l0 j) (fun v => t - (intOf v).toNat)
        case atStart => exact ⟨a, by omega, by omega, rfl, ht'.out.symm⟩
        case round =>
          obtain ⟨j, hj1, hj2, rfl, hjr⟩ := hrel
          have hjr' := hid hjr
          clear hjr
          by_cases hjt : j < t
          · have hjs : j < (⟨l0.toArray⟩ : ByteArray).size := by show j < l0.toArray.size; simp; omega
            have hlj := byte_list l0 j (by omega) hjs
            obtain ⟨c, hc1, hc2⟩ := run_mem (p := (· != 10)) (l := l0) (a := j) (i := 0) (by have := hjr'.out; omega)
            rw [Nat.add_zero, hlj] at hc1
            cases hc1
            have hy := hid (run_yes (p := (· != 10)) hlj hc2)
            have n1 : (((⟨l0.toArray⟩ : ByteArray)[j].toNat : Int) != 10) = true := by
              rw [bne_iff_ne]; intro e
              have : (⟨l0.toArray⟩ : ByteArray)[j] = 10 := by rw [← UInt8.toNat_inj]; simp; omega
              rw [this] at hc2; simp at hc2
            have hlj2 : j < l0.length := by omega
            clear hlj hc2
            go_wp2_with fail
            go_round
            case rel => exact ⟨j + 1, by omega, by omega, by go_num, by have := hjr'.out; have := hy.out; omega⟩
            case measure => simp [intOf]; omega
          · have hjt' : j = t := by omega
            have hd : (¬ j < l0.length) ∨ ∃ h : j < (⟨l0.toArray⟩ : ByteArray).size, j < l0.length ∧ (((⟨l0.toArray⟩ : ByteArray)[j].toNat : Int) != 10) = false := by
              rcases Nat.lt_or_ge j l0.length with h | h
              · right
                have hjs : j < (⟨l0.toArray⟩ : ByteArray).size := by show j < l0.toArray.size; simpa using h
                refine ⟨hjs, h, ?_⟩
                have hlj := byte_list l0 j h hjs
                have hst := run_stop (p := (· != 10)) (l := l0) (a := a) (c := (⟨l0.toArray⟩ : ByteArray)[j]) (by rw [ht'.out, ← hjt']; exact hlj)
                have : (⟨l0.toArray⟩ : ByteArray)[j] = 10 := by simpa using hst
                rw [this]; rfl
              · left; omega
            have hjt2 := hid hjt'
            clear hjt' hjr'
            rcases hd with hd | ⟨hd, hd2, hd3⟩
            all_goals
              go_wp2_with fail
              go_meet
              exact ⟨by rw [hjt2.out], rfl⟩
      case rest =>
        obtain ⟨rfl, rfl⟩ := hcut
        by_cases hmn : most < no
        · have HE := hid (rdC_most (out := out) hne'.out hmn)
          go_wp2_with fail
          have q := three_cells hft (.int .i64 2) (.int .i64 no) (.int .i64 0)
          have q0 := q.cell 0 rfl
          have q1 := q.cell 1 rfl
          have q2 := q.cell 2 rfl
          exact bodyPost_ret (v := .tuple #[.slice none 0 0, .agg #[.int .i64 2, .int .i64 no, .int .i64 0]]) (by simp [results, Tryz.results73, go_sem, q0, q1, q2]) rfl (read_err (HRES.out.symm.trans (HRD.out.trans HE.out)) rfl (setCells3 hbl))
        · have HER := fun e col h => rdC_err (out := out) (e := e) (col := col) hne'.out hmn h
          have HOK := fun ws cs h => rdC_ok (out := out) (ws := ws) (cs := cs) hne'.out hmn h
          have hfe : (fore 10 (l0.drop a)).length = t - a := by have := ht'.out; show run (· != 10) l0 a = t - a; omega
          have haft : aft 10 (l0.drop a) = l0.drop (t + 1) := by
            rw [← aft_drop, hfe, List.drop_drop]; congr 1; omega
          have hex : (⟨l0.toArray⟩ : ByteArray).extract a t = ⟨(fore 10 (l0.drop a)).toArray⟩ := by
            rw [extract_eq, ← fore_take 10 (l0.drop a), hfe]
          have hfl : (fore 10 (l0.drop a)).length ≤ 1099511627776 := by omega
          rw [haft] at HOK
          generalize fore 10 (l0.drop a) = L at *
          have HFL := hid hfl
          have HER' := hid HER
          have HOK' := hid HOK
          clear HER HOK hfl hfe haft
          go_wp2_with fail
          refine (refSplit_list _ HFL.out _ _).mono ?_
          rintro e w2 ⟨hb2, hsp⟩
          have hB1 := hid hft.lt
          have hbl2 := below_trans hbl hb2
          have hft2 := hft.below hb2
          have hout2 := hout.below hb2
          clear hbl hft hout f0 f1 f2 ff hex
          cases hlo : lineOf L with
          | error p =>
            obtain ⟨ec, col⟩ := p
            rw [hlo] at hsp
            subst hsp
            have HE := hid (HER'.out ec col hlo)
            have hec : ((ec : Int) != 0) = true := by
              rcases spC_code hlo with h | h <;> rw [h] <;> rfl
            have hft3 := ((hft2.alloc (.cells #[.int .i64 0, .slice none 0 0, .slice none 0 0] 80)).alloc (.cells #[.int .i64 (ec : Int), .int .i64 (no : Int), .int .i64 (col : Int)] 74))
            have f0 := hft3.cell 0 rfl
            have f1 := hft3.cell 1 rfl
            have f2 := hft3.cell 2 rfl
            have ff := hft3.free
            have hB2 := hid hft2.lt
            go_wp2_with fail
            go_region
            all_goals
              go_wp2_with fail
              have q := three_cells hft3 (.int .i64 (ec : Int)) (.int .i64 (no : Int)) (.int .i64 (col : Int))
              have q0 := q.cell 0 rfl
              have q1 := q.cell 1 rfl
              have q2 := q.cell 2 rfl
              exact bodyPost_ret (v := .tuple #[.slice none 0 0, .agg #[.int .i64 (ec : Int), .int .i64 (no : Int), .int .i64 (col : Int)]]) (by simp [results, Tryz.results73, go_sem, q0, q1, q2]) rfl (read_err (HRES.out.symm.trans (HRD.out.trans HE.out)) rfl (setCells3 (below_alloc (below_alloc hbl2 _) _)).drew)
          | ok p =>
            obtain ⟨ws, cs⟩ := p
            rw [hlo] at hsp
            obtain ⟨wv, cv, rfl, hrows⟩ := hsp
            have HE := hid (HOK'.out ws cs hlo)
            obtain ⟨wa, wc', hwv⟩ := own_shape hrows.1
            obtain ⟨ca, cc, hcv⟩ := own_shape hrows.2
            subst hwv; subst hcv
            have hB2 := hft2.lt
            have hsz := hb2.size
            by_cases hw0 : ws = []
            · have hwl : ws.length = 0 := by rw [hw0]; rfl
              have hw0' := hid hw0
              clear hw0
              go_wp2_with fail
              go_roundw
              case rel =>
                refine ⟨t + 1, no + 1, out, by go_num, by go_num, by omega, by omega, by rw [HRD.out, HE.out, if_pos hw0'.out], below_alloc (below_alloc hbl2 _) _, (hft2.alloc _).alloc _, ?_, by omega⟩
                exact (hout2.below (below_alloc (below_alloc (Below.refl _ _) _) _))
              case measure => simp [intOf]; omega
            · have hwl : 0 < ws.length := List.length_pos_iff.2 hw0
              have hw0' := hid hw0
              clear hw0
              obtain ⟨cells, ho, h2⟩ := hout2
              obtain ⟨iL, hi, hz0, hz1, hz2⟩ := info_parts infoR
              have hi := hid hi
              have hz0 := hid hz0
              have hz1 := hid hz1
              have hz2 := hid hz2
              have h2' := hid h2
              clear h2
              have hno' := hid (show out.length + 1 ≤ 1099511627778 by omega)
              go_wp2_with (at_builtin; refine wpList_append_lies _ rfl _ _ 72 rfl (w.heap.size + 1) 80 iL (.agg #[.int .i64 0, .slice none 0 0, .slice none 0 0]) 3 56 Tryz.underlying72 hi.out hz0.out hz1.out hz2.out rfl (by decide) _ _ _ rfl (((ho.alloc _).alloc _).alloc _) ⟨_, 0, none⟩ 1 1 [.int .i64 (no : Int), .slice wa ws.length wc', .slice ca cs.length cc] rfl rfl ?c1 ?c2 ?cm ?c3 ?c4 ?c5 _ rfl ?_)
              case c1 => exact cells_new _ [_, _, _] _ _ (by simp)
              case c2 =>
                intro u hu
                simp at hu
                rcases hu with rfl | rfl | rfl <;> rfl
              case cm => decide
              case c3 => have := hno'.out; unfold maxLen; omega
              case c4 => have := hno'.out; omega
              case c5 => simp; omega
              intro g cap w3 hown3 hgrow hat' hlt3
              have hbl3 : Below w.heap.size w w3 := (below_alloc (below_alloc (below_alloc hbl2 _) _) _).grown hgrow (by simp; omega) (fun k hk => by have := (ho.lt k hk).1; omega)
              have hft3 := ((((hft2.alloc (.cells #[.int .i64 (no : Int), .slice wa ws.length wc', .slice ca cs.length cc] 80)).alloc (.cells #[.int .i64 0, .int .i64 0, .int .i64 0] 74)).alloc (.cells #[.int .i64 (no : Int), .slice wa ws.length wc', .slice ca cs.length cc] 80)).grown hgrow (own_ne ho (by omega)))
              have grow3 : Below w2.heap.size w2 (((w2.alloc (.cells #[.int .i64 (no : Int), .slice wa ws.length wc', .slice ca cs.length cc] 80)).alloc (.cells #[.int .i64 0, .int .i64 0, .int .i64 0] 74)).alloc (.cells #[.int .i64 (no : Int), .slice wa ws.length wc', .slice ca cs.length cc] 80)) := below_alloc (below_alloc (below_alloc (Below.refl _ _) _) _) _
              have hlv : LinesV w3 80 (w.heap.size + 1) (.slice (some ⟨g, 0, none⟩) (out.length + 1) cap) (out ++ [(no, ws, cs)]) := by
                refine LinesV.push (x := (no, ws, cs)) (ownsRow_below ho grow3) (fun i x hx => ?_) (hrows.below grow3) (by have := hB1.out; omega) (by decide) (by decide) hgrow hown3
                obtain ⟨wv, cv, a, b, c, d⟩ := h2'.out i x hx
                exact ⟨wv, cv, a, b, c, d.below grow3⟩
              clear hgrow hown3 ho hbl2 hft2 hrows grow3 hsz hB2
              go_wp2
              go_roundw
              case rel =>
                refine ⟨t + 1, no + 1, out ++ [(no, ws, cs)], by go_num, by go_num, by omega, by omega, by rw [HRD.out, HE.out, if_neg hw0'.out], hbl3, hft3, hlv, by rw [List.length_append, List.length_singleton]; omega⟩
              case measure => simp [intOf]; omega
    · have hnil : l0.drop a = [] := List.drop_eq_nil_of_le (by omega)
      have HE := hid (show rdC most (l0.drop a) no out = .ok out by rw [hnil]; rfl)
      clear hnil
      go_wp2_with fail
      have q := three_cells hft (.int .i64 0) (.int .i64 0) (.int .i64 0)
      have q0 := q.cell 0 rfl
      have q1 := q.cell 1 rfl
      have q2 := q.cell 2 rfl
      refine bodyPost_ret (v := .tuple #[u6, .agg #[.int .i64 0, .int .i64 0, .int .i64 0]]) (by simp [results, Tryz.results73, go_sem, q0, q1, q2]) rfl ?_
      rw [HRES.out.symm.trans (HRD.out.trans HE.out)]
      refine ⟨setCells3 hbl, u6, rfl, ?_⟩
      have hB : w.heap.size < w.heap.size + 1 := Nat.lt_succ_self _
      exact (((hout.set (a := ⟨w.heap.size, 0, none⟩) hB _).set (a := ⟨w.heap.size, 1, none⟩) hB _).set (a := ⟨w.heap.size, 2, none⟩) hB _).mono (Nat.le_succ _)

set_option maxRecDepth 100000 in
theorem refRead_any (l : List UInt8) (hs : l.length ≤ 1099511627776) (w : World) :
    Calls Tryz.prog 25 #[.string ⟨l.toArray⟩] w (ReadIs 80 (readS l) w) := by
  by_cases h : 20000 < l.length
  · have hS := hid (show readS l = .error (2, 0, 0) by unfold readS; rw [if_pos h])
    have hft1 := Blk.new w [.int .i64 0, .int .i64 0, .int .i64 0] 74
    go_enter Tryz.func25, Tryz.ntmps25
    go_wp2_with fail
    have q := three_cells hft1 (.int .i64 2) (.int .i64 0) (.int .i64 0)
    exact bodyPost_ret (v := .tuple #[.slice none 0 0, .agg #[.int .i64 2, .int .i64 0, .int .i64 0]]) (by simp [results, Tryz.results25, go_sem]) rfl (read_err hS.out rfl (by (repeat (first | exact Below.refl _ _ | assumption | refine below_alloc ?_ _ | refine below_drew ?_ | refine below_trans ?_ (by assumption)))))
  · have hS := hid (show readS l = rdC 800 l 1 [] by unfold readS; rw [if_neg h])
    have HS := hid hs
    clear hs
    go_enter Tryz.func25, Tryz.ntmps25
    go_wp2_with fail
    refine (refMost_any l HS.out 800 (by decide) _).mono ?_
    rintro e w1 ⟨hb1, hr⟩
    have hft1 := (Blk.new w [.int .i64 0, .int .i64 0, .int .i64 0] 74).below hb1
    have hbl1 : Below w.heap.size w w1 := (below_alloc (Below.refl _ _) _).trans (hb1.mono (by simp))
    have f0 := hft1.cell 0 rfl
    have f1 := hft1.cell 1 rfl
    have f2 := hft1.cell 2 rfl
    have ff := hft1.free
    cases hres : rdC 800 l 1 [] with
    | error p =>
      obtain ⟨c, no, col⟩ := p
      rw [hres] at hr
      subst hr
      have hS2 := hid (hS.out.trans hres)
      clear hres hb1
      go_wp2
      have q := three_cells hft1 (.int .i64 (c : Int)) (.int .i64 (no : Int)) (.int .i64 (col : Int))
      have q0 := q.cell 0 rfl
      have q1 := q.cell 1 rfl
      have q2 := q.cell 2 rfl
      exact bodyPost_ret (v := .tuple #[.slice none 0 0, .agg #[.int .i64 (c : Int), .int .i64 (no : Int), .int .i64 (col : Int)]]) (by simp [results, Tryz.results25, go_sem, q0, q1, q2]) rfl (read_err hS2.out rfl (setCells3 hbl1))
    | ok xs =>
      rw [hres] at hr
      obtain ⟨v, rfl, hlv⟩ := hr
      have hS2 := hid (hS.out.trans hres)
      have hsz := hb1.size
      simp only [World.size_alloc] at hsz hlv
      clear hres hb1
      go_wp2
      have q := three_cells hft1 (.int .i64 0) (.int .i64 0) (.int .i64 0)
      have q0 := q.cell 0 rfl
      have q1 := q.cell 1 rfl
      have q2 := q.cell 2 rfl
      refine bodyPost_ret (v := .tuple #[v, .agg #[.int .i64 0, .int .i64 0, .int .i64 0]]) (by simp [results, Tryz.results25, go_sem, q0, q1, q2]) rfl ?_
      rw [hS2.out]
      have hB : w.heap.size < w.heap.size + 1 := Nat.lt_succ_self _
      exact ⟨setCells3 hbl1, v, rfl, (((hlv.set (a := ⟨w.heap.size, 0, none⟩) hB _).set (a := ⟨w.heap.size, 1, none⟩) hB _).set (a := ⟨w.heap.size, 2, none⟩) hB _).mono (Nat.le_succ _)⟩

end Go.Proofs.YtmeaajhongalaaaGreatDoor.Ln
