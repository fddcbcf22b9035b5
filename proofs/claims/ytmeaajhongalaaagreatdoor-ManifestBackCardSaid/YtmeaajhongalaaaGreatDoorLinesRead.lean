/-
  LAYER 1: a text's lines, as a row of the call's own whose parts are rows of the call's own.
-/
import Derived.Test.YtmeaajhongalaaaGreatDoorLinesRef
namespace Go.Proofs.YtmeaajhongalaaaGreatDoor.Ln
open Go.RowKit

/-- lines in memory: T is the type of one line (package lines' or the document's) -/
def LinesV (w : World) (T : TypeId) (base : Nat) (v : Value) (xs : List LineS) : Prop :=
  ∃ cells, w.ownsRow base T 3 v xs.length cells ∧ ∀ i x, xs[i]? = some x → ∃ wv cv, cells[3 * i]? = some (.int .i64 (x.1 : Int)) ∧ cells[3 * i + 1]? = some wv ∧ cells[3 * i + 2]? = some cv ∧ RowsAt w base x.2.1 x.2.2 wv cv

theorem LinesV.nil (w : World) (T base : Nat) : LinesV w T base (.slice none 0 0) [] :=
  ⟨[], World.ownsRow_nil _ _ _ _, fun i x h => by simp at h⟩
theorem RowsAt.below {w w' : World} {base : Nat} {ws : Words} {cs : List Nat} {wv cv : Value} (h : RowsAt w base ws cs wv cv) (hb : Below w.heap.size w w') : RowsAt w' base ws cs wv cv :=
  ⟨ownsRow_below h.1 hb, ownsRow_below h.2 hb⟩
theorem LinesV.below {w w' : World} {T base : Nat} {v : Value} {xs : List LineS} (h : LinesV w T base v xs) (hb : Below w.heap.size w w') : LinesV w' T base v xs := by
  obtain ⟨cells, h1, h2⟩ := h
  refine ⟨cells, ownsRow_below h1 hb, fun i x hx => ?_⟩
  obtain ⟨wv, cv, a, b, c, d⟩ := h2 i x hx
  exact ⟨wv, cv, a, b, c, d.below hb⟩
theorem RowsAt.mono {w : World} {base base' : Nat} {ws : Words} {cs : List Nat} {wv cv : Value} (h : RowsAt w base ws cs wv cv) (hb : base' ≤ base) : RowsAt w base' ws cs wv cv :=
  ⟨ownsRow_mono h.1 hb, ownsRow_mono h.2 hb⟩
theorem LinesV.mono {w : World} {T base base' : Nat} {v : Value} {xs : List LineS} (h : LinesV w T base v xs) (hb : base' ≤ base) : LinesV w T base' v xs := by
  obtain ⟨cells, h1, h2⟩ := h
  refine ⟨cells, ownsRow_mono h1 hb, fun i x hx => ?_⟩
  obtain ⟨wv, cv, a, b, c, d⟩ := h2 i x hx
  exact ⟨wv, cv, a, b, c, d.mono hb⟩
theorem RowsAt.grown {w w' : World} {base : Nat} {ws : Words} {cs : List Nat} {wv cv : Value} (h : RowsAt w base ws cs wv cv) {base' T n : Nat} {v : Value} {xs : List Value} {k : Nat} (ho : w.ownsRow base' T k v n xs) (hT1 : 9 ≠ T) (hT2 : 3 ≠ T)
    (hg : w.grownBy w' v.ownBlock) : RowsAt w' base ws cs wv cv :=
  ⟨h.1.kept hg (ownsRow_apart h.1 ho hT1), h.2.kept hg (ownsRow_apart h.2 ho hT2)⟩

/-- one line more -/
theorem LinesV.push {w w' : World} {T base base' : Nat} {v v' : Value} {xs : List LineS} {cells : List Value} {x : LineS} {wv cv : Value}
    (ho : w.ownsRow base T 3 v xs.length cells) (h2 : ∀ i x, xs[i]? = some x → ∃ wv cv, cells[3 * i]? = some (.int .i64 (x.1 : Int)) ∧ cells[3 * i + 1]? = some wv ∧ cells[3 * i + 2]? = some cv ∧ RowsAt w base x.2.1 x.2.2 wv cv)
    (hr : RowsAt w base' x.2.1 x.2.2 wv cv) (hb : base ≤ base') (hT1 : 9 ≠ T) (hT2 : 3 ≠ T)
    (hg : w.grownBy w' v.ownBlock) (hn : w'.ownsRow base T 3 v' (xs.length + 1) (cells ++ [.int .i64 (x.1 : Int), wv, cv])) : LinesV w' T base v' (xs ++ [x]) := by
  refine ⟨cells ++ [.int .i64 (x.1 : Int), wv, cv], by rw [List.length_append]; exact hn, fun i y hy => ?_⟩
  have hl := ho.1
  rw [List.getElem?_append] at hy
  split at hy
  · rename_i hi
    obtain ⟨wv', cv', a, b, c, d⟩ := h2 i y hy
    refine ⟨wv', cv', ?_, ?_, ?_, d.grown ho hT1 hT2 hg⟩
    · rw [List.getElem?_append_left (by omega)]; exact a
    · rw [List.getElem?_append_left (by omega)]; exact b
    · rw [List.getElem?_append_left (by omega)]; exact c
  · rename_i hi
    have hi0 : i - xs.length = 0 := by
      have := (List.getElem?_eq_some_iff.1 hy).1
      simpa using this
    rw [hi0] at hy
    cases hy
    have hie : i = xs.length := by omega
    subst hie
    refine ⟨wv, cv, ?_, ?_, ?_, (hr.mono hb).grown ho hT1 hT2 hg⟩
    · rw [List.getElem?_append_right (by omega), show 3 * xs.length - cells.length = 0 from by omega]; rfl
    · rw [List.getElem?_append_right (by omega), show 3 * xs.length + 1 - cells.length = 1 from by omega]; rfl
    · rw [List.getElem?_append_right (by omega), show 3 * xs.length + 2 - cells.length = 2 from by omega]; rfl

/-- what Read and its kin come to -/
def ReadIs (T : TypeId) (r : RRes) (w : World) (e : Ending) (w' : World) : Prop := Below w.heap.size w w' ∧
  match r with
  | .ok xs => ∃ v, e = .returned (.tuple #[v, .agg #[.int .i64 0, .int .i64 0, .int .i64 0]]) ∧ LinesV w' T w.heap.size v xs
  | .error (c, no, col) => e = .returned (.tuple #[.slice none 0 0, .agg #[.int .i64 (c : Int), .int .i64 (no : Int), .int .i64 (col : Int)]])

theorem infoL : (Tryz.prog.info? 140).map (fun i => (i.zero, i.size, i.bytes)) = some (some (.agg #[.int .i64 0, .slice none 0 0, .slice none 0 0]), 3, 56) := by kernel_rfl

theorem three_cells {wr : World} {B : Nat} {f : TypeId} {p q r : Value} (k : Blk wr B [p, q, r] f) (d g i : Value) :
    Blk (((wr.setCell ⟨B, 0, none⟩ d).setCell ⟨B, 1, none⟩ g).setCell ⟨B, 2, none⟩ i) B [d, g, i] f := ((k.set 0 d).set 1 g).set 2 i

theorem LinesV.set {w : World} {T base : Nat} {v : Value} {xs : List LineS} (h : LinesV w T base v xs) {a : Addr} (ha : a.block < base) (u : Value) : LinesV (w.setCell a u) T base v xs := by
  obtain ⟨cells, h1, h2⟩ := h
  refine ⟨cells, ownsRow_setCell_below h1 ha u, fun i x hx => ?_⟩
  obtain ⟨wv, cv, a', b, c, d⟩ := h2 i x hx
  exact ⟨wv, cv, a', b, c, ownsRow_setCell_below d.1 ha u, ownsRow_setCell_below d.2 ha u⟩
theorem split_list (l : List UInt8) (hs : l.length ≤ 1099511627776) (no : Int) (w : World) :
    Calls Tryz.prog 130 #[.int .i64 no, .string ⟨l.toArray⟩] w (SplitIs (lineOf l) no w) :=
  split_any ⟨l.toArray⟩ (by show l.toArray.size ≤ _; simpa using hs) no w
theorem cut_list (l : List UInt8) (hs : l.length ≤ 1099511627776) (c : UInt8) (w : World) :
    Calls Tryz.prog 129 #[.string ⟨l.toArray⟩, .string ⟨#[c]⟩] w (CutIs c l w) :=
  cut_any ⟨l.toArray⟩ (by show l.toArray.size ≤ maxLen; unfold maxLen; simp; omega) c w
theorem read_err {T : TypeId} {r : RRes} {w w' : World} {c no col : Nat} {e : Ending} (hr : r = .error (c, no, col))
    (he : e = .returned (.tuple #[.slice none 0 0, .agg #[.int .i64 (c : Int), .int .i64 (no : Int), .int .i64 (col : Int)]])) (hb : Below w.heap.size w w') : ReadIs T r w e w' := by
  subst hr; exact ⟨hb, he⟩
theorem setCells3 {w wr : World} (h : Below w.heap.size w wr) {a b c : Nat} {va vb vc : Value} :
    Below w.heap.size w (((wr.setCell ⟨w.heap.size, a, none⟩ va).setCell ⟨w.heap.size, b, none⟩ vb).setCell ⟨w.heap.size, c, none⟩ vc) :=
  ((h.setCell (Nat.le_refl _) _).setCell (Nat.le_refl _) _).setCell (Nat.le_refl _) _

set_option maxRecDepth 100000 in
set_option maxHeartbeats 8000000 in
theorem read_any (l0 : List UInt8) (hs : l0.length ≤ 1099511627776) (most : Nat) (hm : most ≤ 1099511627777) (w : World) :
    Calls Tryz.prog 78 #[.string ⟨l0.toArray⟩, .int .i64 (most : Int)] w (ReadIs 140 (rdC most l0 1 []) w) := by
  have HRes := hid (rfl : rdC most l0 1 [] = rdC most l0 1 [])
  generalize hres : rdC most l0 1 [] = RES
  have HRES := hid hres
  clear hres HRes
  go_enter Tryz.func78, Tryz.ntmps78
  go_wp2_with fail
  have hflt : Blk (w.alloc (.cells #[.int .i64 0, .int .i64 0, .int .i64 0] 87)) w.heap.size [.int .i64 0, .int .i64 0, .int .i64 0] 87 := Blk.new w [.int .i64 0, .int .i64 0, .int .i64 0] _
  go_loopw [0, 6, 7] (fun s v i wr => ∃ l no out, s = .string ⟨l.toArray⟩ ∧ i = .int .i64 (no : Nat) ∧ no + l.length ≤ l0.length + 1 ∧ rdC most l0 1 [] = rdC most l no out ∧ Below w.heap.size w wr ∧ Blk wr w.heap.size [.int .i64 0, .int .i64 0, .int .i64 0] 87 ∧ LinesV wr 140 (w.heap.size + 1) v out ∧ out.length < no) (fun s _ _ _ => match s with | .string b => b.size | _ => 0)
  case atStart => exact ⟨l0, 1, [], rfl, rfl, by omega, rfl, below_alloc (Below.refl _ _) _, hflt, LinesV.nil _ _ _, by decide⟩
  case round =>
    obtain ⟨l, no, out, rfl, rfl, hno, hrd, hbl, hft, hout, hol⟩ := hrel
    have HRD := hid hrd
    clear hrd hflt
    have f0 := hft.cell 0 rfl
    have f1 := hft.cell 1 rfl
    have f2 := hft.cell 2 rfl
    have ff := hft.free
    cases l with
    | nil =>
      have HE := hid (rdC_nil most no out)
      go_wp2_with fail
      have q := three_cells hft (.int .i64 0) (.int .i64 0) (.int .i64 0)
      have q0 := q.cell 0 rfl
      have q1 := q.cell 1 rfl
      have q2 := q.cell 2 rfl
      refine bodyPost_ret (v := .tuple #[u6, .agg #[.int .i64 0, .int .i64 0, .int .i64 0]]) (by simp [results, Tryz.results78, go_sem, q0, q1, q2]) rfl ?_
      rw [HRES.out.symm.trans (HRD.out.trans HE.out)]
      refine ⟨setCells3 hbl, u6, rfl, ?_⟩
      have hB : w.heap.size < w.heap.size + 1 := Nat.lt_succ_self _
      exact (((hout.set (a := ⟨w.heap.size, 0, none⟩) hB _).set (a := ⟨w.heap.size, 1, none⟩) hB _).set (a := ⟨w.heap.size, 2, none⟩) hB _).mono (Nat.le_succ _)
    | cons c l =>
      by_cases hmn : most < no
      · have HE := hid (rdC_most (out := out) (List.cons_ne_nil c l) hmn)
        go_wp2_with fail
        have q := three_cells hft (.int .i64 2) (.int .i64 no) (.int .i64 0)
        have q0 := q.cell 0 rfl
        have q1 := q.cell 1 rfl
        have q2 := q.cell 2 rfl
        exact bodyPost_ret (v := .tuple #[.slice none 0 0, .agg #[.int .i64 2, .int .i64 no, .int .i64 0]]) (by simp [results, Tryz.results78, go_sem, q0, q1, q2]) rfl (read_err (HRES.out.symm.trans (HRD.out.trans HE.out)) rfl (setCells3 hbl))
      · have HER := fun e col h => rdC_err (out := out) (e := e) (col := col) (List.cons_ne_nil c l) hmn h
        have HOK := fun ws cs h => rdC_ok (out := out) (ws := ws) (cs := cs) (List.cons_ne_nil c l) hmn h
        have HAL := hid (aft_lt (c := 10) (List.cons_ne_nil c l))
        have hlc : (c :: l).length ≤ 1099511627776 := by omega
        have HLC := hid hlc
        have hfl : (fore 10 (c :: l)).length ≤ 1099511627776 := by
          have := (List.takeWhile_prefix (· != 10) (l := c :: l)).length_le
          unfold fore; omega
        have HFL := hid hfl
        have HNO := hid hno
        clear hfl hlc hno
        go_wp2_with fail
        refine (cut_list _ HLC.out _ _).mono ?_
        rintro e w1 ⟨f, rfl, hb1⟩
        have HER' := hid HER
        have HOK' := hid HOK
        clear HER HOK
        generalize hln : c :: l = L at *
        have HLN := hid hln
        clear hln
        have hbl1 := below_trans hbl hb1
        have hft1 := hft.below hb1
        have hout1 := hout.below hb1
        clear hbl hft hout hb1 f0 f1 f2 ff
        go_wp2_with fail
        refine (split_list _ HFL.out _ _).mono ?_
        rintro e w2 ⟨hb2, hsp⟩
        have hbl2 := below_trans hbl1 hb2
        have hft2 := hft1.below hb2
        have hout2 := hout1.below hb2
        have hB1 := hid hft1.lt
        clear hbl1 hft1 hout1
        cases hlo : lineOf (fore 10 L) with
        | error p =>
          obtain ⟨ec, col⟩ := p
          rw [hlo] at hsp
          subst hsp
          have HE := hid (HER'.out ec col hlo)
          have hec : ((ec : Int) != 0) = true := by
            rcases spC_code hlo with h | h <;> rw [h] <;> rfl
          have hft3 := ((hft2.alloc (.cells #[.int .i64 0, .slice none 0 0, .slice none 0 0] 140)).alloc (.cells #[.int .i64 (ec : Int), .int .i64 (no : Int), .int .i64 (col : Int)] 87))
          have f0 := hft3.cell 0 rfl
          have f1 := hft3.cell 1 rfl
          have f2 := hft3.cell 2 rfl
          have ff := hft3.free
          have hB2 := hid hft2.lt
          go_wp2_with fail
          go_region
          all_goals
            go_wp2_with fail
            have q := three_cells hft3 (.int .i64 (ec : Int)) (.int .i64 (no : Int)) (.int .i64 (col : Int))
            have q0 := q.cell 0 rfl
            have q1 := q.cell 1 rfl
            have q2 := q.cell 2 rfl
            exact bodyPost_ret (v := .tuple #[.slice none 0 0, .agg #[.int .i64 (ec : Int), .int .i64 (no : Int), .int .i64 (col : Int)]]) (by simp [results, Tryz.results78, go_sem, q0, q1, q2]) rfl (read_err (HRES.out.symm.trans (HRD.out.trans HE.out)) rfl (setCells3 (below_alloc (below_alloc hbl2 _) _)).drew)
        | ok p =>
          obtain ⟨ws, cs⟩ := p
          rw [hlo] at hsp
          obtain ⟨wv, cv, rfl, hrows⟩ := hsp
          have HE := hid (HOK'.out ws cs hlo)
          obtain ⟨wa, wc, hwv⟩ := own_shape hrows.1
          obtain ⟨ca, cc, hcv⟩ := own_shape hrows.2
          subst hwv; subst hcv
          have hB2 := hft2.lt
          have hsz := hb2.size
          by_cases hw0 : ws = []
          · have hwl : ws.length = 0 := by rw [hw0]; rfl
            have hw0' := hid hw0
            clear hw0
            go_wp2_with fail
            go_roundw
            case rel =>
              refine ⟨aft 10 L, no + 1, out, rfl, by go_num, by have := HAL.out; have := HNO.out; omega, by rw [HRD.out, HE.out, if_pos hw0'.out], below_alloc (below_alloc hbl2 _) _, (hft2.alloc _).alloc _, ?_, by omega⟩
              exact (hout2.below (below_alloc (below_alloc (Below.refl _ _) _) _))
            case measure =>
              have := HAL.out
              have e : (c :: l).length = L.length := by rw [HLN.out]
              show (aft 10 L).toArray.size < (c :: l).toArray.size
              simp only [List.size_toArray]; omega
          · have hwl : 0 < ws.length := List.length_pos_iff.2 hw0
            have hw0' := hid hw0
            clear hw0
            obtain ⟨cells, ho, h2⟩ := hout2
            obtain ⟨iL, hi, hz0, hz1, hz2⟩ := info_parts infoL
            have hi := hid hi
            have hz0 := hid hz0
            have hz1 := hid hz1
            have hz2 := hid hz2
            have h2' := hid h2
            clear h2
            have hno' := hid (show out.length + 1 ≤ 1099511627777 by have := HNO.out; omega)
            go_wp2_with (at_builtin; refine wpList_append_lies _ rfl _ _ 85 rfl (w.heap.size + 1) 140 iL (.agg #[.int .i64 0, .slice none 0 0, .slice none 0 0]) 3 56 Tryz.underlying85 hi.out hz0.out hz1.out hz2.out rfl (by decide) _ _ _ rfl (((ho.alloc _).alloc _).alloc _) ⟨_, 0, none⟩ 1 1 [.int .i64 (no : Int), .slice wa ws.length wc, .slice ca cs.length cc] rfl rfl ?c1 ?c2 ?cm ?c3 ?c4 ?c5 _ rfl ?_)
            case c1 => exact cells_new _ [_, _, _] _ _ (by simp)
            case c2 =>
              intro u hu
              simp at hu
              rcases hu with rfl | rfl | rfl <;> rfl
            case cm => decide
            case c3 => have := hno'.out; unfold maxLen; omega
            case c4 => have := hno'.out; omega
            case c5 => simp; omega
            intro g cap w3 hown3 hgrow hat hlt3
            have hbl3 : Below w.heap.size w w3 := (below_alloc (below_alloc (below_alloc hbl2 _) _) _).grown hgrow (by simp; omega) (fun k hk => by have := (ho.lt k hk).1; omega)
            have hft3 := ((((hft2.alloc (.cells #[.int .i64 (no : Int), .slice wa ws.length wc, .slice ca cs.length cc] 140)).alloc (.cells #[.int .i64 0, .int .i64 0, .int .i64 0] 87)).alloc (.cells #[.int .i64 (no : Int), .slice wa ws.length wc, .slice ca cs.length cc] 140)).grown hgrow (own_ne ho (by omega)))
            have grow3 : Below w2.heap.size w2 (((w2.alloc (.cells #[.int .i64 (no : Int), .slice wa ws.length wc, .slice ca cs.length cc] 140)).alloc (.cells #[.int .i64 0, .int .i64 0, .int .i64 0] 87)).alloc (.cells #[.int .i64 (no : Int), .slice wa ws.length wc, .slice ca cs.length cc] 140)) := below_alloc (below_alloc (below_alloc (Below.refl _ _) _) _) _
            have hlv : LinesV w3 140 (w.heap.size + 1) (.slice (some ⟨g, 0, none⟩) (out.length + 1) cap) (out ++ [(no, ws, cs)]) := by
              refine LinesV.push (x := (no, ws, cs)) (ownsRow_below ho grow3) (fun i x hx => ?_) (hrows.below grow3) (by have := hB1.out; omega) (by decide) (by decide) hgrow hown3
              obtain ⟨wv, cv, a, b, c, d⟩ := h2'.out i x hx
              exact ⟨wv, cv, a, b, c, d.below grow3⟩
            clear hgrow hown3 ho hbl2 hft2 hrows grow3 hsz hB2
            go_wp2
            go_roundw
            case rel =>
              refine ⟨aft 10 L, no + 1, out ++ [(no, ws, cs)], rfl, by go_num, by have := HAL.out; have := HNO.out; omega, by rw [HRD.out, HE.out, if_neg hw0'.out], hbl3, hft3, ?_, by rw [List.length_append, List.length_singleton]; omega⟩
              exact hlv
            case measure =>
              have := HAL.out
              have e : (c :: l).length = L.length := by rw [HLN.out]
              show (aft 10 L).toArray.size < (c :: l).toArray.size
              simp only [List.size_toArray]; omega

set_option maxRecDepth 100000 in
theorem Read_any (l : List UInt8) (hs : l.length ≤ 1099511627776) (w : World) :
    Calls Tryz.prog 29 #[.string ⟨l.toArray⟩] w (ReadIs 140 (readS l) w) := by
  by_cases h : 20000 < l.length
  · have hS := hid (show readS l = .error (2, 0, 0) by unfold readS; rw [if_pos h])
    have hft1 := Blk.new w [.int .i64 0, .int .i64 0, .int .i64 0] 87
    go_enter Tryz.func29, Tryz.ntmps29
    go_wp2_with fail
    have q := three_cells hft1 (.int .i64 2) (.int .i64 0) (.int .i64 0)
    exact bodyPost_ret (v := .tuple #[.slice none 0 0, .agg #[.int .i64 2, .int .i64 0, .int .i64 0]]) (by simp [results, Tryz.results29, go_sem]) rfl (read_err hS.out rfl (by (repeat (first | exact Below.refl _ _ | assumption | refine below_alloc ?_ _ | refine below_drew ?_ | refine below_trans ?_ (by assumption)))))
  · have hS := hid (show readS l = rdC 800 l 1 [] by unfold readS; rw [if_neg h])
    have HS := hid hs
    clear hs
    go_enter Tryz.func29, Tryz.ntmps29
    go_wp2_with fail
    refine (read_any l HS.out 800 (by decide) _).mono ?_
    rintro e w1 ⟨hb1, hr⟩
    have hft1 := (Blk.new w [.int .i64 0, .int .i64 0, .int .i64 0] 87).below hb1
    have hbl1 : Below w.heap.size w w1 := (below_alloc (Below.refl _ _) _).trans (hb1.mono (by simp))
    have f0 := hft1.cell 0 rfl
    have f1 := hft1.cell 1 rfl
    have f2 := hft1.cell 2 rfl
    have ff := hft1.free
    cases hres : rdC 800 l 1 [] with
    | error p =>
      obtain ⟨c, no, col⟩ := p
      rw [hres] at hr
      subst hr
      have hS2 := hid (hS.out.trans hres)
      clear hres hb1
      go_wp2
      have q := three_cells hft1 (.int .i64 (c : Int)) (.int .i64 (no : Int)) (.int .i64 (col : Int))
      have q0 := q.cell 0 rfl
      have q1 := q.cell 1 rfl
      have q2 := q.cell 2 rfl
      exact bodyPost_ret (v := .tuple #[.slice none 0 0, .agg #[.int .i64 (c : Int), .int .i64 (no : Int), .int .i64 (col : Int)]]) (by simp [results, Tryz.results29, go_sem, q0, q1, q2]) rfl (read_err hS2.out rfl (setCells3 hbl1))
    | ok xs =>
      rw [hres] at hr
      obtain ⟨v, rfl, hlv⟩ := hr
      have hS2 := hid (hS.out.trans hres)
      have hsz := hb1.size
      simp only [World.size_alloc] at hsz hlv
      clear hres hb1
      go_wp2
      have q := three_cells hft1 (.int .i64 0) (.int .i64 0) (.int .i64 0)
      have q0 := q.cell 0 rfl
      have q1 := q.cell 1 rfl
      have q2 := q.cell 2 rfl
      refine bodyPost_ret (v := .tuple #[v, .agg #[.int .i64 0, .int .i64 0, .int .i64 0]]) (by simp [results, Tryz.results29, go_sem, q0, q1, q2]) rfl ?_
      rw [hS2.out]
      have hB : w.heap.size < w.heap.size + 1 := Nat.lt_succ_self _
      exact ⟨setCells3 hbl1, v, rfl, (((hlv.set (a := ⟨w.heap.size, 0, none⟩) hB _).set (a := ⟨w.heap.size, 1, none⟩) hB _).set (a := ⟨w.heap.size, 2, none⟩) hB _).mono (Nat.le_succ _)⟩

end Go.Proofs.YtmeaajhongalaaaGreatDoor.Ln
