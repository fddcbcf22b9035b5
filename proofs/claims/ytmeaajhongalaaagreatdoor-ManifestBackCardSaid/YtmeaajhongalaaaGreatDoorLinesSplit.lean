/-
  LAYER 1: split: a line's words, as rows of the call's own.
-/
import Derived.Test.YtmeaajhongalaaaGreatDoorLinesWalks
namespace Go.Proofs.YtmeaajhongalaaaGreatDoor.Ln
open Go.RowKit

def strs (ws : Words) : List Value := ws.map fun l => .string ⟨l.toArray⟩
def nats (cs : List Nat) : List Value := cs.map fun (c : Nat) => .int .i64 (c : Int)
theorem strs_snoc (ws : Words) (l : List UInt8) : strs (ws ++ [l]) = strs ws ++ [.string ⟨l.toArray⟩] := by simp [strs]
theorem nats_snoc (cs : List Nat) (c : Nat) : nats (cs ++ [c]) = nats cs ++ [.int .i64 (c : Int)] := by simp [nats]

/-- a line's two rows -/
def RowsAt (w : World) (base : Nat) (ws : Words) (cs : List Nat) (wv cv : Value) : Prop :=
  w.ownsRow base 9 1 wv ws.length (strs ws) ∧ w.ownsRow base 3 1 cv cs.length (nats cs)

/-- what split and its twin come to -/
def SplitIs (r : SRes) (no : Int) (w : World) (e : Ending) (w' : World) : Prop := Below w.heap.size w w' ∧
  match r with
  | .ok (ws, cs) => ∃ wv cv, e = .returned (.tuple #[.agg #[.int .i64 no, wv, cv], .agg #[.int .i64 0, .int .i64 0, .int .i64 0]]) ∧ RowsAt w' w.heap.size ws cs wv cv
  | .error (c, col) => e = .returned (.tuple #[.agg #[.int .i64 0, .slice none 0 0, .slice none 0 0], .agg #[.int .i64 (c : Int), .int .i64 no, .int .i64 (col : Int)]])

theorem infoS : (Tryz.prog.info? 9).map (fun i => (i.zero, i.size, i.bytes)) = some (some (.string ⟨#[]⟩), 1, 16) := by kernel_rfl
theorem infoI : (Tryz.prog.info? 3).map (fun i => (i.zero, i.size, i.bytes)) = some (some (.int .i64 0), 1, 8) := by kernel_rfl

/-- how the world stands in the midst of split -/
structure SplitSt (w wr : World) (L : Nat) (no : Int) (ws : Words) (cs : List Nat) (wv cv : Value) : Prop where
  low : w.heap.size + 2 ≤ L
  kept : Below w.heap.size w wr
  res : Blk wr w.heap.size [.int .i64 0, .slice none 0 0, .slice none 0 0] 140
  flt : Blk wr (w.heap.size + 1) [.int .i64 0, .int .i64 0, .int .i64 0] 87
  line : Blk wr L [.int .i64 no, wv, cv] 140
  rows : RowsAt wr (L + 1) ws cs wv cv

theorem split_err {r : SRes} {no : Int} {w w' : World} {c col : Nat} {e : Ending} (hr : r = .error (c, col))
    (he : e = .returned (.tuple #[.agg #[.int .i64 0, .slice none 0 0, .slice none 0 0], .agg #[.int .i64 (c : Int), .int .i64 no, .int .i64 (col : Int)]])) (hb : Below w.heap.size w w') : SplitIs r no w e w' := by
  subst hr; exact ⟨hb, he⟩
theorem six_cells {wr : World} {B : Nat} {e f : TypeId} {x y z p q r : Value} (h : Blk wr B [x, y, z] e) (k : Blk wr (B + 1) [p, q, r] f) (a b c d g i : Value) :
    ∀ W, W = ((((((wr.setCell ⟨B, 0, none⟩ a).setCell ⟨B, 1, none⟩ b).setCell ⟨B, 2, none⟩ c).setCell ⟨B + 1, 0, none⟩ d).setCell ⟨B + 1, 1, none⟩ g).setCell ⟨B + 1, 2, none⟩ i) →
    W.cell? ⟨B, 0, none⟩ = some a ∧ W.cell? ⟨B, 1, none⟩ = some b ∧ W.cell? ⟨B, 2, none⟩ = some c ∧ W.cell? ⟨B + 1, 0, none⟩ = some d ∧ W.cell? ⟨B + 1, 1, none⟩ = some g ∧ W.cell? ⟨B + 1, 2, none⟩ = some i := by
  intro W hW
  subst hW
  have n1 : B ≠ B + 1 := by omega
  have n2 : B + 1 ≠ B := by omega
  have h' := ((((((h.set 0 a).set 1 b).set 2 c).other (a := ⟨B + 1, 0, none⟩) n1 d).other (a := ⟨B + 1, 1, none⟩) n1 g).other (a := ⟨B + 1, 2, none⟩) n1 i)
  have k' := ((((((k.other (a := ⟨B, 0, none⟩) n2 a).other (a := ⟨B, 1, none⟩) n2 b).other (a := ⟨B, 2, none⟩) n2 c).set 0 d).set 1 g).set 2 i)
  exact ⟨h'.cell 0 rfl, h'.cell 1 rfl, h'.cell 2 rfl, k'.cell 0 rfl, k'.cell 1 rfl, k'.cell 2 rfl⟩
theorem setCells6 {w wr : World} (h : Below w.heap.size w wr) {a b c d e f : Nat} {va vb vc vd ve vf : Value} :
    Below w.heap.size w ((((((wr.setCell ⟨w.heap.size, a, none⟩ va).setCell ⟨w.heap.size, b, none⟩ vb).setCell ⟨w.heap.size, c, none⟩ vc).setCell ⟨w.heap.size + 1, d, none⟩ vd).setCell ⟨w.heap.size + 1, e, none⟩ ve).setCell ⟨w.heap.size + 1, f, none⟩ vf) :=
  (((((h.setCell (Nat.le_refl _) _).setCell (Nat.le_refl _) _).setCell (Nat.le_refl _) _).setCell (Nat.le_succ _) _).setCell (Nat.le_succ _) _).setCell (Nat.le_succ _) _

set_option maxRecDepth 100000 in
set_option maxHeartbeats 2000000 in
theorem split_any (s : ByteArray) (hs : s.size ≤ 1099511627776) (no : Int) (w : World) :
    Calls Tryz.prog 130 #[.int .i64 no, .string s] w (SplitIs (lineOf s.data.toList) no w) := by
  have hlen : (fore 35 s.data.toList).length ≤ 1099511627776 := by
    have := (List.takeWhile_prefix (· != 35) (l := s.data.toList)).length_le
    simp at this; unfold fore; omega
  have HRes := hid (show lineOf s.data.toList = spC (fore 35 s.data.toList) 0 [] [] from rfl)
  generalize lineOf s.data.toList = RES at HRes ⊢
  go_enter Tryz.func130, Tryz.ntmps130
  go_wp2_with (first | (go_at_call 129; (with_reducible refine (cut_any _ (by unfold maxLen; omega) _ _).mono ?_); rintro e w' ⟨f, rfl, hb1⟩))
  have hst : SplitSt w (w'.alloc (.cells #[.int .i64 no, .slice none 0 0, .slice none 0 0] 140)) w'.heap.size no [] [] (.slice none 0 0) (.slice none 0 0) := by
    have hsz := hb1.size
    simp only [World.size_alloc] at hsz
    refine ⟨by omega, ?_, ?_, ?_, Blk.new _ [.int .i64 no, .slice none 0 0, .slice none 0 0] _, World.ownsRow_nil _ _ _ _, World.ownsRow_nil _ _ _ _⟩
    · exact below_alloc (((below_alloc (below_alloc (Below.refl _ _) _) _).trans (hb1.mono (by simp; omega)))) _
    · exact (((Blk.new w [.int .i64 0, .slice none 0 0, .slice none 0 0] _).alloc _).below hb1).alloc _
    · exact ((by simpa using Blk.new (w.alloc (.cells #[.int .i64 0, .slice none 0 0, .slice none 0 0] 140)) [.int .i64 0, .int .i64 0, .int .i64 0] 87 : Blk _ (w.heap.size + 1) _ _).below hb1).alloc _
  generalize w'.alloc (.cells #[.int .i64 no, .slice none 0 0, .slice none 0 0] 140) = W0 at hst ⊢
  generalize w'.heap.size = L at hst ⊢
  clear hb1
  generalize aft 35 s.data.toList = rest
  generalize fore 35 s.data.toList = l at hlen HRes ⊢
  have hlen' := hid hlen
  go_wp2_with (first | (go_at_call 162; (with_reducible refine (skip_t0 _ hlen'.out _).mono ?_); rintro e w' ⟨rfl, rfl⟩))
  have hR := hid (rfl : spC l 0 [] [] = spC l 0 [] [])
  go_loopw [7] (fun v wr => ∃ a ws cs wv cv, a ≤ l.length ∧ v = .int .i64 ((a + run isBl l a : Nat) : Int) ∧ spC l 0 [] [] = spC l a ws cs ∧ ws.length ≤ 20 ∧ cs.length = ws.length ∧ SplitSt w wr L no ws cs wv cv) (fun v _ => l.length - (intOf v).toNat)
  case atStart => exact ⟨0, [], [], _, _, by omega, by rw [Nat.zero_add], rfl, by simp, rfl, hst⟩
  case round =>
    obtain ⟨a, ws, cs, wv, cv, ha, rfl, hsp, hws, hcs, st⟩ := hrel
    obtain ⟨wa, wc, hwv⟩ := own_shape st.rows.1
    obtain ⟨ca, cc, hcv⟩ := own_shape st.rows.2
    subst hwv; subst hcv
    have hrb := run_le isBl l a ha
    generalize hb : a + run isBl l a = b at hrb
    have hb' := hid hb
    clear hb
    have HSP := hid hsp
    clear hsp
    have l1 := st.line.cell 1 rfl
    have l2 := st.line.cell 2 rfl
    have lf := st.line.free
    by_cases hlt : b < l.length
    · have htr := run_le (fun c => !isBl c) l b (by omega)
      have htp : 0 < run (fun c => !isBl c) l b := by
        have := tok_pos (l := l) (a := a) (by rw [hb'.out]; exact hlt)
        rwa [hb'.out] at this
      have hsk := skip_f l hlen'.out b (by omega) wr
      generalize ht : b + run (fun c => !isBl c) l b = t at htr hsk
      have htb : b < t := by omega
      have ht' := hid ht
      have hsk' := hid hsk
      clear htp ht hsk
      have hwl := word_len (by omega : b ≤ t) htr
      have hwx : (⟨l.toArray⟩ : ByteArray).extract b t = ⟨(word l b t).toArray⟩ := by rw [extract_eq]; rfl
      have r0 := st.res.cell 0 rfl
      have r1 := st.res.cell 1 rfl
      have r2 := st.res.cell 2 rfl
      have rf := st.res.free
      have f0 := st.flt.cell 0 rfl
      have f1 := st.flt.cell 1 rfl
      have f2 := st.flt.cell 2 rfl
      have ff := st.flt.free
      have hol := hid (show (word l b t).length ≤ 1099511627776 by rw [hwl]; omega)
      by_cases hx1 : ws.length = 20
      · have hxe : ((ws.length : Int) == 20) = true := by rw [hx1]; rfl
        have HE := hid (spC_bound (cs := cs) ha hb'.out.symm ht'.out.symm hlt (.inl (by omega) : 20 ≤ ws.length ∨ 80 < t - b))
        clear hx1 hws hcs
        go_wp2_with (go_at_call 162; (with_reducible refine hsk'.out.mono ?_); rintro e w1 ⟨rfl, rfl⟩)
        obtain ⟨q0, q1, q2, q3, q4, q5⟩ := six_cells st.res st.flt (.int .i64 0) (.slice none 0 0) (.slice none 0 0) (.int .i64 2) (.int .i64 no) (.int .i64 ((b : Int) + 1)) _ rfl
        exact bodyPost_ret (v := .tuple #[.agg #[.int .i64 0, .slice none 0 0, .slice none 0 0], .agg #[.int .i64 2, .int .i64 no, .int .i64 ((b : Int) + 1)]]) (by simp [results, Tryz.results130, go_sem, q0, q1, q2, q3, q4, q5]) rfl (split_err (HRes.out.trans (HSP.out.trans HE.out)) rfl (setCells6 st.kept))
      · have hxe : ((ws.length : Int) == 20) = false := by rw [beq_eq_false_iff_ne]; omega
        by_cases hx2 : 80 < t - b
        · have HE := hid (spC_bound (ws := ws) (cs := cs) ha hb'.out.symm ht'.out.symm hlt (.inr hx2 : 20 ≤ ws.length ∨ 80 < t - b))
          clear hx1 hws hcs
          go_wp2_with (go_at_call 162; (with_reducible refine hsk'.out.mono ?_); rintro e w1 ⟨rfl, rfl⟩)
          obtain ⟨q0, q1, q2, q3, q4, q5⟩ := six_cells st.res st.flt (.int .i64 0) (.slice none 0 0) (.slice none 0 0) (.int .i64 2) (.int .i64 no) (.int .i64 ((b : Int) + 1)) _ rfl
          exact bodyPost_ret (v := .tuple #[.agg #[.int .i64 0, .slice none 0 0, .slice none 0 0], .agg #[.int .i64 2, .int .i64 no, .int .i64 ((b : Int) + 1)]]) (by simp [results, Tryz.results130, go_sem, q0, q1, q2, q3, q4, q5]) rfl (split_err (HRes.out.trans (HSP.out.trans HE.out)) rfl (setCells6 st.kept))
        · have hno : ¬ (20 ≤ ws.length ∨ 80 < t - b) := by omega
          by_cases hx3 : run okB (word l b t) 0 < t - b
          · have HE := hid (spC_odd (ws := ws) (cs := cs) ha hb'.out.symm ht'.out.symm hlt hno hx3)
            have hov : oddV (word l b t) = ((run okB (word l b t) 0 : Nat) : Int) := by unfold oddV; rw [if_pos (by rw [hwl]; exact hx3)]
            generalize run okB (word l b t) 0 = k at hov HE hx3
            clear hx1 hws hcs hno
            go_wp2_with (first | (go_at_call 162; (with_reducible refine hsk'.out.mono ?_); rintro e w1 ⟨rfl, rfl⟩) | (go_at_call 163; (with_reducible refine (odd_list _ hol.out _).mono ?_); rintro e w' ⟨rfl, rfl⟩))
            obtain ⟨q0, q1, q2, q3, q4, q5⟩ := six_cells st.res st.flt (.int .i64 0) (.slice none 0 0) (.slice none 0 0) (.int .i64 1) (.int .i64 no) (.int .i64 ((b : Int) + (k : Int) + 1)) _ rfl
            exact bodyPost_ret (v := .tuple #[.agg #[.int .i64 0, .slice none 0 0, .slice none 0 0], .agg #[.int .i64 1, .int .i64 no, .int .i64 ((b : Int) + (k : Int) + 1)]]) (by simp [results, Tryz.results130, go_sem, q0, q1, q2, q3, q4, q5]) rfl (split_err (HRes.out.trans (HSP.out.trans HE.out)) rfl (setCells6 st.kept))
          · have HE := hid (spC_word (ws := ws) (cs := cs) ha hb'.out.symm ht'.out.symm hlt hno hx3)
            have hov : oddV (word l b t) = -1 := by unfold oddV; rw [if_neg (by rw [hwl]; exact hx3)]
            clear hno hx3
            obtain ⟨iS, hi, hz0, hz1, hz2⟩ := info_parts infoS
            have hi := hid hi
            have hz0 := hid hz0
            have hz1 := hid hz1
            have hz2 := hid hz2
            have hown := st.rows.1
            have hcs' := hid hcs
            clear hcs
            go_wp2_with (first | (go_at_call 162; (with_reducible refine hsk'.out.mono ?_); rintro e w1 ⟨rfl, rfl⟩) | (go_at_call 163; (with_reducible refine (odd_list _ hol.out _).mono ?_); rintro e w' ⟨rfl, rfl⟩) | (at_builtin; refine wpList_append_own _ rfl _ _ 62 rfl (L + 1) 9 iS (.string ⟨#[]⟩) 1 16 Tryz.underlying62 hi.out hz0.out hz1.out hz2.out rfl (by decide) _ _ _ rfl (hown.alloc _) ⟨wr.heap.size, 0, none⟩ 1 1 [.string ⟨(word l b t).toArray⟩] rfl rfl ?c1 ?c2 ?c3 ?c4 ?c5 ?_))
            case c1 => exact cell_one_new _ _ _
            case c2 => intro u hu; simp at hu; subst hu; rfl
            case c3 => unfold maxLen; omega
            case c4 => omega
            case c5 => have := st.line.lt; simp; omega
            intro v' w2 hown2 hgrow _
            -- behind the first append
            obtain ⟨wa', wc', hv2⟩ := own_shape hown2
            subst hv2
            have hne1 : ∀ x, x < L + 1 → some x ≠ (Value.slice wa ws.length wc).ownBlock := fun x hx => own_ne hown hx
            have hap : (Value.slice ca cs.length cc).ownBlock = none ∨ (Value.slice ca cs.length cc).ownBlock ≠ (Value.slice wa ws.length wc).ownBlock := ownsRow_apart st.rows.2 hown (by decide)
            have low := st.low
            have hsz := hgrow.size
            simp only [World.size_alloc] at hsz
            have kp : Below w.heap.size w w2 := (below_alloc st.kept _).grown hgrow (by have := st.line.lt; simp; omega) (fun k hk => by have := (hown.lt k hk).1; omega)
            have res2 := (st.res.alloc _).grown hgrow (hne1 _ (by omega))
            have flt2 := (st.flt.alloc _).grown hgrow (hne1 _ (by omega))
            have line2 := (st.line.alloc _).grown hgrow (hne1 _ (by omega))
            have hown3 := (st.rows.2.alloc _).kept hgrow hap
            clear hgrow
            have m1 := line2.cell 1 rfl
            have m2 := line2.cell 2 rfl
            have mf := line2.free
            clear l1 l2 lf r0 r1 r2 f0 f1 f2 rf ff hown
            obtain ⟨iI, ki, kz0, kz1, kz2⟩ := info_parts infoI
            have ki := hid ki
            have kz0 := hid kz0
            have kz1 := hid kz1
            have kz2 := hid kz2
            have hlt2 := line2.lt
            go_wp2_with (at_builtin; refine wpList_append_own _ rfl _ _ 78 rfl (L + 1) 3 iI (.int .i64 0) 1 8 Tryz.underlying78 ki.out kz0.out kz1.out kz2.out rfl (by decide) _ _ _ rfl ((ownsRow_setCell_below (a := ⟨L, 1, none⟩) hown3 (Nat.lt_succ_self L) _).alloc _) ⟨w2.heap.size, 0, none⟩ 1 1 [.int .i64 ((b : Int) + 1)] rfl rfl ?c1 ?c2 ?c3 ?c4 ?c5 ?_)
            case c1 => exact cell_one_at _ _ _ _ (by simp)
            case c2 => intro u hu; simp at hu; subst hu; rfl
            case c3 => have := hcs'.out; unfold maxLen; omega
            case c4 => have := hcs'.out; omega
            case c5 => simp; omega
            intro v' w3 hown4 hgrow _
            obtain ⟨ca', cc', hv3⟩ := own_shape hown4
            subst hv3
            have hne3 : ∀ x, x < L + 1 → some x ≠ (Value.slice ca cs.length cc).ownBlock := fun x hx => own_ne hown3 hx
            have hap3 : (Value.slice wa' (ws.length + 1) wc').ownBlock = none ∨ (Value.slice wa' (ws.length + 1) wc').ownBlock ≠ (Value.slice ca cs.length cc).ownBlock := ownsRow_apart hown2 hown3 (by decide)
            have hsz3 := hgrow.size
            simp only [World.size_alloc, World.size_setCell] at hsz3
            have kp3 : Below w.heap.size w w3 := (below_alloc (kp.setCell (p := ⟨L, 1, none⟩) (by show w.heap.size ≤ L; omega) _) _).grown hgrow (by simp; omega) (fun k hk => by have := (hown3.lt k hk).1; omega)
            have res3 := ((res2.other (a := ⟨L, 1, none⟩) (by show w.heap.size ≠ L; omega) _).alloc _).grown hgrow (hne3 _ (by omega))
            have flt3 := ((flt2.other (a := ⟨L, 1, none⟩) (by show w.heap.size + 1 ≠ L; omega) _).alloc _).grown hgrow (hne3 _ (by omega))
            have line3 := ((line2.set 1 _).alloc _).grown hgrow (hne3 _ (by omega))
            have rows3 := ((ownsRow_setCell_below (a := ⟨L, 1, none⟩) hown2 (Nat.lt_succ_self L) _).alloc _).kept hgrow hap3
            clear hgrow res2 flt2 line2 kp hown2 hown3 m1 m2 mf hne1 hap
            have m1 := line3.cell 1 rfl
            have m2 := line3.cell 2 rfl
            have mf := line3.free
            go_wp2_with (go_at_call 162; (with_reducible refine (skip_t _ hlen'.out _ (by omega) _).mono ?_); rintro e w' ⟨rfl, rfl⟩)
            go_roundw
            case rel =>
              refine ⟨t, ws ++ [word l b t], cs ++ [b + 1], .slice wa' (ws.length + 1) wc', .slice ca' (cs.length + 1) cc', htr, rfl, by rw [HSP.out, HE.out], by rw [List.length_append, List.length_singleton]; omega, by rw [List.length_append, List.length_append, hcs'.out]; rfl, ?_⟩
              refine ⟨low, kp3.setCell (p := ⟨L, 2, none⟩) (by show w.heap.size ≤ L; omega) _, res3.other (a := ⟨L, 2, none⟩) (by show w.heap.size ≠ L; omega) _, flt3.other (a := ⟨L, 2, none⟩) (by show w.heap.size + 1 ≠ L; omega) _, line3.set 2 _, ?_, ?_⟩
              · have := ownsRow_setCell_below (a := ⟨L, 2, none⟩) rows3 (Nat.lt_succ_self L) (Value.slice ca' (cs.length + 1) cc')
                rw [strs_snoc, List.length_append]; exact this
              · have := ownsRow_setCell_below (a := ⟨L, 2, none⟩) hown4 (Nat.lt_succ_self L) (Value.slice ca' (cs.length + 1) cc')
                rw [nats_snoc, List.length_append]; exact this
            case measure => simp [intOf]; omega
    · have HE := hid (spC_end (ws := ws) (cs := cs) ha (by rw [hb'.out]; omega))
      have l0 := st.line.cell 0 rfl
      have r0 := st.res.cell 0 rfl
      have r1 := st.res.cell 1 rfl
      have r2 := st.res.cell 2 rfl
      have rf := st.res.free
      have f0 := st.flt.cell 0 rfl
      have f1 := st.flt.cell 1 rfl
      have f2 := st.flt.cell 2 rfl
      have ff := st.flt.free
      have hcs' := hid hcs
      have hlow := hid st.low
      clear hcs
      go_wp2_with fail
      obtain ⟨q0, q1, q2, q3, q4, q5⟩ := six_cells st.res st.flt (.int .i64 no) (.slice wa ws.length wc) (.slice ca cs.length cc) (.int .i64 0) (.int .i64 0) (.int .i64 0) _ rfl
      refine bodyPost_ret (v := .tuple #[.agg #[.int .i64 no, .slice wa ws.length wc, .slice ca cs.length cc], .agg #[.int .i64 0, .int .i64 0, .int .i64 0]]) (by simp [results, Tryz.results130, go_sem, q0, q1, q2, q3, q4, q5]) rfl ?_
      rw [HRes.out.trans (HSP.out.trans HE.out)]
      refine ⟨setCells6 st.kept, _, _, rfl, ?_⟩
      have hl := hlow.out
      have six : ∀ {e : TypeId} {v : Value} {n : Nat} {xs : List Value}, wr.ownsRow (L + 1) e 1 v n xs → ∀ (va vb vc vd ve vf : Value), ((((((wr.setCell ⟨w.heap.size, 0, none⟩ va).setCell ⟨w.heap.size, 1, none⟩ vb).setCell ⟨w.heap.size, 2, none⟩ vc).setCell ⟨w.heap.size + 1, 0, none⟩ vd).setCell ⟨w.heap.size + 1, 1, none⟩ ve).setCell ⟨w.heap.size + 1, 2, none⟩ vf).ownsRow w.heap.size e 1 v n xs := by
        intro e v n xs h va vb vc vd ve vf
        have k1 : (⟨w.heap.size, 0, none⟩ : Addr).block < L + 1 := by show w.heap.size < L + 1; omega
        have k2 : (⟨w.heap.size + 1, 0, none⟩ : Addr).block < L + 1 := by show w.heap.size + 1 < L + 1; omega
        have a1 := ownsRow_setCell_below (a := ⟨w.heap.size, 0, none⟩) h k1 va
        have a2 := ownsRow_setCell_below (a := ⟨w.heap.size, 1, none⟩) a1 k1 vb
        have a3 := ownsRow_setCell_below (a := ⟨w.heap.size, 2, none⟩) a2 k1 vc
        have a4 := ownsRow_setCell_below (a := ⟨w.heap.size + 1, 0, none⟩) a3 k2 vd
        have a5 := ownsRow_setCell_below (a := ⟨w.heap.size + 1, 1, none⟩) a4 k2 ve
        have a6 := ownsRow_setCell_below (a := ⟨w.heap.size + 1, 2, none⟩) a5 k2 vf
        exact ownsRow_mono a6 (by omega)
      exact ⟨six st.rows.1 _ _ _ _ _ _, six st.rows.2 _ _ _ _ _ _⟩

end Go.Proofs.YtmeaajhongalaaaGreatDoor.Ln
