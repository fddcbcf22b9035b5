/-
  LAYER 1: the document's own Split (package chandlerref01).
-/
import Derived.Test.YtmeaajhongalaaaGreatDoorLinesSplit
import Derived.Deep.AppendLies
import Derived.Deep.RegionLaw
import Derived.Deep.DeepCutAuto
import Derived.Deep.CutBlock
namespace Go.Proofs.YtmeaajhongalaaaGreatDoor.Ln
open Go.RowKit

theorem fore_run (c : UInt8) (l : List UInt8) : (fore c l).length = run (· != c) l 0 := by unfold fore run; simp
theorem fore_get {c : UInt8} {l : List UInt8} {k : Nat} (h : k < (fore c l).length) : l[k]? = (fore c l)[k]? := by
  have := fore_take c l
  conv => rhs; rw [← this]
  rw [List.getElem?_take, if_pos h]

/-- how the world stands in the midst of the document's Split -/
structure RefSt (w wr : World) (no : Int) (ws : Words) (cs : List Nat) (wv cv : Value) : Prop where
  kept : Below w.heap.size w wr
  res : Blk wr w.heap.size [.int .i64 0, .slice none 0 0, .slice none 0 0] 80
  flt : Blk wr (w.heap.size + 1) [.int .i64 0, .int .i64 0, .int .i64 0] 74
  line : Blk wr (w.heap.size + 1 + 1) [.int .i64 no, wv, cv] 80
  rows : RowsAt wr (w.heap.size + 3) ws cs wv cv

theorem six_rows {wr : World} {B L : Nat} {e : TypeId} {v : Value} {n : Nat} {xs : List Value} (h : wr.ownsRow L e 1 v n xs) (hL : B + 1 < L) (va vb vc vd ve vf : Value) :
    ((((((wr.setCell ⟨B, 0, none⟩ va).setCell ⟨B, 1, none⟩ vb).setCell ⟨B, 2, none⟩ vc).setCell ⟨B + 1, 0, none⟩ vd).setCell ⟨B + 1, 1, none⟩ ve).setCell ⟨B + 1, 2, none⟩ vf).ownsRow B e 1 v n xs := by
  have k1 : (⟨B, 0, none⟩ : Addr).block < L := by show B < L; omega
  have k2 : (⟨B + 1, 0, none⟩ : Addr).block < L := by show B + 1 < L; omega
  have a1 := ownsRow_setCell_below (a := ⟨B, 0, none⟩) h k1 va
  have a2 := ownsRow_setCell_below (a := ⟨B, 1, none⟩) a1 k1 vb
  have a3 := ownsRow_setCell_below (a := ⟨B, 2, none⟩) a2 k1 vc
  have a4 := ownsRow_setCell_below (a := ⟨B + 1, 0, none⟩) a3 k2 vd
  have a5 := ownsRow_setCell_below (a := ⟨B + 1, 1, none⟩) a4 k2 ve
  have a6 := ownsRow_setCell_below (a := ⟨B + 1, 2, none⟩) a5 k2 vf
  exact ownsRow_mono a6 (by omega)

set_option maxRecDepth 100000 in
set_option maxHeartbeats 8000000 in
theorem refSplit_any (s : ByteArray) (hs : s.size ≤ 1099511627776) (no : Int) (w : World) :
    Calls Tryz.prog 128 #[.string s, .int .i64 no] w (SplitIs (lineOf s.data.toList) no w) := by
  have HRes := hid (show lineOf s.data.toList = spC (fore 35 s.data.toList) 0 [] [] from rfl)
  generalize lineOf s.data.toList = RES at HRes ⊢
  have hfl := (List.takeWhile_prefix (· != 35) (l := s.data.toList)).length_le
  have hlen : (fore 35 s.data.toList).length ≤ s.size := by simp at hfl; unfold fore; exact hfl
  have hfr := fore_run 35 s.data.toList
  have hget := fun k h => fore_get (c := 35) (l := s.data.toList) (k := k) h
  generalize hl : fore 35 s.data.toList = l at HRes hlen hfr hget
  have hl' := hid hl
  have hget' := hid hget
  have hfr' := hid hfr
  clear hl hget hfr hfl
  go_enter Tryz.func128, Tryz.ntmps128
  go_upto_block 0 with (fail)
  have hst : RefSt w (((w.alloc (.cells #[.int .i64 0, .slice none 0 0, .slice none 0 0] 80)).alloc (.cells #[.int .i64 0, .int .i64 0, .int .i64 0] 74)).alloc (.cells #[.int .i64 no, .slice none 0 0, .slice none 0 0] 80)) no [] [] (.slice none 0 0) (.slice none 0 0) := by
    refine ⟨below_alloc (below_alloc (below_alloc (Below.refl _ _) _) _) _, ?_, ?_, ?_, World.ownsRow_nil _ _ _ _, World.ownsRow_nil _ _ _ _⟩
    · exact ((Blk.new w [.int .i64 0, .slice none 0 0, .slice none 0 0] _).alloc _).alloc _
    · exact (by simpa using Blk.new (w.alloc (.cells #[.int .i64 0, .slice none 0 0, .slice none 0 0] 80)) [.int .i64 0, .int .i64 0, .int .i64 0] 74 : Blk _ (w.heap.size + 1) _ _).alloc _
    · simpa using Blk.new ((w.alloc (.cells #[.int .i64 0, .slice none 0 0, .slice none 0 0] 80)).alloc (.cells #[.int .i64 0, .int .i64 0, .int .i64 0] 74)) [.int .i64 no, .slice none 0 0, .slice none 0 0] 80
  generalize (((w.alloc (.cells #[.int .i64 0, .slice none 0 0, .slice none 0 0] 80)).alloc (.cells #[.int .i64 0, .int .i64 0, .int .i64 0] 74)).alloc (.cells #[.int .i64 no, .slice none 0 0, .slice none 0 0] 80)) = W0 at hst ⊢
  -- where the remark begins
  go_cut [7] (fun v wx => v = .int .i64 (l.length : Nat) ∧ wx = W0)
  case first =>
    go_wp2_with fail
    go_loop [7] (fun v => ∃ k : Nat, k ≤ s.size ∧ v = .int .i64 k ∧ l.length = k + run (· != 35) s.data.toList k) (fun v => s.size - (intOf v).toNat)
    case atStart => exact ⟨0, by omega, rfl, by rw [hfr'.out]; simp⟩
    case round =>
      obtain ⟨k, hk, rfl, hkr⟩ := hrel
      have hkr' := hid hkr
      clear hkr
      by_cases hc : k < l.length
      · have hlt : k < s.size := by omega
        have hb := hid (byte_at s k hlt)
        have hq : s[k] ≠ 35 := by
          intro e
          have := run_no (p := (· != 35)) hb.out (by rw [e]; rfl)
          have := hkr'.out
          omega
        have hq' : ((s[k].toNat : Int) == 35) = false := by
          rw [beq_eq_false_iff_ne]; intro e; apply hq; rw [← UInt8.toNat_inj]; simp; omega
        have hb' := hid (run_yes (p := (· != 35)) hb.out (by simpa using hq))
        clear hb hq
        go_wp2_with fail
        go_round
        case rel => exact ⟨k + 1, by omega, by go_num, by rw [hkr'.out, hb'.out]; omega⟩
        case measure => simp [intOf]; omega
      · have hkl : k = l.length := by have := hkr'.out; omega
        have hd : (¬ k < s.size) ∨ ∃ h : k < s.size, ((s[k].toNat : Int) == 35) = true := by
          rcases Nat.lt_or_ge k s.size with h | h
          · right
            refine ⟨h, ?_⟩
            have hz : run (· != 35) s.data.toList k = 0 := by have := hkr'.out; omega
            have := run_stop (p := (· != 35)) (l := s.data.toList) (a := k) (c := s[k]) (by rw [hz]; exact byte_at s k h)
            have : s[k] = 35 := by simpa using this
            rw [this]; rfl
          · left; omega
        have hkl' := hid hkl
        clear hkl hkr'
        rcases hd with hd | ⟨hd, hq⟩
        all_goals
          go_wp2_with fail
          go_meet
          exact ⟨by rw [hkl'.out], rfl⟩
  case rest =>
    obtain ⟨rfl, rfl⟩ := hcut
    clear hl' hfr'
    go_wp2_with fail
    go_loopw [8] (fun v wr => ∃ a ws cs wv cv, a ≤ l.length ∧ v = .int .i64 (a : Nat) ∧ spC l 0 [] [] = spC l a ws cs ∧ ws.length ≤ 20 ∧ cs.length = ws.length ∧ RefSt w wr no ws cs wv cv) (fun v _ => l.length - (intOf v).toNat)
    case atStart => exact ⟨0, [], [], _, _, by omega, rfl, rfl, by simp, rfl, hst⟩
    case round =>
      obtain ⟨a, ws, cs, wv, cv, ha, rfl, hsp, hws, hcs, st⟩ := hrel
      obtain ⟨wa, wc', hwv⟩ := own_shape st.rows.1
      obtain ⟨ca, cc, hcv⟩ := own_shape st.rows.2
      subst hwv; subst hcv
      have HSP := hid hsp
      have hcs' := hid hcs
      clear hsp hcs hst
      by_cases hlt : a < l.length
      · have hbs : a < s.size := by omega
        have hla : l[a]? = some s[a] := by rw [← hget'.out a hlt]; exact byte_at s a hbs
        have hbi := isBl_int s[a]
        have hla' := hid hla
        have hbi' := hid hbi
        clear hla hbi
        have hcc : (s[a].toNat : Int) ≤ 255 := by have := s[a].toNat_lt; omega
        by_cases hbl : isBl s[a] = true
        · have HB := hid (spC_blank l a ws cs hla'.out hbl)
          have hor : (s[a].toNat : Int) = 32 ∨ (s[a].toNat : Int) = 9 := by
            rw [hbi'.out] at hbl; simpa using hbl
          have h9 : ((s[a].toNat : Int) == 32) = true ∨ (((s[a].toNat : Int) == 32) = false ∧ ((s[a].toNat : Int) == 9) = true) := by
            rcases hor with h | h
            · left; rw [h]; rfl
            · right; rw [h]; exact ⟨rfl, rfl⟩
          clear hor hbl
          rcases h9 with h9 | ⟨h8, h9⟩
          all_goals
            go_wp2_with fail
            go_roundw
            case rel => exact ⟨a + 1, ws, cs, _, _, by omega, by go_num, by rw [HSP.out, HB.out], hws, hcs'.out, st⟩
            case measure => simp [intOf]; omega
        · have hb0 : a + run isBl l a = a := by rw [run_no hla'.out (by simpa using hbl)]; rfl
          have hn32 : ((s[a].toNat : Int) == 32) = false ∧ ((s[a].toNat : Int) == 9) = false := by
            rw [hbi'.out] at hbl
            simp only [Bool.or_eq_true, decide_eq_true_eq, not_or] at hbl
            exact ⟨by simpa using hbl.1, by simpa using hbl.2⟩
          obtain ⟨h32, h09⟩ := hn32
          have htr := run_le (fun c => !isBl c) l a (by omega)
          have htp : 0 < run (fun c => !isBl c) l a := by
            have := tok_pos (l := l) (a := a) (by rw [hb0]; exact hlt)
            rwa [hb0] at this
          generalize ht : a + run (fun c => !isBl c) l a = t at htr
          have htb : a < t := by omega
          have ht' := hid ht
          have hb0' := hid hb0
          clear htp ht hb0
          have hbl' := hid hbl
          clear hbl
          go_upto_block 4 with (fail)
          go_cut [9] (fun v wx => v = .int .i64 (t : Nat) ∧ wx = wr)
          case first =>
            go_wp2_with fail
            go_loop [9] (fun v => ∃ j : Nat, a ≤ j ∧ j ≤ t ∧ v = .int .i64 j ∧ t = j + run (fun c => !isBl c) l j) (fun v => t - (intOf v).toNat)
            case atStart => exact ⟨a, by omega, by omega, rfl, ht'.out.symm⟩
            case round =>
              obtain ⟨j, hj1, hj2, rfl, hjr⟩ := hrel
              have hjr' := hid hjr
              clear hjr
              by_cases hjt : j < t
              · have hjs : j < s.size := by omega
                obtain ⟨c, hc1, hc2⟩ := run_mem (p := fun c => !isBl c) (l := l) (a := j) (i := 0) (by have := hjr'.out; omega)
                have hlj : l[j]? = some s[j] := by rw [← hget'.out j (by omega)]; exact byte_at s j hjs
                rw [Nat.add_zero, hlj] at hc1
                cases hc1
                have hy := hid (run_yes (p := fun c => !isBl c) hlj hc2)
                have hn : ((s[j].toNat : Int) != 32) = true ∧ ((s[j].toNat : Int) != 9) = true := by
                  have hc2 : isBl s[j] = false := by simpa using hc2
                  rw [isBl_int, Bool.or_eq_false_iff] at hc2
                  simp only [decide_eq_false_iff_not] at hc2
                  exact ⟨by simpa using hc2.1, by simpa using hc2.2⟩
                obtain ⟨n1, n2⟩ := hn
                clear hlj hc2
                go_wp2_with fail
                go_round
                case rel => exact ⟨j + 1, by omega, by omega, by go_num, by have := hjr'.out; have := hy.out; omega⟩
                case measure => simp [intOf]; omega
              · have hjt' : j = t := by omega
                have hd : (¬ j < l.length) ∨ ∃ h : j < s.size, j < l.length ∧ (((s[j].toNat : Int) != 32) = false ∨ (((s[j].toNat : Int) != 32) = true ∧ ((s[j].toNat : Int) != 9) = false)) := by
                  rcases Nat.lt_or_ge j l.length with h | h
                  · right
                    have hjs : j < s.size := by omega
                    refine ⟨hjs, h, ?_⟩
                    have hlj : l[j]? = some s[j] := by rw [← hget'.out j h]; exact byte_at s j hjs
                    have hst := run_stop (p := fun c => !isBl c) (l := l) (a := a) (c := s[j]) (by rw [ht'.out, ← hjt']; exact hlj)
                    have hbl2 : isBl s[j] = true := by simpa using hst
                    rw [isBl_int] at hbl2
                    have : (s[j].toNat : Int) = 32 ∨ (s[j].toNat : Int) = 9 := by simpa using hbl2
                    rcases this with h | h
                    · left; rw [h]; rfl
                    · right; rw [h]; exact ⟨rfl, rfl⟩
                  · left; omega
                have hjt2 := hid hjt'
                clear hjt' hjr'
                rcases hd with hd | ⟨hd, hd2, hd3 | ⟨hd3, hd4⟩⟩
                all_goals
                  go_wp2_with fail
                  go_meet
                  exact ⟨by rw [hjt2.out], rfl⟩
          case rest =>
            obtain ⟨rfl, rfl⟩ := hcut
            have l1 := st.line.cell 1 rfl
            have l2 := st.line.cell 2 rfl
            have lf := st.line.free
            have r0 := st.res.cell 0 rfl
            have r1 := st.res.cell 1 rfl
            have r2 := st.res.cell 2 rfl
            have rf := st.res.free
            have f0 := st.flt.cell 0 rfl
            have f1 := st.flt.cell 1 rfl
            have f2 := st.flt.cell 2 rfl
            have ff := st.flt.free
            have hwl := word_len (by omega : a ≤ t) htr
            by_cases hx1 : 20 ≤ ws.length
            · have HE := hid (spC_bound (cs := cs) ha hb0'.out.symm ht'.out.symm hlt (.inl hx1 : 20 ≤ ws.length ∨ 80 < t - a))
              clear hwl
              go_wp2_with fail
              obtain ⟨q0, q1, q2, q3, q4, q5⟩ := six_cells st.res st.flt (.int .i64 0) (.slice none 0 0) (.slice none 0 0) (.int .i64 2) (.int .i64 no) (.int .i64 ((a : Int) + 1)) _ rfl
              exact bodyPost_ret (v := .tuple #[.agg #[.int .i64 0, .slice none 0 0, .slice none 0 0], .agg #[.int .i64 2, .int .i64 no, .int .i64 ((a : Int) + 1)]]) (by simp [results, Tryz.results128, go_sem, q0, q1, q2, q3, q4, q5]) rfl (split_err (HRes.out.trans (HSP.out.trans HE.out)) rfl (setCells6 st.kept))
            · by_cases hx2 : 80 < t - a
              · have HE := hid (spC_bound (ws := ws) (cs := cs) ha hb0'.out.symm ht'.out.symm hlt (.inr hx2 : 20 ≤ ws.length ∨ 80 < t - a))
                clear hwl
                go_wp2_with fail
                obtain ⟨q0, q1, q2, q3, q4, q5⟩ := six_cells st.res st.flt (.int .i64 0) (.slice none 0 0) (.slice none 0 0) (.int .i64 2) (.int .i64 no) (.int .i64 ((a : Int) + 1)) _ rfl
                exact bodyPost_ret (v := .tuple #[.agg #[.int .i64 0, .slice none 0 0, .slice none 0 0], .agg #[.int .i64 2, .int .i64 no, .int .i64 ((a : Int) + 1)]]) (by simp [results, Tryz.results128, go_sem, q0, q1, q2, q3, q4, q5]) rfl (split_err (HRes.out.trans (HSP.out.trans HE.out)) rfl (setCells6 st.kept))
              · have hno : ¬ (20 ≤ ws.length ∨ 80 < t - a) := by omega
                have hno' := hid hno
                clear hno
                have hwg : ∀ j, a ≤ j → j < t → (word l a t)[j - a]? = l[j]? := fun j h1 h2 => by
                  unfold word
                  rw [List.getElem?_take, if_pos (by omega), List.getElem?_drop]
                  congr 1; omega
                have hwg' := hid hwg
                have hwl' := hid hwl
                clear hwg hwl
                go_upto_block 6 with (fail)
                go_cut [10] (fun v wx => ¬ run okB (word l a t) 0 < t - a ∧ wx = wc)
                case first =>
                  go_wp2_with fail
                  go_loop [10] (fun v => ∃ j : Nat, a ≤ j ∧ j ≤ t ∧ v = .int .i64 j ∧ run okB (word l a t) 0 = (j - a) + run okB (word l a t) (j - a)) (fun v => t - (intOf v).toNat)
                  case atStart => exact ⟨a, by omega, by omega, rfl, by simp⟩
                  case round =>
                    obtain ⟨j, hj1, hj2, rfl, hjr⟩ := hrel
                    have hjr' := hid hjr
                    clear hjr
                    by_cases hjt : j < t
                    · have hjs : j < s.size := by omega
                      have hlj : (word l a t)[j - a]? = some s[j] := by rw [hwg'.out j hj1 hjt, ← hget'.out j (by omega)]; exact byte_at s j hjs
                      have hlj' := hid hlj
                      clear hlj
                      have hcc : (s[j].toNat : Int) ≤ 255 := by have := s[j].toNat_lt; omega
                      have hoi := hid (okB_int s[j])
                      by_cases hok : 33 ≤ (s[j].toNat : Int) ∧ (s[j].toNat : Int) ≤ 126
                      · obtain ⟨hk1, hk2⟩ := hok
                        have hy := hid (run_yes (p := okB) hlj'.out (by rw [hoi.out, decide_eq_true hk1, decide_eq_true hk2]; rfl))
                        go_wp2_with fail
                        go_round
                        case rel => exact ⟨j + 1, by omega, by omega, by go_num, by have := hjr'.out; have := hy.out; rw [show j + 1 - a = j - a + 1 from by omega]; omega⟩
                        case measure => simp [intOf]; omega
                      · have hz := hid (run_no (p := okB) hlj'.out (by rw [hoi.out, ← Bool.decide_and]; exact decide_eq_false hok))
                        have hrk := hid (show run okB (word l a t) 0 = j - a by have := hjr'.out; have := hz.out; omega)
                        have HE := hid (spC_odd (ws := ws) (cs := cs) ha hb0'.out.symm ht'.out.symm hlt hno'.out (by rw [hrk.out]; omega))
                        have HE2 := hid (show spC l a ws cs = .error (1, j + 1) by rw [HE.out, hrk.out]; congr 2; omega)
                        have hok2 : (s[j].toNat : Int) < 33 ∨ (33 ≤ (s[j].toNat : Int) ∧ 126 < (s[j].toNat : Int)) := by omega
                        clear hok
                        rcases hok2 with hk | ⟨hk, hk2⟩
                        · go_wp2_with fail
                          obtain ⟨q0, q1, q2, q3, q4, q5⟩ := six_cells st.res st.flt (.int .i64 0) (.slice none 0 0) (.slice none 0 0) (.int .i64 1) (.int .i64 no) (.int .i64 ((j : Int) + 1)) _ rfl
                          exact bodyPost_ret (v := .tuple #[.agg #[.int .i64 0, .slice none 0 0, .slice none 0 0], .agg #[.int .i64 1, .int .i64 no, .int .i64 ((j : Int) + 1)]]) (by simp [results, Tryz.results128, go_sem, q0, q1, q2, q3, q4, q5]) rfl (split_err (HRes.out.trans (HSP.out.trans HE2.out)) rfl (setCells6 st.kept))
                        · go_wp2_with fail
                          obtain ⟨q0, q1, q2, q3, q4, q5⟩ := six_cells st.res st.flt (.int .i64 0) (.slice none 0 0) (.slice none 0 0) (.int .i64 1) (.int .i64 no) (.int .i64 ((j : Int) + 1)) _ rfl
                          exact bodyPost_ret (v := .tuple #[.agg #[.int .i64 0, .slice none 0 0, .slice none 0 0], .agg #[.int .i64 1, .int .i64 no, .int .i64 ((j : Int) + 1)]]) (by simp [results, Tryz.results128, go_sem, q0, q1, q2, q3, q4, q5]) rfl (split_err (HRes.out.trans (HSP.out.trans HE2.out)) rfl (setCells6 st.kept))
                    · have hjt' : j = t := by omega
                      have hnl := hid (show ¬ run okB (word l a t) 0 < t - a by have := hjr'.out; omega)
                      go_wp2_with fail
                      go_meet
                      exact ⟨hnl.out, rfl⟩
                case rest =>
                  obtain ⟨hx3, rfl⟩ := hcut
                  have HE := hid (spC_word (ws := ws) (cs := cs) ha hb0'.out.symm ht'.out.symm hlt hno'.out hx3)
                  have hwx : s.extract a t = ⟨(word l a t).toArray⟩ := by
                    rw [extract_eq]
                    congr 2
                    apply List.ext_getElem?
                    intro j
                    unfold word
                    rw [List.getElem?_take, List.getElem?_take, List.getElem?_drop, List.getElem?_drop]
                    split
                    · exact hget'.out _ (by omega)
                    · rfl
                  have ia : (0 : Int) ≤ (a : Int) := by omega
                  have ib : (a : Int) ≤ (t : Int) := by omega
                  have ic : (t : Int) ≤ (s.size : Int) := by omega
                  clear hx3 hx1 hx2
                  obtain ⟨iS, hi, hz0, hz1, hz2⟩ := info_parts infoS
                  have hi := hid hi
                  have hz0 := hid hz0
                  have hz1 := hid hz1
                  have hz2 := hid hz2
                  have hown := st.rows.1
                  have hown1 := hid ((hown.alloc (.cells #[.string ⟨(word l a t).toArray⟩] 9)).drew)
                  have lc := hid st.line.lt
                  have k1 := (st.line.alloc (.cells #[.string ⟨(word l a t).toArray⟩] 9)).cell 1 rfl
                  go_upto_region 19 with (fail)
                  go_cut [8] (fun v wx => v = .int .i64 (a : Nat) ∧ ∃ wv, RefSt w wx no (ws ++ [word l a t]) cs wv (.slice ca cs.length cc))
                  case first =>
                    go_region_law (refine step_append_lies _ rfl _ _ 62 rfl (w.heap.size + 3) 9 iS (.string ⟨#[]⟩) 1 16 Tryz.underlying62 hi.out hz0.out hz1.out hz2.out rfl (by decide) _ _ _ rfl hown1.out ⟨wc.heap.size, 0, none⟩ 1 1 [.string ⟨(word l a t).toArray⟩] rfl rfl (cell_one_at _ _ _ _ rfl) (by intro u hu; simp at hu; subst hu; rfl) (by decide) (by unfold maxLen; omega) (by omega) (by have := lc.out; simp; omega) _ rfl ?_; intro g cap w2 hown2 hgrow hat hlt2; have line2 : Blk w2 (w.heap.size + 1 + 1) [.int .i64 no, .slice wa ws.length wc', .slice ca cs.length cc] 80 := Blk.grown (w := (wc.alloc (.cells #[.string ⟨(word l a t).toArray⟩] 9)).drew) (st.line.alloc _) hgrow (own_ne hown (by omega)); have m1 := line2.cell 1 rfl; have mf := line2.free 1)
                    all_goals
                      go_wp2_with fail
                      go_meet
                      refine ⟨rfl, .slice (some ⟨g, 0, none⟩) (ws.length + 1) cap, ?_⟩
                      have hap : (Value.slice ca cs.length cc).ownBlock = none ∨ (Value.slice ca cs.length cc).ownBlock ≠ (Value.slice wa ws.length wc').ownBlock := ownsRow_apart st.rows.2 hown (by decide)
                      have kp : Below w.heap.size w w2 := Below.grown (w := (wc.alloc (.cells #[.string ⟨(word l a t).toArray⟩] 9)).drew) ((below_alloc st.kept _).drew) hgrow (by have := lc.out; simp; omega) (fun k hk => by have := (hown.lt k hk).1; omega)
                      have res2 := Blk.grown (w := (wc.alloc (.cells #[.string ⟨(word l a t).toArray⟩] 9)).drew) (st.res.alloc _) hgrow (own_ne hown (by omega))
                      have flt2 := Blk.grown (w := (wc.alloc (.cells #[.string ⟨(word l a t).toArray⟩] 9)).drew) (st.flt.alloc _) hgrow (own_ne hown (by omega))
                      have rows2 := ((st.rows.2.alloc (.cells #[.string ⟨(word l a t).toArray⟩] 9)).drew).kept hgrow hap
                      have lA : (⟨w.heap.size + 1 + 1, 1, none⟩ : Addr).block < w.heap.size + 3 := by show w.heap.size + 1 + 1 < _; omega
                      refine ⟨kp.setCell (p := ⟨w.heap.size + 1 + 1, 1, none⟩) (by show w.heap.size ≤ w.heap.size + 1 + 1; omega) _, res2.other (a := ⟨w.heap.size + 1 + 1, 1, none⟩) (by show w.heap.size ≠ w.heap.size + 1 + 1; omega) _, flt2.other (a := ⟨w.heap.size + 1 + 1, 1, none⟩) (by show w.heap.size + 1 ≠ w.heap.size + 1 + 1; omega) _, line2.set 1 _, ?_, ?_⟩
                      · have := ownsRow_setCell_below (a := ⟨w.heap.size + 1 + 1, 1, none⟩) hown2 lA (Value.slice (some ⟨g, 0, none⟩) (ws.length + 1) cap)
                        rw [strs_snoc, List.length_append]; exact this
                      · exact ownsRow_setCell_below (a := ⟨w.heap.size + 1 + 1, 1, none⟩) rows2 lA (Value.slice (some ⟨g, 0, none⟩) (ws.length + 1) cap)
                  case rest =>
                    obtain ⟨rfl, wv, st2⟩ := hcut
                    clear l1 l2 lf r0 r1 r2 rf f0 f1 f2 ff hown hown1 k1 lc hi hz0 hz1 hz2 st ia ib ic hwx hwg' hwl' h32 h09 hget'
                    obtain ⟨iI, ki, kz0, kz1, kz2⟩ := info_parts infoI
                    have ki := hid ki
                    have kz0 := hid kz0
                    have kz1 := hid kz1
                    have kz2 := hid kz2
                    have m2 := st2.line.cell 2 rfl
                    have lc := hid st2.line.lt
                    have hown := hid st2.rows.2
                    go_wp2_with (at_builtin; refine wpList_append_lies _ rfl _ _ 78 rfl (w.heap.size + 3) 3 iI (.int .i64 0) 1 8 Tryz.underlying78 ki.out kz0.out kz1.out kz2.out rfl (by decide) _ _ _ rfl (hown.out.alloc _) ⟨_, 0, none⟩ 1 1 [.int .i64 ((a : Int) + 1)] rfl rfl ?c1 ?c2 ?cm ?c3 ?c4 ?c5 _ rfl ?_)
                    case c1 => exact cell_one_at _ _ _ _ (by simp)
                    case c2 => intro u hu; simp at hu; subst hu; rfl
                    case cm => decide
                    case c3 => have := hcs'.out; unfold maxLen; omega
                    case c4 => have := hcs'.out; omega
                    case c5 => have := lc.out; simp; omega
                    intro g cap w3 hown3 hgrow hat hlt3
                    have hap : wv.ownBlock = none ∨ wv.ownBlock ≠ (Value.slice ca cs.length cc).ownBlock := ownsRow_apart st2.rows.1 hown.out (by decide)
                    have kp := (below_alloc st2.kept _).grown hgrow (by have := lc.out; simp; omega) (fun k hk => by have := (hown.out.lt k hk).1; omega)
                    have res2 := (st2.res.alloc _).grown hgrow (own_ne hown.out (by omega))
                    have flt2 := (st2.flt.alloc _).grown hgrow (own_ne hown.out (by omega))
                    have line2 := (st2.line.alloc _).grown hgrow (own_ne hown.out (by omega))
                    have rows2 := (st2.rows.1.alloc _).kept hgrow hap
                    have lA : (⟨w.heap.size + 1 + 1, 2, none⟩ : Addr).block < w.heap.size + 3 := by show w.heap.size + 1 + 1 < _; omega
                    clear hgrow st2 hown m2
                    have m2 := line2.cell 2 rfl
                    have mf := line2.free 2
                    go_wp2
                    go_roundw
                    case rel =>
                      refine ⟨t, ws ++ [word l a t], cs ++ [a + 1], wv, .slice (some ⟨g, 0, none⟩) (cs.length + 1) cap, htr, rfl, by rw [HSP.out, HE.out], ?_, ?_, ?_⟩
                      · have := hno'.out; rw [List.length_append, List.length_singleton]; omega
                      · rw [List.length_append, List.length_append, hcs'.out]; rfl
                      · refine ⟨kp.setCell (p := ⟨w.heap.size + 1 + 1, 2, none⟩) (by show w.heap.size ≤ w.heap.size + 1 + 1; omega) _, res2.other (a := ⟨w.heap.size + 1 + 1, 2, none⟩) (by show w.heap.size ≠ w.heap.size + 1 + 1; omega) _, flt2.other (a := ⟨w.heap.size + 1 + 1, 2, none⟩) (by show w.heap.size + 1 ≠ w.heap.size + 1 + 1; omega) _, line2.set 2 _, ?_, ?_⟩
                        · exact ownsRow_setCell_below (a := ⟨w.heap.size + 1 + 1, 2, none⟩) rows2 lA (Value.slice (some ⟨g, 0, none⟩) (cs.length + 1) cap)
                        · have := ownsRow_setCell_below (a := ⟨w.heap.size + 1 + 1, 2, none⟩) hown3 lA (Value.slice (some ⟨g, 0, none⟩) (cs.length + 1) cap)
                          rw [nats_snoc, List.length_append]; exact this
                    case measure => simp [intOf]; omega
      · have hal : a = l.length := by omega
        have HE := hid (spC_end (ws := ws) (cs := cs) ha (by omega))
        have hal' := hid hal
        clear hal
        have l0 := st.line.cell 0 rfl
        have l1 := st.line.cell 1 rfl
        have l2 := st.line.cell 2 rfl
        have r0 := st.res.cell 0 rfl
        have r1 := st.res.cell 1 rfl
        have r2 := st.res.cell 2 rfl
        have rf := st.res.free
        have f0 := st.flt.cell 0 rfl
        have f1 := st.flt.cell 1 rfl
        have f2 := st.flt.cell 2 rfl
        have ff := st.flt.free
        go_wp2_with fail
        obtain ⟨q0, q1, q2, q3, q4, q5⟩ := six_cells st.res st.flt (.int .i64 no) (.slice wa ws.length wc') (.slice ca cs.length cc) (.int .i64 0) (.int .i64 0) (.int .i64 0) _ rfl
        refine bodyPost_ret (v := .tuple #[.agg #[.int .i64 no, .slice wa ws.length wc', .slice ca cs.length cc], .agg #[.int .i64 0, .int .i64 0, .int .i64 0]]) (by simp [results, Tryz.results128, go_sem, q0, q1, q2, q3, q4, q5]) rfl ?_
        rw [HRes.out.trans (HSP.out.trans HE.out)]
        refine ⟨setCells6 st.kept, _, _, rfl, ?_⟩
        exact ⟨six_rows st.rows.1 (by omega) _ _ _ _ _ _, six_rows st.rows.2 (by omega) _ _ _ _ _ _⟩

end Go.Proofs.YtmeaajhongalaaaGreatDoor.Ln
