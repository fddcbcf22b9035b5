/-
  LAYER 1: the document's play of the questions over a line.
-/
import Derived.Test.YtejigbhcpejijaaLinesAsked
namespace Go.Proofs.Ytejigbhcpejijaa.Ln
open Go.RowKit

/-- what play comes to -/
def PlayIs (no : Nat) (ws : List (List UInt8)) (cs : List Nat) (os : List OpD) (w : World) (e : Ending) (w' : World) : Prop :=
  ∃ (v : Value) (at' : Nat) (f1 f2 f3 : Int), e = .returned (.tuple #[v, .int .i64 (at' : Int), .agg #[.int .i64 f1, .int .i64 f2, .int .i64 f3]]) ∧ at' ≤ ws.length ∧ (playR no ws cs os).2 = (f1, f2, f3) ∧
    w'.ownsRow w.heap.size 9 1 v (playR no ws cs os).1.length (strs (playR no ws cs os).1) ∧ Below w.heap.size w w' ∧ (playR no ws cs os).1.length ≤ os.length

theorem play_err {no : Nat} {ws : List (List UInt8)} {cs : List Nat} {os : List OpD} {i t : Nat} {o : OpD} {out : List (List UInt8)} {c col : Int} (ha : askF ws cs os [] 0 = askF ws cs (os.drop i) out t) (hoi : os[i]? = some o) (h : oneV ws cs o t = .error (c, col)) :
    playR no ws cs os = (out, (c, (no : Int), col)) := by
  unfold playR; rw [ha, askF_err hoi h]
theorem play_end {no : Nat} {ws : List (List UInt8)} {cs : List Nat} {os : List OpD} {i t : Nat} {out : List (List UInt8)} (ha : askF ws cs os [] 0 = askF ws cs (os.drop i) out t) (h : os.length ≤ i) :
    playR no ws cs os = (out, if t < ws.length then (1, (no : Int), ((cs.getD t 0 : Nat) : Int)) else (0, 0, 0)) := by
  unfold playR; rw [ha, askF_end h]
theorem play_is {no : Nat} {ws : List (List UInt8)} {cs : List Nat} {os : List OpD} {w w' : World} {e : Ending} {out : List (List UInt8)} {f1 f2 f3 : Int} (hp : playR no ws cs os = (out, (f1, f2, f3))) {v : Value} {at' : Nat}
    (he : e = .returned (.tuple #[v, .int .i64 (at' : Int), .agg #[.int .i64 f1, .int .i64 f2, .int .i64 f3]])) (ha : at' ≤ ws.length) (hr : w'.ownsRow w.heap.size 9 1 v out.length (strs out)) (hb : Below w.heap.size w w') (hl : out.length ≤ os.length) : PlayIs no ws cs os w e w' := by
  refine ⟨v, at', f1, f2, f3, he, ha, ?_, ?_, hb, ?_⟩
  · rw [hp]
  · rw [hp]; exact hr
  · rw [hp]; exact hl

theorem refnum_list (l : List UInt8) (hs : l.length ≤ 1099511627776) (w : World) :
    Calls Try.prog 30 #[.string ⟨l.toArray⟩] w fun e w' => e = .returned (.tuple #[.int .i64 (numN l : Int), .bool (numB l)]) ∧ w = w' :=
  refNumber_any ⟨l.toArray⟩ (by show l.toArray.size ≤ _; unfold maxLen; simp; omega) w

theorem set3 {wr : World} {b : Nat} {p q r : Value} {f : TypeId} (k : Blk wr b [p, q, r] f) (d g i : Value) : Blk ((((wr.drew).setCell ⟨b, 0, none⟩ d).setCell ⟨b, 1, none⟩ g).setCell ⟨b, 2, none⟩ i) b [d, g, i] f := three_cells (wr := wr.drew) k d g i

/-- what holds at the head of a round -/
structure PlayAt (no : Nat) (ws : List (List UInt8)) (cs : List Nat) (os : List OpD) (wB wc cB cc : Nat) (w : World) (i t : Nat) (out : List (List UInt8)) (v : Value) (wr : World) : Prop where
  place : t ≤ ws.length
  row : wr.ownsRow (w.heap.size + 2) 9 1 v out.length (strs out)
  len : out.length ≤ i
  ask : askF ws cs os [] 0 = askF ws cs (os.drop i) out t
  below : Below w.heap.size w wr
  line : Blk wr w.heap.size [.int .i64 (no : Int), .slice (some ⟨wB, 0, none⟩) ws.length wc, .slice (some ⟨cB, 0, none⟩) ws.length cc] 44
  res : Blk wr (w.heap.size + 1) [.int .i64 0, .int .i64 0, .int .i64 0] 30

theorem play_fin {w wr : World} {v : Value} {n : Nat} {xs : List Value} (hr : wr.ownsRow (w.heap.size + 2) 9 1 v n xs) (hb : Below w.heap.size w wr) (a b c : Value) :
    (((wr.setCell ⟨w.heap.size + 1, 0, none⟩ a).setCell ⟨w.heap.size + 1, 1, none⟩ b).setCell ⟨w.heap.size + 1, 2, none⟩ c).ownsRow w.heap.size 9 1 v n xs ∧ Below w.heap.size w (((wr.setCell ⟨w.heap.size + 1, 0, none⟩ a).setCell ⟨w.heap.size + 1, 1, none⟩ b).setCell ⟨w.heap.size + 1, 2, none⟩ c) := by
  have h1 : w.heap.size + 1 < w.heap.size + 2 := Nat.lt_succ_self _
  have h2 : w.heap.size ≤ w.heap.size + 1 := Nat.le_succ _
  exact ⟨ownsRow_mono (ownsRow_setCell_below (ownsRow_setCell_below (ownsRow_setCell_below hr (a := ⟨_, 0, none⟩) h1 _) (a := ⟨_, 1, none⟩) h1 _) (a := ⟨_, 2, none⟩) h1 _) (by omega),
    ((hb.setCell (p := ⟨w.heap.size + 1, 0, none⟩) h2 _).setCell (p := ⟨w.heap.size + 1, 1, none⟩) h2 _).setCell (p := ⟨w.heap.size + 1, 2, none⟩) h2 _⟩

theorem play_keep {no : Nat} {ws : List (List UInt8)} {cs : List Nat} {os : List OpD} {wB wc cB cc : Nat} {w : World} {i t t' : Nat} {out : List (List UInt8)} {v : Value} {wr w' : World} {o : OpD} (ht : t' ≤ ws.length) (hrow : wr.ownsRow (w.heap.size + 2) 9 1 v out.length (strs out)) (hlen : out.length ≤ i) (hask : askF ws cs os [] 0 = askF ws cs (os.drop i) out t)
    (hbel : Below w.heap.size w wr) (hline : Blk wr w.heap.size [.int .i64 (no : Int), .slice (some ⟨wB, 0, none⟩) ws.length wc, .slice (some ⟨cB, 0, none⟩) ws.length cc] 44) (hres : Blk wr (w.heap.size + 1) [.int .i64 0, .int .i64 0, .int .i64 0] 30)
    (hoi : os[i]? = some o) (h : oneV ws cs o t = .ok ([], t')) (hw' : Below wr.heap.size wr w') : PlayAt no ws cs os wB wc cB cc w (i + 1) t' out v w' :=
  ⟨ht, ownsRow_below hrow hw', by omega, by rw [hask, askF_ok hoi h, List.append_nil], below_trans hbel hw', hline.below hw', hres.below hw'⟩

theorem play_push {no : Nat} {ws : List (List UInt8)} {cs : List Nat} {os : List OpD} {wB wc cB cc : Nat} {w : World} {i t t' : Nat} {out : List (List UInt8)} {u : List UInt8} {v v' : Value} {wr w' w3 : World} {o : OpD} (ht : t' ≤ ws.length) (hrow : wr.ownsRow (w.heap.size + 2) 9 1 v out.length (strs out)) (hlen : out.length ≤ i) (hask : askF ws cs os [] 0 = askF ws cs (os.drop i) out t)
    (hbel : Below w.heap.size w wr) (hline : Blk wr w.heap.size [.int .i64 (no : Int), .slice (some ⟨wB, 0, none⟩) ws.length wc, .slice (some ⟨cB, 0, none⟩) ws.length cc] 44) (hres : Blk wr (w.heap.size + 1) [.int .i64 0, .int .i64 0, .int .i64 0] 30)
    (hoi : os[i]? = some o) (h : oneV ws cs o t = .ok ([u], t')) (hw' : Below wr.heap.size wr w') (hg : w'.grownBy w3 v.ownBlock) (hown : w3.ownsRow (w.heap.size + 2) 9 1 v' (out.length + 1) (strs out ++ [.string ⟨u.toArray⟩])) : PlayAt no ws cs os wB wc cB cc w (i + 1) t' (out ++ [u]) v' w3 := by
  have hrow' := ownsRow_below hrow hw'
  refine ⟨ht, ?_, by rw [List.length_append, List.length_singleton]; omega, by rw [hask, askF_ok hoi h], ?_, ?_, ?_⟩
  · rw [strs_more, List.length_append]; exact hown
  · exact (below_trans hbel hw').grown hg (below_trans hbel hw').size (fun k hk => by have := (hrow'.lt k hk).1; omega)
  · exact (hline.below hw').grown hg (own_ne hrow' (by omega))
  · exact (hres.below hw').grown hg (own_ne hrow' (by omega))

set_option maxRecDepth 100000 in
set_option maxHeartbeats 8000000 in
theorem play_any (no : Nat) (ws : List (List UInt8)) (cs : List Nat) (hcl : cs.length = ws.length) (hw : ∀ x, x ∈ ws → x.length ≤ 1099511627776) (hwl : ws.length ≤ 1099511627776) (os : List OpD) (hn30 : os.length ≤ 30) (w : World) (wB wc cB cc B oo c : Nat)
    (hWB : wB < w.heap.size) (hCB : cB < w.heap.size) (hBB : B < w.heap.size) (hwc : ∀ (k : Nat) (h : k < ws.length), w.cell? ⟨wB, k, none⟩ = some (.string ⟨ws[k].toArray⟩)) (hcc : ∀ (k : Nat), k < cs.length → w.cell? ⟨cB, k, none⟩ = some (.int .i64 ((cs.getD k 0 : Nat) : Int)))
    (oa : Option Addr) (hoa : 0 < os.length → oa = some ⟨B, oo, none⟩) (hop : OpsAt w B oo os) :
    Calls Try.prog 20 #[.agg #[.int .i64 (no : Int), .slice (some ⟨wB, 0, none⟩) ws.length wc, .slice (some ⟨cB, 0, none⟩) ws.length cc], .slice oa os.length c] w (PlayIs no ws cs os w) := by
  have HCL := hid hcl
  have HW := hid hw
  have HWC := hid hwc
  have HCC := hid hcc
  have HOP := hid hop
  clear hcl hw hwc hcc hop
  generalize hN : os.length = N at *
  obtain ⟨L, hL⟩ : ∃ L, ws.length = L := ⟨_, rfl⟩
  rw [hL] at hwl ⊢
  have HN := hid hN
  have HL := hid hL
  have HOA := hid hoa
  clear hN hL hoa
  go_enter Try.func20, Try.ntmps20
  go_wp2_with fail
  have hI : PlayAt no ws cs os wB wc cB cc w 0 0 [] (.slice none 0 0) ((w.alloc (.cells #[.int .i64 (no : Int), .slice (some ⟨wB, 0, none⟩) L wc, .slice (some ⟨cB, 0, none⟩) L cc] 44)).alloc (.cells #[.int .i64 0, .int .i64 0, .int .i64 0] 30)) := by
    refine ⟨Nat.zero_le _, World.ownsRow_nil _ _ _ _, Nat.le_refl _, rfl, below_alloc (below_alloc (Below.refl _ _) _) _, ?_, ?_⟩
    · rw [HL.out]; exact (Blk.new w [.int .i64 (no : Int), .slice (some ⟨wB, 0, none⟩) L wc, .slice (some ⟨cB, 0, none⟩) L cc] 44).alloc _
    · have := Blk.new (w.alloc (.cells #[.int .i64 (no : Int), .slice (some ⟨wB, 0, none⟩) L wc, .slice (some ⟨cB, 0, none⟩) L cc] 44)) [.int .i64 0, .int .i64 0, .int .i64 0] 30
      simpa using this
  go_loopw [7, 8, 9] (fun v u x wr => ∃ (i t : Nat) (out : List (List UInt8)), i ≤ N ∧ u = .int .i64 (t : Nat) ∧ x = .int .i64 (i : Nat) ∧ PlayAt no ws cs os wB wc cB cc w i t out v wr) (fun _ _ x _ => N - (intOf x).toNat)
  case atStart => exact ⟨0, 0, [], by omega, rfl, rfl, hI⟩
  case round =>
    clear hI
    obtain ⟨i, t, out, hi, rfl, rfl, hr⟩ := hrel
    have HT := hid hr.place
    have HROW := hid hr.row
    have HLEN := hid hr.len
    have HASK := hid hr.ask
    have HBEL := hid hr.below
    have HLINE := hid hr.line
    have HRES := hid hr.res
    have l0 := hr.line.cell 0 rfl
    have l1 := hr.line.cell 1 rfl
    have l2 := hr.line.cell 2 rfl
    rw [HL.out] at l1 l2
    have r0 := hr.res.cell 0 rfl
    have r1 := hr.res.cell 1 rfl
    have r2 := hr.res.cell 2 rfl
    have rf := hr.res.free
    have hs1 := hr.res.lt
    have hs0 : w.heap.size < wr.heap.size := by omega
    clear hr
    by_cases hlt : i < N
    · have hoe := HOA.out (by omega)
      subst hoe
      have hik : i < os.length := by rw [HN.out]; exact hlt
      have hoi : os[i]? = some os[i] := List.getElem?_eq_getElem hik
      obtain ⟨b0, b1, b2⟩ := HOP.out i hik
      have a0 := (HBEL.out.cell (p := ⟨B, oo + i * 3, none⟩) hBB).trans b0
      have a1 := (HBEL.out.cell (p := ⟨B, oo + i * 3 + 1, none⟩) hBB).trans b1
      have a2 := (HBEL.out.cell (p := ⟨B, oo + i * 3 + 2, none⟩) hBB).trans b2
      clear b0 b1 b2
      generalize os[i] = o at *
      obtain ⟨k, n, V⟩ := o
      have HOI := hid hoi
      clear hoi hik
      dsimp only at a0 a1 a2
      have hln : out.length ≤ os.length := by have := HN.out; have := HLEN.out; omega
      have HLN := hid hln
      have hBl : B < wr.heap.size := Nat.lt_of_lt_of_le hBB HBEL.out.size
      clear hln
      by_cases k1 : k = 1
      · subst k1
        by_cases htl : t < L
        · skip
          have htw : t < ws.length := by rw [HL.out]; exact htl
          have htd : decide (t < L) = true := decide_eq_true htl
          have hwx := (HBEL.out.cell (p := ⟨wB, t, none⟩) hWB).trans (HWC.out t htw)
          have hcx := (HBEL.out.cell (p := ⟨cB, t, none⟩) hCB).trans (HCC.out t (by have := HCL.out; omega))
          have hwm := hid (HW.out _ (List.getElem_mem htw))
          have hb1 : wB < wr.heap.size := Nat.lt_of_lt_of_le hWB HBEL.out.size
          have hb2 : cB < wr.heap.size := Nat.lt_of_lt_of_le hCB HBEL.out.size
          have hwr1 : IntKind.i64.wrap ((t : Int) + 1) = (t : Int) + 1 := IntWalk.i64_in _ (by omega)
          have hwr2 : IntKind.i64.wrap (t : Int) = (t : Int) := IntWalk.i64_in _ (by omega)
          have EV : Hid (oneV ws cs ⟨1, n, V⟩ t = .ok ([ws[t]], t + 1)) := hid (by simp [oneV, htw])
          generalize ws[t] = W at *
          generalize cs.getD t 0 = z at *
          have HTW := hid htw
          clear htw
          go_wp2_with fail
          refine (refnum_list W hwm.out _).mono ?_
          rintro e w2 ⟨rfl, rfl⟩
          obtain ⟨iS, hi0, hz0, hz1, hz2⟩ := info_parts infoS
          have hi0 := hid hi0
          have hz0 := hid hz0
          have hz1 := hid hz1
          have hz2 := hid hz2
          go_wp2_with (at_builtin; refine wpList_append_lies _ rfl _ _ 39 rfl (w.heap.size + 2) 9 iS (.string ByteArray.empty) 1 16 Try.underlying39 hi0.out hz0.out hz1.out hz2.out rfl (by decide) _ _ _ rfl ((HROW.out.alloc _).alloc _) ⟨_, 0, none⟩ 1 1 [.string ⟨(W : List UInt8).toArray⟩] rfl rfl ?c1x1 ?c2x1 ?cmx1 ?c3x1 ?c4x1 ?c5x1 _ rfl ?_)
          case c1x1 => exact cells_new _ [_] _ _ (by simp)
          case c2x1 =>
            intro y hy
            simp at hy
            subst hy; rfl
          case cmx1 => decide
          case c3x1 => have := HLEN.out; unfold maxLen; omega
          case c4x1 => have := HLEN.out; omega
          case c5x1 => simp; omega
          intro g cap w3 hown3 hgrow hat hlt3
          have HNX := hid (play_push (no := no) (wB := wB) (wc := wc) (cB := cB) (cc := cc) HTW.out HROW.out HLEN.out HASK.out HBEL.out HLINE.out HRES.out HOI.out EV.out (below_alloc (below_alloc (Below.refl _ _) _) _) hgrow hown3)
          clear hown3 hgrow hat
          go_wp2
          go_roundw
          case rel => exact ⟨i + 1, t + 1, out ++ [W], by omega, by go_num, by go_num, HNX.out⟩
          case measure => simp [intOf]; omega
        · skip
          have htw : ¬ t < ws.length := by rw [HL.out]; exact htl
          have htd : decide (t < L) = false := decide_eq_false htl
          have EV : Hid (oneV ws cs ⟨1, n, V⟩ t = .error (1, 0)) := hid (by simp [oneV, htw])
          have HE := hid (play_err (no := no) HASK.out HOI.out EV.out)
          have HTW := hid htw
          clear htw
          go_wp2_with fail
          go_region
          all_goals
            go_wp2_with fail
            have q := Blk.alloc (three_cells HRES.out (.int .i64 1) (.int .i64 (no : Int)) (.int .i64 0)) (.cells #[.int .i64 1, .int .i64 n, .string ⟨V.toArray⟩] 58)
            have q0 := q.cell 0 rfl
            have q1 := q.cell 1 rfl
            have q2 := q.cell 2 rfl
            refine bodyPost_ret (v := .tuple #[u7, .int .i64 ((t : Nat) : Int), .agg #[.int .i64 1, .int .i64 (no : Int), .int .i64 0]]) (by simp [results, Try.results20, go_sem, q0, q1, q2]) rfl ?_
            have pf := play_fin HROW.out HBEL.out (.int .i64 1) (.int .i64 (no : Int)) (.int .i64 0)
            exact play_is HE.out rfl HT.out (pf.1.alloc _) (below_alloc pf.2 _).drew HLN.out
      by_cases k2 : k = 2
      · subst k2
        by_cases htl : t < L
        · skip
          have htw : t < ws.length := by rw [HL.out]; exact htl
          have htd : decide (t < L) = true := decide_eq_true htl
          have hwx := (HBEL.out.cell (p := ⟨wB, t, none⟩) hWB).trans (HWC.out t htw)
          have hcx := (HBEL.out.cell (p := ⟨cB, t, none⟩) hCB).trans (HCC.out t (by have := HCL.out; omega))
          have hwm := hid (HW.out _ (List.getElem_mem htw))
          have hb1 : wB < wr.heap.size := Nat.lt_of_lt_of_le hWB HBEL.out.size
          have hb2 : cB < wr.heap.size := Nat.lt_of_lt_of_le hCB HBEL.out.size
          have hwr1 : IntKind.i64.wrap ((t : Int) + 1) = (t : Int) + 1 := IntWalk.i64_in _ (by omega)
          have hwr2 : IntKind.i64.wrap (t : Int) = (t : Int) := IntWalk.i64_in _ (by omega)
          by_cases hV : ws[t] = V
          · subst hV
            have EV : Hid (oneV ws cs ⟨2, n, ws[t]⟩ t = .ok ([[121, 101, 115]], t + 1)) := hid (by simp [oneV, htw])
            generalize ws[t] = W at *
            generalize cs.getD t 0 = z at *
            have HTW := hid htw
            clear htw
            go_wp2_with fail
            go_quiet (fail)
            obtain ⟨iS, hi0, hz0, hz1, hz2⟩ := info_parts infoS
            have hi0 := hid hi0
            have hz0 := hid hz0
            have hz1 := hid hz1
            have hz2 := hid hz2
            go_wp2_with (at_builtin; refine wpList_append_lies _ rfl _ _ 39 rfl (w.heap.size + 2) 9 iS (.string ByteArray.empty) 1 16 Try.underlying39 hi0.out hz0.out hz1.out hz2.out rfl (by decide) _ _ _ rfl ((HROW.out.alloc _).alloc _) ⟨_, 0, none⟩ 1 1 [.string ⟨([121, 101, 115] : List UInt8).toArray⟩] rfl rfl ?c1x2 ?c2x2 ?cmx2 ?c3x2 ?c4x2 ?c5x2 _ rfl ?_)
            case c1x2 => exact cells_new _ [_] _ _ (by simp)
            case c2x2 =>
              intro y hy
              simp at hy
              subst hy; rfl
            case cmx2 => decide
            case c3x2 => have := HLEN.out; unfold maxLen; omega
            case c4x2 => have := HLEN.out; omega
            case c5x2 => simp; omega
            intro g cap w3 hown3 hgrow hat hlt3
            have HNX := hid (play_push (no := no) (wB := wB) (wc := wc) (cB := cB) (cc := cc) HTW.out HROW.out HLEN.out HASK.out HBEL.out HLINE.out HRES.out HOI.out EV.out (below_alloc (below_drewN' (below_alloc (Below.refl _ _) _) _) _) hgrow hown3)
            clear hown3 hgrow hat
            go_wp2
            go_roundw
            case rel => exact ⟨i + 1, t + 1, out ++ [[121, 101, 115]], by omega, by go_num, by go_num, HNX.out⟩
            case measure => simp [intOf]; omega
          · skip
            have EV : Hid (oneV ws cs ⟨2, n, V⟩ t = .ok ([[110, 111]], t)) := hid (by simp [oneV, htw, hV])
            have hV1 : (ws[t] == V) = false := beq_eq_false_iff_ne.2 hV
            clear hV
            generalize ws[t] = W at *
            generalize cs.getD t 0 = z at *
            have HTW := hid htw
            clear htw
            go_wp2_with fail
            go_quiet (fail)
            obtain ⟨iS, hi0, hz0, hz1, hz2⟩ := info_parts infoS
            have hi0 := hid hi0
            have hz0 := hid hz0
            have hz1 := hid hz1
            have hz2 := hid hz2
            go_wp2_with (at_builtin; refine wpList_append_lies _ rfl _ _ 39 rfl (w.heap.size + 2) 9 iS (.string ByteArray.empty) 1 16 Try.underlying39 hi0.out hz0.out hz1.out hz2.out rfl (by decide) _ _ _ rfl ((HROW.out.alloc _).alloc _) ⟨_, 0, none⟩ 1 1 [.string ⟨([110, 111] : List UInt8).toArray⟩] rfl rfl ?c1x3 ?c2x3 ?cmx3 ?c3x3 ?c4x3 ?c5x3 _ rfl ?_)
            case c1x3 => exact cells_new _ [_] _ _ (by simp)
            case c2x3 =>
              intro y hy
              simp at hy
              subst hy; rfl
            case cmx3 => decide
            case c3x3 => have := HLEN.out; unfold maxLen; omega
            case c4x3 => have := HLEN.out; omega
            case c5x3 => simp; omega
            intro g cap w3 hown3 hgrow hat hlt3
            have HNX := hid (play_push (no := no) (wB := wB) (wc := wc) (cB := cB) (cc := cc) HT.out HROW.out HLEN.out HASK.out HBEL.out HLINE.out HRES.out HOI.out EV.out (below_alloc (below_drewN' (below_alloc (Below.refl _ _) _) _) _) hgrow hown3)
            clear hown3 hgrow hat
            go_wp2
            go_roundw
            case rel => exact ⟨i + 1, t, out ++ [[110, 111]], by omega, by go_num, by go_num, HNX.out⟩
            case measure => simp [intOf]; omega
        · skip
          have htw : ¬ t < ws.length := by rw [HL.out]; exact htl
          have htd : decide (t < L) = false := decide_eq_false htl
          have EV : Hid (oneV ws cs ⟨2, n, V⟩ t = .ok ([[110, 111]], t)) := hid (by simp [oneV, htw])
          have HTW := hid htw
          clear htw
          go_wp2_with fail
          go_quiet (fail)
          obtain ⟨iS, hi0, hz0, hz1, hz2⟩ := info_parts infoS
          have hi0 := hid hi0
          have hz0 := hid hz0
          have hz1 := hid hz1
          have hz2 := hid hz2
          go_wp2_with (at_builtin; refine wpList_append_lies _ rfl _ _ 39 rfl (w.heap.size + 2) 9 iS (.string ByteArray.empty) 1 16 Try.underlying39 hi0.out hz0.out hz1.out hz2.out rfl (by decide) _ _ _ rfl ((HROW.out.alloc _).alloc _) ⟨_, 0, none⟩ 1 1 [.string ⟨([110, 111] : List UInt8).toArray⟩] rfl rfl ?c1x4 ?c2x4 ?cmx4 ?c3x4 ?c4x4 ?c5x4 _ rfl ?_)
          case c1x4 => exact cells_new _ [_] _ _ (by simp)
          case c2x4 =>
            intro y hy
            simp at hy
            subst hy; rfl
          case cmx4 => decide
          case c3x4 => have := HLEN.out; unfold maxLen; omega
          case c4x4 => have := HLEN.out; omega
          case c5x4 => simp; omega
          intro g cap w3 hown3 hgrow hat hlt3
          have HNX := hid (play_push (no := no) (wB := wB) (wc := wc) (cB := cB) (cc := cc) HT.out HROW.out HLEN.out HASK.out HBEL.out HLINE.out HRES.out HOI.out EV.out (below_alloc (below_drewN' (below_alloc (Below.refl _ _) _) _) _) hgrow hown3)
          clear hown3 hgrow hat
          go_wp2
          go_roundw
          case rel => exact ⟨i + 1, t, out ++ [[110, 111]], by omega, by go_num, by go_num, HNX.out⟩
          case measure => simp [intOf]; omega
      by_cases k3 : k = 3
      · subst k3
        by_cases htl : t < L
        · skip
          have htw : t < ws.length := by rw [HL.out]; exact htl
          have htd : decide (t < L) = true := decide_eq_true htl
          have hwx := (HBEL.out.cell (p := ⟨wB, t, none⟩) hWB).trans (HWC.out t htw)
          have hcx := (HBEL.out.cell (p := ⟨cB, t, none⟩) hCB).trans (HCC.out t (by have := HCL.out; omega))
          have hwm := hid (HW.out _ (List.getElem_mem htw))
          have hb1 : wB < wr.heap.size := Nat.lt_of_lt_of_le hWB HBEL.out.size
          have hb2 : cB < wr.heap.size := Nat.lt_of_lt_of_le hCB HBEL.out.size
          have hwr1 : IntKind.i64.wrap ((t : Int) + 1) = (t : Int) + 1 := IntWalk.i64_in _ (by omega)
          have hwr2 : IntKind.i64.wrap (t : Int) = (t : Int) := IntWalk.i64_in _ (by omega)
          cases hb : numB ws[t]
          · skip
            have EV : Hid (oneV ws cs ⟨3, n, V⟩ t = .error (1, (cs.getD t 0 : Nat))) := hid (by simp [oneV, htw, hb])
            have HE := hid (play_err (no := no) HASK.out HOI.out EV.out)
            have HB := hid hb
            clear hb
            generalize ws[t] = W at *
            generalize cs.getD t 0 = z at *
            have HTW := hid htw
            clear htw
            go_wp2_with fail
            refine (refnum_list W hwm.out _).mono ?_
            rw [HB.out]
            rintro e w2 ⟨rfl, rfl⟩
            go_wp2_with fail
            go_region
            all_goals
              go_wp2_with fail
              have q := Blk.alloc (three_cells HRES.out (.int .i64 1) (.int .i64 (no : Int)) (.int .i64 (z : Int))) (.cells #[.int .i64 3, .int .i64 n, .string ⟨V.toArray⟩] 58)
              have q0 := q.cell 0 rfl
              have q1 := q.cell 1 rfl
              have q2 := q.cell 2 rfl
              refine bodyPost_ret (v := .tuple #[u7, .int .i64 ((t + 1 : Nat) : Int), .agg #[.int .i64 1, .int .i64 (no : Int), .int .i64 (z : Int)]]) (by simp [results, Try.results20, go_sem, q0, q1, q2]) rfl ?_
              have pf := play_fin HROW.out HBEL.out (.int .i64 1) (.int .i64 (no : Int)) (.int .i64 (z : Int))
              exact play_is HE.out rfl HTW.out (pf.1.alloc _) (below_alloc pf.2 _).drew HLN.out
          · by_cases hm : n < (numN ws[t] : Int)
            · skip
              have EV : Hid (oneV ws cs ⟨3, n, V⟩ t = .error (8, (cs.getD t 0 : Nat))) := hid (by simp [oneV, htw, hb, hm])
              have HE := hid (play_err (no := no) HASK.out HOI.out EV.out)
              have HB := hid hb
              clear hb
              generalize ws[t] = W at *
              generalize cs.getD t 0 = z at *
              have HTW := hid htw
              clear htw
              go_wp2_with fail
              refine (refnum_list W hwm.out _).mono ?_
              rw [HB.out]
              rintro e w2 ⟨rfl, rfl⟩
              generalize numN W = NW at *
              go_wp2_with fail
              go_region
              all_goals
                go_wp2_with fail
                have q := Blk.alloc (three_cells HRES.out (.int .i64 8) (.int .i64 (no : Int)) (.int .i64 (z : Int))) (.cells #[.int .i64 3, .int .i64 n, .string ⟨V.toArray⟩] 58)
                have q0 := q.cell 0 rfl
                have q1 := q.cell 1 rfl
                have q2 := q.cell 2 rfl
                refine bodyPost_ret (v := .tuple #[u7, .int .i64 ((t + 1 : Nat) : Int), .agg #[.int .i64 8, .int .i64 (no : Int), .int .i64 (z : Int)]]) (by simp [results, Try.results20, go_sem, q0, q1, q2]) rfl ?_
                have pf := play_fin HROW.out HBEL.out (.int .i64 8) (.int .i64 (no : Int)) (.int .i64 (z : Int))
                exact play_is HE.out rfl HTW.out (pf.1.alloc _) (below_alloc pf.2 _).drew HLN.out
            · skip
              have EV : Hid (oneV ws cs ⟨3, n, V⟩ t = .ok ([ws[t]], t + 1)) := hid (by simp [oneV, htw, hb]; omega)
              have HB := hid hb
              clear hb
              generalize ws[t] = W at *
              generalize cs.getD t 0 = z at *
              have HTW := hid htw
              clear htw
              go_wp2_with fail
              refine (refnum_list W hwm.out _).mono ?_
              rw [HB.out]
              rintro e w2 ⟨rfl, rfl⟩
              generalize numN W = NW at *
              obtain ⟨iS, hi0, hz0, hz1, hz2⟩ := info_parts infoS
              have hi0 := hid hi0
              have hz0 := hid hz0
              have hz1 := hid hz1
              have hz2 := hid hz2
              go_wp2_with (at_builtin; refine wpList_append_lies _ rfl _ _ 39 rfl (w.heap.size + 2) 9 iS (.string ByteArray.empty) 1 16 Try.underlying39 hi0.out hz0.out hz1.out hz2.out rfl (by decide) _ _ _ rfl ((HROW.out.alloc _).alloc _) ⟨_, 0, none⟩ 1 1 [.string ⟨(W : List UInt8).toArray⟩] rfl rfl ?c1x5 ?c2x5 ?cmx5 ?c3x5 ?c4x5 ?c5x5 _ rfl ?_)
              case c1x5 => exact cells_new _ [_] _ _ (by simp)
              case c2x5 =>
                intro y hy
                simp at hy
                subst hy; rfl
              case cmx5 => decide
              case c3x5 => have := HLEN.out; unfold maxLen; omega
              case c4x5 => have := HLEN.out; omega
              case c5x5 => simp; omega
              intro g cap w3 hown3 hgrow hat hlt3
              have HNX := hid (play_push (no := no) (wB := wB) (wc := wc) (cB := cB) (cc := cc) HTW.out HROW.out HLEN.out HASK.out HBEL.out HLINE.out HRES.out HOI.out EV.out (below_alloc (below_alloc (Below.refl _ _) _) _) hgrow hown3)
              clear hown3 hgrow hat
              go_wp2
              go_roundw
              case rel => exact ⟨i + 1, t + 1, out ++ [W], by omega, by go_num, by go_num, HNX.out⟩
              case measure => simp [intOf]; omega
        · skip
          have htw : ¬ t < ws.length := by rw [HL.out]; exact htl
          have htd : decide (t < L) = false := decide_eq_false htl
          have EV : Hid (oneV ws cs ⟨3, n, V⟩ t = .error (1, 0)) := hid (by simp [oneV, htw])
          have HE := hid (play_err (no := no) HASK.out HOI.out EV.out)
          have HTW := hid htw
          clear htw
          go_wp2_with fail
          go_region
          all_goals
            go_wp2_with fail
            have q := Blk.alloc (three_cells HRES.out (.int .i64 1) (.int .i64 (no : Int)) (.int .i64 0)) (.cells #[.int .i64 3, .int .i64 n, .string ⟨V.toArray⟩] 58)
            have q0 := q.cell 0 rfl
            have q1 := q.cell 1 rfl
            have q2 := q.cell 2 rfl
            refine bodyPost_ret (v := .tuple #[u7, .int .i64 ((t : Nat) : Int), .agg #[.int .i64 1, .int .i64 (no : Int), .int .i64 0]]) (by simp [results, Try.results20, go_sem, q0, q1, q2]) rfl ?_
            have pf := play_fin HROW.out HBEL.out (.int .i64 1) (.int .i64 (no : Int)) (.int .i64 0)
            exact play_is HE.out rfl HT.out (pf.1.alloc _) (below_alloc pf.2 _).drew HLN.out
      by_cases k4 : k = 4
      · subst k4
        cases t with
        | zero =>
          have EV : Hid (oneV ws cs ⟨4, n, V⟩ 0 = .error (n, 0)) := hid (by simp [oneV])
          have HE := hid (play_err (no := no) HASK.out HOI.out EV.out)
          rw [show ((0 : Nat) : Int) = 0 from rfl]
          go_wp2_with fail
          go_region
          all_goals
            go_wp2_with fail
            have q := Blk.alloc (three_cells HRES.out (.int .i64 n) (.int .i64 (no : Int)) (.int .i64 0)) (.cells #[.int .i64 4, .int .i64 n, .string ⟨V.toArray⟩] 58)
            have q0 := q.cell 0 rfl
            have q1 := q.cell 1 rfl
            have q2 := q.cell 2 rfl
            refine bodyPost_ret (v := .tuple #[u7, .int .i64 ((0 : Nat) : Int), .agg #[.int .i64 n, .int .i64 (no : Int), .int .i64 0]]) (by simp [results, Try.results20, go_sem, q0, q1, q2]) rfl ?_
            have pf := play_fin HROW.out HBEL.out (.int .i64 n) (.int .i64 (no : Int)) (.int .i64 0)
            exact play_is HE.out rfl HT.out (pf.1.alloc _) (below_alloc pf.2 _).drew HLN.out
        | succ t =>
          have EV : Hid (oneV ws cs ⟨4, n, V⟩ (t + 1) = .error (n, (cs.getD t 0 : Nat))) := hid (by simp [oneV])
          have HE := hid (play_err (no := no) HASK.out HOI.out EV.out)
          have htl : t < L := by have := HT.out; have := HL.out; omega
          have hcx := (HBEL.out.cell (p := ⟨cB, t, none⟩) hCB).trans (HCC.out t (by have := HCL.out; have := HL.out; omega))
          have hb2 : cB < wr.heap.size := Nat.lt_of_lt_of_le hCB HBEL.out.size
          have hwr2 : IntKind.i64.wrap (t : Int) = (t : Int) := IntWalk.i64_in _ (by omega)
          generalize cs.getD t 0 = z at *
          go_wp2_with fail
          go_region
          all_goals
            go_wp2_with fail
            have q := Blk.alloc (three_cells HRES.out (.int .i64 n) (.int .i64 (no : Int)) (.int .i64 (z : Int))) (.cells #[.int .i64 4, .int .i64 n, .string ⟨V.toArray⟩] 58)
            have q0 := q.cell 0 rfl
            have q1 := q.cell 1 rfl
            have q2 := q.cell 2 rfl
            refine bodyPost_ret (v := .tuple #[u7, .int .i64 ((t + 1 : Nat) : Int), .agg #[.int .i64 n, .int .i64 (no : Int), .int .i64 (z : Int)]]) (by simp [results, Try.results20, go_sem, q0, q1, q2]) rfl ?_
            have pf := play_fin HROW.out HBEL.out (.int .i64 n) (.int .i64 (no : Int)) (.int .i64 (z : Int))
            exact play_is HE.out rfl HT.out (pf.1.alloc _) (below_alloc pf.2 _).drew HLN.out
      by_cases k5 : k = 5
      · subst k5
        by_cases htl : t < L
        · skip
          have htw : t < ws.length := by rw [HL.out]; exact htl
          have htd : decide (t < L) = true := decide_eq_true htl
          have hwx := (HBEL.out.cell (p := ⟨wB, t, none⟩) hWB).trans (HWC.out t htw)
          have hcx := (HBEL.out.cell (p := ⟨cB, t, none⟩) hCB).trans (HCC.out t (by have := HCL.out; omega))
          have hwm := hid (HW.out _ (List.getElem_mem htw))
          have hb1 : wB < wr.heap.size := Nat.lt_of_lt_of_le hWB HBEL.out.size
          have hb2 : cB < wr.heap.size := Nat.lt_of_lt_of_le hCB HBEL.out.size
          have hwr1 : IntKind.i64.wrap ((t : Int) + 1) = (t : Int) + 1 := IntWalk.i64_in _ (by omega)
          have hwr2 : IntKind.i64.wrap (t : Int) = (t : Int) := IntWalk.i64_in _ (by omega)
          have EV : Hid (oneV ws cs ⟨5, n, V⟩ t = .ok ([[109, 111, 114, 101]], t)) := hid (by simp [oneV, htw])
          generalize ws[t] = W at *
          generalize cs.getD t 0 = z at *
          have HTW := hid htw
          clear htw
          obtain ⟨iS, hi0, hz0, hz1, hz2⟩ := info_parts infoS
          have hi0 := hid hi0
          have hz0 := hid hz0
          have hz1 := hid hz1
          have hz2 := hid hz2
          go_wp2_with (at_builtin; refine wpList_append_lies _ rfl _ _ 39 rfl (w.heap.size + 2) 9 iS (.string ByteArray.empty) 1 16 Try.underlying39 hi0.out hz0.out hz1.out hz2.out rfl (by decide) _ _ _ rfl ((HROW.out.alloc _).alloc _) ⟨_, 0, none⟩ 1 1 [.string ⟨([109, 111, 114, 101] : List UInt8).toArray⟩] rfl rfl ?c1x6 ?c2x6 ?cmx6 ?c3x6 ?c4x6 ?c5x6 _ rfl ?_)
          case c2x6 => first | rfl | (intro y hy; simp at hy; subst hy; rfl)
          try (case cmx6 => decide)
          try (case c3x6 => first | omega | (have := HLEN.out; unfold maxLen; omega))
          try (case c4x6 => first | omega | (have := HLEN.out; omega))
          try (case c5x6 => first | omega | (simp; omega))
          intro g cap w3 hown3 hgrow hat hlt3
          have HNX := hid (play_push (no := no) (wB := wB) (wc := wc) (cB := cB) (cc := cc) HT.out HROW.out HLEN.out HASK.out HBEL.out HLINE.out HRES.out HOI.out EV.out (below_alloc (below_alloc (Below.refl _ _) _) _) hgrow hown3)
          clear hown3 hgrow hat
          go_wp2
          go_roundw
          case rel => exact ⟨i + 1, t, out ++ [[109, 111, 114, 101]], by omega, by go_num, by go_num, HNX.out⟩
          case measure => simp [intOf]; omega
        · skip
          have htw : ¬ t < ws.length := by rw [HL.out]; exact htl
          have htd : decide (t < L) = false := decide_eq_false htl
          have EV : Hid (oneV ws cs ⟨5, n, V⟩ t = .ok ([[101, 110, 100]], t)) := hid (by simp [oneV, htw])
          have HTW := hid htw
          clear htw
          obtain ⟨iS, hi0, hz0, hz1, hz2⟩ := info_parts infoS
          have hi0 := hid hi0
          have hz0 := hid hz0
          have hz1 := hid hz1
          have hz2 := hid hz2
          go_wp2_with (at_builtin; refine wpList_append_lies _ rfl _ _ 39 rfl (w.heap.size + 2) 9 iS (.string ByteArray.empty) 1 16 Try.underlying39 hi0.out hz0.out hz1.out hz2.out rfl (by decide) _ _ _ rfl ((HROW.out.alloc _).alloc _) ⟨_, 0, none⟩ 1 1 [.string ⟨([101, 110, 100] : List UInt8).toArray⟩] rfl rfl ?c1x7 ?c2x7 ?cmx7 ?c3x7 ?c4x7 ?c5x7 _ rfl ?_)
          case c2x7 => first | rfl | (intro y hy; simp at hy; subst hy; rfl)
          try (case cmx7 => decide)
          try (case c3x7 => first | omega | (have := HLEN.out; unfold maxLen; omega))
          try (case c4x7 => first | omega | (have := HLEN.out; omega))
          try (case c5x7 => first | omega | (simp; omega))
          intro g cap w3 hown3 hgrow hat hlt3
          have HNX := hid (play_push (no := no) (wB := wB) (wc := wc) (cB := cB) (cc := cc) HT.out HROW.out HLEN.out HASK.out HBEL.out HLINE.out HRES.out HOI.out EV.out (below_alloc (below_alloc (Below.refl _ _) _) _) hgrow hown3)
          clear hown3 hgrow hat
          go_wp2
          go_roundw
          case rel => exact ⟨i + 1, t, out ++ [[101, 110, 100]], by omega, by go_num, by go_num, HNX.out⟩
          case measure => simp [intOf]; omega
      by_cases k6 : k = 6
      · subst k6
        by_cases htl : t < L
        · skip
          have htw : t < ws.length := by rw [HL.out]; exact htl
          have htd : decide (t < L) = true := decide_eq_true htl
          have hwx := (HBEL.out.cell (p := ⟨wB, t, none⟩) hWB).trans (HWC.out t htw)
          have hcx := (HBEL.out.cell (p := ⟨cB, t, none⟩) hCB).trans (HCC.out t (by have := HCL.out; omega))
          have hwm := hid (HW.out _ (List.getElem_mem htw))
          have hb1 : wB < wr.heap.size := Nat.lt_of_lt_of_le hWB HBEL.out.size
          have hb2 : cB < wr.heap.size := Nat.lt_of_lt_of_le hCB HBEL.out.size
          have hwr1 : IntKind.i64.wrap ((t : Int) + 1) = (t : Int) + 1 := IntWalk.i64_in _ (by omega)
          have hwr2 : IntKind.i64.wrap (t : Int) = (t : Int) := IntWalk.i64_in _ (by omega)
          by_cases hV : ws[t] = V
          · subst hV
            have EV : Hid (oneV ws cs ⟨6, n, ws[t]⟩ t = .ok ([ws[t]], t + 1)) := hid (by simp [oneV, htw])
            generalize ws[t] = W at *
            generalize cs.getD t 0 = z at *
            have HTW := hid htw
            clear htw
            go_wp2_with fail
            refine (refnum_list W hwm.out _).mono ?_
            rintro e w2 ⟨rfl, rfl⟩
            obtain ⟨iS, hi0, hz0, hz1, hz2⟩ := info_parts infoS
            have hi0 := hid hi0
            have hz0 := hid hz0
            have hz1 := hid hz1
            have hz2 := hid hz2
            go_wp2_with (at_builtin; refine wpList_append_lies _ rfl _ _ 39 rfl (w.heap.size + 2) 9 iS (.string ByteArray.empty) 1 16 Try.underlying39 hi0.out hz0.out hz1.out hz2.out rfl (by decide) _ _ _ rfl ((HROW.out.alloc _).alloc _) ⟨_, 0, none⟩ 1 1 [.string ⟨(W : List UInt8).toArray⟩] rfl rfl ?c1x8 ?c2x8 ?cmx8 ?c3x8 ?c4x8 ?c5x8 _ rfl ?_)
            case c1x8 => exact cells_new _ [_] _ _ (by simp)
            case c2x8 =>
              intro y hy
              simp at hy
              subst hy; rfl
            case cmx8 => decide
            case c3x8 => have := HLEN.out; unfold maxLen; omega
            case c4x8 => have := HLEN.out; omega
            case c5x8 => simp; omega
            intro g cap w3 hown3 hgrow hat hlt3
            have HNX := hid (play_push (no := no) (wB := wB) (wc := wc) (cB := cB) (cc := cc) HTW.out HROW.out HLEN.out HASK.out HBEL.out HLINE.out HRES.out HOI.out EV.out (below_alloc (below_alloc (Below.refl _ _) _) _) hgrow hown3)
            clear hown3 hgrow hat
            go_wp2
            go_roundw
            case rel => exact ⟨i + 1, t + 1, out ++ [W], by omega, by go_num, by go_num, HNX.out⟩
            case measure => simp [intOf]; omega
          · skip
            have EV : Hid (oneV ws cs ⟨6, n, V⟩ t = .error (1, (cs.getD t 0 : Nat))) := hid (by simp [oneV, htw, hV])
            have HE := hid (play_err (no := no) HASK.out HOI.out EV.out)
            have hV1 : (ws[t] == V) = false := beq_eq_false_iff_ne.2 hV
            have hV2 : (ws[t] != V) = true := bne_iff_ne.2 hV
            clear hV
            generalize ws[t] = W at *
            generalize cs.getD t 0 = z at *
            have HTW := hid htw
            clear htw
            go_wp2_with fail
            refine (refnum_list W hwm.out _).mono ?_
            rintro e w2 ⟨rfl, rfl⟩
            go_wp2_with fail
            go_region
            all_goals
              go_wp2_with fail
              have q := Blk.alloc (three_cells HRES.out (.int .i64 1) (.int .i64 (no : Int)) (.int .i64 (z : Int))) (.cells #[.int .i64 6, .int .i64 n, .string ⟨V.toArray⟩] 58)
              have q0 := q.cell 0 rfl
              have q1 := q.cell 1 rfl
              have q2 := q.cell 2 rfl
              refine bodyPost_ret (v := .tuple #[u7, .int .i64 ((t + 1 : Nat) : Int), .agg #[.int .i64 1, .int .i64 (no : Int), .int .i64 (z : Int)]]) (by simp [results, Try.results20, go_sem, q0, q1, q2]) rfl ?_
              have pf := play_fin HROW.out HBEL.out (.int .i64 1) (.int .i64 (no : Int)) (.int .i64 (z : Int))
              exact play_is HE.out rfl HTW.out (pf.1.alloc _) (below_alloc pf.2 _).drew HLN.out
        · skip
          have htw : ¬ t < ws.length := by rw [HL.out]; exact htl
          have htd : decide (t < L) = false := decide_eq_false htl
          have EV : Hid (oneV ws cs ⟨6, n, V⟩ t = .error (1, 0)) := hid (by simp [oneV, htw])
          have HE := hid (play_err (no := no) HASK.out HOI.out EV.out)
          have HTW := hid htw
          clear htw
          go_wp2_with fail
          go_region
          all_goals
            go_wp2_with fail
            have q := Blk.alloc (three_cells HRES.out (.int .i64 1) (.int .i64 (no : Int)) (.int .i64 0)) (.cells #[.int .i64 6, .int .i64 n, .string ⟨V.toArray⟩] 58)
            have q0 := q.cell 0 rfl
            have q1 := q.cell 1 rfl
            have q2 := q.cell 2 rfl
            refine bodyPost_ret (v := .tuple #[u7, .int .i64 ((t : Nat) : Int), .agg #[.int .i64 1, .int .i64 (no : Int), .int .i64 0]]) (by simp [results, Try.results20, go_sem, q0, q1, q2]) rfl ?_
            have pf := play_fin HROW.out HBEL.out (.int .i64 1) (.int .i64 (no : Int)) (.int .i64 0)
            exact play_is HE.out rfl HT.out (pf.1.alloc _) (below_alloc pf.2 _).drew HLN.out
      have e1 : (k == 1) = false := beq_eq_false_iff_ne.2 k1
      have e2 : (k == 2) = false := beq_eq_false_iff_ne.2 k2
      have e3 : (k == 3) = false := beq_eq_false_iff_ne.2 k3
      have e4 : (k == 4) = false := beq_eq_false_iff_ne.2 k4
      have e5 : (k == 5) = false := beq_eq_false_iff_ne.2 k5
      have e6 : (k == 6) = false := beq_eq_false_iff_ne.2 k6
      have EV : Hid (oneV ws cs ⟨k, n, V⟩ t = .ok ([], t)) := hid (by simp [oneV, k1, k2, k3, k4, k5, k6])
      clear k1 k2 k3 k4 k5 k6
      by_cases htl : t < L
      · have htd : decide (t < L) = true := decide_eq_true htl
        go_wp2_with fail
        go_roundw
        case rel => exact ⟨i + 1, t, out, by omega, rfl, by go_num, play_keep HT.out HROW.out HLEN.out HASK.out HBEL.out HLINE.out HRES.out HOI.out EV.out (below_alloc (Below.refl _ _) _)⟩
        case measure => simp [intOf]; omega
      · have htd : decide (t < L) = false := decide_eq_false htl
        go_wp2_with fail
        go_roundw
        case rel => exact ⟨i + 1, t, out, by omega, rfl, by go_num, play_keep HT.out HROW.out HLEN.out HASK.out HBEL.out HLINE.out HRES.out HOI.out EV.out (below_alloc (Below.refl _ _) _)⟩
        case measure => simp [intOf]; omega
    · have HE := hid (play_end (no := no) HASK.out (by have := HN.out; omega))
      have hln : out.length ≤ os.length := by have := HN.out; have := HLEN.out; omega
      have HLN := hid hln
      clear hln
      by_cases htl : t < L
      · have htd : decide (t < L) = true := decide_eq_true htl
        have hcx := (HBEL.out.cell (p := ⟨cB, t, none⟩) hCB).trans (HCC.out t (by have := HCL.out; have := HL.out; omega))
        have HE := hid (HE.out.trans (by rw [if_pos (by have := HL.out; omega)]))
        generalize cs.getD t 0 = z at *
        go_wp2_with fail
        go_region
        all_goals
          go_wp2_with fail
          have q := three_cells HRES.out (.int .i64 1) (.int .i64 (no : Int)) (.int .i64 (z : Int))
          have q0 := q.cell 0 rfl
          have q1 := q.cell 1 rfl
          have q2 := q.cell 2 rfl
          refine bodyPost_ret (v := .tuple #[u7, .int .i64 ((t : Nat) : Int), .agg #[.int .i64 1, .int .i64 (no : Int), .int .i64 (z : Int)]]) (by simp [results, Try.results20, go_sem, q0, q1, q2]) rfl ?_
          have pf := play_fin HROW.out HBEL.out (.int .i64 1) (.int .i64 (no : Int)) (.int .i64 (z : Int))
          exact play_is HE.out rfl HT.out pf.1 pf.2.drew HLN.out
      · have htd : decide (t < L) = false := decide_eq_false htl
        have HE := hid (HE.out.trans (by rw [if_neg (by have := HL.out; omega)]))
        go_wp2_with fail
        have q := three_cells HRES.out (.int .i64 0) (.int .i64 0) (.int .i64 0)
        have q0 := q.cell 0 rfl
        have q1 := q.cell 1 rfl
        have q2 := q.cell 2 rfl
        refine bodyPost_ret (v := .tuple #[u7, .int .i64 ((t : Nat) : Int), .agg #[.int .i64 0, .int .i64 0, .int .i64 0]]) (by simp [results, Try.results20, go_sem, q0, q1, q2]) rfl ?_
        have pf := play_fin HROW.out HBEL.out (.int .i64 0) (.int .i64 0) (.int .i64 0)
        exact play_is HE.out rfl HT.out pf.1 pf.2 HLN.out

end Go.Proofs.Ytejigbhcpejijaa.Ln
