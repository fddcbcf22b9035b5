/-
  LAYER 9, the document's own: Parse.
-/
import Derived.Test.YtafnohojnjpfcaaGreatDoorDocM
import Derived.Test.YtafnohojnjpfcaaGreatDoorIF
namespace Go.Proofs.YtafnohojnjpfcaaGreatDoor.Ix
open Go.RowKit
open Go.Proofs.YtafnohojnjpfcaaGreatDoor Go.Proofs.YtafnohojnjpfcaaGreatDoor.Ln

theorem lineO_true {ws : Words} {cs : List Nat} {out : List NeedS} {t : Nat} (h : lineO true ws cs out = .ok t) (hl : out.length ≤ 8) :
    ∃ n t', needO 4 ws cs (fullO out.length 8 cs (if ws.getD 0 [] = rootW then .ok 1 else .error (1, cs.getD 0 0))) = .ok (n, t') ∧ manLine true ws cs out = .ok (out ++ [n]) ∧ out.length < 8 := by
  unfold lineO at h
  rw [if_pos rfl] at h
  by_cases hr : ws.getD 0 [] = rootW
  · rw [if_pos hr] at h ⊢
    by_cases h8 : out.length = 8
    · rw [show fullO out.length 8 cs (.ok 1) = .error (2, lastC cs 1) from if_pos (by omega)] at h
      cases h
    · rw [show fullO out.length 8 cs (.ok 1) = .ok 1 from if_neg (by omega)] at h ⊢
      change endO ws cs (sndO (needP 4 ws cs 1)) = _ at h
      show ∃ n t', needP 4 ws cs 1 = .ok (n, t') ∧ _
      cases hn : needP 4 ws cs 1 with
      | error e' => rw [hn] at h; cases h
      | ok p =>
        rw [hn] at h
        obtain ⟨n, t''⟩ := p
        change (if t'' < ws.length then (Except.error (1, cs.getD t'' 0) : Except Err Nat) else .ok t'') = _ at h
        by_cases ht : t'' < ws.length
        · rw [if_pos ht] at h; cases h
        · refine ⟨n, t'', rfl, ?_, by omega⟩
          unfold manLine endW
          rw [if_pos rfl, if_neg (fun h => h hr), if_neg h8, hn]
          show (if t'' < ws.length then _ else _) = _
          rw [if_neg ht]
  · rw [if_neg hr] at h
    cases h
theorem lineO_false {ws : Words} {cs : List Nat} {out : List NeedS} {t : Nat} (h : lineO false ws cs out = .ok t) : manLine false ws cs out = .ok out := by
  unfold lineO at h
  rw [if_neg (by simp)] at h
  unfold manLine endW
  rw [if_neg (by simp)]
  by_cases hr : ws.getD 0 [] = manW
  · rw [if_pos hr] at h
    rw [if_neg (fun h => h hr)]
    change (if 1 < ws.length then (Except.error (1, cs.getD 1 0) : Except Err Nat) else .ok 1) = _ at h
    by_cases ht : 1 < ws.length
    · rw [if_pos ht] at h; cases h
    · rw [if_neg ht]
  · rw [if_neg hr] at h; cases h

def DocIs (o : Except (Nat × Nat × Nat) (List NeedS)) (w : World) (e : Ending) (w' : World) : Prop := Below w.heap.size w w' ∧ match o with
  | .ok ns => ∃ v, e = .returned (.tuple #[v, .agg #[.int .i64 0, .int .i64 0, .int .i64 0]]) ∧ DNeedsV w' v ns
  | .error (c, no, col) => e = .returned (.tuple #[.slice none 0 0, .agg #[.int .i64 (c : Int), .int .i64 (no : Int), .int .i64 (col : Int)]])

theorem three_b {w1 : World} {R : Nat} {x y z : Value} {T : TypeId} (X : Blk w1 R [x, y, z] T) (c n k : Value) : Blk (((w1.setCell ⟨R, 0, none⟩ c).setCell ⟨R, 1, none⟩ n).setCell ⟨R, 2, none⟩ k) R [c, n, k] T := three_cells X c n k
theorem below_three {w w1 : World} {R : Nat} (h : Below w.heap.size w w1) (hR : w.heap.size ≤ R) (c n k : Value) : Below w.heap.size w (((w1.setCell ⟨R, 0, none⟩ c).setCell ⟨R, 1, none⟩ n).setCell ⟨R, 2, none⟩ k) :=
  ((h.setCell (p := ⟨R, 0, none⟩) hR c).setCell (p := ⟨R, 1, none⟩) hR n).setCell (p := ⟨R, 2, none⟩) hR k
theorem kept_three {w1 : World} {R : Nat} {F : Nat → Prop} (hF : ¬ F R) (c n k : Value) : Kept F w1 (((w1.setCell ⟨R, 0, none⟩ c).setCell ⟨R, 1, none⟩ n).setCell ⟨R, 2, none⟩ k) :=
  (((Kept.refl _ _).setCell (p := ⟨R, 0, none⟩) hF _).setCell (p := ⟨R, 1, none⟩) hF _).setCell (p := ⟨R, 2, none⟩) hF _

set_option maxRecDepth 100000 in
set_option maxHeartbeats 4000000 in
theorem docParse_any (l : List UInt8) (hs : l.length ≤ 140737488355328) (w : World) :
    Calls Tryz.prog 48 #[.string ⟨l.toArray⟩] w (DocIs (manP l) w) := by
  have HRD := fun w => hid (refRead_all l hs w)
  have HP := hid (show manP l = match readS l with
    | .error e => .error e
    | .ok xs => manL xs from rfl)
  have HOK := hid (fun xs (h : readS l = .ok xs) => readS_lines h)
  have HLN := hid (fun xs (h : readS l = .ok xs) => readS_len h)
  have HSM := hid (fun xs (h : readS l = .ok xs) => readS_fits h)
  have HCD := hid (fun c no col (h : readS l = .error (c, no, col)) => readS_codes h)
  generalize manP l = o at HP ⊢
  generalize readS l = rr at HRD HP HOK HLN HSM HCD
  unfold ReadIs at HRD
  have hb0 := below_alloc (Below.refl w.heap.size w) (.cells #[.int .i64 0, .int .i64 0, .int .i64 0] 34)
  have HR2 := hid (Blk.new w [.int .i64 0, .int .i64 0, .int .i64 0] 34)
  have HB0 := hid hb0
  clear hb0 hs
  go_enter Tryz.func48, Tryz.ntmps48
  go_wp2_with fail
  generalize w.alloc (.cells #[.int .i64 0, .int .i64 0, .int .i64 0] 34) = w0 at HB0 HR2 ⊢
  change Hid (Blk w0 w.heap.size [.int .i64 0, .int .i64 0, .int .i64 0] 34) at HR2
  refine (HRD w0).out.mono ?_
  rintro e w1 ⟨hb1, hcase⟩
  have Z1 := hid (below_trans HB0.out hb1)
  have X1 := hid (HR2.out.below hb1)
  cases rr with
  | error ec =>
    obtain ⟨c, no, col⟩ := ec
    obtain rfl := hcase
    have hc := HCD.out c no col rfl
    have HO := hid HP.out
    clear HP HCD HLN HSM HOK HRD
    have hcn : ((c : Int) != 0) = true := by rcases hc with rfl | rfl <;> rfl
    have hF := Blk.new w1 [.int .i64 (c : Int), .int .i64 (no : Int), .int .i64 (col : Int)] 34
    have f0 := hF.cell 0 rfl
    have f1 := hF.cell 1 rfl
    have f2 := hF.cell 2 rfl
    have x0 := X1.out.cell 0 rfl
    have x1 := X1.out.cell 1 rfl
    have x2 := X1.out.cell 2 rfl
    have xf := X1.out.free
    have xl := X1.out.lt
    go_wp2_with fail
    go_region
    all_goals
      go_wp2_with fail
      have p2 := (three_b X1.out (.int .i64 (c : Int)) (.int .i64 (no : Int)) (.int .i64 (col : Int))).alloc (.cells #[.int .i64 (c : Int), .int .i64 (no : Int), .int .i64 (col : Int)] 34)
      have q0 := p2.cell 0 rfl
      have q1 := p2.cell 1 rfl
      have q2 := p2.cell 2 rfl
      have hB := (below_alloc (below_three Z1.out (Nat.le_refl _) (.int .i64 (c : Int)) (.int .i64 (no : Int)) (.int .i64 (col : Int))) (.cells #[.int .i64 (c : Int), .int .i64 (no : Int), .int .i64 (col : Int)] 34)).drew
      refine bodyPost_ret (v := .tuple #[.slice none 0 0, .agg #[.int .i64 (c : Int), .int .i64 (no : Int), .int .i64 (col : Int)]]) (by simp [results, Tryz.results48, go_sem, q0, q1, q2]) rfl ?_
      rw [HO.out]
      exact ⟨hB, rfl⟩
  | ok xs =>
    obtain ⟨v, rfl, cells, hown, hrow⟩ := hcase
    have hX := hid (HOK.out xs rfl)
    have hN := hid (HLN.out xs rfl)
    have hl2 := hid (HSM.out xs rfl)
    have HO := hid (show o = manL xs from HP.out)
    clear HP HCD HLN HSM HOK HRD
    have Z2 := hid (below_alloc Z1.out (.cells #[.int .i64 0, .int .i64 0, .int .i64 0] 34))
    have A2 := hid (below_alloc (Below.refl w1.heap.size w1) (.cells #[.int .i64 0, .int .i64 0, .int .i64 0] 34))
    have X2 := hid (X1.out.below A2.out)
    have f0 := (Blk.new w1 [.int .i64 0, .int .i64 0, .int .i64 0] 34).cell 0 rfl
    obtain ⟨la, lc, hv⟩ := own_shape hown
    obtain ⟨n, hn⟩ : ∃ n, xs.length = n := ⟨_, rfl⟩
    rw [hn] at hv
    subst hv
    have HN := hid hn
    have hn64 : n ≤ 1099511627777 := by have := hN.out; have := hl2.out; omega
    have HOWN := hid hown
    have HROW := hid hrow
    clear hown hrow hn HR2 HB0 hb1 X1
    go_wp2_with fail
    generalize hw2 : w1.alloc (.cells #[.int .i64 0, .int .i64 0, .int .i64 0] 34) = w2 at Z2 A2 X2 f0 ⊢
    clear hw2 f0
    go_loopw [6, 7, 8, 9] (fun v i _ _ wr => ∃ (k : Nat) (out : List NeedS) (F : Nat → Prop) (a : Option Addr) (c : Nat) (cls : List Value), k ≤ n ∧ i = .int .i64 k ∧ v = .slice a out.length c ∧ Hid (Below w2.heap.size w2 wr) ∧ Hid (DGrow wr w2.heap.size F (.slice a out.length c) cls out) ∧ Hid (∀ b, F b → w2.heap.size ≤ b ∧ b < wr.heap.size) ∧ Hid (manGo xs false [] = manGo (xs.drop k) (decide (0 < k)) out) ∧ Hid (out.length ≤ 8)) (fun _ i _ _ _ => n - (intOf i).toNat)
    case atStart => exact ⟨0, [], fun _ => False, none, 0, [], by omega, rfl, rfl, hid (Below.refl _ _), hid ⟨World.ownsRow_nil _ _ _ _, ⟨rfl, fun i n h => by simp at h⟩, fun _ _ h => h⟩, hid (fun b h => h.elim), hid (by rw [List.drop_zero]; rfl), hid (Nat.zero_le _)⟩
    case round =>
      obtain ⟨k, out, F, a, c, cls, hk, rfl, rfl, hb, hg, hF, he, h8⟩ := hrel
      by_cases hlt : k < n
      · have hkx : k < xs.length := by have := HN.out; omega
        have hxk : xs[k]? = some xs[k] := List.getElem?_eq_getElem hkx
        obtain ⟨wv, cv, a0, a1, a2, a3⟩ := HROW.out k _ hxk
        have hwx := hX.out _ (List.getElem_mem hkx)
        have hne : xs ≠ [] := fun e => by rw [e] at hkx; simp at hkx
        have HOG := hid (show o = manGo xs false [] from by rw [HO.out]; unfold manL; rw [if_neg hne])
        generalize xs[k] = X at *
        obtain ⟨no, ws, cs⟩ := X
        dsimp only at a0 a1 a2 a3
        obtain ⟨hx1, hx2, hx3, hx4, hx5⟩ := hwx
        dsimp only at hx1 hx2 hx3 hx4 hx5
        replace hx2 : ws ≠ [] := hx2
        replace hx3 : ws.length ≤ 20 := hx3
        replace hx4 : cs.length = ws.length := hx4
        have hws : ∀ u, u ∈ ws → u.length ≤ 1000 := fun u hu => by have := hx5 u hu; omega
        have h0 : 0 < ws.length := List.length_pos_iff.2 hx2
        obtain ⟨gw, cw, rfl, hw1, hw2, hwc⟩ := rows_words a3.1 hx2
        obtain ⟨gc, cc, rfl, hc1, hc2, hcc⟩ := rows_cols a3.2 (by intro h; rw [h] at hx4; simp at hx4; omega)
        obtain ⟨lg, lcp, hv, hl1, hl2', _, _, q5⟩ := Go.Proofs.YtafnohojnjpfcaaGreatDoor.Sp.ownsRow_any HOWN.out (by have := HN.out; omega)
        injection hv with e1 e2 e3
        subst e1
        have BX := hid (below_trans A2.out hb.out)
        have c0 := bcell BX.out (q5 (k * 3) _ (by rw [Nat.mul_comm]; exact a0))
        have c1 := bcell BX.out (q5 (k * 3 + 1) _ (by rw [Nat.mul_comm k 3]; exact a1))
        have c2 := bcell BX.out (q5 (k * 3 + 2) _ (by rw [Nat.mul_comm k 3]; exact a2))
        have HXK := hid hxk
        have HGW := hid (show gw < w2.heap.size from Nat.lt_of_lt_of_le hw2 A2.out.size)
        have HGC := hid (show gc < w2.heap.size from Nat.lt_of_lt_of_le hc2 A2.out.size)
        have lbl := World.block_lt_of_cell? wr _ c0
        obtain ⟨r, hr⟩ : ∃ r : Rd, r = ⟨wr.heap.size, no, gw, ws.length, cw, gc, cc, 0⟩ := ⟨_, rfl⟩
        have A3 := hid (below_alloc (Below.refl wr.heap.size wr) (.cells #[.int .i64 (no : Int), .slice (some ⟨gw, 0, none⟩) ws.length cw, .slice (some ⟨gc, 0, none⟩) cs.length cc, .int .i64 0, .int .i64 0, .int .i64 0, .int .i64 0] 94))
        have S4 := hid (show ScS (wr.alloc (.cells #[.int .i64 (no : Int), .slice (some ⟨gw, 0, none⟩) ws.length cw, .slice (some ⟨gc, 0, none⟩) cs.length cc, .int .i64 0, .int .i64 0, .int .i64 0, .int .i64 0] 94)) ⟨wr.heap.size, no, gw, ws.length, cw, gc, cc, 0⟩ (.ok 0) from by
          have := Blk.new wr [.int .i64 (no : Int), .slice (some ⟨gw, 0, none⟩) ws.length cw, .slice (some ⟨gc, 0, none⟩) cs.length cc, .int .i64 0, .int .i64 0, .int .i64 0, .int .i64 0] 94
          rw [hx4] at this ⊢
          exact this)
        have hzb := hid hb.out.size
        have L4 := hid (show RdL (wr.alloc (.cells #[.int .i64 (no : Int), .slice (some ⟨gw, 0, none⟩) ws.length cw, .slice (some ⟨gc, 0, none⟩) cs.length cc, .int .i64 0, .int .i64 0, .int .i64 0, .int .i64 0] 94)) ⟨wr.heap.size, no, gw, ws.length, cw, gc, cc, 0⟩ ws cs from by
          have hB := BX.out.trans (A3.out.mono BX.out.size)
          have h1 := HGW.out
          have h2 := HGC.out
          have h3 := hzb.out
          have h4 := A3.out.size
          refine ⟨rfl, hx4, by omega, ?_, ?_, ?_, ?_, fun j hj => bcell hB (hwc j hj), fun j hj => bcell hB (hcc j hj)⟩
          · show gw ≠ wr.heap.size; omega
          · show gc ≠ wr.heap.size; omega
          · show gw < _; omega
          · show gc < _; omega)
        rw [← hr] at S4 L4
        have hW0 := hid (show ws.getD 0 [] = ws[0] by simp [List.getD, List.getElem?_eq_getElem h0])
        have hWO := hid (show wordO ws (.ok 0) = .ok (ws[0], 1) by unfold wordO; dsimp only; rw [List.getElem?_eq_getElem h0])
        have hrp : r.p = wr.heap.size := by rw [hr]
        have hrw := hid (show r.wB = gw ∧ r.cB = gc by rw [hr]; exact ⟨rfl, rfl⟩)
        clear a0 a1 a2 a3 hxk hx1 hx2 hx4 hx5 hwc hcc q5 hl1 hl2' e2 e3 hkx hne
        generalize ws[0] = W0 at hW0 hWO
        have HWC := hid (show Calls Tryz.prog 38 #[.pointer (some ⟨wr.heap.size, 0, none⟩)] (wr.alloc (.cells #[.int .i64 (no : Int), .slice (some ⟨gw, 0, none⟩) ws.length cw, .slice (some ⟨gc, 0, none⟩) cs.length cc, .int .i64 0, .int .i64 0, .int .i64 0, .int .i64 0] 94)) (fun e w' => e = .returned (.string ⟨W0.toArray⟩) ∧ Only (· = wr.heap.size) (wr.alloc (.cells #[.int .i64 (no : Int), .slice (some ⟨gw, 0, none⟩) ws.length cw, .slice (some ⟨gc, 0, none⟩) cs.length cc, .int .i64 0, .int .i64 0, .int .i64 0, .int .i64 0] 94)) w' ∧ ScS w' r (.ok 1)) from by
          have h9 := wordS_any S4.out L4.out (fun t ht => by cases ht; exact Nat.zero_le _)
          rw [hWO.out, hrp] at h9
          exact h9.mono (fun e w' ⟨x, h1, h2, h3, h4⟩ => ⟨by rw [h1, h4 W0 1 rfl], by rw [hrp] at h2; exact h2, h3⟩))
        replace hrp := hid hrp
        by_cases hk0' : k = 0
        · have hk0 := hid (show decide (0 < k) = false from decide_eq_false (by omega))
          have hki : (k : Int) ≤ 0 := by omega
          have hki2 : (0 : Int) ≤ (k : Int) := by omega
          have hki3 : ¬ (0 : Int) < (k : Int) := by omega
          replace hk0' := hid hk0'
          by_cases hWm : W0 = manW
          · have hO1 := hid (show (if W0 = manW then (.ok 1 : Except Err Nat) else .error (1, cs.getD 0 0)) = .ok 1 from if_pos hWm)
            have HWL := hid (show Calls Tryz.prog 38 #[.pointer (some ⟨wr.heap.size, 0, none⟩)] (wr.alloc (.cells #[.int .i64 (no : Int), .slice (some ⟨gw, 0, none⟩) ws.length cw, .slice (some ⟨gc, 0, none⟩) cs.length cc, .int .i64 0, .int .i64 0, .int .i64 0, .int .i64 0] 94)) (fun e w' => e = .returned (.string ⟨#[109, 97, 110, 105, 102, 101, 115, 116]⟩) ∧ Only (· = wr.heap.size) (wr.alloc (.cells #[.int .i64 (no : Int), .slice (some ⟨gw, 0, none⟩) ws.length cw, .slice (some ⟨gc, 0, none⟩) cs.length cc, .int .i64 0, .int .i64 0, .int .i64 0, .int .i64 0] 94)) w' ∧ ScS w' r (.ok 1)) from by have h9 := HWC.out; rw [hWm] at h9; exact h9)
            replace hWm := hid hWm
            go_wp2_with fail
            refine HWL.out.mono ?_
            rintro e w5 ⟨rfl, ho5, hs5⟩
            have S5 := hid hs5
            have L5 := hid (L4.out.self (r := r) (by rw [hrp.out]; exact ho5))
            have B5 := hid (A3.out.trans (ho5.below A3.out.size (fun b hb e => by omega)))
            clear ho5 hs5 HWC S4 L4 hWO c0 c1 c2 lbl A3
            have hLO := hid (show lineO false ws cs out = endO ws cs (.ok 1) from by unfold lineO; rw [if_neg (by simp), hW0.out, hO1.out])
            go_wp2_with fail
            refine (show Calls Tryz.prog 40 #[.pointer (some ⟨wr.heap.size, 0, none⟩)] w5 (Voids r (endO ws cs (.ok 1)) w5) from hrp.out ▸ endS_any (r := r) S5.out L5.out).mono ?_
            rintro e w7 ⟨rfl, hoE, hsE⟩
            have B7 := hid (B5.out.trans (hoE.below B5.out.size (fun b hb e => by have := hrp.out; omega)))
            have BW7 := hid (below_trans hb.out B7.out)
            rw [← hLO.out] at hsE
            have SE := hid hsE
            clear hoE hsE
            cases hlo : lineO false ws cs out with
            | error e0 =>
              have HOE := hid (show o = .error (e0.1, no, e0.2) from by rw [HOG.out, he.out, manGo_step HXK.out, hk0.out, lineO_bad hlo h8.out])
              rw [hlo] at SE
              clear hlo
              go_wp2_with fail
              refine (show Calls Tryz.prog 63 #[.pointer (some ⟨wr.heap.size, 0, none⟩)] w7 (fun e' w' => e' = .returned (.bool false) ∧ w7 = w') from hrp.out ▸ good_any (r := r) (o := .error e0) SE.out).mono ?_
              rintro e wx ⟨rfl, rfl⟩
              obtain ⟨hnz, tt, hbl⟩ := SE.out
              have hBk : Blk w7 r.p _ _ := hbl
              rw [hrp.out] at hBk
              have s4 := hBk.cell 4 rfl
              have s5 := hBk.cell 5 rfl
              have s6 := hBk.cell 6 rfl
              have sl := hBk.lt
              have x2' := X2.out.below BW7.out
              have x0 := x2'.cell 0 rfl
              have x1 := x2'.cell 1 rfl
              have x3 := x2'.cell 2 rfl
              have xf := x2'.free
              have xl := x2'.lt
              have hZ := Z2.out.trans (BW7.out.mono Z2.out.size)
              have HZ := hid hZ
              have HX2 := hid x2'
              clear hbl hBk hZ x2'
              simp only at s4 s5 s6
              go_wp2_with fail
              go_region
              all_goals
                go_wp2_with fail
                have p2 := three_b HX2.out (.int .i64 (e0.1 : Int)) (.int .i64 (no : Int)) (.int .i64 (e0.2 : Int))
                have q0 := p2.cell 0 rfl
                have q1 := p2.cell 1 rfl
                have q2 := p2.cell 2 rfl
                have hB := (below_three HZ.out (Nat.le_refl _) (.int .i64 (e0.1 : Int)) (.int .i64 (no : Int)) (.int .i64 (e0.2 : Int))).drew
                refine bodyPost_ret (v := .tuple #[.slice none 0 0, .agg #[.int .i64 (e0.1 : Int), .int .i64 (no : Int), .int .i64 (e0.2 : Int)]]) (by simp [results, Tryz.results48, go_sem, q0, q1, q2]) rfl ?_
                rw [HOE.out]
                exact ⟨hB, rfl⟩
            | ok t =>
              have HNX := hid (show manGo xs false [] = manGo (xs.drop (k + 1)) (decide (0 < k + 1)) out from by rw [he.out, manGo_step HXK.out, hk0.out, lineO_false hlo]; simp)
              rw [hlo] at SE
              clear hlo
              go_wp2_with fail
              refine (show Calls Tryz.prog 63 #[.pointer (some ⟨wr.heap.size, 0, none⟩)] w7 (fun e' w' => e' = .returned (.bool true) ∧ w7 = w') from hrp.out ▸ good_any (r := r) (o := .ok t) SE.out).mono ?_
              rintro e wx ⟨rfl, rfl⟩
              go_wp2_with fail
              go_roundw
              case rel => exact ⟨k + 1, out, F, a, c, cls, by omega, by go_num, rfl, BW7, hid (hg.out.below B7.out), hid (fun b hb => ⟨(hF.out b hb).1, Nat.lt_of_lt_of_le (hF.out b hb).2 B7.out.size⟩), HNX, h8⟩
              case measure => simp [intOf]; omega
          · have hO1 := hid (show (if W0 = manW then (.ok 1 : Except Err Nat) else .error (1, cs.getD 0 0)) = .error (1, cs.getD 0 0) from if_neg hWm)
            have hW1 : (W0 == [109, 97, 110, 105, 102, 101, 115, 116]) = false := beq_eq_false_iff_ne.2 hWm
            have hW2 : (W0 != [109, 97, 110, 105, 102, 101, 115, 116]) = true := bne_iff_ne.2 hWm
            replace hWm := hid hWm
            go_wp2_with fail
            refine HWC.out.mono ?_
            rintro e w5 ⟨rfl, ho5, hs5⟩
            have S5 := hid hs5
            have L5 := hid (L4.out.self (r := r) (by rw [hrp.out]; exact ho5))
            have B5 := hid (A3.out.trans (ho5.below A3.out.size (fun b hb e => by omega)))
            clear ho5 hs5 HWC S4 L4 hWO c0 c1 c2 lbl A3
            go_wp2_with fail
            refine (show Calls Tryz.prog 59 #[.pointer (some ⟨wr.heap.size, 0, none⟩), .int .i64 1] w5 (Voids r (.error (1, cs.getD 0 0)) w5) from hrp.out ▸ failS_any (r := r) (o := .ok 1) S5.out L5.out (fun t ht => by cases ht; exact h0) 1 (by decide)).mono ?_
            rintro e w6 ⟨rfl, ho6, hs6⟩
            have S6 := hid hs6
            have L6 := hid (L5.out.self ho6)
            have B6 := hid (B5.out.trans (ho6.below B5.out.size (fun b hb e => by have := hrp.out; omega)))
            clear ho6 hs6 S5 L5 B5
            have hLO := hid (show lineO false ws cs out = endO ws cs (.error (1, cs.getD 0 0)) from by unfold lineO; rw [if_neg (by simp), hW0.out, hO1.out])
            go_wp2_with fail
            refine (show Calls Tryz.prog 40 #[.pointer (some ⟨wr.heap.size, 0, none⟩)] w6 (Voids r (endO ws cs (.error (1, cs.getD 0 0))) w6) from hrp.out ▸ endS_any (r := r) S6.out L6.out).mono ?_
            rintro e w7 ⟨rfl, hoE, hsE⟩
            have B7 := hid (B6.out.trans (hoE.below B6.out.size (fun b hb e => by have := hrp.out; omega)))
            have BW7 := hid (below_trans hb.out B7.out)
            rw [← hLO.out] at hsE
            have SE := hid hsE
            clear hoE hsE
            cases hlo : lineO false ws cs out with
            | error e0 =>
              have HOE := hid (show o = .error (e0.1, no, e0.2) from by rw [HOG.out, he.out, manGo_step HXK.out, hk0.out, lineO_bad hlo h8.out])
              rw [hlo] at SE
              clear hlo
              go_wp2_with fail
              refine (show Calls Tryz.prog 63 #[.pointer (some ⟨wr.heap.size, 0, none⟩)] w7 (fun e' w' => e' = .returned (.bool false) ∧ w7 = w') from hrp.out ▸ good_any (r := r) (o := .error e0) SE.out).mono ?_
              rintro e wx ⟨rfl, rfl⟩
              obtain ⟨hnz, tt, hbl⟩ := SE.out
              have hBk : Blk w7 r.p _ _ := hbl
              rw [hrp.out] at hBk
              have s4 := hBk.cell 4 rfl
              have s5 := hBk.cell 5 rfl
              have s6 := hBk.cell 6 rfl
              have sl := hBk.lt
              have x2' := X2.out.below BW7.out
              have x0 := x2'.cell 0 rfl
              have x1 := x2'.cell 1 rfl
              have x3 := x2'.cell 2 rfl
              have xf := x2'.free
              have xl := x2'.lt
              have hZ := Z2.out.trans (BW7.out.mono Z2.out.size)
              have HZ := hid hZ
              have HX2 := hid x2'
              clear hbl hBk hZ x2'
              simp only at s4 s5 s6
              go_wp2_with fail
              go_region
              all_goals
                go_wp2_with fail
                have p2 := three_b HX2.out (.int .i64 (e0.1 : Int)) (.int .i64 (no : Int)) (.int .i64 (e0.2 : Int))
                have q0 := p2.cell 0 rfl
                have q1 := p2.cell 1 rfl
                have q2 := p2.cell 2 rfl
                have hB := (below_three HZ.out (Nat.le_refl _) (.int .i64 (e0.1 : Int)) (.int .i64 (no : Int)) (.int .i64 (e0.2 : Int))).drew
                refine bodyPost_ret (v := .tuple #[.slice none 0 0, .agg #[.int .i64 (e0.1 : Int), .int .i64 (no : Int), .int .i64 (e0.2 : Int)]]) (by simp [results, Tryz.results48, go_sem, q0, q1, q2]) rfl ?_
                rw [HOE.out]
                exact ⟨hB, rfl⟩
            | ok t =>
              have HNX := hid (show manGo xs false [] = manGo (xs.drop (k + 1)) (decide (0 < k + 1)) out from by rw [he.out, manGo_step HXK.out, hk0.out, lineO_false hlo]; simp)
              rw [hlo] at SE
              clear hlo
              go_wp2_with fail
              refine (show Calls Tryz.prog 63 #[.pointer (some ⟨wr.heap.size, 0, none⟩)] w7 (fun e' w' => e' = .returned (.bool true) ∧ w7 = w') from hrp.out ▸ good_any (r := r) (o := .ok t) SE.out).mono ?_
              rintro e wx ⟨rfl, rfl⟩
              go_wp2_with fail
              go_roundw
              case rel => exact ⟨k + 1, out, F, a, c, cls, by omega, by go_num, rfl, BW7, hid (hg.out.below B7.out), hid (fun b hb => ⟨(hF.out b hb).1, Nat.lt_of_lt_of_le (hF.out b hb).2 B7.out.size⟩), HNX, h8⟩
              case measure => simp [intOf]; omega
        · have hk0 := hid (show decide (0 < k) = true from decide_eq_true (by omega))
          have hki : (0 : Int) < (k : Int) := by omega
          have hki3 : ¬ (k : Int) = 0 := by omega
          replace hk0' := hid hk0'
          by_cases hWm : W0 = rootW
          · have hO1 := hid (show (if W0 = rootW then (.ok 1 : Except Err Nat) else .error (1, cs.getD 0 0)) = .ok 1 from if_pos hWm)
            have HWL := hid (show Calls Tryz.prog 38 #[.pointer (some ⟨wr.heap.size, 0, none⟩)] (wr.alloc (.cells #[.int .i64 (no : Int), .slice (some ⟨gw, 0, none⟩) ws.length cw, .slice (some ⟨gc, 0, none⟩) cs.length cc, .int .i64 0, .int .i64 0, .int .i64 0, .int .i64 0] 94)) (fun e w' => e = .returned (.string ⟨#[114, 111, 111, 116]⟩) ∧ Only (· = wr.heap.size) (wr.alloc (.cells #[.int .i64 (no : Int), .slice (some ⟨gw, 0, none⟩) ws.length cw, .slice (some ⟨gc, 0, none⟩) cs.length cc, .int .i64 0, .int .i64 0, .int .i64 0, .int .i64 0] 94)) w' ∧ ScS w' r (.ok 1)) from by have h9 := HWC.out; rw [hWm] at h9; exact h9)
            replace hWm := hid hWm
            go_wp2_with fail
            refine HWL.out.mono ?_
            rintro e w5 ⟨rfl, ho5, hs5⟩
            have S5 := hid hs5
            have L5 := hid (L4.out.self (r := r) (by rw [hrp.out]; exact ho5))
            have B5 := hid (A3.out.trans (ho5.below A3.out.size (fun b hb e => by omega)))
            clear ho5 hs5 HWC S4 L4 hWO c0 c1 c2 lbl A3
            have hLO := hid (show lineO true ws cs out = endO ws cs (sndO (needO 4 ws cs (fullO out.length 8 cs (.ok 1)))) from by unfold lineO; rw [if_pos rfl, hW0.out, hO1.out])
            have hNO := hid (show needO 4 ws cs (fullO out.length 8 cs (if ws.getD 0 [] = rootW then .ok 1 else .error (1, cs.getD 0 0))) = needO 4 ws cs (fullO out.length 8 cs (.ok 1)) from by rw [hW0.out, hO1.out])
            go_wp2_with fail
            refine (show Calls Tryz.prog 112 #[.pointer (some ⟨wr.heap.size, 0, none⟩), .int .i64 (out.length : Int), .int .i64 8] w5 (Voids r (fullO out.length 8 cs (.ok 1)) w5) from hrp.out ▸ fullS_any (r := r) S5.out L5.out (fun t ht => by first | (cases ht; exact h0) | cases ht) out.length 8).mono ?_
            rintro e w7 ⟨rfl, ho7, hs7⟩
            have S7 := hid hs7
            have L7 := hid (L5.out.self ho7)
            have B7 := hid (B5.out.trans (ho7.below B5.out.size (fun b hb e => by have := hrp.out; omega)))
            have H7 := hid (fun t (ht : fullO out.length 8 cs (.ok 1) = .ok t) => show t ≤ ws.length from by
              first
                | (cases ht)
                | (change (if 8 ≤ out.length then (Except.error (2, lastC cs 1) : Except Err Nat) else .ok 1) = .ok t at ht
                   split at ht <;> cases ht
                   exact h0))
            clear ho7 hs7 S5 L5 B5
            generalize fullO out.length 8 cs (.ok 1) = o2 at S7 hLO hNO H7
            go_wp2_with fail
            refine (show Calls Tryz.prog 39 #[.pointer (some ⟨wr.heap.size, 0, none⟩), .int .i64 4] w7 (NeedD r (needO 4 ws cs o2) w7) from hrp.out ▸ needS_any (r := r) S7.out L7.out H7.out hws (by omega) 4).mono ?_
            rintro e w8 ⟨xa, xb, fa, fn, fc, rfl, ho8, hs8, hn8⟩
            have hz7 := hid (show wr.heap.size < w7.heap.size from hrp.out ▸ S7.out.lt)
            have S8 := hid hs8
            have L8 := hid (L7.out.self ho8)
            have B8 := hid (B7.out.trans (ho8.below B7.out.size (fun b hb e => by have := hrp.out; omega)))
            have HN8 := hid hn8
            have hz8 := hid ho8.size
            clear ho8 hs8 hn8 S7 L7 H7
            generalize needO 4 ws cs o2 = q at S8 hLO hNO HN8
            have G8 := hid (hg.out.below B8.out)
            have A8 := hid (below_alloc (Below.refl w8.heap.size w8) (.cells #[.string ⟨xa.toArray⟩, .string ⟨xb.toArray⟩, .slice fa fn fc] 83))
            have O8 := hid (ownsRow_below G8.out.own A8.out)
            obtain ⟨iC, hi, hz0, hz1, hz2⟩ := info_parts infoRN
            have hi := hid hi
            have hz0 := hid hz0
            have hz1 := hid hz1
            have hz2 := hid hz2
            have hol : out.length ≤ 8 := h8.out
            generalize hml : out.length = ml at O8 hol ⊢
            replace hml := hid hml
            go_wp2_with (at_builtin; refine wpList_append_lies _ rfl _ _ 50 rfl w2.heap.size 83 iC (.agg #[.string ⟨#[]⟩, .string ⟨#[]⟩, .slice none 0 0]) 3 56 Tryz.underlying50 hi.out hz0.out hz1.out hz2.out rfl (by decide) _ _ _ rfl O8.out ⟨_, 0, none⟩ 1 1 [.string ⟨xa.toArray⟩, .string ⟨xb.toArray⟩, .slice fa fn fc] rfl rfl ?c1 ?c2 ?cm ?c3 ?c4 ?c5 _ rfl ?_)
            case c1 => exact cells_new _ [_, _, _] _ _ rfl
            case c2 => intro u hu; simp at hu; rcases hu with rfl | rfl | rfl <;> rfl
            case cm => decide
            case c3 => unfold maxLen; omega
            case c4 => omega
            case c5 => have h1 := hb.out.size; have h2 := B8.out.size; simp; omega
            intro g9 cap9 w9 hown9 hgrow9 hat9 hlt9
            have hrow9 : ∀ b, (Value.slice a ml c).ownBlock = some b → w2.heap.size ≤ b ∧ b < wr.heap.size := fun b hb9 => by
              have h1 := hg.out.own
              rw [hml.out] at h1
              exact h1.lt b hb9
            have S9 := hid ((S8.out.below A8.out).kept (fun _ _ hB => hB.grown hgrow9 (fun e => by have h1 := (hrow9 _ e.symm).2; have h2 : r.p = wr.heap.size := hrp.out; omega)))
            have L9 := hid ((L8.out.self (Only.of_below A8.out)).only (S := fun b => some b = (Value.slice a ml c).ownBlock) ((Only.refl _ _).grown hgrow9 (fun b hb9 _ => hb9.symm)) (fun e => by have h1 := (hrow9 _ e.symm).1; have h2 := HGW.out; have h3 := hrw.out.1; omega) (fun e => by have h1 := (hrow9 _ e.symm).1; have h2 := HGC.out; have h3 := hrw.out.2; omega))
            have B9 := hid ((below_trans (below_trans hb.out B8.out) A8.out).grown hgrow9 (by have h1 := hb.out.size; have h2 := B8.out.size; have h3 := A8.out.size; omega) (fun b hb9 => (hrow9 b hb9).1))
            have P9 := hid (fun (nn : NeedS) (tt : Nat) (hq : q = .ok (nn, tt)) => show DGrow w9 w2.heap.size (fun b => F b ∨ (w7.heap.size ≤ b ∧ b < w8.heap.size)) (.slice (some ⟨g9, 0, none⟩) (ml + 1) cap9) (cls ++ [.string ⟨xa.toArray⟩, .string ⟨xb.toArray⟩, .slice fa fn fc]) (out ++ [nn]) from by
              obtain ⟨e1, e2, e3⟩ := HN8.out nn tt hq
              have hg8 := G8.out
              rw [hml.out] at hg8
              exact DGrow.push (w0 := w7) (w1 := w8) hg8 hml.out ⟨by rw [e1], by rw [e2], e3⟩ (fun b hb' => by have h1 := (hF.out b hb').2; have h2 := hz7.out; omega) hz8.out (fun b hb' => by have h1 := (hrow9 b hb').2; have h2 := hz7.out; omega) hown9 hgrow9 hat9)
            have Q9 := hid (show g9 ≠ wr.heap.size ∧ w8.heap.size ≤ w9.heap.size from by
              have h3 := hgrow9.size
              have h4 := A8.out.size
              have h5 := hz7.out
              have h6 := hz8.out
              refine ⟨?_, by omega⟩
              rcases hat9 with h1 | h1
              · have := (hrow9 _ h1).2; omega
              · omega)
            clear hown9 hgrow9 hat9 hlt9 hrow9 O8 A8 S8 L8 G8 HN8
            go_wp2_with fail
            refine (show Calls Tryz.prog 40 #[.pointer (some ⟨wr.heap.size, 0, none⟩)] w9 (Voids r (endO ws cs (sndO q)) w9) from hrp.out ▸ endS_any (r := r) S9.out L9.out).mono ?_
            rintro e w10 ⟨rfl, hoE, hsE⟩
            have B10 := hid (B9.out.trans (hoE.below B9.out.size (fun b hb' e => by have h2 : r.p = wr.heap.size := hrp.out; have h3 := hb.out.size; omega)))
            have HOE9 := hid hoE
            rw [← hLO.out] at hsE
            have SE := hid hsE
            clear hoE hsE S9 L9
            cases hlo : lineO true ws cs out with
            | error e0 =>
              have HOE := hid (show o = .error (e0.1, no, e0.2) from by rw [HOG.out, he.out, manGo_step HXK.out, hk0.out, lineO_bad hlo h8.out])
              rw [hlo] at SE
              clear hlo
              go_wp2_with fail
              refine (show Calls Tryz.prog 63 #[.pointer (some ⟨wr.heap.size, 0, none⟩)] w10 (fun e' w' => e' = .returned (.bool false) ∧ w10 = w') from hrp.out ▸ good_any (r := r) (o := .error e0) SE.out).mono ?_
              rintro e wx ⟨rfl, rfl⟩
              obtain ⟨hnz, tt, hbl⟩ := SE.out
              have hBk : Blk w10 r.p _ _ := hbl
              rw [hrp.out] at hBk
              have s4 := hBk.cell 4 rfl
              have s5 := hBk.cell 5 rfl
              have s6 := hBk.cell 6 rfl
              have sl := hBk.lt
              have x2' := X2.out.below B10.out
              have x0 := x2'.cell 0 rfl
              have x1 := x2'.cell 1 rfl
              have x3 := x2'.cell 2 rfl
              have xf := x2'.free
              have xl := x2'.lt
              have hZ := Z2.out.trans (B10.out.mono Z2.out.size)
              have HZ := hid hZ
              have HX2 := hid x2'
              clear hbl hBk hZ x2'
              simp only at s4 s5 s6
              go_wp2_with fail
              go_region
              all_goals
                go_wp2_with fail
                have p2 := three_b HX2.out (.int .i64 (e0.1 : Int)) (.int .i64 (no : Int)) (.int .i64 (e0.2 : Int))
                have q0 := p2.cell 0 rfl
                have q1 := p2.cell 1 rfl
                have q2 := p2.cell 2 rfl
                have hB := (below_three HZ.out (Nat.le_refl _) (.int .i64 (e0.1 : Int)) (.int .i64 (no : Int)) (.int .i64 (e0.2 : Int))).drew
                refine bodyPost_ret (v := .tuple #[.slice none 0 0, .agg #[.int .i64 (e0.1 : Int), .int .i64 (no : Int), .int .i64 (e0.2 : Int)]]) (by simp [results, Tryz.results48, go_sem, q0, q1, q2]) rfl ?_
                rw [HOE.out]
                exact ⟨hB, rfl⟩
            | ok t =>
              obtain ⟨nn, tt, hq, hml9, h88⟩ := lineO_true hlo h8.out
              rw [hNO.out] at hq
              have P10 := hid ((P9.out nn tt hq).only HOE9.out (fun b hb' e => by have e' : b = r.p := e; have e3 : g9 = b := (by injection hb'); have h1 := Q9.out.1; have h2 : r.p = wr.heap.size := hrp.out; omega) (fun b _ hb' e => by
                have e' : b = r.p := e
                have h2 : r.p = wr.heap.size := hrp.out
                rcases hb' with hb' | hb'
                · have h1 := (hF.out b hb').2; omega
                · have h1 := hz7.out; omega))
              have HNX := hid (show manGo xs false [] = manGo (xs.drop (k + 1)) (decide (0 < k + 1)) (out ++ [nn]) from by rw [he.out, manGo_step HXK.out, hk0.out, hml9]; simp)
              have HLL := hid (show (out ++ [nn]).length = ml + 1 by have := hml.out; simp; omega)
              have HL8 := hid (show (out ++ [nn]).length ≤ 8 by simp; omega)
              have HFN := hid (fun b (hb' : F b ∨ (w7.heap.size ≤ b ∧ b < w8.heap.size)) => show w2.heap.size ≤ b ∧ b < w10.heap.size from by
                have h3 := HOE9.out.size
                have h4 := Q9.out.2
                have h5 := B8.out.size
                have h6 := hz7.out
                have h7 := hb.out.size
                rcases hb' with hb' | hb'
                · have h1 := hF.out b hb'; omega
                · omega)
              rw [hlo] at SE
              clear hlo hq hml9 h88
              go_wp2_with fail
              refine (show Calls Tryz.prog 63 #[.pointer (some ⟨wr.heap.size, 0, none⟩)] w10 (fun e' w' => e' = .returned (.bool true) ∧ w10 = w') from hrp.out ▸ good_any (r := r) (o := .ok t) SE.out).mono ?_
              rintro e wx ⟨rfl, rfl⟩
              go_wp2_with fail
              go_roundw
              case rel => exact ⟨k + 1, out ++ [nn], _, some ⟨g9, 0, none⟩, cap9, _, by omega, by go_num, by rw [HLL.out], B10, hid (by rw [HLL.out]; exact P10.out), HFN, HNX, HL8⟩
              case measure => simp [intOf]; omega
          · have hO1 := hid (show (if W0 = rootW then (.ok 1 : Except Err Nat) else .error (1, cs.getD 0 0)) = .error (1, cs.getD 0 0) from if_neg hWm)
            have hW1 : (W0 == [114, 111, 111, 116]) = false := beq_eq_false_iff_ne.2 hWm
            have hW2 : (W0 != [114, 111, 111, 116]) = true := bne_iff_ne.2 hWm
            replace hWm := hid hWm
            go_wp2_with fail
            refine HWC.out.mono ?_
            rintro e w5 ⟨rfl, ho5, hs5⟩
            have S5 := hid hs5
            have L5 := hid (L4.out.self (r := r) (by rw [hrp.out]; exact ho5))
            have B5 := hid (A3.out.trans (ho5.below A3.out.size (fun b hb e => by omega)))
            clear ho5 hs5 HWC S4 L4 hWO c0 c1 c2 lbl A3
            go_wp2_with fail
            refine (show Calls Tryz.prog 59 #[.pointer (some ⟨wr.heap.size, 0, none⟩), .int .i64 1] w5 (Voids r (.error (1, cs.getD 0 0)) w5) from hrp.out ▸ failS_any (r := r) (o := .ok 1) S5.out L5.out (fun t ht => by cases ht; exact h0) 1 (by decide)).mono ?_
            rintro e w6 ⟨rfl, ho6, hs6⟩
            have S6 := hid hs6
            have L6 := hid (L5.out.self ho6)
            have B6 := hid (B5.out.trans (ho6.below B5.out.size (fun b hb e => by have := hrp.out; omega)))
            clear ho6 hs6 S5 L5 B5
            have hLO := hid (show lineO true ws cs out = endO ws cs (sndO (needO 4 ws cs (fullO out.length 8 cs (.error (1, cs.getD 0 0))))) from by unfold lineO; rw [if_pos rfl, hW0.out, hO1.out])
            have hNO := hid (show needO 4 ws cs (fullO out.length 8 cs (if ws.getD 0 [] = rootW then .ok 1 else .error (1, cs.getD 0 0))) = needO 4 ws cs (fullO out.length 8 cs (.error (1, cs.getD 0 0))) from by rw [hW0.out, hO1.out])
            go_wp2_with fail
            refine (show Calls Tryz.prog 112 #[.pointer (some ⟨wr.heap.size, 0, none⟩), .int .i64 (out.length : Int), .int .i64 8] w6 (Voids r (fullO out.length 8 cs (.error (1, cs.getD 0 0))) w6) from hrp.out ▸ fullS_any (r := r) S6.out L6.out (fun t ht => by first | (cases ht; exact h0) | cases ht) out.length 8).mono ?_
            rintro e w7 ⟨rfl, ho7, hs7⟩
            have S7 := hid hs7
            have L7 := hid (L6.out.self ho7)
            have B7 := hid (B6.out.trans (ho7.below B6.out.size (fun b hb e => by have := hrp.out; omega)))
            have H7 := hid (fun t (ht : fullO out.length 8 cs (.error (1, cs.getD 0 0)) = .ok t) => show t ≤ ws.length from by
              first
                | (cases ht)
                | (change (if 8 ≤ out.length then (Except.error (2, lastC cs 1) : Except Err Nat) else .ok 1) = .ok t at ht
                   split at ht <;> cases ht
                   exact h0))
            clear ho7 hs7 S6 L6 B6
            generalize fullO out.length 8 cs (.error (1, cs.getD 0 0)) = o2 at S7 hLO hNO H7
            go_wp2_with fail
            refine (show Calls Tryz.prog 39 #[.pointer (some ⟨wr.heap.size, 0, none⟩), .int .i64 4] w7 (NeedD r (needO 4 ws cs o2) w7) from hrp.out ▸ needS_any (r := r) S7.out L7.out H7.out hws (by omega) 4).mono ?_
            rintro e w8 ⟨xa, xb, fa, fn, fc, rfl, ho8, hs8, hn8⟩
            have hz7 := hid (show wr.heap.size < w7.heap.size from hrp.out ▸ S7.out.lt)
            have S8 := hid hs8
            have L8 := hid (L7.out.self ho8)
            have B8 := hid (B7.out.trans (ho8.below B7.out.size (fun b hb e => by have := hrp.out; omega)))
            have HN8 := hid hn8
            have hz8 := hid ho8.size
            clear ho8 hs8 hn8 S7 L7 H7
            generalize needO 4 ws cs o2 = q at S8 hLO hNO HN8
            have G8 := hid (hg.out.below B8.out)
            have A8 := hid (below_alloc (Below.refl w8.heap.size w8) (.cells #[.string ⟨xa.toArray⟩, .string ⟨xb.toArray⟩, .slice fa fn fc] 83))
            have O8 := hid (ownsRow_below G8.out.own A8.out)
            obtain ⟨iC, hi, hz0, hz1, hz2⟩ := info_parts infoRN
            have hi := hid hi
            have hz0 := hid hz0
            have hz1 := hid hz1
            have hz2 := hid hz2
            have hol : out.length ≤ 8 := h8.out
            generalize hml : out.length = ml at O8 hol ⊢
            replace hml := hid hml
            go_wp2_with (at_builtin; refine wpList_append_lies _ rfl _ _ 50 rfl w2.heap.size 83 iC (.agg #[.string ⟨#[]⟩, .string ⟨#[]⟩, .slice none 0 0]) 3 56 Tryz.underlying50 hi.out hz0.out hz1.out hz2.out rfl (by decide) _ _ _ rfl O8.out ⟨_, 0, none⟩ 1 1 [.string ⟨xa.toArray⟩, .string ⟨xb.toArray⟩, .slice fa fn fc] rfl rfl ?c1 ?c2 ?cm ?c3 ?c4 ?c5 _ rfl ?_)
            case c1 => exact cells_new _ [_, _, _] _ _ rfl
            case c2 => intro u hu; simp at hu; rcases hu with rfl | rfl | rfl <;> rfl
            case cm => decide
            case c3 => unfold maxLen; omega
            case c4 => omega
            case c5 => have h1 := hb.out.size; have h2 := B8.out.size; simp; omega
            intro g9 cap9 w9 hown9 hgrow9 hat9 hlt9
            have hrow9 : ∀ b, (Value.slice a ml c).ownBlock = some b → w2.heap.size ≤ b ∧ b < wr.heap.size := fun b hb9 => by
              have h1 := hg.out.own
              rw [hml.out] at h1
              exact h1.lt b hb9
            have S9 := hid ((S8.out.below A8.out).kept (fun _ _ hB => hB.grown hgrow9 (fun e => by have h1 := (hrow9 _ e.symm).2; have h2 : r.p = wr.heap.size := hrp.out; omega)))
            have L9 := hid ((L8.out.self (Only.of_below A8.out)).only (S := fun b => some b = (Value.slice a ml c).ownBlock) ((Only.refl _ _).grown hgrow9 (fun b hb9 _ => hb9.symm)) (fun e => by have h1 := (hrow9 _ e.symm).1; have h2 := HGW.out; have h3 := hrw.out.1; omega) (fun e => by have h1 := (hrow9 _ e.symm).1; have h2 := HGC.out; have h3 := hrw.out.2; omega))
            have B9 := hid ((below_trans (below_trans hb.out B8.out) A8.out).grown hgrow9 (by have h1 := hb.out.size; have h2 := B8.out.size; have h3 := A8.out.size; omega) (fun b hb9 => (hrow9 b hb9).1))
            have P9 := hid (fun (nn : NeedS) (tt : Nat) (hq : q = .ok (nn, tt)) => show DGrow w9 w2.heap.size (fun b => F b ∨ (w7.heap.size ≤ b ∧ b < w8.heap.size)) (.slice (some ⟨g9, 0, none⟩) (ml + 1) cap9) (cls ++ [.string ⟨xa.toArray⟩, .string ⟨xb.toArray⟩, .slice fa fn fc]) (out ++ [nn]) from by
              obtain ⟨e1, e2, e3⟩ := HN8.out nn tt hq
              have hg8 := G8.out
              rw [hml.out] at hg8
              exact DGrow.push (w0 := w7) (w1 := w8) hg8 hml.out ⟨by rw [e1], by rw [e2], e3⟩ (fun b hb' => by have h1 := (hF.out b hb').2; have h2 := hz7.out; omega) hz8.out (fun b hb' => by have h1 := (hrow9 b hb').2; have h2 := hz7.out; omega) hown9 hgrow9 hat9)
            have Q9 := hid (show g9 ≠ wr.heap.size ∧ w8.heap.size ≤ w9.heap.size from by
              have h3 := hgrow9.size
              have h4 := A8.out.size
              have h5 := hz7.out
              have h6 := hz8.out
              refine ⟨?_, by omega⟩
              rcases hat9 with h1 | h1
              · have := (hrow9 _ h1).2; omega
              · omega)
            clear hown9 hgrow9 hat9 hlt9 hrow9 O8 A8 S8 L8 G8 HN8
            go_wp2_with fail
            refine (show Calls Tryz.prog 40 #[.pointer (some ⟨wr.heap.size, 0, none⟩)] w9 (Voids r (endO ws cs (sndO q)) w9) from hrp.out ▸ endS_any (r := r) S9.out L9.out).mono ?_
            rintro e w10 ⟨rfl, hoE, hsE⟩
            have B10 := hid (B9.out.trans (hoE.below B9.out.size (fun b hb' e => by have h2 : r.p = wr.heap.size := hrp.out; have h3 := hb.out.size; omega)))
            have HOE9 := hid hoE
            rw [← hLO.out] at hsE
            have SE := hid hsE
            clear hoE hsE S9 L9
            cases hlo : lineO true ws cs out with
            | error e0 =>
              have HOE := hid (show o = .error (e0.1, no, e0.2) from by rw [HOG.out, he.out, manGo_step HXK.out, hk0.out, lineO_bad hlo h8.out])
              rw [hlo] at SE
              clear hlo
              go_wp2_with fail
              refine (show Calls Tryz.prog 63 #[.pointer (some ⟨wr.heap.size, 0, none⟩)] w10 (fun e' w' => e' = .returned (.bool false) ∧ w10 = w') from hrp.out ▸ good_any (r := r) (o := .error e0) SE.out).mono ?_
              rintro e wx ⟨rfl, rfl⟩
              obtain ⟨hnz, tt, hbl⟩ := SE.out
              have hBk : Blk w10 r.p _ _ := hbl
              rw [hrp.out] at hBk
              have s4 := hBk.cell 4 rfl
              have s5 := hBk.cell 5 rfl
              have s6 := hBk.cell 6 rfl
              have sl := hBk.lt
              have x2' := X2.out.below B10.out
              have x0 := x2'.cell 0 rfl
              have x1 := x2'.cell 1 rfl
              have x3 := x2'.cell 2 rfl
              have xf := x2'.free
              have xl := x2'.lt
              have hZ := Z2.out.trans (B10.out.mono Z2.out.size)
              have HZ := hid hZ
              have HX2 := hid x2'
              clear hbl hBk hZ x2'
              simp only at s4 s5 s6
              go_wp2_with fail
              go_region
              all_goals
                go_wp2_with fail
                have p2 := three_b HX2.out (.int .i64 (e0.1 : Int)) (.int .i64 (no : Int)) (.int .i64 (e0.2 : Int))
                have q0 := p2.cell 0 rfl
                have q1 := p2.cell 1 rfl
                have q2 := p2.cell 2 rfl
                have hB := (below_three HZ.out (Nat.le_refl _) (.int .i64 (e0.1 : Int)) (.int .i64 (no : Int)) (.int .i64 (e0.2 : Int))).drew
                refine bodyPost_ret (v := .tuple #[.slice none 0 0, .agg #[.int .i64 (e0.1 : Int), .int .i64 (no : Int), .int .i64 (e0.2 : Int)]]) (by simp [results, Tryz.results48, go_sem, q0, q1, q2]) rfl ?_
                rw [HOE.out]
                exact ⟨hB, rfl⟩
            | ok t =>
              obtain ⟨nn, tt, hq, hml9, h88⟩ := lineO_true hlo h8.out
              rw [hNO.out] at hq
              have P10 := hid ((P9.out nn tt hq).only HOE9.out (fun b hb' e => by have e' : b = r.p := e; have e3 : g9 = b := (by injection hb'); have h1 := Q9.out.1; have h2 : r.p = wr.heap.size := hrp.out; omega) (fun b _ hb' e => by
                have e' : b = r.p := e
                have h2 : r.p = wr.heap.size := hrp.out
                rcases hb' with hb' | hb'
                · have h1 := (hF.out b hb').2; omega
                · have h1 := hz7.out; omega))
              have HNX := hid (show manGo xs false [] = manGo (xs.drop (k + 1)) (decide (0 < k + 1)) (out ++ [nn]) from by rw [he.out, manGo_step HXK.out, hk0.out, hml9]; simp)
              have HLL := hid (show (out ++ [nn]).length = ml + 1 by have := hml.out; simp; omega)
              have HL8 := hid (show (out ++ [nn]).length ≤ 8 by simp; omega)
              have HFN := hid (fun b (hb' : F b ∨ (w7.heap.size ≤ b ∧ b < w8.heap.size)) => show w2.heap.size ≤ b ∧ b < w10.heap.size from by
                have h3 := HOE9.out.size
                have h4 := Q9.out.2
                have h5 := B8.out.size
                have h6 := hz7.out
                have h7 := hb.out.size
                rcases hb' with hb' | hb'
                · have h1 := hF.out b hb'; omega
                · omega)
              rw [hlo] at SE
              clear hlo hq hml9 h88
              go_wp2_with fail
              refine (show Calls Tryz.prog 63 #[.pointer (some ⟨wr.heap.size, 0, none⟩)] w10 (fun e' w' => e' = .returned (.bool true) ∧ w10 = w') from hrp.out ▸ good_any (r := r) (o := .ok t) SE.out).mono ?_
              rintro e wx ⟨rfl, rfl⟩
              go_wp2_with fail
              go_roundw
              case rel => exact ⟨k + 1, out ++ [nn], _, some ⟨g9, 0, none⟩, cap9, _, by omega, by go_num, by rw [HLL.out], B10, hid (by rw [HLL.out]; exact P10.out), HFN, HNX, HL8⟩
              case measure => simp [intOf]; omega
      · have hke : k = n := by omega
        subst hke
        have x2' := X2.out.below hb.out
        have x0 := x2'.cell 0 rfl
        have x1 := x2'.cell 1 rfl
        have x3 := x2'.cell 2 rfl
        have xf := x2'.free
        have xl := x2'.lt
        have HX2 := hid x2'
        have HZ := hid (Z2.out.trans (hb.out.mono Z2.out.size))
        have hwz := Z2.out.size
        have hzlt : w.heap.size < w2.heap.size := X2.out.lt
        have HZL := hid hzlt
        clear x2'
        by_cases h0 : k = 0
        · subst h0
          have HOE := hid (show o = .error (1, 0, 0) from by rw [HO.out]; unfold manL; rw [if_pos (List.eq_nil_of_length_eq_zero HN.out)])
          go_wp2_with fail
          have p2 := three_b HX2.out (.int .i64 1) (.int .i64 0) (.int .i64 0)
          have q0 := p2.cell 0 rfl
          have q1 := p2.cell 1 rfl
          have q2 := p2.cell 2 rfl
          have hB := below_three HZ.out (Nat.le_refl _) (.int .i64 1) (.int .i64 0) (.int .i64 0)
          refine bodyPost_ret (v := .tuple #[.slice none 0 0, .agg #[.int .i64 1, .int .i64 0, .int .i64 0]]) (by simp [results, Tryz.results48, go_sem, q0, q1, q2]) rfl ?_
          rw [HOE.out]
          exact ⟨hB, rfl⟩
        · have hne : xs ≠ [] := fun e => h0 (by have := HN.out; rw [e] at this; exact this.symm)
          have HOE := hid (show o = .ok out from by rw [HO.out]; unfold manL; rw [if_neg hne, he.out, ← HN.out, List.drop_length]; rfl)
          have HG := hid hg.out
          have HFF := hid hF.out
          clear he hg hF hne
          generalize hol : out.length = ol at *
          replace hol := hid hol
          go_wp2_with fail
          have p2 := three_b HX2.out (.int .i64 0) (.int .i64 0) (.int .i64 0)
          have q0 := p2.cell 0 rfl
          have q1 := p2.cell 1 rfl
          have q2 := p2.cell 2 rfl
          have hB := below_three HZ.out (Nat.le_refl _) (.int .i64 0) (.int .i64 0) (.int .i64 0)
          refine bodyPost_ret (v := .tuple #[.slice a ol c, .agg #[.int .i64 0, .int .i64 0, .int .i64 0]]) (by simp [results, Tryz.results48, go_sem, q0, q1, q2]) rfl ?_
          rw [HOE.out]
          refine ⟨hB, _, rfl, (HG.out.only (S := (· = w.heap.size)) (((Only.setCell (S := (· = w.heap.size)) (p := ⟨w.heap.size, 0, none⟩) (Only.refl _ _) rfl _).setCell (p := ⟨w.heap.size, 1, none⟩) rfl _).setCell (p := ⟨w.heap.size, 2, none⟩) rfl _) (fun b hb' e => ?_) (fun b _ hb' e => ?_)).v⟩
          · have h1 := (HG.out.own.lt b hb').1; have := HZL.out; omega
          · have h1 := (HFF.out b hb').1; have := HZL.out; omega
end Go.Proofs.YtafnohojnjpfcaaGreatDoor.Ix
