/-
  LAYER 9: the law of the roots' names.
-/
import Derived.Test.YtafnohojnjpfcaaGreatDoorManNames
import Derived.Deep.RegionLaw
namespace Go.Proofs.YtafnohojnjpfcaaGreatDoor.Ix
open Go.RowKit
open Go.Proofs.YtafnohojnjpfcaaGreatDoor Go.Proofs.YtafnohojnjpfcaaGreatDoor.Ln Go.Proofs.YtafnohojnjpfcaaGreatDoor.Vs Go.Proofs.YtafnohojnjpfcaaGreatDoor.Sp Go.Proofs.YtafnohojnjpfcaaGreatDoor.Sf

/-- the cells of needs that have names alone -/
def bare (ws : Words) : List Value := ws.flatMap fun x => [.string ⟨x.toArray⟩, .slice none 0 0, .slice none 0 0]
theorem bare_app (ws : Words) (x : List UInt8) : bare (ws ++ [x]) = bare ws ++ [.string ⟨x.toArray⟩, .slice none 0 0, .slice none 0 0] := by
  unfold bare; rw [List.flatMap_append]; simp
theorem bare_at : ∀ {ws : Words} {k : Nat} (h : k < ws.length), (bare ws)[k * 3]? = some (.string ⟨ws[k].toArray⟩) ∧ (bare ws)[k * 3 + 1]? = some (.slice none 0 0) ∧ (bare ws)[k * 3 + 2]? = some (.slice none 0 0) := by
  intro ws
  induction ws with
  | nil => intro k h; simp at h
  | cons x ws ih =>
    intro k h
    have e : bare (x :: ws) = .string ⟨x.toArray⟩ :: .slice none 0 0 :: .slice none 0 0 :: bare ws := by unfold bare; rw [List.flatMap_cons]; rfl
    rw [e]
    cases k with
    | zero => exact ⟨rfl, rfl, rfl⟩
    | succ k =>
      have := ih (k := k) (by simp at h; omega)
      rw [show (k + 1) * 3 = k * 3 + 1 + 1 + 1 by omega, show k * 3 + 1 + 1 + 1 + 1 = (k * 3 + 1) + 1 + 1 + 1 by omega, show k * 3 + 1 + 1 + 1 + 2 = (k * 3 + 2) + 1 + 1 + 1 by omega]
      simp only [List.getElem?_cons_succ, List.getElem_cons_succ]
      exact this

theorem once_len : ∀ (ws acc : Words), (once acc ws).length ≤ acc.length + ws.length := by
  intro ws
  induction ws with
  | nil => intro acc; exact Nat.le_refl _
  | cons x ws ih =>
    intro acc
    unfold once
    by_cases hc : acc.contains x = true
    · rw [if_pos hc]
      have := ih acc
      rw [List.length_cons]; omega
    · rw [if_neg hc]
      have := ih (acc ++ [x])
      rw [List.length_append, List.length_singleton] at this
      rw [List.length_cons]; omega

theorem RowIs.below {w w' : World} {v : Value} {xs : List Value} (h : RowIs w v xs) (hb : Below w.heap.size w w') : RowIs w' v xs := by
  rcases h with h | ⟨g, o, c, h1, h2⟩
  · exact .inl h
  · exact .inr ⟨g, o, c, h1, fun k x hk => bcell hb (h2 k x hk)⟩
/-- a row that grows turns no other row of another type -/
theorem owns_grown {w w' : World} {base base' : Nat} {e e' : TypeId} {size size' n n' : Nat} {v v' : Value} {xs xs' : List Value} (h : w.ownsRow base e size v n xs) (h' : w.ownsRow base' e' size' v' n' xs') (hne : e ≠ e') (hg : w.grownBy w' v'.ownBlock) : w'.ownsRow base e size v n xs :=
  (Kept.grown (F := fun b => v.ownBlock = some b) (Kept.refl _ w) hg (fun k hk hf => by
    rcases ownsRow_apart h h' hne with h0 | h0
    · rw [h0] at hf; cases hf
    · exact h0 (hf.trans hk.symm))).owns h (fun _ hb => hb)

set_option maxRecDepth 100000 in
set_option maxHeartbeats 4000000 in
theorem law_names_nil (a : Option Addr) (c : Nat) (w : World) (hm : MaxAt w) (hg : SignsAt w) : Calls Tryz.prog 12 #[.slice a 0 c] w (LawOk w) := by
  have HW := hid (wanted_any w hm hg)
  have HT := hid (fun va vb w h1 h2 => texts_eq [] (by decide) va vb w h1 h2)
  unfold LawOk at HW
  go_enter Tryz.func12, Tryz.ntmps12
  go_wp2_with fail
  refine HW.out.mono ?_
  rintro e w1 ⟨rfl, hb1⟩
  have m0 := (Blk.new w1 [.slice none 0 0] 106).cell 0 rfl
  go_wp2_with fail
  go_loop [4, 5] (fun v i => v = .slice none 0 0 ∧ i = .int .i64 0) (fun _ _ => 0)
  case atStart => exact ⟨rfl, rfl⟩
  case round =>
    obtain ⟨rfl, rfl⟩ := hrel
    go_wp2_with fail
    refine (names_nil none 0 _).mono ?_
    rintro e w2 ⟨v, rfl, hb2, hr⟩
    go_wp2_with fail
    refine (HT.out _ _ _ hr (.inl ⟨rfl, _, _, rfl⟩)).mono ?_
    rintro e w3 ⟨rfl, m, rfl⟩
    go_wp2_with fail
    go_ret
    exact ⟨rfl, below_drewN' (below_trans (below_alloc hb1 _) hb2) m⟩

set_option maxRecDepth 100000 in
set_option maxHeartbeats 8000000 in
theorem law_names (ws : Words) (hlen : ws.length ≤ 140737488355328) (B o c : Nat) (w : World) (hc : ∀ k (h : k < ws.length), w.cell? ⟨B, o + k, none⟩ = some (.string ⟨ws[k].toArray⟩)) (hm : MaxAt w) (hg : SignsAt w) : Calls Tryz.prog 12 #[.slice (some ⟨B, o, none⟩) ws.length c] w (LawOk w) := by
  have HW := hid (fun w hm hg => show Calls Tryz.prog 49 #[] w (fun e w' => e = .returned (.bool true) ∧ Below w.heap.size w w') from wanted_any w hm hg)
  obtain ⟨n, hn⟩ : ∃ n, ws.length = n := ⟨_, rfl⟩
  have HC := hid hc
  rw [hn] at hlen ⊢
  have HN := hid hn
  clear hn hc
  by_cases h200 : (200 : Int) < (n : Int)
  · go_enter Tryz.func12, Tryz.ntmps12
    go_wp2_with fail
    refine (HW.out w hm hg).mono ?_
    rintro e w1 ⟨rfl, hb1⟩
    go_wp2_with fail
    refine (HW.out w1 (hm.below hb1) (hg.below hb1)).mono ?_
    rintro e w2 ⟨rfl, hb2⟩
    go_wp2_with fail
    go_ret
    exact ⟨rfl, below_trans hb1 hb2⟩
  · have hn200 : n ≤ 200 := by omega
    have HTX := hid (fun va vb w h1 h2 => texts_eq (once [] ws) (by have := once_len ws []; have := HN.out; simp at *; omega) va vb w h1 h2)
    have HRL := hid (show (once [] ws).length ≤ 200 by have := once_len ws []; have := HN.out; simp at *; omega)
    have HNM := hid (fun G cp w h => names_any ws (by have := HN.out; omega) G cp w h)
    unfold NamesIs at HNM
    generalize honce : once [] ws = R at HTX HNM HRL
    have HR := hid (show R = once [] (ws.drop 0) by rw [← honce]; rfl)
    clear honce
    go_enter Tryz.func12, Tryz.ntmps12
    go_wp2_with fail
    refine (HW.out w hm hg).mono ?_
    rintro e w1 ⟨rfl, hb1⟩
    have Z1 := hid (below_alloc hb1 (.cells #[.slice none 0 0] 106))
    have M1 := hid (Blk.new w1 [.slice none 0 0] 106)
    have L1 := hid (show (w1.alloc (.cells #[.slice none 0 0] 106)).heap.size = w1.heap.size + 1 by simp)
    have hzb := hid hb1.size
    clear hb1 HW
    go_wp2_with fail
    generalize w1.alloc (.cells #[.slice none 0 0] 106) = W1 at Z1 M1 L1 ⊢
    change Hid (Blk W1 w1.heap.size [.slice none 0 0] 106) at M1
    generalize w1.heap.size = mB at M1 L1 hzb ⊢
    generalize hL : W1.heap.size = L at L1
    replace hL := hid hL
    go_loopw [4, 5] (fun v i wr => ∃ (k : Nat) (acc : Words) (a : Option Addr) (m c : Nat) (ma : Option Addr) (mc : Nat), k ≤ n ∧ i = .int .i64 k ∧ v = .slice a m c ∧ Hid (Below w.heap.size w wr) ∧ Hid (L ≤ wr.heap.size) ∧ Hid (Blk wr mB [.slice ma k mc] 106) ∧ Hid (wr.ownsRow L 78 3 (.slice ma k mc) k (bare (ws.take k))) ∧ Hid (wr.ownsRow L 9 1 v acc.length (Ln.strs acc)) ∧ Hid (acc.length ≤ k) ∧ Hid (R = once acc (ws.drop k))) (fun _ i _ => n - (intOf i).toNat)
    case atStart => exact ⟨0, [], none, 0, 0, none, 0, by omega, rfl, rfl, Z1, hid (Nat.le_of_eq hL.out.symm), M1, hid (World.ownsRow_nil _ _ _ _), hid (World.ownsRow_nil _ _ _ _), hid (Nat.le_refl _), HR⟩
    case round =>
      obtain ⟨k, acc, a, m, c', ma, mc, hk, rfl, rfl, hb, hLL, hbm, hon, hos, hal, hr⟩ := hrel
      clear HR
      by_cases hlt : k < n
      · have hkw : k < ws.length := by rw [HN.out]; exact hlt
        have hcell := bcell hb.out (HC.out k hkw)
        have HX := hid (HC.out k hkw)
        have hst := hid (hr.out.trans (once_step hkw))
        have htk := hid (show bare (ws.take (k + 1)) = bare (ws.take k) ++ [.string ⟨ws[k].toArray⟩, .slice none 0 0, .slice none 0 0] by rw [List.take_succ_eq_append_getElem hkw, bare_app])
        generalize ws[k] = x at *
        generalize hbt : bare (ws.take k) = bk at hon htk
        replace hbt := hid hbt
        generalize hbt1 : bare (ws.take (k + 1)) = bk1 at htk
        replace hbt1 := hid hbt1
        have m0 := hbm.out.cell 0 rfl
        have mf := hbm.out.free
        have ml := hbm.out.lt
        have bl := World.block_lt_of_cell? wr _ hcell
        obtain ⟨iN, hi, hz0, hz1, hz2⟩ := info_parts infoN
        have hi := hid hi
        have hz0 := hid hz0
        have hz1 := hid hz1
        have hz2 := hid hz2
        have AL := hid (below_alloc (Below.refl wr.heap.size wr).drew (.cells #[.string ⟨x.toArray⟩, .slice none 0 0, .slice none 0 0] 78))
        have ON := hid (ownsRow_below (w' := (wr.drew.alloc (.cells #[.string ⟨x.toArray⟩, .slice none 0 0, .slice none 0 0] 78))) hon.out AL.out)
        have BM := hid (Blk.below (w' := (wr.drew.alloc (.cells #[.string ⟨x.toArray⟩, .slice none 0 0, .slice none 0 0] 78))) hbm.out AL.out)
        have hk64 : (k : Int) < (n : Int) := by omega
        have hk0 : (0 : Int) ≤ (k : Int) := by omega
        go_wp2_with fail
        go_region_law (refine step_append_lies _ rfl _ _ 62 rfl L 78 iN (.agg #[.string ⟨#[]⟩, .slice none 0 0, .slice none 0 0]) 3 64 Tryz.underlying62 hi.out hz0.out hz1.out hz2.out rfl (by decide) _ _ _ rfl ON.out ⟨_, 0, none⟩ 1 1 [.string ⟨x.toArray⟩, .slice none 0 0, .slice none 0 0] rfl rfl (cells_new _ [_, _, _] _ _ rfl) (by intro u hu; simp at hu; rcases hu with rfl | rfl | rfl <;> rfl) (by decide) (by unfold maxLen; omega) (by omega) (by have := hLL.out; simp; omega) _ rfl ?_; intro g cap w3 hown3 hgrow hat hlt3; have hb3 := Blk.grown BM.out hgrow (fun e => by have h1 := (hon.out.lt mB e.symm).1; have := L1.out; omega); have hc3 := hb3.cell 0 rfl; have hf3 := hb3.free)
        all_goals
          have hLm : mB < L := by have := L1.out; omega
          have hzb' := hzb.out
          have OS := ownsRow_below hos.out AL.out
          have S3 := hid (ownsRow_setCell_below (owns_grown OS ON.out (by decide) hgrow) (a := ⟨mB, 0, none⟩) (show mB < L by omega) (.slice (some ⟨g, 0, none⟩) (k + 1) cap))
          have N3 := hid (ownsRow_setCell_below hown3 (a := ⟨mB, 0, none⟩) (show mB < L by omega) (.slice (some ⟨g, 0, none⟩) (k + 1) cap))
          have M3 := hid (hb3.set 0 (.slice (some ⟨g, 0, none⟩) (k + 1) cap))
          have Z3 := hid (((below_trans hb.out AL.out).grown hgrow (by have := hb.out.size; have := AL.out.size; omega) (fun b hb => by have h1 := (hon.out.lt b hb).1; omega)).setCell (p := ⟨mB, 0, none⟩) hzb' (.slice (some ⟨g, 0, none⟩) (k + 1) cap))
          have LL3 := hid (show L ≤ (w3.setCell ⟨mB, 0, none⟩ (.slice (some ⟨g, 0, none⟩) (k + 1) cap)).heap.size by have h1 := hgrow.size; have h2 := AL.out.size; have h3 := hLL.out; simp at h1 ⊢; omega)
          have X3 := bcell Z3.out (show w.cell? ⟨B, o + k, none⟩ = some (.string ⟨x.toArray⟩) from HX.out)
          clear hown3 hgrow hat hlt3 hb3 hc3 hf3 OS m0 mf ml hcell bl
          go_wp2_with fail
          generalize w3.setCell ⟨mB, 0, none⟩ (.slice (some ⟨g, 0, none⟩) (k + 1) cap) = W3 at S3 N3 M3 Z3 LL3 X3 ⊢
          refine (in_any acc (by have := hal.out; omega) x _ _ (rowIs_of S3.out)).mono ?_
          cases hct : acc.contains x with
          | true =>
            rw [hct, if_pos rfl] at hst
            clear hct
            rintro e w4 ⟨rfl, rfl⟩
            go_wp2_with fail
            go_roundw
            case rel =>
              refine ⟨k + 1, acc, a, m, c', _, _, by omega, by go_num, rfl, Z3, LL3, M3, hid ?_, S3, hid (by have := hal.out; omega), hst⟩
              rw [hbt1.out, htk.out]; exact N3.out
            case measure => simp [intOf]; omega
          | false =>
            rw [hct, if_neg (by simp)] at hst
            clear hct
            rintro e w4 ⟨rfl, rfl⟩
            obtain ⟨iC, hj, hy0, hy1, hy2⟩ := info_parts infoS
            have hj := hid hj
            have hy0 := hid hy0
            have hy1 := hid hy1
            have hy2 := hid hy2
            have HAPP := hid (strs_app acc x)
            have HLN := hid (show (acc ++ [x]).length = acc.length + 1 by simp)
            generalize hax : acc ++ [x] = ax at hst HAPP HLN
            replace hax := hid hax
            generalize Ln.strs acc = sa at S3 HAPP
            generalize hal2 : acc.length = al at S3 HLN hal
            replace hal2 := hid hal2
            have xl3 := World.block_lt_of_cell? W3 _ X3
            clear hos hon hbm
            generalize (⟨x.toArray⟩ : ByteArray) = X at HAPP X3 ⊢
            go_wp2_with (at_builtin; refine wpList_append_lies _ rfl _ _ 76 rfl L 9 iC (.string ⟨#[]⟩) 1 16 Tryz.underlying76 hj.out hy0.out hy1.out hy2.out rfl (by decide) _ _ _ rfl (ownsRow_below S3.out (below_alloc (Below.refl _ _) _)) ⟨_, 0, none⟩ 1 1 [.string X] rfl rfl ?c1 ?c2 ?cm ?c3 ?c4 ?c5 _ rfl ?_)
            case c1 => exact cell_one_at _ _ _ _ rfl
            case c2 => intro u hu; simp at hu; subst hu; rfl
            case cm => decide
            case c3 => have := hal.out; unfold maxLen; omega
            case c4 => have := hal.out; omega
            case c5 => have := LL3.out; simp; omega
            intro g2 cap2 w5 hown5 hgrow5 hat5 hlt5
            have A5 := below_alloc (Below.refl W3.heap.size W3) (.cells #[.string X] 9)
            have O5 := hid hown5
            have N5 := hid (owns_grown (ownsRow_below N3.out A5) (ownsRow_below S3.out A5) (by decide) hgrow5)
            have M5 := hid ((M3.out.below A5).grown hgrow5 (fun e => by have h1 := (S3.out.lt mB e.symm).1; omega))
            have Z5 := hid ((below_trans Z3.out A5).grown hgrow5 (by have := Z3.out.size; have := A5.size; omega) (fun b hb => by have h1 := (S3.out.lt b hb).1; omega))
            have LL5 := hid (show L ≤ w5.heap.size by have h1 := hgrow5.size; have h2 := A5.size; have h3 := LL3.out; omega)
            clear hown5 hgrow5 hat5 hlt5 A5 S3 N3 M3 Z3 LL3 X3 xl3
            go_wp2_with fail
            go_roundw
            case rel =>
              refine ⟨k + 1, ax, _, _, _, _, _, by omega, by go_num, rfl, Z5, LL5, M5, hid ?_, hid ?_, hid (by rw [HLN.out]; have := hal.out; omega), hst⟩
              · rw [hbt1.out, htk.out]; exact N5.out
              · rw [HLN.out, HAPP.out]; exact O5.out
            case measure => simp [intOf]; omega
      · have hke : k = n := by omega
        subst hke
        have hacc := hid (show R = acc by rw [hr.out, ← HN.out, List.drop_length]; rfl)
        have hrow := hid (rowIs_of hos.out)
        have m0 := hbm.out.cell 0 rfl
        by_cases h0 : k = 0
        · subst h0
          have hw0 : ws = [] := List.eq_nil_of_length_eq_zero HN.out
          have hR0 := hid (show R = [] by rw [hacc.out]; exact List.eq_nil_of_length_eq_zero (by have := hal.out; omega))
          clear hw0 HC HNM hos hon hr
          go_wp2_with fail
          refine (names_nil ma mc wr).mono ?_
          rintro e w2 ⟨v, rfl, hb2, hv⟩
          have r2 : RowIs w2 (.slice a m c') (Ln.strs R) := by
            rw [hacc.out]
            exact RowIs.below hrow.out hb2
          go_wp2_with fail
          refine (HTX.out _ _ _ (by rw [hR0.out]; exact hv) r2).mono ?_
          rintro e w3 ⟨rfl, q, rfl⟩
          go_wp2_with fail
          go_ret
          exact ⟨rfl, below_drewN' (below_trans hb.out hb2) q⟩
        · obtain ⟨G, gc, hv, _, _, _, _, q5⟩ := ownsRow_any hon.out h0
          injection hv with e1 e2 e3
          subst e1
          subst e3
          have hnm := hid (show NamedAt wr G ws from fun j hj => by
            have hb := bare_at hj
            have ht : ws.take k = ws := by rw [← HN.out, List.take_length]
            rw [ht] at q5
            exact ⟨_, _, _, _, _, _, q5 _ _ hb.1, q5 _ _ hb.2.1, q5 _ _ hb.2.2⟩)
          clear q5 hon hos hr
          have NM := hid (HNM.out G mc wr hnm.out)
          rw [HN.out] at NM
          go_wp2_with fail
          refine NM.out.mono ?_
          rintro e w2 ⟨v, rfl, hb2, hv⟩
          have r2 : RowIs w2 (.slice a m c') (Ln.strs R) := by
            rw [hacc.out]
            exact RowIs.below hrow.out hb2
          go_wp2_with fail
          refine (HTX.out _ _ _ hv r2).mono ?_
          rintro e w3 ⟨rfl, q, rfl⟩
          go_wp2_with fail
          go_ret
          exact ⟨rfl, below_drewN' (below_trans hb.out hb2) q⟩
end Go.Proofs.YtafnohojnjpfcaaGreatDoor.Ix
