/-
  LAYER 3, PACKAGE version: Parse of texts of whatever length.
-/
import Derived.Test.YtebhgcejcdgdbaaGreatDoorVersionSplit
import Derived.Test.YtebhgcejcdgdbaaGreatDoorMB
import Derived.Deep.DeepCutAuto
import Derived.Deep.CutBlock
namespace Go.Proofs.YtebhgcejcdgdbaaGreatDoor.Vs
open Go.RowKit
open Go.Proofs.YtebhgcejcdgdbaaGreatDoor Go.Proofs.YtebhgcejcdgdbaaGreatDoor.Nu

theorem sizeM (l : List UInt8) (n : Nat) (h : l.length ≤ n) : (⟨l.toArray⟩ : ByteArray).size ≤ n := by
  show l.toArray.size ≤ n
  simpa using h
theorem splitN_all (s : ByteArray) (hs : s.size ≤ 140737488355328) (n : Nat) (hn : n = 4 ∨ n = 5) (w : World) (hm : MaxAt w) :
    Calls Tryz.prog 43 #[.string s, .string ⟨#[46]⟩, .int .i64 n] w (SplitIs n s.data.toList w) := by
  by_cases h5 : 5 ≤ s.size
  · have H : Hid (∀ w, Calls Tryz.prog 50 #[.string s, .string ⟨#[46]⟩, .int .i64 0, .int .i64 n] w (SplitIs n s.data.toList w)) := hid (fun w => by
      rcases hn with rfl | rfl
      · exact genSplit_4 s hs h5 w
      · exact genSplit_5 s hs h5 w)
    clear hs h5 hn
    go_enter Tryz.func43, Tryz.ntmps43
    go_wp2_with (go_at_call 50; (with_reducible refine (H.out _).mono ?_); rintro e w' ⟨gs, c, B, h0, h1, h2, h3, rfl, h5, h6⟩)
    go_ret
    exact ⟨gs, c, B, h0, h1, h2, h3, rfl, h5, h6⟩
  · exact splitN_any s (by omega) n (by omega) (by omega) w hm

theorem parts_all (s : ByteArray) (hs : s.size ≤ 140737488355328) (w : World) (hm : MaxAt w) :
    Calls Tryz.prog 48 #[.string s] w (SplitIs 5 s.data.toList w) := by
  have HS : Hid (∀ w, MaxAt w → Calls Tryz.prog 43 #[.string s, .string ⟨#[46]⟩, .int .i64 5] w (SplitIs 5 s.data.toList w)) := hid (splitN_all s hs 5 (.inr rfl))
  clear hs
  go_enter Tryz.func48, Tryz.ntmps48
  go_wp2_with (go_at_call 43; (with_reducible refine (HS.out _ hm).mono ?_); rintro e w' ⟨gs, c, B, h0, h1, h2, h3, rfl, h5, h6⟩)
  go_ret
  exact ⟨gs, c, B, h0, h1, h2, h3, rfl, h5, h6⟩

set_option maxHeartbeats 1000000 in
theorem checkPre_all (s : ByteArray) (hs : s.size ≤ 140737488355328) (w : World) (hm : MaxAt w) :
    Calls Tryz.prog 37 #[.string s] w (Gives (.bool (preV s.data.toList)) w) := by
  have HS := hid (parts_all s hs)
  have hlen := hid (lenS s)
  have HV := hid (show preV s.data.toList = (decide ((cutl 46 s.data.toList).length ≤ 4) && (cutl 46 s.data.toList).all partV) from rfl)
  have HM := hid (fun p (h : p ∈ cutl 46 s.data.toList) => part_size h)
  generalize preV s.data.toList = R at HV ⊢
  generalize hC : cutl 46 s.data.toList = C at HV HM
  have hC' := hid hC
  clear hC
  have hs' := hid hs
  go_enter Tryz.func37, Tryz.ntmps37
  go_wp2_with (go_at_call 48; (with_reducible refine (HS.out _ hm).mono ?_); rintro e w' ⟨gs, c, B, hB, ⟨h1, h2, h2'⟩, h3, h4, rfl, hb, hc⟩)
  all_goals rw [hC'.out] at h1 h2
  · rename_i h4'
    have h5 : 4 < C.length := by
      rcases Nat.lt_or_ge 5 C.length with h | h
      · omega
      · rw [← h1 h]; omega
    go_ret
    exact gives rfl (bool_eq (by rw [HV.out, decide_eq_false (by omega)]; rfl)) hb
  · rename_i h4'
    have h5 : C.length ≤ 5 := by
      rcases Nat.lt_or_ge 5 C.length with h | h
      · have := h2 h; omega
      · exact h
    have hg := h1 h5
    subst hg
    clear h1 h2 h5 h2'
    have hd := hid (show gs.length ≤ 4 by omega)
    go_loopw [5, 13] (fun _ i wr => ∃ k : Nat, k ≤ gs.length ∧ i = .int .i64 k ∧ Below w.heap.size w wr ∧ CellsAt wr B 0 gs ∧ Hid ((gs.take k).all partV = true)) (fun _ i _ => gs.length - (intOf i).toNat)
    case atStart => exact ⟨0, Nat.zero_le _, rfl, hb, hc, hid rfl⟩
    case round =>
      obtain ⟨k, hk, rfl, hb1, hc1, hp⟩ := hrel
      by_cases hlt : k < gs.length
      · have hcell := hc1.2 k hlt
        rw [Nat.zero_add] at hcell
        have hbl := hc1.1
        have hx := hid (show gs[k]? = some (gs.getD k []) by simp [List.getD, List.getElem?_eq_getElem hlt])
        generalize gs.getD k [] = g at hcell hx
        have hgl : g.length ≤ s.size := by rw [← hlen.out]; exact HM.out g (List.mem_of_getElem? hx.out)
        have HG : Hid (∀ w, Calls Tryz.prog 59 #[.string ⟨g.toArray⟩] w (Gives (.bool (partV g)) w)) := hid (checkPart_any ⟨g.toArray⟩ (by show g.toArray.size ≤ maxLen; unfold maxLen; simp; omega))
        have Y := hid (fun h => take_all hp.out hx.out h)
        have Z := hid (fun h => all_off (p := partV) hx.out h)
        clear hx hgl hc hb
        generalize partV g = b at *
        cases b
        · go_wp2_with (go_at_call 59; (with_reducible refine (HG.out _).mono ?_); rintro e w2 ⟨rfl, hb2⟩)
          go_ret
          exact gives rfl (bool_eq (by rw [HV.out, Z.out (by first | rfl | trivial), Bool.and_false])) (below_trans hb1 hb2)
        · go_wp2_with (go_at_call 59; (with_reducible refine (HG.out _).mono ?_); rintro e w2 ⟨rfl, hb2⟩)
          go_roundw
          case rel => exact ⟨k + 1, by omega, by go_num, below_trans hb1 hb2, hc1.below hb2, hid (Y.out (by first | rfl | trivial))⟩
          case measure => simp [intOf]; omega
      · have hke := hid (show k = gs.length by omega)
        go_wp2_with fail
        go_ret
        exact gives rfl (bool_eq (by rw [HV.out, decide_eq_true hd.out]; have := hp.out; rw [hke.out, List.take_length] at this; rw [this]; rfl)) hb1
set_option maxHeartbeats 4000000 in
theorem parse_all (s : ByteArray) (hs : s.size ≤ 140737488355328) (w : World) (hm : MaxAt w) :
    Calls Tryz.prog 24 #[.string s] w (Gives (parseT s.data.toList) w) := by
  have hlen := hid (lenS s)
  have HC := hid (cut45 s (by unfold maxLen; omega))
  have ha := aft_le s.data.toList
  have hf := fore_le s.data.toList
  rw [hlen.out] at ha hf
  have HP : Hid (∀ w, MaxAt w → Calls Tryz.prog 37 #[.string ⟨(aft 45 s.data.toList).toArray⟩] w (Gives (.bool (preV (aft 45 s.data.toList))) w)) :=
    hid (checkPre_all ⟨(aft 45 s.data.toList).toArray⟩ (sizeM _ _ (by omega)))
  have HS : Hid (∀ w, MaxAt w → Calls Tryz.prog 43 #[.string ⟨(fore 45 s.data.toList).toArray⟩, .string ⟨#[46]⟩, .int .i64 4] w (SplitIs 4 (fore 45 s.data.toList) w)) :=
    hid (splitN_all ⟨(fore 45 s.data.toList).toArray⟩ (sizeM _ _ (by omega)) 4 (.inl rfl))
  have HV := hid (show verV s.data.toList = (numsV (fore 45 s.data.toList) && (!hasPre s.data.toList || preV (aft 45 s.data.toList))) from rfl)
  have HR := hid (show parseT s.data.toList = .tuple #[if verV s.data.toList then verVal (nth s.data.toList 0) (nth s.data.toList 1) (nth s.data.toList 2) (aft 45 s.data.toList) else verVal 0 0 0 [], .bool (verV s.data.toList)] from rfl)
  have HN := hid (show ∀ i, nth s.data.toList i = numN ((cutl 46 (fore 45 s.data.toList)).getD i []) from fun _ => rfl)
  have HQ := hid (show numsV (fore 45 s.data.toList) = (decide ((cutl 46 (fore 45 s.data.toList)).length = 3) && (cutl 46 (fore 45 s.data.toList)).all numV) from rfl)
  have HM := hid (fun p (h : p ∈ cutl 46 (fore 45 s.data.toList)) => part_size h)
  generalize parseT s.data.toList = R at HR ⊢
  generalize nth s.data.toList = N at HR HN
  generalize verV s.data.toList = V at HV HR
  generalize hasPre s.data.toList = hp at HC HV
  generalize hA : aft 45 s.data.toList = A at *
  generalize hF : fore 45 s.data.toList = F at *
  clear hA hF
  generalize preV A = pv at HP HV
  generalize numsV F = nv at HV HQ
  have bad : V = false → ∀ w', Below w.heap.size w w' → Hid (Gives R w (.returned (.tuple #[verVal 0 0 0 [], .bool false])) w') := by
    intro h w' hb; exact hid (gives rfl (by rw [HR.out, h]; rfl) hb)
  have BAD := hid bad
  clear bad
  have go : (hp = true ∧ pv = false) ∨ (!hp || pv) = true := by cases hp <;> cases pv <;> simp
  rcases go with ⟨rfl, rfl⟩ | go
  · have hV := hid (show V = false by rw [HV.out]; simp)
    clear HS HQ HM
    go_enter Tryz.func24, Tryz.ntmps24
    go_upto_block 0 with (fail)
    have hres : Blk (w.alloc (.cells #[.int .i64 0, .int .i64 0, .int .i64 0, .string ⟨#[]⟩] 38)) w.heap.size [.int .i64 0, .int .i64 0, .int .i64 0, .string ⟨#[]⟩] 38 := Blk.new w _ _
    have hb0 : Below w.heap.size w (w.alloc (.cells #[.int .i64 0, .int .i64 0, .int .i64 0, .string ⟨#[]⟩] 38)) := below_alloc (Below.refl _ _) _
    generalize w.alloc (.cells #[.int .i64 0, .int .i64 0, .int .i64 0, .string ⟨#[]⟩] 38) = W0 at hres hb0 ⊢
    go_wp2_with (first
      | (go_at_call 42; (with_reducible refine (HC.out _).mono ?_); rintro e w1 ⟨rfl, hb1⟩)
      | (go_at_call 37; (with_reducible refine (HP.out _ ((hm.below hb0).below hb1)).mono ?_); rintro e w2 ⟨rfl, hb2⟩; have hq := (hres.below hb1).below hb2; have r0 := hq.cell 0 rfl; have r1 := hq.cell 1 rfl; have r2 := hq.cell 2 rfl; have r3 := hq.cell 3 rfl; have rf := hq.free))
    obtain ⟨q0, q1, q2, q3⟩ := four_cells hq (.int .i64 0) (.int .i64 0) (.int .i64 0) (.string ⟨#[]⟩) _ rfl
    exact bodyPost_ret (v := .tuple #[verVal 0 0 0 [], .bool false]) (by simp [results, Tryz.results24, go_sem, q0, q1, q2, q3]; rfl) rfl (BAD.out hV.out _ (setCells4 (below_trans (below_trans hb0 hb1) hb2) (Nat.le_refl _))).out
  · have hV := hid (show V = nv by rw [HV.out, go, Bool.and_true])
    have two : hp = false ∨ (hp = true ∧ pv = true) := by revert go; cases hp <;> cases pv <;> simp
    clear HV go
    have hF := hid hf
    have hS := hid hs
    clear hf ha hs
    rcases two with rfl | ⟨rfl, rfl⟩
    all_goals
      go_enter Tryz.func24, Tryz.ntmps24
      go_upto_block 0 with (fail)
      have hres : Blk (w.alloc (.cells #[.int .i64 0, .int .i64 0, .int .i64 0, .string ⟨#[]⟩] 38)) w.heap.size [.int .i64 0, .int .i64 0, .int .i64 0, .string ⟨#[]⟩] 38 := Blk.new w _ _
      have hb0 : Below w.heap.size w (w.alloc (.cells #[.int .i64 0, .int .i64 0, .int .i64 0, .string ⟨#[]⟩] 38)) := below_alloc (Below.refl _ _) _
      generalize w.alloc (.cells #[.int .i64 0, .int .i64 0, .int .i64 0, .string ⟨#[]⟩] 38) = W0 at hres hb0 ⊢
      go_wp2_with (first
        | (go_at_call 42; (with_reducible refine (HC.out _).mono ?_); rintro e w1 ⟨rfl, hb1⟩)
        | (go_at_call 37; (with_reducible refine (HP.out _ ((hm.below hb0).below hb1)).mono ?_); rintro e w2 ⟨rfl, hb2⟩))
      first
        | (have hx := below_trans (below_trans hb0 hb1) hb2; have hr := (hres.below hb1).below hb2)
        | (have hx := below_trans hb0 hb1; have hr := hres.below hb1)
      obtain ⟨W2, Vb, hW2, hVb, hst⟩ := PSt.make hx hr A
      simp only [hW2, hVb]
      clear hW2 hVb hx hr hb1 hb0 hres
      refine (HS.out _ (hm.below hst.kept)).mono ?_
      rintro e w3 ⟨gs, c, B, hB, ⟨h1, h2, h2'⟩, h3, h4, rfl, hb3, hc⟩
      have hBV : Vb ≠ B := by have := hst.var.lt; omega
      have hst := hst.below hb3
      clear hb3 hB
      by_cases hg : gs.length = 3
      · have hC : gs = cutl 46 F := by
          rcases Nat.lt_or_ge 4 (cutl 46 F).length with h | h
          · have := h2 h; omega
          · exact h1 h
        clear h1 h2 h2'
        have hne : ((gs.length : Int) != 3) = false := by rw [hg]; rfl
        rw [← hC] at HQ HM HN
        have hC' := hid hC
        clear hC
        have hg' := hid hg
        go_wp2_with fail
        go_loopw [36] (fun i wr => ∃ (k : Nat) (xs : List Nat), k ≤ 3 ∧ i = .int .i64 k ∧ PSt w wr Vb xs A ∧ CellsAt wr B 0 gs ∧ xs.length = 3 ∧ Hid ((gs.take k).all numV = true) ∧ Hid (∀ j, j < k → xs[j]? = some (numN (gs.getD j [])))) (fun i _ => 3 - (intOf i).toNat)
        case atStart => exact ⟨0, [0, 0, 0], by omega, rfl, hst, hc, rfl, hid rfl, hid (fun j hj => by omega)⟩
        case round =>
          obtain ⟨k, xs, hk, rfl, st, hc1, hxl, hp, hn⟩ := hrel
          clear hst hc
          by_cases hlt : k < 3
          · have hlt' : k < gs.length := by omega
            have hcell := hc1.2 k hlt'
            rw [Nat.zero_add] at hcell
            have hx := hid (show gs[k]? = some (gs.getD k []) by simp [List.getD, List.getElem?_eq_getElem hlt'])
            have hn' := hid (show ∀ x, x = numN (gs.getD k []) → ∀ j, j < k + 1 → (xs.set k x)[j]? = some (numN (gs.getD j [])) by
              rintro x rfl j hj
              rw [List.getElem?_set]
              by_cases e : k = j
              · subst e; rw [if_pos rfl, if_pos (by omega)]
              · rw [if_neg e]; exact hn.out j (by omega))
            generalize gs.getD k [] = g at hcell hx hn'
            have hgl : g.length ≤ s.size := Nat.le_trans (HM.out g (List.mem_of_getElem? hx.out)) hF.out
            have HG : Hid (∀ w, Calls Tryz.prog 44 #[.string ⟨g.toArray⟩] w (Gives (.tuple #[.int .i64 (numR g : Int), .bool (numV g)]) w)) := hid (number_any ⟨g.toArray⟩ (by show g.toArray.size ≤ maxLen; unfold maxLen; have := hS.out; simp; omega))
            have Y := hid (fun h => take_all hp.out hx.out h)
            have Z := hid (fun h => all_off (p := numV) hx.out h)
            have E := hid (show numV g = true → numR g = numN g from fun h => by unfold numR; rw [h]; rfl)
            clear hx hgl
            generalize numV g = b at *
            generalize numR g = nr at *
            cases b
            · have st2 := hid (fun wx (h : Below wr.heap.size wr wx) => st.below h)
              go_wp2_with (go_at_call 44; (with_reducible refine (HG.out _).mono ?_); rintro e w4 ⟨rfl, hb4⟩; have hq := (st2.out _ hb4).res; have r0 := hq.cell 0 rfl; have r1 := hq.cell 1 rfl; have r2 := hq.cell 2 rfl; have r3 := hq.cell 3 rfl; have rf := hq.free)
              obtain ⟨q0, q1, q2, q3⟩ := four_cells hq (.int .i64 0) (.int .i64 0) (.int .i64 0) (.string ⟨#[]⟩) _ rfl
              have hq := hid (show V = false by rw [hV.out, HQ.out, Z.out (by first | rfl | trivial), Bool.and_false])
              exact bodyPost_ret (v := .tuple #[verVal 0 0 0 [], .bool false]) (by simp [results, Tryz.results24, go_sem, q0, q1, q2, q3]; rfl) rfl (BAD.out hq.out _ (setCells4 (st2.out _ hb4).kept (Nat.le_refl _))).out
            · have st2 := hid (fun wx (h : Below wr.heap.size wr wx) => st.below h)
              go_wp2_with (go_at_call 44; (with_reducible refine (HG.out _).mono ?_); rintro e w4 ⟨rfl, hb4⟩; have hq := (st2.out _ hb4).var; have rf := hq.free; have rk := hq.cell k (v := .int .i64 ((xs.getD k 0 : Nat) : Int)) (by unfold rowV; rw [List.getElem?_append_left (by simp; omega)]; simp [List.getD, List.getElem?_eq_getElem (show k < xs.length by omega)]))
              go_roundw
              case rel => exact ⟨k + 1, xs.set k nr, by omega, by go_num, (st2.out _ hb4).set (by omega) nr, (hc1.below hb4).other hBV _, by simpa using hxl, hid (Y.out (by first | rfl | trivial)), hid (hn'.out nr (E.out (by first | rfl | trivial)))⟩
              case measure => simp [intOf]; omega
          · have hk3 : k = 3 := by omega
            subst hk3
            obtain ⟨x0, x1, x2, rfl⟩ : ∃ a b c, xs = [a, b, c] := by
              match xs, hxl with
              | [a, b, c], _ => exact ⟨a, b, c, rfl⟩
            have e0 := Option.some.inj (hn.out 0 (by decide))
            have e1 := Option.some.inj (hn.out 1 (by decide))
            have e2 := Option.some.inj (hn.out 2 (by decide))
            have hok := hid (show R = .tuple #[verVal x0 x1 x2 A, .bool true] by
              have hv : V = true := by
                rw [hV.out, HQ.out, decide_eq_true hg'.out]
                have := hp.out
                rw [List.take_of_length_le (by omega)] at this
                rw [this]; rfl
              rw [HR.out, hv, HN.out 0, HN.out 1, HN.out 2, e0, e1, e2]; rfl)
            clear e0 e1 e2 hn hp
            have v0 := st.var.cell 0 rfl
            have v1 := st.var.cell 1 rfl
            have v2 := st.var.cell 2 rfl
            have v3 := st.var.cell 3 rfl
            have vf := st.var.free
            have r0 := st.res.cell 0 rfl
            have r1 := st.res.cell 1 rfl
            have r2 := st.res.cell 2 rfl
            have r3 := st.res.cell 3 rfl
            have rf := st.res.free
            go_wp2_with fail
            obtain ⟨q0, q1, q2, q3⟩ := four_cells st.res (.int .i64 (x0 : Int)) (.int .i64 (x1 : Int)) (.int .i64 (x2 : Int)) (.string ⟨A.toArray⟩) _ rfl
            exact bodyPost_ret (v := .tuple #[verVal x0 x1 x2 A, .bool true]) (by simp [results, Tryz.results24, go_sem, q0, q1, q2, q3]; rfl) rfl (gives rfl hok.out.symm (setCells4 st.kept (Nat.le_refl _)))
      · have hne : ((gs.length : Int) != 3) = true := by simp; omega
        have hq := hid (show V = false by
          rw [hV.out, HQ.out, decide_eq_false]; rfl
          intro h
          exact hg (by rw [h1 (by omega), h]))
        clear h1 h2 h2'
        have r0 := hst.res.cell 0 rfl
        have r1 := hst.res.cell 1 rfl
        have r2 := hst.res.cell 2 rfl
        have r3 := hst.res.cell 3 rfl
        have rf := hst.res.free
        go_wp2_with fail
        obtain ⟨q0, q1, q2, q3⟩ := four_cells hst.res (.int .i64 0) (.int .i64 0) (.int .i64 0) (.string ⟨#[]⟩) _ rfl
        exact bodyPost_ret (v := .tuple #[verVal 0 0 0 [], .bool false]) (by simp [results, Tryz.results24, go_sem, q0, q1, q2, q3]; rfl) rfl (BAD.out hq.out _ (setCells4 hst.kept (Nat.le_refl _))).out
end Go.Proofs.YtebhgcejcdgdbaaGreatDoor.Vs
