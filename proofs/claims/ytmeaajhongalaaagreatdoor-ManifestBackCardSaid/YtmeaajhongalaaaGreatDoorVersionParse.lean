/-
  LAYER 3, PACKAGE version: Parse.
-/
import Derived.Test.YtmeaajhongalaaaGreatDoorVersionParts
import Derived.Deep.DeepCutAuto
import Derived.Deep.CutBlock
namespace Go.Proofs.YtmeaajhongalaaaGreatDoor.Vs
open Go.RowKit
open Go.Proofs.YtmeaajhongalaaaGreatDoor Go.Proofs.YtmeaajhongalaaaGreatDoor.Nu

def verVal (a b c : Nat) (pre : List UInt8) : Value := .agg #[.int .i64 (a : Int), .int .i64 (b : Int), .int .i64 (c : Int), .string ⟨pre.toArray⟩]
def parseT (l : List UInt8) : Value := .tuple #[if verV l then verVal (nth l 0) (nth l 1) (nth l 2) (aft 45 l) else verVal 0 0 0 [], .bool (verV l)]

theorem cut45 (s : ByteArray) (hs : s.size ≤ maxLen) (w : World) :
    Calls Tryz.prog 129 #[.string s, .string ⟨#[45]⟩] w (Gives (.tuple #[.string ⟨(fore 45 s.data.toList).toArray⟩, .string ⟨(aft 45 s.data.toList).toArray⟩, .bool (hasPre s.data.toList)]) w) :=
  Cb.cut_any s hs 45 w
theorem sizeL (l : List UInt8) (n : Nat) (h : l.length < n) : (⟨l.toArray⟩ : ByteArray).size < n := by
  show l.toArray.size < n; simpa using h
theorem aft_le (l : List UInt8) : (aft 45 l).length ≤ l.length := by
  rcases hasPre_cases l with ⟨_, _, _, h⟩ | ⟨_, _, h⟩
  · rw [h]; simp
  · have := congrArg List.length h; simp at this; omega
theorem fore_le (l : List UInt8) : (fore 45 l).length ≤ l.length := (List.takeWhile_sublist _).length_le

/-- three numbers and a text in memory -/
def rowV (xs : List Nat) (A : List UInt8) : List Value := xs.map (fun (x : Nat) => Value.int .i64 (x : Int)) ++ [.string ⟨A.toArray⟩]
theorem rowV_set {xs : List Nat} {A : List UInt8} {k : Nat} (h : k < xs.length) (x : Nat) : (rowV xs A).set k (.int .i64 (x : Int)) = rowV (xs.set k x) A := by
  unfold rowV
  rw [List.set_append_left _ _ (by simpa using h), List.map_set]
theorem four_cells {wr : World} {B : Nat} {e : TypeId} {x y z p : Value} (h : Blk wr B [x, y, z, p] e) (a b c d : Value) :
    ∀ W, W = ((((wr.setCell ⟨B, 0, none⟩ a).setCell ⟨B, 1, none⟩ b).setCell ⟨B, 2, none⟩ c).setCell ⟨B, 3, none⟩ d) →
    W.cell? ⟨B, 0, none⟩ = some a ∧ W.cell? ⟨B, 1, none⟩ = some b ∧ W.cell? ⟨B, 2, none⟩ = some c ∧ W.cell? ⟨B, 3, none⟩ = some d := by
  intro W hW
  subst hW
  have h' := (((h.set 0 a).set 1 b).set 2 c).set 3 d
  exact ⟨h'.cell 0 rfl, h'.cell 1 rfl, h'.cell 2 rfl, h'.cell 3 rfl⟩
theorem setCells4 {w wr : World} {B : Nat} (h : Below w.heap.size w wr) (hB : w.heap.size ≤ B) {a b c d : Nat} {va vb vc vd : Value} :
    Below w.heap.size w ((((wr.setCell ⟨B, a, none⟩ va).setCell ⟨B, b, none⟩ vb).setCell ⟨B, c, none⟩ vc).setCell ⟨B, d, none⟩ vd) :=
  (((h.setCell hB _).setCell hB _).setCell hB _).setCell hB _

theorem CellsAt.other {w : World} {B V : Nat} {gs : List (List UInt8)} (h : CellsAt w B 0 gs) (hne : V ≠ B) {k : Nat} (v : Value) : CellsAt (w.setCell ⟨V, k, none⟩ v) B 0 gs :=
  ⟨by have := h.1; simpa using this, fun j hj => by rw [World.cell?_setCell_other _ _ _ _ (by intro e; injection e with e; exact hne e)]; exact h.2 j hj⟩
/-- how the world stands in the midst of Parse -/
structure PSt (w wr : World) (V : Nat) (xs : List Nat) (A : List UInt8) : Prop where
  kept : Below w.heap.size w wr
  low : w.heap.size < V
  res : Blk wr w.heap.size [.int .i64 0, .int .i64 0, .int .i64 0, .string ⟨#[]⟩] 41
  var : Blk wr V (rowV xs A) 41
theorem PSt.below {w wr wx : World} {V : Nat} {xs : List Nat} {A : List UInt8} (h : PSt w wr V xs A) (hb : Below wr.heap.size wr wx) : PSt w wx V xs A :=
  ⟨below_trans h.kept hb, h.low, h.res.below hb, h.var.below hb⟩
theorem PSt.set {w wr : World} {V : Nat} {xs : List Nat} {A : List UInt8} (h : PSt w wr V xs A) {k : Nat} (hk : k < xs.length) (x : Nat) : PSt w (wr.setCell ⟨V, k, none⟩ (.int .i64 (x : Int))) V (xs.set k x) A :=
  ⟨h.kept.setCell (Nat.le_of_lt h.low) _, h.low, h.res.other (by have := h.low; show w.heap.size ≠ V; omega) _, by have := h.var.set k (.int .i64 (x : Int)); rwa [rowV_set hk] at this⟩

theorem PSt.make {w wr : World} (hx : Below w.heap.size w wr) (hr : Blk wr w.heap.size [.int .i64 0, .int .i64 0, .int .i64 0, .string ⟨#[]⟩] 41) (A : List UInt8) :
    ∃ W2 Vb, wr.alloc (.cells #[.int .i64 0, .int .i64 0, .int .i64 0, .string ⟨A.toArray⟩] 41) = W2 ∧ wr.heap.size = Vb ∧ PSt w W2 Vb [0, 0, 0] A :=
  ⟨_, _, rfl, rfl, below_alloc hx _, hr.lt, hr.alloc _, Blk.new _ _ _⟩

set_option maxHeartbeats 4000000 in
theorem parse_any (s : ByteArray) (hs : s.size < 4294967281) (w : World) (hm : MaxAt w) :
    Calls Tryz.prog 167 #[.string s] w (Gives (parseT s.data.toList) w) := by
  have hlen := hid (lenS s)
  have HC := hid (cut45 s (by unfold maxLen; omega))
  have ha := aft_le s.data.toList
  have hf := fore_le s.data.toList
  rw [hlen.out] at ha hf
  have HP : Hid (∀ w, MaxAt w → Calls Tryz.prog 119 #[.string ⟨(aft 45 s.data.toList).toArray⟩] w (Gives (.bool (preV (aft 45 s.data.toList))) w)) :=
    hid (checkPre_any ⟨(aft 45 s.data.toList).toArray⟩ (sizeL _ _ (by omega)))
  have HS : Hid (∀ w, MaxAt w → Calls Tryz.prog 144 #[.string ⟨(fore 45 s.data.toList).toArray⟩, .string ⟨#[46]⟩, .int .i64 4] w (SplitIs 4 (fore 45 s.data.toList) w)) :=
    hid (splitN_any ⟨(fore 45 s.data.toList).toArray⟩ (sizeL _ _ (by omega)) 4 (by decide) (by decide))
  have HV := hid (show verV s.data.toList = (numsV (fore 45 s.data.toList) && (!hasPre s.data.toList || preV (aft 45 s.data.toList))) from rfl)
  have HR := hid (show parseT s.data.toList = .tuple #[if verV s.data.toList then verVal (nth s.data.toList 0) (nth s.data.toList 1) (nth s.data.toList 2) (aft 45 s.data.toList) else verVal 0 0 0 [], .bool (verV s.data.toList)] from rfl)
  have HN := hid (show ∀ i, nth s.data.toList i = numN ((cutl 46 (fore 45 s.data.toList)).getD i []) from fun _ => rfl)
  have HQ := hid (show numsV (fore 45 s.data.toList) = (decide ((cutl 46 (fore 45 s.data.toList)).length = 3) && (cutl 46 (fore 45 s.data.toList)).all numV) from rfl)
  have HM := hid (fun p (h : p ∈ cutl 46 (fore 45 s.data.toList)) => part_size h)
  generalize parseT s.data.toList = R at HR ⊢
  generalize nth s.data.toList = N at HR HN
  generalize verV s.data.toList = V at HV HR
  generalize hasPre s.data.toList = hp at HC HV
  generalize hA : aft 45 s.data.toList = A at *
  generalize hF : fore 45 s.data.toList = F at *
  clear hA hF
  generalize preV A = pv at HP HV
  generalize numsV F = nv at HV HQ
  have bad : V = false → ∀ w', Below w.heap.size w w' → Hid (Gives R w (.returned (.tuple #[verVal 0 0 0 [], .bool false])) w') := by
    intro h w' hb; exact hid (gives rfl (by rw [HR.out, h]; rfl) hb)
  have BAD := hid bad
  clear bad
  have go : (hp = true ∧ pv = false) ∨ (!hp || pv) = true := by cases hp <;> cases pv <;> simp
  rcases go with ⟨rfl, rfl⟩ | go
  · have hV := hid (show V = false by rw [HV.out]; simp)
    clear HS HQ HM
    go_enter Tryz.func167, Tryz.ntmps167
    go_upto_block 0 with (fail)
    have hres : Blk (w.alloc (.cells #[.int .i64 0, .int .i64 0, .int .i64 0, .string ⟨#[]⟩] 41)) w.heap.size [.int .i64 0, .int .i64 0, .int .i64 0, .string ⟨#[]⟩] 41 := Blk.new w _ _
    have hb0 : Below w.heap.size w (w.alloc (.cells #[.int .i64 0, .int .i64 0, .int .i64 0, .string ⟨#[]⟩] 41)) := below_alloc (Below.refl _ _) _
    generalize w.alloc (.cells #[.int .i64 0, .int .i64 0, .int .i64 0, .string ⟨#[]⟩] 41) = W0 at hres hb0 ⊢
    go_wp2_with (first
      | (go_at_call 129; (with_reducible refine (HC.out _).mono ?_); rintro e w1 ⟨rfl, hb1⟩)
      | (go_at_call 119; (with_reducible refine (HP.out _ ((hm.below hb0).below hb1)).mono ?_); rintro e w2 ⟨rfl, hb2⟩; have hq := (hres.below hb1).below hb2; have r0 := hq.cell 0 rfl; have r1 := hq.cell 1 rfl; have r2 := hq.cell 2 rfl; have r3 := hq.cell 3 rfl; have rf := hq.free))
    obtain ⟨q0, q1, q2, q3⟩ := four_cells hq (.int .i64 0) (.int .i64 0) (.int .i64 0) (.string ⟨#[]⟩) _ rfl
    exact bodyPost_ret (v := .tuple #[verVal 0 0 0 [], .bool false]) (by simp [results, Tryz.results167, go_sem, q0, q1, q2, q3]; rfl) rfl (BAD.out hV.out _ (setCells4 (below_trans (below_trans hb0 hb1) hb2) (Nat.le_refl _))).out
  · have hV := hid (show V = nv by rw [HV.out, go, Bool.and_true])
    have two : hp = false ∨ (hp = true ∧ pv = true) := by revert go; cases hp <;> cases pv <;> simp
    clear HV go
    have hF := hid hf
    have hS := hid hs
    clear hf ha hs
    rcases two with rfl | ⟨rfl, rfl⟩
    all_goals
      go_enter Tryz.func167, Tryz.ntmps167
      go_upto_block 0 with (fail)
      have hres : Blk (w.alloc (.cells #[.int .i64 0, .int .i64 0, .int .i64 0, .string ⟨#[]⟩] 41)) w.heap.size [.int .i64 0, .int .i64 0, .int .i64 0, .string ⟨#[]⟩] 41 := Blk.new w _ _
      have hb0 : Below w.heap.size w (w.alloc (.cells #[.int .i64 0, .int .i64 0, .int .i64 0, .string ⟨#[]⟩] 41)) := below_alloc (Below.refl _ _) _
      generalize w.alloc (.cells #[.int .i64 0, .int .i64 0, .int .i64 0, .string ⟨#[]⟩] 41) = W0 at hres hb0 ⊢
      go_wp2_with (first
        | (go_at_call 129; (with_reducible refine (HC.out _).mono ?_); rintro e w1 ⟨rfl, hb1⟩)
        | (go_at_call 119; (with_reducible refine (HP.out _ ((hm.below hb0).below hb1)).mono ?_); rintro e w2 ⟨rfl, hb2⟩))
      first
        | (have hx := below_trans (below_trans hb0 hb1) hb2; have hr := (hres.below hb1).below hb2)
        | (have hx := below_trans hb0 hb1; have hr := hres.below hb1)
      obtain ⟨W2, Vb, hW2, hVb, hst⟩ := PSt.make hx hr A
      simp only [hW2, hVb]
      clear hW2 hVb hx hr hb1 hb0 hres
      refine (HS.out _ (hm.below hst.kept)).mono ?_
      rintro e w3 ⟨gs, c, B, hB, ⟨h1, h2, h2'⟩, h3, h4, rfl, hb3, hc⟩
      have hBV : Vb ≠ B := by have := hst.var.lt; omega
      have hst := hst.below hb3
      clear hb3 hB
      by_cases hg : gs.length = 3
      · have hC : gs = cutl 46 F := by
          rcases Nat.lt_or_ge 4 (cutl 46 F).length with h | h
          · have := h2 h; omega
          · exact h1 h
        clear h1 h2 h2'
        have hne : ((gs.length : Int) != 3) = false := by rw [hg]; rfl
        rw [← hC] at HQ HM HN
        have hC' := hid hC
        clear hC
        have hg' := hid hg
        go_wp2_with fail
        go_loopw [36] (fun i wr => ∃ (k : Nat) (xs : List Nat), k ≤ 3 ∧ i = .int .i64 k ∧ PSt w wr Vb xs A ∧ CellsAt wr B 0 gs ∧ xs.length = 3 ∧ Hid ((gs.take k).all numV = true) ∧ Hid (∀ j, j < k → xs[j]? = some (numN (gs.getD j [])))) (fun i _ => 3 - (intOf i).toNat)
        case atStart => exact ⟨0, [0, 0, 0], by omega, rfl, hst, hc, rfl, hid rfl, hid (fun j hj => by omega)⟩
        case round =>
          obtain ⟨k, xs, hk, rfl, st, hc1, hxl, hp, hn⟩ := hrel
          clear hst hc
          by_cases hlt : k < 3
          · have hlt' : k < gs.length := by omega
            have hcell := hc1.2 k hlt'
            rw [Nat.zero_add] at hcell
            have hx := hid (show gs[k]? = some (gs.getD k []) by simp [List.getD, List.getElem?_eq_getElem hlt'])
            have hn' := hid (show ∀ x, x = numN (gs.getD k []) → ∀ j, j < k + 1 → (xs.set k x)[j]? = some (numN (gs.getD j [])) by
              rintro x rfl j hj
              rw [List.getElem?_set]
              by_cases e : k = j
              · subst e; rw [if_pos rfl, if_pos (by omega)]
              · rw [if_neg e]; exact hn.out j (by omega))
            generalize gs.getD k [] = g at hcell hx hn'
            have hgl : g.length ≤ s.size := Nat.le_trans (HM.out g (List.mem_of_getElem? hx.out)) hF.out
            have HG : Hid (∀ w, Calls Tryz.prog 200 #[.string ⟨g.toArray⟩] w (Gives (.tuple #[.int .i64 (numR g : Int), .bool (numV g)]) w)) := hid (number_any ⟨g.toArray⟩ (by show g.toArray.size ≤ maxLen; unfold maxLen; have := hS.out; simp; omega))
            have Y := hid (fun h => take_all hp.out hx.out h)
            have Z := hid (fun h => all_off (p := numV) hx.out h)
            have E := hid (show numV g = true → numR g = numN g from fun h => by unfold numR; rw [h]; rfl)
            clear hx hgl
            generalize numV g = b at *
            generalize numR g = nr at *
            cases b
            · have st2 := hid (fun wx (h : Below wr.heap.size wr wx) => st.below h)
              go_wp2_with (go_at_call 200; (with_reducible refine (HG.out _).mono ?_); rintro e w4 ⟨rfl, hb4⟩; have hq := (st2.out _ hb4).res; have r0 := hq.cell 0 rfl; have r1 := hq.cell 1 rfl; have r2 := hq.cell 2 rfl; have r3 := hq.cell 3 rfl; have rf := hq.free)
              obtain ⟨q0, q1, q2, q3⟩ := four_cells hq (.int .i64 0) (.int .i64 0) (.int .i64 0) (.string ⟨#[]⟩) _ rfl
              have hq := hid (show V = false by rw [hV.out, HQ.out, Z.out (by first | rfl | trivial), Bool.and_false])
              exact bodyPost_ret (v := .tuple #[verVal 0 0 0 [], .bool false]) (by simp [results, Tryz.results167, go_sem, q0, q1, q2, q3]; rfl) rfl (BAD.out hq.out _ (setCells4 (st2.out _ hb4).kept (Nat.le_refl _))).out
            · have st2 := hid (fun wx (h : Below wr.heap.size wr wx) => st.below h)
              go_wp2_with (go_at_call 200; (with_reducible refine (HG.out _).mono ?_); rintro e w4 ⟨rfl, hb4⟩; have hq := (st2.out _ hb4).var; have rf := hq.free; have rk := hq.cell k (v := .int .i64 ((xs.getD k 0 : Nat) : Int)) (by unfold rowV; rw [List.getElem?_append_left (by simp; omega)]; simp [List.getD, List.getElem?_eq_getElem (show k < xs.length by omega)]))
              go_roundw
              case rel => exact ⟨k + 1, xs.set k nr, by omega, by go_num, (st2.out _ hb4).set (by omega) nr, (hc1.below hb4).other hBV _, by simpa using hxl, hid (Y.out (by first | rfl | trivial)), hid (hn'.out nr (E.out (by first | rfl | trivial)))⟩
              case measure => simp [intOf]; omega
          · have hk3 : k = 3 := by omega
            subst hk3
            obtain ⟨x0, x1, x2, rfl⟩ : ∃ a b c, xs = [a, b, c] := by
              match xs, hxl with
              | [a, b, c], _ => exact ⟨a, b, c, rfl⟩
            have e0 := Option.some.inj (hn.out 0 (by decide))
            have e1 := Option.some.inj (hn.out 1 (by decide))
            have e2 := Option.some.inj (hn.out 2 (by decide))
            have hok := hid (show R = .tuple #[verVal x0 x1 x2 A, .bool true] by
              have hv : V = true := by
                rw [hV.out, HQ.out, decide_eq_true hg'.out]
                have := hp.out
                rw [List.take_of_length_le (by omega)] at this
                rw [this]; rfl
              rw [HR.out, hv, HN.out 0, HN.out 1, HN.out 2, e0, e1, e2]; rfl)
            clear e0 e1 e2 hn hp
            have v0 := st.var.cell 0 rfl
            have v1 := st.var.cell 1 rfl
            have v2 := st.var.cell 2 rfl
            have v3 := st.var.cell 3 rfl
            have vf := st.var.free
            have r0 := st.res.cell 0 rfl
            have r1 := st.res.cell 1 rfl
            have r2 := st.res.cell 2 rfl
            have r3 := st.res.cell 3 rfl
            have rf := st.res.free
            go_wp2_with fail
            obtain ⟨q0, q1, q2, q3⟩ := four_cells st.res (.int .i64 (x0 : Int)) (.int .i64 (x1 : Int)) (.int .i64 (x2 : Int)) (.string ⟨A.toArray⟩) _ rfl
            exact bodyPost_ret (v := .tuple #[verVal x0 x1 x2 A, .bool true]) (by simp [results, Tryz.results167, go_sem, q0, q1, q2, q3]; rfl) rfl (gives rfl hok.out.symm (setCells4 st.kept (Nat.le_refl _)))
      · have hne : ((gs.length : Int) != 3) = true := by simp; omega
        have hq := hid (show V = false by
          rw [hV.out, HQ.out, decide_eq_false]; rfl
          intro h
          exact hg (by rw [h1 (by omega), h]))
        clear h1 h2 h2'
        have r0 := hst.res.cell 0 rfl
        have r1 := hst.res.cell 1 rfl
        have r2 := hst.res.cell 2 rfl
        have r3 := hst.res.cell 3 rfl
        have rf := hst.res.free
        go_wp2_with fail
        obtain ⟨q0, q1, q2, q3⟩ := four_cells hst.res (.int .i64 0) (.int .i64 0) (.int .i64 0) (.string ⟨#[]⟩) _ rfl
        exact bodyPost_ret (v := .tuple #[verVal 0 0 0 [], .bool false]) (by simp [results, Tryz.results167, go_sem, q0, q1, q2, q3]; rfl) rfl (BAD.out hq.out _ (setCells4 hst.kept (Nat.le_refl _))).out
end Go.Proofs.YtmeaajhongalaaaGreatDoor.Vs
