/-
  LAYER 12: the document's Resolve.
-/
import Derived.Test.YtopneceicamakaaCnfDocNorm
namespace Go.Proofs.Ytopneceicamakaa.Cf
open Go.RowKit Go.Proofs.Ytopneceicamakaa Go.Proofs.Ytopneceicamakaa.Ln

theorem taut_mem {a b : List Int} (h : ∀ x, x ∈ a ↔ x ∈ b) : tautD a = tautD b := by
  rw [Bool.eq_iff_iff]
  unfold tautD
  rw [List.any_eq_true, List.any_eq_true]
  constructor
  · rintro ⟨x, hx, hc⟩
    rw [List.contains_iff_mem] at hc
    exact ⟨x, (h x).1 hx, by rw [List.contains_iff_mem]; exact (h _).1 hc⟩
  · rintro ⟨x, hx, hc⟩
    rw [List.contains_iff_mem] at hc
    exact ⟨x, (h x).2 hx, by rw [List.contains_iff_mem]; exact (h _).2 hc⟩
theorem litsOk_norm {l : List Int} (h : litsOk l) : litsOk (normC l) := fun x hx => h x ((normC_mem l x).1 hx)
theorem litsOk_drop {l : List Int} (h : litsOk l) (y : Int) : litsOk (dropL l y) := fun x hx => h x (List.mem_filter.1 hx).1
theorem litsOk_app {a b : List Int} (ha : litsOk a) (hb : litsOk b) : litsOk (a ++ b) := fun x hx => (List.mem_append.1 hx).elim (ha x) (hb x)
/-- what Resolve comes to, as the document says it -/
theorem resC_doc {a b : List Int} {v : Int} (ha : litsOk a) (hb : litsOk b) (hg : ¬ (v < 1 ∨ a.contains v = false ∨ b.contains (-v) = false)) :
    resC a b v = if tautD (dropL a v ++ dropL b (-v)) then none else some (normC (dropL a v ++ dropL b (-v))) := by
  unfold resC
  rw [if_neg hg, adj_taut (litsOk_norm (litsOk_app (litsOk_drop ha v) (litsOk_drop hb (-v)))), taut_mem (fun x => normC_mem _ x)]
theorem dropT_skip {l : List Int} {y : Int} {m : Nat} (h : m < l.length) (e : (l.getD m 0 != y) = false) : dropL (l.take (m + 1)) y = dropL (l.take m) y := by
  have hx : l.getD m 0 = l[m] := by rw [List.getD_eq_getElem?_getD, List.getElem?_eq_getElem h]; rfl
  rw [hx] at e
  have e2 : l[m] = y := by simpa using e
  unfold dropL
  rw [List.take_add_one, List.filter_append, List.getElem?_eq_getElem h]
  simp [e2]
theorem dropT_keep {l : List Int} {y : Int} {m : Nat} (h : m < l.length) (e : (l.getD m 0 != y) = true) : dropL (l.take (m + 1)) y = dropL (l.take m) y ++ [l.getD m 0] := by
  have hx : l.getD m 0 = l[m] := by rw [List.getD_eq_getElem?_getD, List.getElem?_eq_getElem h]; rfl
  rw [hx] at e ⊢
  have e2 : ¬ l[m] = y := by simpa using e
  unfold dropL
  rw [List.take_add_one, List.filter_append, List.getElem?_eq_getElem h]
  simp [e2]

theorem drop_len (l : List Int) (y : Int) : (dropL l y).length ≤ l.length := List.length_filter_le _ _

set_option maxHeartbeats 4000000 in
theorem refResolve_any (va vb : Value) (a b : List Int) (v : Int) (hv : v ≤ 9223372036854775807) (ha : litsOk a) (hb : litsOk b) (hla : a.length ≤ 400) (hlb : b.length ≤ 400) (w : World) (hA : Ints w va a) (hB : Ints w vb b) :
    Calls Try.prog 24 #[va, vb, .int .i64 v] w fun e w' => (∃ v' : Value, e = .returned (.tuple #[v', .bool (resC a b v).isSome]) ∧ Ints w' v' ((resC a b v).getD [])) ∧ Below w.heap.size w w' := by
  obtain ⟨i0, q1, q2, q3, q4⟩ := info_parts infoI
  have hi := hid q1
  have hz0 := hid q2
  have hz1 := hid q3
  have hz2 := hid q4
  clear q1 q2 q3 q4
  have KA := hid hA
  have KB := hid hB
  obtain ⟨aa, ca, rfl, _, _, hca⟩ := hA.shape
  obtain ⟨ab, cb, rfl, _, _, hcb⟩ := hB.shape
  have NONE : ∀ (o : Option (List Int)) (w' : World), o = none → (.returned (.tuple #[.slice none 0 0, .bool false]) : Ending) = .returned (.tuple #[.slice none 0 0, .bool o.isSome]) ∧ Ints w' (.slice none 0 0) (o.getD []) := fun o w' e => by rw [e]; exact ⟨rfl, Cells.nil _ none 0⟩
  have HNONE := hid NONE
  clear NONE
  have HCA := hid hca
  have HCB := hid hcb
  clear hca hcb
  by_cases hv1 : v < 1
  · have E := hid (show resC a b v = none by unfold resC; rw [if_pos (.inl hv1)])
    clear hA hB
    generalize a.length = qa at *
    generalize b.length = qb at *
    go_enter Try.func24, Try.ntmps24
    go_wp2_with fail
    go_ret2
    exact ⟨⟨_, HNONE.out _ w E.out⟩, Below.refl _ _⟩
  have hneg : IntKind.i64.wrap (-v) = -v := IntWalk.i64_in _ (by omega)
  have CA := hid (refHas_any _ a v w hA)
  have CB := hid (refHas_any _ b (-v) w hB)
  cases ka : a.contains v
  · have E := hid (show resC a b v = none by unfold resC; rw [if_pos (.inr (.inl ka))])
    rw [ka] at CA
    clear hA hB ka
    generalize a.length = qa at *
    generalize b.length = qb at *
    go_enter Try.func24, Try.ntmps24
    go_wp2_with fail
    refine CA.out.mono ?_
    rintro e w1 ⟨rfl, rfl⟩
    go_wp2_with fail
    go_ret2
    exact ⟨⟨_, HNONE.out _ _ E.out⟩, Below.refl _ _⟩
  cases kb : b.contains (-v)
  · have E := hid (show resC a b v = none by unfold resC; rw [if_pos (.inr (.inr kb))])
    rw [ka] at CA
    rw [kb] at CB
    clear hA hB ka kb
    generalize a.length = qa at *
    generalize b.length = qb at *
    go_enter Try.func24, Try.ntmps24
    go_wp2_with fail
    refine CA.out.mono ?_
    rintro e w1 ⟨rfl, rfl⟩
    go_wp2_with fail
    refine CB.out.mono ?_
    rintro e w1 ⟨rfl, rfl⟩
    go_wp2_with fail
    go_ret2
    exact ⟨⟨_, HNONE.out _ _ E.out⟩, Below.refl _ _⟩
  have hg : ¬ (v < 1 ∨ a.contains v = false ∨ b.contains (-v) = false) := by rw [ka, kb]; simp; omega
  have HR := hid (resC_doc ha hb hg)
  have LO := hid (litsOk_app (litsOk_drop ha v) (litsOk_drop hb (-v)))
  have LA := hid ha
  have LB := hid hb
  have SA := hid (fun m (h : m < a.length) (e : (a.getD m 0 != v) = false) => dropT_skip h e)
  have TA := hid (fun m (h : m < a.length) (e : (a.getD m 0 != v) = true) => dropT_keep h e)
  have SB := hid (fun m (h : m < b.length) (e : (b.getD m 0 != -v) = false) => dropT_skip h e)
  have TB := hid (fun m (h : m < b.length) (e : (b.getD m 0 != -v) = true) => dropT_keep h e)
  have FA := hid (show dropL (a.take a.length) v = dropL a v by rw [List.take_length])
  have FB := hid (show dropL (b.take b.length) (-v) = dropL b (-v) by rw [List.take_length])
  have DL := hid (fun (l : List Int) m y => show (dropL (l.take m) y).length ≤ m from Nat.le_trans (drop_len _ _) (by rw [List.length_take]; omega))
  have ML := hid (show (dropL a v ++ dropL b (-v)).length ≤ 1000 by
    rw [List.length_append]; have := drop_len a v; have := drop_len b (-v); omega)
  rw [ka] at CA
  rw [kb] at CB
  generalize a.length = qa at *
  generalize b.length = qb at *
  clear hA hB ka kb hg ha hb HNONE KA KB
  generalize hrr : resC a b v = rr at *
  clear hrr
  go_enter Try.func24, Try.ntmps24
  go_wp2_with fail
  refine CA.out.mono ?_
  rintro e w1 ⟨rfl, rfl⟩
  go_wp2_with fail
  refine CB.out.mono ?_
  rintro e w1 ⟨rfl, rfl⟩
  clear CA CB
  go_wp2_with fail
  go_loopw [8, 9] (fun o i wr => ∃ m : Nat, i = .int .i64 (m : Int) ∧ m ≤ qa ∧ Hid (Owned w.heap.size wr o (dropL (a.take m) v) ∧ Below w.heap.size w wr)) (fun _ i _ => qa - (intOf i).toNat)
  case atStart => exact ⟨0, rfl, Nat.zero_le _, hid ⟨World.ownsRow_nil _ _ _ _, Below.refl _ _⟩⟩
  case round =>
    obtain ⟨m, rfl, hmn, HW⟩ := hrel
    by_cases hlt : m < qa
    · obtain ⟨B, o, rfl, hB, hcc⟩ := HCA.out (by omega)
      have hcm := (HW.out.2.cell (p := ⟨B, o + m, none⟩) hB).trans (hcc m hlt)
      have SAm := hid (SA.out m hlt)
      have TAm := hid (TA.out m hlt)
      have hD := DL.out a m v
      clear hcc SA TA SB TB FA FB DL
      generalize a.getD m 0 = x at *
      cases hx : (x != v)
      · have E := hid (SAm.out hx)
        clear SAm TAm
        go_wp2_with fail
        go_roundw
        case rel => exact ⟨m + 1, by go_num, by omega, hid ⟨by rw [E.out]; exact HW.out.1, HW.out.2⟩⟩
        case measure => simp [intOf]; omega
      · have E := hid (TAm.out hx)
        have hown := HW.out.1
        have hbl := HW.out.2
        have hsz := hbl.size
        unfold Owned at hown
        clear SAm TAm HW
        generalize hL : dropL (a.take m) v = L at *
        clear hL
        generalize hn : L.length = n at *
        have HN := hid hn
        clear hn
        go_wp2_with (at_builtin; refine wpList_append_own _ rfl (.tmp 38) (.tmp 43) 31 rfl w.heap.size 3 i0 (.int .i64 0) 1 8 Try.underlying31 hi.out hz0.out hz1.out hz2.out rfl (by decide) _ _ _ rfl (hown.alloc _) ⟨wr.heap.size, 0, none⟩ 1 1 [.int .i64 x] rfl rfl ?e1 ?e2 ?e3 ?e4 ?e5 ?_)
        case e1 => exact cell_one_new _ _ _
        case e2 => intro u hu; simp at hu; subst hu; rfl
        case e3 => unfold maxLen; omega
        case e4 => omega
        case e5 => simp; omega
        intro v2 w2 hown2 hgrow2 _
        have hb2 : Below w.heap.size w w2 := (hbl.alloc (by omega) _).grown hgrow2 (by simp; omega) (fun k hk => (hown.lt k hk).1)
        clear hgrow2 hown hbl
        go_wp2_with fail
        go_roundw
        case rel => exact ⟨m + 1, by go_num, by omega, hid ⟨by rw [E.out]; exact own_join hown2 (by simp [intsV]) (Nat.le_refl _), hb2⟩⟩
        case measure => simp [intOf]; omega
    · have hm2 : m = qa := by omega
      subst hm2
      rw [FA.out] at HW
      have W0 := hid HW.out
      have hD0 := DL.out a m v
      rw [FA.out] at hD0
      clear HW SA TA FA HCA
      generalize hDA : dropL a v = DA at *
      clear hDA
      go_wp2_with fail
      go_loopw [8, 10] (fun o i wi => ∃ j : Nat, i = .int .i64 (j : Int) ∧ j ≤ qb ∧ Hid (Owned w.heap.size wi o (DA ++ dropL (b.take j) (-v)) ∧ Below w.heap.size w wi)) (fun _ i _ => qb - (intOf i).toNat)
      case atStart => exact ⟨0, rfl, Nat.zero_le _, hid ⟨by rw [show dropL (b.take 0) (-v) = [] from rfl, List.append_nil]; exact W0.out.1, W0.out.2⟩⟩
      case round =>
        obtain ⟨j, rfl, hjn, HW⟩ := hrel
        by_cases hlt2 : j < qb
        · obtain ⟨B, o, rfl, hB, hcc⟩ := HCB.out (by omega)
          have hcm := (HW.out.2.cell (p := ⟨B, o + j, none⟩) hB).trans (hcc j hlt2)
          have SBm := hid (SB.out j hlt2)
          have TBm := hid (TB.out j hlt2)
          have hD := DL.out b j (-v)
          clear hcc SB TB FB DL
          generalize b.getD j 0 = x at *
          cases hx : (x != -v)
          · have E := hid (SBm.out hx)
            clear SBm TBm
            go_wp2_with fail
            go_roundw
            case rel => exact ⟨j + 1, by go_num, by omega, hid ⟨by rw [E.out]; exact HW.out.1, HW.out.2⟩⟩
            case measure => simp [intOf]; omega
          · have E := hid (TBm.out hx)
            have hown := HW.out.1
            have hbl := HW.out.2
            have hsz := hbl.size
            unfold Owned at hown
            clear SBm TBm HW
            have hLL : (DA ++ dropL (b.take j) (-v)).length ≤ m + j := by rw [List.length_append]; omega
            have EE := hid (show DA ++ dropL (b.take (j + 1)) (-v) = (DA ++ dropL (b.take j) (-v)) ++ [x] by rw [E.out, List.append_assoc])
            clear E
            generalize hL : DA ++ dropL (b.take j) (-v) = L at *
            clear hL
            generalize hn : L.length = n at *
            have HN := hid hn
            clear hn
            go_wp2_with (at_builtin; refine wpList_append_own _ rfl (.tmp 58) (.tmp 63) 31 rfl w.heap.size 3 i0 (.int .i64 0) 1 8 Try.underlying31 hi.out hz0.out hz1.out hz2.out rfl (by decide) _ _ _ rfl (hown.alloc _) ⟨wr.heap.size, 0, none⟩ 1 1 [.int .i64 x] rfl rfl ?e1 ?e2 ?e3 ?e4 ?e5 ?_)
            case e1 => exact cell_one_new _ _ _
            case e2 => intro u hu; simp at hu; subst hu; rfl
            case e3 => unfold maxLen; omega
            case e4 => omega
            case e5 => simp; omega
            intro v2 w2 hown2 hgrow2 _
            have hb2 : Below w.heap.size w w2 := (hbl.alloc (by omega) _).grown hgrow2 (by simp; omega) (fun k hk => (hown.lt k hk).1)
            clear hgrow2 hown hbl
            go_wp2_with fail
            go_roundw
            case rel => exact ⟨j + 1, by go_num, by omega, hid ⟨by rw [EE.out]; exact own_join hown2 (by simp [intsV]) (Nat.le_refl _), hb2⟩⟩
            case measure => simp [intOf]; omega
        · have hj2 : j = qb := by omega
          subst hj2
          rw [FB.out] at HW
          have W1 := hid HW.out
          clear HW SB TB FB HCB W0
          generalize hX : DA ++ dropL b (-v) = X at *
          clear hX
          have OI := hid (Owned.ints W1.out.1 (by have := ML.out; omega))
          obtain ⟨ax, cx, rfl⟩ := own_shape W1.out.1
          have TT := hid (refTaut_any _ X LO.out.ok wr OI.out)
          cases ht : tautD X
          · have E := hid (show rr = some (normC X) by rw [HR.out, ht]; rfl)
            have NN := hid (refNorm_any _ X LO.out.ok ML.out wr OI.out)
            rw [ht] at TT
            generalize normC X = NX at *
            generalize X.length = nx at *
            clear ht HR
            go_wp2_with fail
            refine TT.out.mono ?_
            rintro e w2 ⟨rfl, rfl⟩
            go_wp2_with fail
            refine NN.out.mono ?_
            rintro e w2 ⟨v2, rfl, hi2, hb2⟩
            have B2 := hid (W1.out.2.trans (hb2.mono W1.out.2.size))
            have I2 := hid hi2
            obtain ⟨a2, c2, rfl, _, _, _⟩ := hi2.shape
            clear hi2 hb2
            go_wp2_with fail
            go_ret2
            exact ⟨⟨_, by rw [E.out]; rfl, by rw [E.out]; exact I2.out⟩, B2.out⟩
          · have E := hid (show rr = none by rw [HR.out, ht]; rfl)
            rw [ht] at TT
            generalize X.length = nx at *
            clear ht HR
            go_wp2_with fail
            refine TT.out.mono ?_
            rintro e w2 ⟨rfl, rfl⟩
            go_wp2_with fail
            go_ret2
            exact ⟨⟨_, by rw [E.out]; rfl, by rw [E.out]; exact Cells.nil _ none 0⟩, W1.out.2⟩
end Go.Proofs.Ytopneceicamakaa.Cf
