/-
  LAYER 3, THE LAW VersionParses.
-/
import Derived.Test.YtiihhgdbgmplaaaDoorVersionRefText
namespace Go.Proofs.YtiihhgdbgmplaaaDoor.Vs
open Go.RowKit
open Go.Proofs.YtiihhgdbgmplaaaDoor Go.Proofs.YtiihhgdbgmplaaaDoor.Nu

set_option maxRecDepth 20000 in
set_option maxHeartbeats 2000000 in
theorem law_parses (s : ByteArray) (hs : s.size ≤ 140737488355328) (w : World) (hm : MaxAt w) (ht : TenAt w) :
    Calls Tryd.prog 3 #[.string s] w fun e w' => e = .returned (.bool true) ∧ Below w.heap.size w w' := by
  have HPD := hid parsed_any
  by_cases h200 : (200 : Int) < s.size
  · go_enter Tryd.func3, Tryd.ntmps3
    go_wp2_with (go_at_call 8; (with_reducible refine (HPD.out _ hm ht).mono ?_); rintro e w1 ⟨rfl, hb1⟩)
    go_ret
    exact ⟨rfl, hb1⟩
  · have hlt : s.size < 4294967281 := by omega
    have HP := hid (parse_any s hlt)
    have HR := hid (rparse_any s hlt)
    unfold RParseIs at HR
    cases hv : verV s.data.toList
    · have hT : parseT s.data.toList = .tuple #[.agg #[.int .i64 0, .int .i64 0, .int .i64 0, .string ⟨#[]⟩], .bool false] := by unfold parseT; rw [hv]; rfl
      rw [hT] at HP
      rw [hv] at HR
      clear hT hv
      go_enter Tryd.func3, Tryd.ntmps3
      go_wp2_with (go_at_call 9; (with_reducible refine (HP.out _ hm).mono ?_); rintro e w1 ⟨rfl, hb1⟩)
      have hV : Blk (w1.alloc (.cells #[.int .i64 0, .int .i64 0, .int .i64 0, .string ⟨#[]⟩] 25)) w1.heap.size [.int .i64 0, .int .i64 0, .int .i64 0, .string ⟨#[]⟩] 25 := Blk.new w1 _ _
      have hVb := below_alloc hb1 (.cells #[.int .i64 0, .int .i64 0, .int .i64 0, .string ⟨#[]⟩] 25)
      generalize w1.alloc (.cells #[.int .i64 0, .int .i64 0, .int .i64 0, .string ⟨#[]⟩] 25) = W1 at hV hVb ⊢
      generalize w1.heap.size = pv at hV ⊢
      refine (HR.out _).mono ?_
      rintro e w2 ⟨hb2, hcase⟩
      rcases hcase with ⟨_, rfl⟩ | ⟨h, _⟩
      · have hV2 := hV.below hb2
        have hV2b := below_trans hVb hb2
        clear hV hVb hb2 hb1
        simp only [show rVal 0 0 0 (.slice none 0 0) = .agg #[.int .i64 0, .int .i64 0, .int .i64 0, .slice none 0 0] from rfl]
        go_wp2_with fail
        have hV2A := hV2.alloc (.cells #[.int .i64 0, .int .i64 0, .int .i64 0, .slice none 0 0] 30)
        have hW : Blk (w2.alloc (.cells #[.int .i64 0, .int .i64 0, .int .i64 0, .slice none 0 0] 30)) w2.heap.size [.int .i64 0, .int .i64 0, .int .i64 0, .slice none 0 0] 30 := Blk.new w2 _ _
        have hWb := below_alloc hV2b (.cells #[.int .i64 0, .int .i64 0, .int .i64 0, .slice none 0 0] 30)
        generalize w2.alloc (.cells #[.int .i64 0, .int .i64 0, .int .i64 0, .slice none 0 0] 30) = W2 at hW hWb hV2A ⊢
        generalize w2.heap.size = pw at hW ⊢
        refine (HPD.out _ (hm.below hWb) (ht.below hWb)).mono ?_
        rintro e w3 ⟨rfl, hb3⟩
        have hV3 := hV2A.below hb3
        have hbb := below_trans hWb hb3
        clear hV2 hV2A hV2b hW hWb hb3
        have v0 := hV3.cell 0 rfl
        have v1 := hV3.cell 1 rfl
        have v2 := hV3.cell 2 rfl
        have v3 := hV3.cell 3 rfl
        have g2 : Tryd.prog.eqGuardType Tryd.prog.depth 25 = false := by kernel_rfl
        go_wp2_with fail
        go_ret
        exact ⟨rfl, hbb⟩
      · cases h
    · have hT : parseT s.data.toList = .tuple #[.agg #[.int .i64 (nth s.data.toList 0 : Int), .int .i64 (nth s.data.toList 1 : Int), .int .i64 (nth s.data.toList 2 : Int), .string ⟨(aft 45 s.data.toList).toArray⟩], .bool true] := by unfold parseT; rw [hv]; rfl
      rw [hT] at HP
      rw [hv] at HR
      obtain ⟨htx, l0, l1, l2, hpp, _⟩ := text_of hv
      have hal := aft_le s.data.toList
      rw [lenS] at hal
      have HC : Hid (∀ w, MaxAt w → Calls Tryd.prog 11 #[.agg #[.int .i64 (nth s.data.toList 0 : Int), .int .i64 (nth s.data.toList 1 : Int), .int .i64 (nth s.data.toList 2 : Int), .string ⟨(aft 45 s.data.toList).toArray⟩]] w (Gives (.bool true) w)) := hid (fun w h => by
        have := check_any (nth s.data.toList 0) (nth s.data.toList 1) (nth s.data.toList 2) (aft 45 s.data.toList) (by omega) w h
        rw [check_nat _ _ _ _ l0 l1 l2] at this
        rcases hpp with hpp | hpp
        · rw [decide_eq_true hpp] at this; exact this
        · rw [hpp, Bool.or_true] at this; exact this)
      have es : (⟨s.data.toList.toArray⟩ : ByteArray) = s := by simp
      have HX : Hid (∀ w, MaxAt w → TenAt w → Calls Tryd.prog 12 #[.agg #[.int .i64 (nth s.data.toList 0 : Int), .int .i64 (nth s.data.toList 1 : Int), .int .i64 (nth s.data.toList 2 : Int), .string ⟨(aft 45 s.data.toList).toArray⟩]] w (Gives (.string s) w)) := hid (fun w h h' => by
        have := text_yes (nth s.data.toList 0) (nth s.data.toList 1) (nth s.data.toList 2) (aft 45 s.data.toList) (by omega) l0 l1 l2 hpp w h h'
        rwa [htx, es] at this)
      have HRT : Hid (∀ pv w, PreAt w pv (preL s.data.toList) → Calls Tryd.prog 13 #[.agg #[.int .i64 (nth s.data.toList 0 : Int), .int .i64 (nth s.data.toList 1 : Int), .int .i64 (nth s.data.toList 2 : Int), pv]] w (Gives (.string s) w)) := hid (fun pv w h => by
        have := rtext_any s.data.toList (by rw [lenS]; exact hlt) hv pv w h
        rwa [es] at this)
      have hrv : ∀ pv, rVal (nth s.data.toList 0) (nth s.data.toList 1) (nth s.data.toList 2) pv = .agg #[.int .i64 (nth s.data.toList 0 : Int), .int .i64 (nth s.data.toList 1 : Int), .int .i64 (nth s.data.toList 2 : Int), pv] := fun _ => rfl
      clear hT hv htx l0 l1 l2 hpp hal es
      generalize preL s.data.toList = PL at HR HRT
      generalize aft 45 s.data.toList = A at HP HC HX
      generalize hN : nth s.data.toList = N at HP HR HC HX HRT hrv
      clear hN
      unfold RP at HR
      simp only [hrv] at HR
      clear hrv
      generalize ((N 0 : Nat) : Int) = n0 at HP HR HC HX HRT
      generalize ((N 1 : Nat) : Int) = n1 at HP HR HC HX HRT
      generalize ((N 2 : Nat) : Int) = n2 at HP HR HC HX HRT
      go_enter Tryd.func3, Tryd.ntmps3
      go_wp2_with (go_at_call 9; (with_reducible refine (HP.out _ hm).mono ?_); rintro e w1 ⟨rfl, hb1⟩)
      have hV : Blk (w1.alloc (.cells #[.int .i64 n0, .int .i64 n1, .int .i64 n2, .string ⟨A.toArray⟩] 25)) w1.heap.size [.int .i64 n0, .int .i64 n1, .int .i64 n2, .string ⟨A.toArray⟩] 25 := Blk.new w1 _ _
      have hVb := below_alloc hb1 (.cells #[.int .i64 n0, .int .i64 n1, .int .i64 n2, .string ⟨A.toArray⟩] 25)
      generalize w1.alloc (.cells #[.int .i64 n0, .int .i64 n1, .int .i64 n2, .string ⟨A.toArray⟩] 25) = W1 at hV hVb  ⊢
      generalize w1.heap.size = pv at hV ⊢
      refine (HR.out _).mono ?_
      rintro e w2 ⟨hb2, hcase⟩
      rcases hcase with ⟨h, _⟩ | ⟨_, qv, rfl, hPre⟩
      · cases h
      · have hV2 := hV.below hb2
        have hV2b := below_trans hVb hb2
        clear hV hVb hb2 hb1
        obtain ⟨pa, pn, pc, rfl⟩ : ∃ pa pn pc, qv = .slice pa pn pc := by
          rcases hPre with ⟨_, h⟩ | ⟨g, c, _, h, _⟩
          · exact ⟨_, _, _, h⟩
          · exact ⟨_, _, _, h⟩
        have hPA := hPre.below (below_alloc (Below.refl w2.heap.size w2) (.cells #[.int .i64 n0, .int .i64 n1, .int .i64 n2, .slice pa pn pc] 30))
        have hVA := hV2.alloc (.cells #[.int .i64 n0, .int .i64 n1, .int .i64 n2, .slice pa pn pc] 30)
        go_wp2_with fail
        have hW : Blk (w2.alloc (.cells #[.int .i64 n0, .int .i64 n1, .int .i64 n2, .slice pa pn pc] 30)) w2.heap.size [.int .i64 n0, .int .i64 n1, .int .i64 n2, .slice pa pn pc] 30 := Blk.new w2 _ _
        have hWb := below_alloc hV2b (.cells #[.int .i64 n0, .int .i64 n1, .int .i64 n2, .slice pa pn pc] 30)
        generalize w2.alloc (.cells #[.int .i64 n0, .int .i64 n1, .int .i64 n2, .slice pa pn pc] 30) = W2 at hW hWb hVA hPA ⊢
        generalize w2.heap.size = pw at hW ⊢
        refine (HPD.out _ (hm.below hWb) (ht.below hWb)).mono ?_
        rintro e w3 ⟨rfl, hb3⟩
        have hV3 := hVA.below hb3
        have hW3 := hW.below hb3
        have hP3 := hPA.below hb3
        have hbb := below_trans hWb hb3
        clear hV2 hVA hV2b hW hWb hb3 hPA hPre
        have v0 := hV3.cell 0 rfl
        have v1 := hV3.cell 1 rfl
        have v2 := hV3.cell 2 rfl
        have v3 := hV3.cell 3 rfl
        have u0 := hW3.cell 0 rfl
        have u1 := hW3.cell 1 rfl
        have u2 := hW3.cell 2 rfl
        have u3 := hW3.cell 3 rfl
        have g2 : Tryd.prog.eqGuardType Tryd.prog.depth 25 = false := by kernel_rfl
        have g3 : Tryd.prog.eqGuardType Tryd.prog.depth 23 = false := by kernel_rfl
        go_wp2_with fail
        clear v0 v1 v2 v3 u0 u1 u2 u3
        refine (HC.out _ (hm.below hbb)).mono ?_
        rintro e w4 ⟨rfl, hb4⟩
        have hV4 := hV3.below hb4
        have hW4 := hW3.below hb4
        have hP4 := hP3.below hb4
        have hb5 := below_trans hbb hb4
        clear hV3 hW3 hP3 hbb hb4
        have v0 := hV4.cell 0 rfl
        have v1 := hV4.cell 1 rfl
        have v2 := hV4.cell 2 rfl
        have v3 := hV4.cell 3 rfl
        have u0 := hW4.cell 0 rfl
        have u1 := hW4.cell 1 rfl
        have u2 := hW4.cell 2 rfl
        have u3 := hW4.cell 3 rfl
        go_wp2_with fail
        clear v0 v1 v2 v3 u0 u1 u2 u3
        refine (HX.out _ (hm.below hb5) (ht.below hb5)).mono ?_
        rintro e w5 ⟨rfl, hb6⟩
        have hV5 := hV4.below hb6
        have hW5 := hW4.below hb6
        have hP5 := hP4.below hb6
        have hb7 := below_trans hb5 hb6
        clear hV4 hW4 hP4 hb5 hb6
        have v0 := hV5.cell 0 rfl
        have v1 := hV5.cell 1 rfl
        have v2 := hV5.cell 2 rfl
        have v3 := hV5.cell 3 rfl
        have u0 := hW5.cell 0 rfl
        have u1 := hW5.cell 1 rfl
        have u2 := hW5.cell 2 rfl
        have u3 := hW5.cell 3 rfl
        go_wp2_with fail
        clear v0 v1 v2 v3 u0 u1 u2 u3
        refine (HRT.out _ _ hP5).mono ?_
        rintro e w6 ⟨rfl, hb8⟩
        have hV6 := hV5.below hb8
        have hW6 := hW5.below hb8
        have hb9 := below_trans hb7 hb8
        clear hV5 hW5 hP5 hb7 hb8
        have v0 := hV6.cell 0 rfl
        have v1 := hV6.cell 1 rfl
        have v2 := hV6.cell 2 rfl
        have v3 := hV6.cell 3 rfl
        have u0 := hW6.cell 0 rfl
        have u1 := hW6.cell 1 rfl
        have u2 := hW6.cell 2 rfl
        have u3 := hW6.cell 3 rfl
        go_wp2_with fail
        go_ret
        exact ⟨rfl, hb9⟩
end Go.Proofs.YtiihhgdbgmplaaaDoor.Vs
