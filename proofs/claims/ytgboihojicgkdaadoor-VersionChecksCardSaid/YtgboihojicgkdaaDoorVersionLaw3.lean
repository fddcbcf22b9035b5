/-
  LAYER 3, THE LAW VersionChecks: three numbers of a version's, and a text behind them.
-/
import Derived.Test.YtgboihojicgkdaaDoorVersionLaw2
namespace Go.Proofs.YtgboihojicgkdaaDoor.Vs
open Go.RowKit
open Go.Proofs.YtgboihojicgkdaaDoor Go.Proofs.YtgboihojicgkdaaDoor.Nu

set_option maxRecDepth 20000 in
set_option maxHeartbeats 2000000 in
theorem law_checks_pre (a b c : Int) (s : ByteArray) (h100 : ¬ (100 : Int) < s.size) (hn : 0 ≤ a ∧ a < 1000000 ∧ 0 ≤ b ∧ b < 1000000 ∧ 0 ≤ c ∧ c < 1000000) (hp : s.size ≠ 0) (w : World) (hm : MaxAt w) (ht : TenAt w) :
    Calls Tryd.prog 4 #[.agg #[.int .i64 a, .int .i64 b, .int .i64 c, .string s]] w fun e w' => e = .returned (.bool true) ∧ Below w.heap.size w w' := by
  have HPD := hid parsed_any
  obtain ⟨h1, h2, h3, h4, h5, h6⟩ := hn
  obtain ⟨na, rfl⟩ := Int.eq_ofNat_of_zero_le h1
  obtain ⟨nb, rfl⟩ := Int.eq_ofNat_of_zero_le h3
  obtain ⟨nc, rfl⟩ := Int.eq_ofNat_of_zero_le h5
  have la : na < 1000000 := by omega
  have lb : nb < 1000000 := by omega
  have lc : nc < 1000000 := by omega
  have hne : s.data.toList ≠ [] := by
    intro e; apply hp; rw [← lenS, e]; rfl
  have hq := empty_eq s hp
  have HCH := hid (check_s na nb nc s (by omega))
  rw [check_nat na nb nc _ la lb lc, decide_eq_false hne, Bool.false_or] at HCH
  have es : (⟨s.data.toList.toArray⟩ : ByteArray) = s := by simp
  have HTX : Hid (preV s.data.toList = true → ∀ w, MaxAt w → TenAt w → Calls Tryd.prog 12 #[.agg #[.int .i64 (na : Int), .int .i64 (nb : Int), .int .i64 (nc : Int), .string s]] w (Gives (.string ⟨(textV na nb nc s.data.toList).toArray⟩) w)) := hid (fun hy w h h' => by
    have := text_yes na nb nc s.data.toList (by rw [lenS]; omega) la lb lc (.inr hy) w h h'
    rw [es] at this; exact this)
  have HTN : Hid (preV s.data.toList = false → ∀ w, MaxAt w → Calls Tryd.prog 12 #[.agg #[.int .i64 (na : Int), .int .i64 (nb : Int), .int .i64 (nc : Int), .string s]] w (Gives (.string ⟨#[]⟩) w)) := hid (fun hy w h => by
    have := text_no na nb nc s.data.toList (by rw [lenS]; omega) (by rw [check_nat na nb nc _ la lb lc, decide_eq_false hne, hy]; rfl) w h
    rw [es] at this; exact this)
  obtain ⟨q1, q2, q3, q4, q5⟩ := of_text (pre := s.data.toList) la lb lc
  have hlt : (textV na nb nc s.data.toList).length < 4294967281 := by
    unfold textV textN
    have := (num_of_dec la).2.1
    have := (num_of_dec lb).2.1
    have := (num_of_dec lc).2.1
    have := lenS s
    rw [if_neg hne]
    simp only [List.length_append, List.length_cons]; omega
  have HPT : Hid (preV s.data.toList = true → ∀ w, MaxAt w → Calls Tryd.prog 9 #[.string ⟨(textV na nb nc s.data.toList).toArray⟩] w (Gives (.tuple #[.agg #[.int .i64 (na : Int), .int .i64 (nb : Int), .int .i64 (nc : Int), .string s], .bool true]) w)) := hid (fun hy w h => by
    have := parse_any ⟨(textV na nb nc s.data.toList).toArray⟩ (sizeL _ _ hlt) w h
    have e1 : parseT (⟨(textV na nb nc s.data.toList).toArray⟩ : ByteArray).data.toList = .tuple #[.agg #[.int .i64 (na : Int), .int .i64 (nb : Int), .int .i64 (nc : Int), .string s], .bool true] := by
      show parseT (textV na nb nc s.data.toList) = _
      unfold parseT
      rw [q1, q2, q3, q4, q5, decide_eq_true (.inr hy)]
      unfold verVal
      rw [es]; rfl
    rw [e1] at this; exact this)
  have HR : Hid (∀ w, Calls Tryd.prog 10 #[.string (⟨#[48, 46, 48, 46, 48, 45]⟩ ++ s)] w fun e w' => Below w.heap.size w w' ∧ ∃ pa pn pc, e = .returned (.tuple #[.agg #[.int .i64 0, .int .i64 0, .int .i64 0, .slice pa pn pc], .bool (preV s.data.toList)])) := hid (fun w => by
    have hl : (⟨#[48, 46, 48, 46, 48, 45]⟩ ++ s : ByteArray).data.toList = [48, 46, 48, 46, 48, 45] ++ s.data.toList := by simp
    have hz : (⟨#[48, 46, 48, 46, 48, 45]⟩ ++ s : ByteArray).size < 4294967281 := by
      have e : (⟨#[48, 46, 48, 46, 48, 45]⟩ : ByteArray).size = 6 := rfl
      rw [ByteArray.size_append, e]; omega
    refine (rparse_any _ hz w).mono ?_
    rintro e w' ⟨hb, hcase⟩
    refine ⟨hb, ?_⟩
    rw [hl, zero_pre _ hne] at hcase
    have ez : ([48, 46, 48, 46, 48, 45] : List UInt8) ++ s.data.toList = textV 0 0 0 s.data.toList := by
      unfold textV textN
      rw [if_neg hne, decS_small (by decide)]; rfl
    obtain ⟨_, r2, r3, r4, _⟩ := of_text (pre := s.data.toList) (a := 0) (b := 0) (c := 0) (by decide) (by decide) (by decide)
    rcases hcase with ⟨h1, h2⟩ | ⟨h1, qv, h2, h3⟩
    · exact ⟨none, 0, 0, by rw [h2, h1]; rfl⟩
    · rw [ez, r2, r3, r4] at h2
      obtain ⟨pa, pn, pc, rfl⟩ : ∃ pa pn pc, qv = .slice pa pn pc := by
        rcases h3 with ⟨_, h⟩ | ⟨g, c, _, h, _⟩
        · exact ⟨_, _, _, h⟩
        · exact ⟨_, _, _, h⟩
      exact ⟨pa, pn, pc, by rw [h2, h1]; rfl⟩)
  have m6 : ¬ 9223372036854775807 < 6 + s.size := by omega
  clear hlt q1 q2 q3 q4 q5 es hne la lb lc hp
  generalize (⟨(textV na nb nc s.data.toList).toArray⟩ : ByteArray) = T at HTX HPT
  generalize preV s.data.toList = pb at *
  generalize (na : Int) = a at *
  generalize (nb : Int) = b at *
  generalize (nc : Int) = c at *
  go_enter Tryd.func4, Tryd.ntmps4
  go_wp2_with fail
  go_quiet (fail)
  have hb0 : Below w.heap.size w ((w.alloc (.cells #[.int .i64 a, .int .i64 b, .int .i64 c, .string s] 37)).drewN nq) := below_drewN' (below_alloc (Below.refl _ _) _) _
  generalize (w.alloc (.cells #[.int .i64 a, .int .i64 b, .int .i64 c, .string s] 37)).drewN nq = W1 at hb0 ⊢
  go_wp2_with fail
  have hV : Blk (W1.alloc (.cells #[.int .i64 a, .int .i64 b, .int .i64 c, .string s] 25)) W1.heap.size [.int .i64 a, .int .i64 b, .int .i64 c, .string s] 25 := Blk.new W1 _ _
  have hWb := below_alloc hb0 (.cells #[.int .i64 a, .int .i64 b, .int .i64 c, .string s] 25)
  generalize W1.alloc (.cells #[.int .i64 a, .int .i64 b, .int .i64 c, .string s] 25) = W2 at hV hWb ⊢
  generalize W1.heap.size = pv at hV ⊢
  refine (HR.out _).mono ?_
  rintro e w2 ⟨hb2, pa, pn, pc, rfl⟩
  replace hV := hV.below hb2
  replace hWb := below_trans hWb hb2
  clear hb2 m6
  cases pb
  · go_wp2_with fail
    refine (HPD.out _ (hm.below hWb) (ht.below hWb)).mono ?_
    rintro e w3 ⟨rfl, hb3⟩
    have hV2 := hV.below hb3
    have hb4 := below_trans hWb hb3
    clear hV hWb hb3
    have v0 := hV2.cell 0 rfl
    have v1 := hV2.cell 1 rfl
    have v2 := hV2.cell 2 rfl
    have v3 := hV2.cell 3 rfl
    go_wp2_with fail
    clear v0 v1 v2 v3
    refine (HCH.out _ (hm.below hb4)).mono ?_
    rintro e w4 ⟨rfl, hb5⟩
    have hV3 := hV2.below hb5
    have hb6 := below_trans hb4 hb5
    clear hV2 hb4 hb5
    have v0 := hV3.cell 0 rfl
    have v1 := hV3.cell 1 rfl
    have v2 := hV3.cell 2 rfl
    have v3 := hV3.cell 3 rfl
    go_wp2_with fail
    clear v0 v1 v2 v3
    refine (HTN.out (by first | rfl | trivial) _ (hm.below hb6)).mono ?_
    rintro e w5 ⟨rfl, hb7⟩
    go_wp2_with fail
    go_ret
    exact ⟨rfl, below_trans hb6 hb7⟩
  · go_wp2_with fail
    refine (HPD.out _ (hm.below hWb) (ht.below hWb)).mono ?_
    rintro e w3 ⟨rfl, hb3⟩
    have hV2 := hV.below hb3
    have hb4 := below_trans hWb hb3
    clear hV hWb hb3
    have v0 := hV2.cell 0 rfl
    have v1 := hV2.cell 1 rfl
    have v2 := hV2.cell 2 rfl
    have v3 := hV2.cell 3 rfl
    go_wp2_with fail
    clear v0 v1 v2 v3
    refine (HCH.out _ (hm.below hb4)).mono ?_
    rintro e w4 ⟨rfl, hb5⟩
    have hV3 := hV2.below hb5
    have hb6 := below_trans hb4 hb5
    clear hV2 hb4 hb5
    have v0 := hV3.cell 0 rfl
    have v1 := hV3.cell 1 rfl
    have v2 := hV3.cell 2 rfl
    have v3 := hV3.cell 3 rfl
    go_wp2_with fail
    clear v0 v1 v2 v3
    refine (HTX.out (by first | rfl | trivial) _ (hm.below hb6) (ht.below hb6)).mono ?_
    rintro e w5 ⟨rfl, hb7⟩
    have hV4 := hV3.below hb7
    have hb8 := below_trans hb6 hb7
    clear hV3 hb6 hb7
    go_wp2_with fail
    refine (HPT.out (by first | rfl | trivial) _ (hm.below hb8)).mono ?_
    rintro e w6 ⟨rfl, hb9⟩
    have hV5 := hV4.below hb9
    have hb10 := below_trans hb8 hb9
    clear hV4 hb8 hb9
    have v0 : ∀ o, (w6.alloc o).cell? ⟨pv, 0, none⟩ = some _ := fun o => (hV5.alloc o).cell 0 rfl
    have v1 : ∀ o, (w6.alloc o).cell? ⟨pv, 1, none⟩ = some _ := fun o => (hV5.alloc o).cell 1 rfl
    have v2 : ∀ o, (w6.alloc o).cell? ⟨pv, 2, none⟩ = some _ := fun o => (hV5.alloc o).cell 2 rfl
    have v3 : ∀ o, (w6.alloc o).cell? ⟨pv, 3, none⟩ = some _ := fun o => (hV5.alloc o).cell 3 rfl
    have g2 : Tryd.prog.eqGuardType Tryd.prog.depth 25 = false := by kernel_rfl
    go_wp2_with fail
    go_ret
    exact ⟨rfl, below_alloc hb10 _⟩
end Go.Proofs.YtgboihojicgkdaaDoor.Vs
