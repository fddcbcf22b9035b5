/-
  LAYER 3, THE LAW VersionChecks.
-/
import Derived.Test.YtgboihojicgkdaaDoorVersionLaw1
namespace Go.Proofs.YtgboihojicgkdaaDoor.Vs
open Go.RowKit
open Go.Proofs.YtgboihojicgkdaaDoor Go.Proofs.YtgboihojicgkdaaDoor.Nu

/-- behind three noughts a text may stand just if it may -/
theorem zero_pre (pre : List UInt8) (h : pre ≠ []) : verV ([48, 46, 48, 46, 48, 45] ++ pre) = preV pre := by
  have e : ([48, 46, 48, 46, 48, 45] : List UInt8) ++ pre = textV 0 0 0 pre := by
    unfold textV textN
    rw [if_neg h, decS_small (by decide)]; rfl
  rw [e, (of_text (a := 0) (b := 0) (c := 0) (by decide) (by decide) (by decide)).1]
  simp [h]

theorem checkI_num {a b c : Int} {pre : List UInt8} (h : ¬ (0 ≤ a ∧ a < 1000000 ∧ 0 ≤ b ∧ b < 1000000 ∧ 0 ≤ c ∧ c < 1000000)) : checkI a b c pre = false := by
  unfold checkI
  by_cases ha : 0 ≤ a ∧ a < 1000000
  · by_cases hb : 0 ≤ b ∧ b < 1000000
    · rw [okI_f (x := c) (by omega)]; simp
    · rw [okI_f (x := b) (by omega)]; simp
  · rw [okI_f (x := a) (by omega)]; simp

set_option maxRecDepth 20000 in
set_option maxHeartbeats 2000000 in
/-- numbers that are none of a version's -/
theorem law_checks_num (a b c : Int) (s : ByteArray) (h100 : ¬ (100 : Int) < s.size) (hn : ¬ (0 ≤ a ∧ a < 1000000 ∧ 0 ≤ b ∧ b < 1000000 ∧ 0 ≤ c ∧ c < 1000000)) (w : World) (hm : MaxAt w) (ht : TenAt w) :
    Calls Tryd.prog 4 #[.agg #[.int .i64 a, .int .i64 b, .int .i64 c, .string s]] w fun e w' => e = .returned (.bool true) ∧ Below w.heap.size w w' := by
  have HPD := hid parsed_any
  have hno := checkI_num (pre := s.data.toList) hn
  have HCH := hid (check_s a b c s (by omega))
  rw [hno] at HCH
  have es : (⟨s.data.toList.toArray⟩ : ByteArray) = s := by simp
  have HTX : Hid (∀ w, MaxAt w → Calls Tryd.prog 12 #[.agg #[.int .i64 a, .int .i64 b, .int .i64 c, .string s]] w (Gives (.string ⟨#[]⟩) w)) := hid (fun w h => by
    have := text_no a b c s.data.toList (by rw [lenS]; omega) hno w h
    rwa [es] at this)
  have ways : a < 0 ∨ (0 ≤ a ∧ ¬ a < 1000000) ∨ (0 ≤ a ∧ a < 1000000 ∧ b < 0) ∨ (0 ≤ a ∧ a < 1000000 ∧ 0 ≤ b ∧ ¬ b < 1000000) ∨ (0 ≤ a ∧ a < 1000000 ∧ 0 ≤ b ∧ b < 1000000 ∧ c < 0) ∨ (0 ≤ a ∧ a < 1000000 ∧ 0 ≤ b ∧ b < 1000000 ∧ 0 ≤ c ∧ ¬ c < 1000000) := by omega
  clear hno hn es
  rcases ways with h1 | ⟨h1, h2⟩ | ⟨h1, h2, h3⟩ | ⟨h1, h2, h3, h4⟩ | ⟨h1, h2, h3, h4, h5⟩ | ⟨h1, h2, h3, h4, h5, h6⟩
  all_goals
    go_enter Tryd.func4, Tryd.ntmps4
    go_wp2_with fail
    go_quiet (fail)
    have hb0 : Below w.heap.size w ((w.alloc (.cells #[.int .i64 a, .int .i64 b, .int .i64 c, .string s] 37)).drewN nq) := below_drewN' (below_alloc (Below.refl _ _) _) _
    generalize (w.alloc (.cells #[.int .i64 a, .int .i64 b, .int .i64 c, .string s] 37)).drewN nq = W1 at hb0 ⊢
    go_wp2_with fail
    have hV : Blk (W1.alloc (.cells #[.int .i64 a, .int .i64 b, .int .i64 c, .string s] 25)) W1.heap.size [.int .i64 a, .int .i64 b, .int .i64 c, .string s] 25 := Blk.new W1 _ _
    have hWb := below_alloc hb0 (.cells #[.int .i64 a, .int .i64 b, .int .i64 c, .string s] 25)
    generalize W1.alloc (.cells #[.int .i64 a, .int .i64 b, .int .i64 c, .string s] 25) = W2 at hV hWb ⊢
    generalize W1.heap.size = pv at hV ⊢
    refine (HPD.out _ (hm.below hWb) (ht.below hWb)).mono ?_
    rintro e w3 ⟨rfl, hb3⟩
    have hV2 := hV.below hb3
    have hb4 := below_trans hWb hb3
    clear hV hWb hb3
    have v0 := hV2.cell 0 rfl
    have v1 := hV2.cell 1 rfl
    have v2 := hV2.cell 2 rfl
    have v3 := hV2.cell 3 rfl
    go_wp2_with fail
    clear v0 v1 v2 v3
    refine (HCH.out _ (hm.below hb4)).mono ?_
    rintro e w4 ⟨rfl, hb5⟩
    have hV3 := hV2.below hb5
    have hb6 := below_trans hb4 hb5
    clear hV2 hb4 hb5
    have v0 := hV3.cell 0 rfl
    have v1 := hV3.cell 1 rfl
    have v2 := hV3.cell 2 rfl
    have v3 := hV3.cell 3 rfl
    go_wp2_with fail
    clear v0 v1 v2 v3
    refine (HTX.out _ (hm.below hb6)).mono ?_
    rintro e w5 ⟨rfl, hb7⟩
    go_wp2_with fail
    go_ret
    exact ⟨rfl, below_trans hb6 hb7⟩

set_option maxRecDepth 20000 in
set_option maxHeartbeats 2000000 in
/-- three numbers of a version's, and a text that may stand behind them, or nothing -/
theorem law_checks_yes (a b c : Int) (s : ByteArray) (h100 : ¬ (100 : Int) < s.size) (hn : 0 ≤ a ∧ a < 1000000 ∧ 0 ≤ b ∧ b < 1000000 ∧ 0 ≤ c ∧ c < 1000000) (hp : s.size = 0) (w : World) (hm : MaxAt w) (ht : TenAt w) :
    Calls Tryd.prog 4 #[.agg #[.int .i64 a, .int .i64 b, .int .i64 c, .string s]] w fun e w' => e = .returned (.bool true) ∧ Below w.heap.size w w' := by
  have HPD := hid parsed_any
  obtain ⟨h1, h2, h3, h4, h5, h6⟩ := hn
  obtain ⟨na, rfl⟩ := Int.eq_ofNat_of_zero_le h1
  obtain ⟨nb, rfl⟩ := Int.eq_ofNat_of_zero_le h3
  obtain ⟨nc, rfl⟩ := Int.eq_ofNat_of_zero_le h5
  have la : na < 1000000 := by omega
  have lb : nb < 1000000 := by omega
  have lc : nc < 1000000 := by omega
  have hpre : s.data.toList = [] := List.eq_nil_of_length_eq_zero (by rw [lenS]; exact hp)
  have HCH := hid (check_s na nb nc s (by omega))
  rw [check_nat na nb nc _ la lb lc, hpre] at HCH
  have es : (⟨s.data.toList.toArray⟩ : ByteArray) = s := by simp
  have HTX : Hid (∀ w, MaxAt w → TenAt w → Calls Tryd.prog 12 #[.agg #[.int .i64 (na : Int), .int .i64 (nb : Int), .int .i64 (nc : Int), .string s]] w (Gives (.string ⟨(textV na nb nc []).toArray⟩) w)) := hid (fun w h h' => by
    have := text_yes na nb nc s.data.toList (by rw [lenS]; omega) la lb lc (.inl hpre) w h h'
    rw [es, hpre] at this; exact this)
  obtain ⟨q1, q2, q3, q4, q5⟩ := of_text (pre := []) la lb lc
  have hlt : (textV na nb nc []).length < 4294967281 := by
    unfold textV textN
    have := (num_of_dec la).2.1
    have := (num_of_dec lb).2.1
    have := (num_of_dec lc).2.1
    simp; omega
  have HPT := hid (parse_any ⟨(textV na nb nc []).toArray⟩ (sizeL _ _ hlt))
  have e1 : parseT (⟨(textV na nb nc []).toArray⟩ : ByteArray).data.toList = .tuple #[.agg #[.int .i64 (na : Int), .int .i64 (nb : Int), .int .i64 (nc : Int), .string ⟨#[]⟩], .bool true] := by
    show parseT (textV na nb nc []) = _
    unfold parseT
    rw [q1, q2, q3, q4, q5]; rfl
  rw [e1] at HPT
  obtain rfl : s = ByteArray.empty := by
    apply ByteArray.ext; apply Array.eq_empty_of_size_eq_zero; exact hp
  clear e1 hlt q1 q2 q3 q4 q5 es hpre la lb lc
  generalize (⟨(textV na nb nc []).toArray⟩ : ByteArray) = T at HTX HPT
  generalize (na : Int) = a at *
  generalize (nb : Int) = b at *
  generalize (nc : Int) = c at *
  go_enter Tryd.func4, Tryd.ntmps4
  go_wp2_with fail
  go_quiet (fail)
  have hb0 : Below w.heap.size w ((w.alloc (.cells #[.int .i64 a, .int .i64 b, .int .i64 c, .string ByteArray.empty] 37)).drewN nq) := below_drewN' (below_alloc (Below.refl _ _) _) _
  generalize (w.alloc (.cells #[.int .i64 a, .int .i64 b, .int .i64 c, .string ByteArray.empty] 37)).drewN nq = W1 at hb0 ⊢
  go_wp2_with fail
  have hV : Blk (W1.alloc (.cells #[.int .i64 a, .int .i64 b, .int .i64 c, .string ByteArray.empty] 25)) W1.heap.size [.int .i64 a, .int .i64 b, .int .i64 c, .string ByteArray.empty] 25 := Blk.new W1 _ _
  have hWb := below_alloc hb0 (.cells #[.int .i64 a, .int .i64 b, .int .i64 c, .string ByteArray.empty] 25)
  generalize W1.alloc (.cells #[.int .i64 a, .int .i64 b, .int .i64 c, .string ByteArray.empty] 25) = W2 at hV hWb ⊢
  generalize W1.heap.size = pv at hV ⊢
  refine (HPD.out _ (hm.below hWb) (ht.below hWb)).mono ?_
  rintro e w3 ⟨rfl, hb3⟩
  have hV2 := hV.below hb3
  have hb4 := below_trans hWb hb3
  clear hV hWb hb3
  have v0 := hV2.cell 0 rfl
  have v1 := hV2.cell 1 rfl
  have v2 := hV2.cell 2 rfl
  have v3 := hV2.cell 3 rfl
  go_wp2_with fail
  clear v0 v1 v2 v3
  refine (HCH.out _ (hm.below hb4)).mono ?_
  rintro e w4 ⟨rfl, hb5⟩
  have hV3 := hV2.below hb5
  have hb6 := below_trans hb4 hb5
  clear hV2 hb4 hb5
  have v0 := hV3.cell 0 rfl
  have v1 := hV3.cell 1 rfl
  have v2 := hV3.cell 2 rfl
  have v3 := hV3.cell 3 rfl
  go_wp2_with fail
  clear v0 v1 v2 v3
  refine (HTX.out _ (hm.below hb6) (ht.below hb6)).mono ?_
  rintro e w5 ⟨rfl, hb7⟩
  have hV4 := hV3.below hb7
  have hb8 := below_trans hb6 hb7
  clear hV3 hb6 hb7
  go_wp2_with fail
  refine (HPT.out _ (hm.below hb8)).mono ?_
  rintro e w6 ⟨rfl, hb9⟩
  have hV5 := hV4.below hb9
  have hb10 := below_trans hb8 hb9
  clear hV4 hb8 hb9
  have v0 : ∀ o, (w6.alloc o).cell? ⟨pv, 0, none⟩ = some _ := fun o => (hV5.alloc o).cell 0 rfl
  have v1 : ∀ o, (w6.alloc o).cell? ⟨pv, 1, none⟩ = some _ := fun o => (hV5.alloc o).cell 1 rfl
  have v2 : ∀ o, (w6.alloc o).cell? ⟨pv, 2, none⟩ = some _ := fun o => (hV5.alloc o).cell 2 rfl
  have v3 : ∀ o, (w6.alloc o).cell? ⟨pv, 3, none⟩ = some _ := fun o => (hV5.alloc o).cell 3 rfl
  have g2 : Tryd.prog.eqGuardType Tryd.prog.depth 25 = false := by kernel_rfl
  go_wp2_with fail
  go_ret
  exact ⟨rfl, below_alloc hb10 _⟩
end Go.Proofs.YtgboihojicgkdaaDoor.Vs
