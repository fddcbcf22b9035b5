/-
  LAYER 3, THE LAW VersionPres.
-/
import Derived.Test.YtiihhgdbgmplaaaDoorVersionCmpA
import Derived.Test.YtiihhgdbgmplaaaDoorVersionLaw1
namespace Go.Proofs.YtiihhgdbgmplaaaDoor.Vs
open Go.RowKit
open Go.Proofs.YtiihhgdbgmplaaaDoor Go.Proofs.YtiihhgdbgmplaaaDoor.Nu

theorem part_no46 {q : List UInt8} (h : partV q = true) : (46 : UInt8) ∉ q := by
  intro hm
  rw [partV_eq] at h
  simp only [Bool.and_eq_true] at h
  have h2 := List.all_eq_true.1 h.1.2 46 hm
  simp [pB, dgB] at h2
theorem part_le {q : List UInt8} (h : partV q = true) : q.length ≤ 8 := by
  rw [partV_eq] at h
  simp only [Bool.and_eq_true, decide_eq_true_eq] at h
  exact h.1.1.2
/-- one part more -/
theorem ok_more {p q : List UInt8} (hp : OkPre p) (h0 : p ≠ []) (h4 : (cutl 46 p).length < 4) (hl : p.length ≤ 100) (hq : partV q = true) : OkPre (p ++ 46 :: q) ∧ preV (p ++ 46 :: q) = true := by
  have hv : preV p = true := by
    rcases hp.2 with e | e
    · exact absurd e h0
    · exact e
  have hc := cutl_snoc q (part_no46 hq) _ p (Nat.le_refl _)
  have hy : preV (p ++ 46 :: q) = true := by
    unfold preV at hv ⊢
    rw [hc]
    simp only [Bool.and_eq_true, decide_eq_true_eq] at hv ⊢
    refine ⟨by simp; omega, ?_⟩
    rw [List.all_append, hv.2]; simp [hq]
  have := part_le hq
  exact ⟨⟨by simp; omega, .inr hy⟩, hy⟩
theorem cmpV_pre {a b c : Nat} {p q : List UInt8} : cmpV [a, b, c] [a, b, c] p q = cmpB p q := by unfold cmpV; rw [if_pos rfl]

set_option maxRecDepth 20000 in
set_option maxHeartbeats 4000000 in
theorem law_pres (s t : ByteArray) (w : World) (hm : MaxAt w) (ht : TenAt w) :
    Calls Tryd.prog 7 #[.string s, .string t] w fun e w' => e = .returned (.bool true) ∧ Below w.heap.size w w' := by
  have HPD := hid parsed_any
  by_cases h100 : (100 : Int) < s.size
  · go_enter Tryd.func7, Tryd.ntmps7
    go_wp2_with (go_at_call 8; (with_reducible refine (HPD.out _ hm ht).mono ?_); rintro e w1 ⟨rfl, hb1⟩)
    go_ret
    exact ⟨rfl, hb1⟩
  · by_cases h101 : (20 : Int) < t.size
    · go_enter Tryd.func7, Tryd.ntmps7
      go_wp2_with (go_at_call 8; (with_reducible refine (HPD.out _ hm ht).mono ?_); rintro e w1 ⟨rfl, hb1⟩)
      go_ret
      exact ⟨rfl, hb1⟩
    · obtain ⟨a, b, c, p, l0, l1, l2, K1, hpl, HO1⟩ := of_v s (by omega)
      have HPT := hid (rpart_any t (by omega))
      have hst : s.size ≤ 100 := by omega
      have htt : t.size ≤ 20 := by omega
      have DN := hid (show rows p ≠ [] → ∀ W, MaxAt W → Calls Tryd.prog 15 #[.agg #[.int .i64 (a : Int), .int .i64 (b : Int), .int .i64 (c : Int), .string ⟨p.toArray⟩], .agg #[.int .i64 (a : Int), .int .i64 (b : Int), .int .i64 (c : Int), .string ⟨#[]⟩]] W (Gives (.int .i64 (-1)) W) from fun h W hM => by
        have := compare_any a b c a b c p [] K1 ⟨by simp, .inl rfl⟩ W hM
        rw [cmpV_pre, cmpB_rel (fun e => h (rows_nil.2 e))] at this; exact this)
      have MO := hid (show rows p ≠ [] → (rows p).length < 4 → partV t.data.toList = true → ∀ W, MaxAt W →
          Calls Tryd.prog 15 #[.agg #[.int .i64 (a : Int), .int .i64 (b : Int), .int .i64 (c : Int), .string ⟨p.toArray⟩], .agg #[.int .i64 (a : Int), .int .i64 (b : Int), .int .i64 (c : Int), .string (⟨p.toArray⟩ ++ ⟨#[46]⟩ ++ t)]] W (Gives (.int .i64 (-1)) W) ∧
          Calls Tryd.prog 15 #[.agg #[.int .i64 (a : Int), .int .i64 (b : Int), .int .i64 (c : Int), .string (⟨p.toArray⟩ ++ ⟨#[46]⟩ ++ t)], .agg #[.int .i64 (a : Int), .int .i64 (b : Int), .int .i64 (c : Int), .string ⟨#[]⟩]] W (Gives (.int .i64 (-1)) W) ∧
          Calls Tryd.prog 11 #[.agg #[.int .i64 (a : Int), .int .i64 (b : Int), .int .i64 (c : Int), .string (⟨p.toArray⟩ ++ ⟨#[46]⟩ ++ t)]] W (Gives (.bool true) W) from fun h h4 hq W hM => by
        have h0 : p ≠ [] := fun e => h (rows_nil.2 e)
        rw [show rows p = cutl 46 p from if_neg h0] at h4
        have hX : ((⟨p.toArray⟩ : ByteArray) ++ ⟨#[46]⟩ ++ t) = ⟨(p ++ 46 :: t.data.toList).toArray⟩ := by
          apply ByteArray.ext
          apply Array.toList_inj.1
          simp [ByteArray.data_append]
        obtain ⟨o1, o2⟩ := ok_more K1 h0 h4 (by omega) hq
        rw [hX]
        refine ⟨?_, ?_, ?_⟩
        · have := compare_any a b c a b c p _ K1 o1 W hM
          rw [cmpV_pre, cmpB_more h0 (part_no46 hq)] at this; exact this
        · have := compare_any a b c a b c _ [] o1 ⟨by simp, .inl rfl⟩ W hM
          rw [cmpV_pre, cmpB_rel (by simp)] at this; exact this
        · have := check_any a b c (p ++ 46 :: t.data.toList) o1.1 W hM
          rw [check_nat _ _ _ _ l0 l1 l2, o2, Bool.or_true] at this; exact this)
      generalize partV t.data.toList = pt at HPT MO
      have hps : (⟨p.toArray⟩ : ByteArray).size ≤ 100 := by show p.toArray.size ≤ 100; simp; omega
      generalize (⟨p.toArray⟩ : ByteArray) = P at HO1 DN MO hps
      have hrn := hid (show rows p = [] ∨ rows p ≠ [] from by by_cases h : rows p = [] <;> simp [h])
      generalize rows p = Q at HO1 DN MO hrn
      replace HO1 := hid HO1
      clear l0 l1 l2 K1 hpl
      go_enter Tryd.func7, Tryd.ntmps7
      go_wp2_with fail
      refine (HO1.out _ hm).mono ?_
      rintro e w1 ⟨pa, pc, rfl, hp1, hb1⟩
      go_wp2_with fail
      obtain ⟨v1, x1⟩ := two_blk w1 [.int .i64 (a : Int), .int .i64 (b : Int), .int .i64 (c : Int), .string P] [.int .i64 (a : Int), .int .i64 (b : Int), .int .i64 (c : Int), .slice pa Q.length pc] 25 30
      have z1 := below_alloc (below_alloc hb1 (.cells #[.int .i64 (a : Int), .int .i64 (b : Int), .int .i64 (c : Int), .string P] 25)) (.cells #[.int .i64 (a : Int), .int .i64 (b : Int), .int .i64 (c : Int), .slice pa Q.length pc] 30)
      generalize (w1.alloc (.cells #[.int .i64 (a : Int), .int .i64 (b : Int), .int .i64 (c : Int), .string P] 25)).alloc (.cells #[.int .i64 (a : Int), .int .i64 (b : Int), .int .i64 (c : Int), .slice pa Q.length pc] 30) = W1 at v1 x1 z1 ⊢
      generalize w1.heap.size + 1 = b1' at x1 ⊢
      generalize w1.heap.size = b1 at v1 ⊢
      clear hp1 hb1
      refine (HPD.out _ (hm.below z1) (ht.below z1)).mono ?_
      rintro e w2 ⟨rfl, hb2⟩
      replace v1 := v1.below hb2
      replace x1 := x1.below hb2
      replace z1 := below_trans z1 hb2
      clear hb2
      have i3 := x1.cell 3 rfl
      cases pt
      · go_wp2_with (first
          | (go_at_call 18; (with_reducible refine (HPT.out _).mono ?_); rintro e w3 ⟨rfl, rfl⟩)
          | (go_at_call 8; (with_reducible refine (HPD.out _ (hm.below z1) (ht.below z1)).mono ?_); rintro e w3 ⟨rfl, hb3⟩))
        go_ret
        exact ⟨rfl, below_trans z1 hb3⟩
      · rcases hrn.out with hQ | hQ
        · have q0 : Q.length = 0 := by rw [hQ]; rfl
          rw [q0] at i3
          go_wp2_with (first
            | (go_at_call 18; (with_reducible refine (HPT.out _).mono ?_); rintro e w3 ⟨rfl, rfl⟩)
            | (go_at_call 8; (with_reducible refine (HPD.out _ (hm.below z1) (ht.below z1)).mono ?_); rintro e w3 ⟨rfl, hb3⟩))
          go_ret
          exact ⟨rfl, below_trans z1 hb3⟩
        · have q0 : ((Q.length : Int) == 0) = false := by rw [beq_eq_false_iff_ne]; have := List.length_pos_iff.2 hQ; omega
          replace DN := hid (DN.out hQ)
          replace MO := hid (fun h => MO.out hQ h rfl)
          have j0 := v1.cell 0 rfl
          have j1 := v1.cell 1 rfl
          have j2 := v1.cell 2 rfl
          have j3 := v1.cell 3 rfl
          have bl1 := v1.lt
          have bl2 := x1.lt
          go_wp2_with (go_at_call 18; (with_reducible refine (HPT.out _).mono ?_); rintro e w3 ⟨rfl, rfl⟩)
          have f1 := Blk.new w2 [.int .i64 (a : Int), .int .i64 (b : Int), .int .i64 (c : Int), .string ⟨#[]⟩] 25
          replace v1 := v1.alloc (.cells #[.int .i64 (a : Int), .int .i64 (b : Int), .int .i64 (c : Int), .string ⟨#[]⟩] 25)
          replace x1 := x1.alloc (.cells #[.int .i64 (a : Int), .int .i64 (b : Int), .int .i64 (c : Int), .string ⟨#[]⟩] 25)
          replace z1 := below_alloc z1 (.cells #[.int .i64 (a : Int), .int .i64 (b : Int), .int .i64 (c : Int), .string ⟨#[]⟩] 25)
          clear i3 j0 j1 j2 j3 bl1 bl2
          generalize w2.alloc (.cells [.int .i64 (a : Int), .int .i64 (b : Int), .int .i64 (c : Int), .string ⟨#[]⟩].toArray 25) = W2 at f1 v1 x1 z1 ⊢
          generalize w2.heap.size = b2 at f1 ⊢
          refine (DN.out _ (hm.below z1)).mono ?_
          rintro e w4 ⟨rfl, hb4⟩
          replace v1 := v1.below hb4
          replace x1 := x1.below hb4
          replace f1 := f1.below hb4
          replace z1 := below_trans z1 hb4
          clear hb4
          have i3 := x1.cell 3 rfl
          by_cases h4 : (4 : Int) ≤ (Q.length : Int)
          · go_wp2_with fail
            go_ret
            exact ⟨rfl, z1⟩
          · have j0 := v1.cell 0 rfl
            have j1 := v1.cell 1 rfl
            have j2 := v1.cell 2 rfl
            have j3 := v1.cell 3 rfl
            have bl1 := v1.lt
            have bl2 := x1.lt
            have bl3 := f1.lt
            have n1 : ¬ 9223372036854775807 < P.size + 1 := by omega
            have n2 : ¬ 9223372036854775807 < P.size + 1 + t.size := by omega
            replace MO := hid (MO.out (by omega))
            go_wp2_with fail
            have g1 := Blk.new w4 [.int .i64 (a : Int), .int .i64 (b : Int), .int .i64 (c : Int), .string (P ++ ⟨#[46]⟩ ++ t)] 25
            replace v1 := v1.alloc (.cells #[.int .i64 (a : Int), .int .i64 (b : Int), .int .i64 (c : Int), .string (P ++ ⟨#[46]⟩ ++ t)] 25)
            replace f1 := f1.alloc (.cells #[.int .i64 (a : Int), .int .i64 (b : Int), .int .i64 (c : Int), .string (P ++ ⟨#[46]⟩ ++ t)] 25)
            replace z1 := below_alloc z1 (.cells #[.int .i64 (a : Int), .int .i64 (b : Int), .int .i64 (c : Int), .string (P ++ ⟨#[46]⟩ ++ t)] 25)
            clear i3 j0 j1 j2 j3 bl1 bl2 bl3 n1 n2 x1
            generalize w4.alloc (.cells [.int .i64 (a : Int), .int .i64 (b : Int), .int .i64 (c : Int), .string (P ++ ⟨#[46]⟩ ++ t)].toArray 25) = W4 at f1 v1 g1 z1 ⊢
            generalize w4.heap.size = b3 at g1 ⊢
            generalize P ++ ⟨#[46]⟩ ++ t = X at MO g1 ⊢
            refine (MO.out _ (hm.below z1)).2.2.mono ?_
            rintro e w5 ⟨rfl, hb5⟩
            replace v1 := v1.below hb5
            replace f1 := f1.below hb5
            replace g1 := g1.below hb5
            replace z1 := below_trans z1 hb5
            have j0 := v1.cell 0 rfl
            have j1 := v1.cell 1 rfl
            have j2 := v1.cell 2 rfl
            have j3 := v1.cell 3 rfl
            have k0 := g1.cell 0 rfl
            have k1 := g1.cell 1 rfl
            have k2 := g1.cell 2 rfl
            have k3 := g1.cell 3 rfl
            go_wp2_with fail
            refine (MO.out _ (hm.below z1)).1.mono ?_
            rintro e w6 ⟨rfl, hb6⟩
            replace g1 := g1.below hb6
            replace f1 := f1.below hb6
            replace z1 := below_trans z1 hb6
            clear j0 j1 j2 j3 k0 k1 k2 k3 v1 hb5 hb6
            have k0 := g1.cell 0 rfl
            have k1 := g1.cell 1 rfl
            have k2 := g1.cell 2 rfl
            have k3 := g1.cell 3 rfl
            have m0 := f1.cell 0 rfl
            have m1 := f1.cell 1 rfl
            have m2 := f1.cell 2 rfl
            have m3 := f1.cell 3 rfl
            go_wp2_with fail
            refine (MO.out _ (hm.below z1)).2.1.mono ?_
            rintro e w7 ⟨rfl, hb7⟩
            go_wp2_with fail
            go_ret
            exact ⟨rfl, below_trans z1 hb7⟩
end Go.Proofs.YtiihhgdbgmplaaaDoor.Vs
