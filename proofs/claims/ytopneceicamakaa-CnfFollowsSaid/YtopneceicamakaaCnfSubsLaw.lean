/-
  LAYER 12: the law CnfSubsumes walked.
-/
import Derived.Test.YtopneceicamakaaFollows
import Derived.Test.YtopneceicamakaaCnfDocHas
namespace Go.Proofs.Ytopneceicamakaa.Cf
open Go.RowKit Go.Proofs.Ytopneceicamakaa Go.Proofs.Ytopneceicamakaa.Ln

theorem litsOk_of8 {l : List Int} {n : Int} (hn : n ≤ 1000000) (h : ckC l n = true) : litsOk l := by
  intro x hx
  have hm : mostI n ≤ 1000000 := by unfold mostI; split <;> omega
  unfold ckC at h
  have h1 : l.any (badL (mostI n)) = false := by simpa using h
  rw [List.any_eq_false] at h1
  have h2 : badL (mostI n) x = false := by simpa using h1 x hx
  simp only [badL, Bool.or_eq_false_iff, beq_eq_false_iff_ne, decide_eq_false_iff_not] at h2
  obtain ⟨⟨h3, h4⟩, h5⟩ := h2
  exact ⟨h3, by omega, by omega⟩

/-- of clauses whose literals are all in another one that one holds where they do -/
theorem sub_follows {n : Nat} {a b : List Int} (h : subC a b = true) : followsC n [a] b = true := by
  refine follows_of fun m hm => ?_
  rw [holds_one] at hm
  unfold someT at hm ⊢
  unfold subC at h
  rw [List.any_eq_true] at hm ⊢
  obtain ⟨x, hx, ht⟩ := hm
  rw [List.all_eq_true] at h
  have := h x hx
  rw [List.contains_iff_mem] at this
  exact ⟨x, this, ht⟩
def subT (a b : List Int) (k : Nat) : Bool := (a.take k).all fun x => b.contains x
theorem subT_succ (a b : List Int) (k : Nat) (h : k < a.length) : subT a b (k + 1) = (subT a b k && b.contains (a.getD k 0)) := by
  unfold subT
  rw [List.take_add_one, List.all_append, List.getD_eq_getElem?_getD, List.getElem?_eq_getElem h]
  simp
theorem subT_all (a b : List Int) : subT a b a.length = subC a b := by unfold subT subC; rw [List.take_length]

theorem rawI {w : World} {v : Value} {l : List Int} (h : RawC w v (intsV l)) : ∃ a c, v = .slice a l.length c ∧ l.length ≤ c := by
  obtain ⟨a, c, h1, h2, _⟩ := h
  rw [show (intsV l).length = l.length from List.length_map _] at h1 h2
  exact ⟨a, c, h1, h2⟩

set_option maxHeartbeats 4000000 in
/-- where the law asks nothing -/
theorem law_subs_off (va vb : Value) (a b : List Int) (w : World) (ha : RawC w va (intsV a)) (hb : RawC w vb (intsV b)) (hoff : 10 < a.length ∨ 10 < b.length ∨ ckC a 8 = false ∨ ckC b 8 = false) :
    Calls Try.prog 9 #[va, vb] w fun e w' => e = .returned (.bool true) ∧ Below w.heap.size w w' := by
  have R0 := hid (resolved_any w)
  have RW := fun W => hid (resolved_any W)
  have KA := hid ha
  have KB := hid hb
  obtain ⟨aa, ca, rfl, hca⟩ := rawI ha
  obtain ⟨ab, cb, rfl, hcb⟩ := rawI hb
  clear ha hb
  by_cases h1 : 10 < a.length
  · have d1 : (10 : Int) < (a.length : Int) := by omega
    generalize a.length = k at *
    generalize b.length = k2 at *
    clear hoff h1 KA KB
    go_enter Try.func9, Try.ntmps9
    go_wp2_with fail
    refine R0.out.mono ?_
    rintro e w1 ⟨rfl, hb1⟩
    have B1 := hid hb1
    clear hb1 R0
    go_wp2_with fail
    refine (RW w1).out.mono ?_
    rintro e w2 ⟨rfl, hb2⟩
    have B2 := hid (B1.out.trans (hb2.mono B1.out.size))
    clear hb2 B1
    go_wp2_with fail
    go_ret
    exact ⟨rfl, B2.out⟩
  have d1 : ¬ (10 : Int) < (a.length : Int) := by omega
  by_cases h2 : 10 < b.length
  · have d2 : (10 : Int) < (b.length : Int) := by omega
    generalize a.length = k at *
    generalize b.length = k2 at *
    clear hoff h2 KA KB
    go_enter Try.func9, Try.ntmps9
    go_wp2_with fail
    refine R0.out.mono ?_
    rintro e w1 ⟨rfl, hb1⟩
    have B1 := hid hb1
    clear hb1 R0
    go_wp2_with fail
    refine (RW w1).out.mono ?_
    rintro e w2 ⟨rfl, hb2⟩
    have B2 := hid (B1.out.trans (hb2.mono B1.out.size))
    clear hb2 B1
    go_wp2_with fail
    go_ret
    exact ⟨rfl, B2.out⟩
  have d2 : ¬ (10 : Int) < (b.length : Int) := by omega
  have IA := hid (show Ints w (.slice aa a.length ca) a from RawC.cells KA.out (by rw [show (intsV a).length = a.length from List.length_map _]; omega))
  have IB := hid (show Ints w (.slice ab b.length cb) b from RawC.cells KB.out (by rw [show (intsV b).length = b.length from List.length_map _]; omega))
  have CA := fun W (hW : Below w.heap.size w W) => hid (refCheckClause_any _ a 8 (by decide) W (IA.out.below hW))
  have CB := fun W (hW : Below w.heap.size w W) => hid (refCheckClause_any _ b 8 (by decide) W (IB.out.below hW))
  cases h3 : ckC a 8
  · rw [show rangeE (ckC a 8) = 8 by rw [h3]; rfl] at CA
    generalize a.length = k at *
    generalize b.length = k2 at *
    clear hoff h1 h2 h3 KA KB CB
    go_enter Try.func9, Try.ntmps9
    go_wp2_with fail
    refine R0.out.mono ?_
    rintro e w1 ⟨rfl, hb1⟩
    have B1 := hid hb1
    clear hb1 R0
    go_wp2_with fail
    refine (CA w1 B1.out).out.mono ?_
    rintro e w2 ⟨rfl, rfl⟩
    go_wp2_with fail
    refine (RW w1).out.mono ?_
    rintro e w2 ⟨rfl, hb2⟩
    have B2 := hid (B1.out.trans (hb2.mono B1.out.size))
    clear hb2 B1
    go_wp2_with fail
    go_ret
    exact ⟨rfl, B2.out⟩
  · have h4 : ckC b 8 = false := by
      rcases hoff with h | h | h | h
      · exact absurd h h1
      · exact absurd h h2
      · rw [h3] at h; cases h
      · exact h
    rw [show rangeE (ckC a 8) = 0 by rw [h3]; rfl] at CA
    rw [show rangeE (ckC b 8) = 8 by rw [h4]; rfl] at CB
    generalize a.length = k at *
    generalize b.length = k2 at *
    clear hoff h1 h2 h3 h4 KA KB
    go_enter Try.func9, Try.ntmps9
    go_wp2_with fail
    refine R0.out.mono ?_
    rintro e w1 ⟨rfl, hb1⟩
    have B1 := hid hb1
    clear hb1 R0
    go_wp2_with fail
    refine (CA w1 B1.out).out.mono ?_
    rintro e w2 ⟨rfl, rfl⟩
    clear CA
    go_wp2_with fail
    refine (CB w1 B1.out).out.mono ?_
    rintro e w2 ⟨rfl, rfl⟩
    go_wp2_with fail
    refine (RW w1).out.mono ?_
    rintro e w2 ⟨rfl, hb2⟩
    have B2 := hid (B1.out.trans (hb2.mono B1.out.size))
    clear hb2 B1
    go_wp2_with fail
    go_ret
    exact ⟨rfl, B2.out⟩

set_option maxHeartbeats 4000000 in
theorem law_subs (va vb : Value) (a b : List Int) (w : World) (ha : RawC w va (intsV a)) (hb : RawC w vb (intsV b)) (h1 : ¬ 10 < a.length) (h2 : ¬ 10 < b.length) (h3 : ckC a 8 = true) (h4 : ckC b 8 = true) :
    Calls Try.prog 9 #[va, vb] w fun e w' => e = .returned (.bool true) ∧ Below w.heap.size w w' := by
  have R0 := hid (resolved_any w)
  have d1 : ¬ (10 : Int) < (a.length : Int) := by omega
  have d2 : ¬ (10 : Int) < (b.length : Int) := by omega
  have IA0 := hid (show Ints w va a from RawC.cells ha (by rw [show (intsV a).length = a.length from List.length_map _]; omega))
  have IB0 := hid (show Ints w vb b from RawC.cells hb (by rw [show (intsV b).length = b.length from List.length_map _]; omega))
  obtain ⟨aa, ca, rfl, hca, _, hcells⟩ := IA0.out.shape
  obtain ⟨ab, cb, rfl, hcb⟩ := rawI hb
  clear ha hb
  have LA := hid (litsOk_of8 (by decide) h3)
  have LB := hid (litsOk_of8 (by decide) h4)
  have HC := hid hcells
  have AS := hid (subT_succ a b)
  have AL := hid (subT_all a b)
  have FO := hid (sub_follows (n := 8) (a := a) (b := b))
  generalize hk : a.length = k at *
  generalize b.length = k2 at *
  have HK := hid hk
  clear hcells hk
  go_enter Try.func9, Try.ntmps9
  go_wp2_with fail
  refine R0.out.mono ?_
  rintro e w1 ⟨rfl, hb1⟩
  have B1 := hid hb1
  have RA := hid (refCheckClause_any _ a 8 (by decide) w1 (IA0.out.below hb1))
  have RB := hid (refCheckClause_any _ b 8 (by decide) w1 (IB0.out.below hb1))
  rw [show rangeE (ckC a 8) = 0 by rw [h3]; rfl] at RA
  rw [show rangeE (ckC b 8) = 0 by rw [h4]; rfl] at RB
  clear hb1 R0 h1 h2 h3 h4
  go_wp2_with fail
  refine RA.out.mono ?_
  rintro e w2 ⟨rfl, rfl⟩
  clear RA
  go_wp2_with fail
  refine RB.out.mono ?_
  rintro e w2 ⟨rfl, rfl⟩
  clear RB
  go_wp2_with fail
  go_loopw [5, 6] (fun s u wr => ∃ j : Nat, u = .int .i64 (j : Int) ∧ j ≤ k ∧ s = .bool (subT a b j) ∧ wr = w1) (fun _ u _ => k - (intOf u).toNat)
  case atStart => exact ⟨0, rfl, Nat.zero_le _, rfl, rfl⟩
  case round =>
    obtain ⟨j, rfl, hjk, rfl, rfl⟩ := hrel
    by_cases hlt : j < k
    · obtain ⟨B, o, rfl, hB, hcc⟩ := HC.out (by omega)
      have hcj := (B1.out.cell (p := ⟨B, o + j, none⟩) hB).trans (hcc j hlt)
      have A1 := hid (AS.out j hlt)
      have HH := hid (refHas_any _ b (a.getD j 0) _ (IB0.out.below B1.out))
      generalize a.getD j 0 = x at *
      generalize b.contains x = t at *
      clear hcc HC AS AL FO LA LB IA0 IB0
      cases hs : subT a b j
      · rw [hs] at A1
        clear hs
        go_wp2_with fail
        go_roundw
        case rel => exact ⟨j + 1, by go_num, by omega, by rw [A1.out]; rfl, by first | rfl | trivial⟩
        case measure => simp [intOf]; omega
      · rw [hs] at A1
        clear hs
        go_wp2_with fail
        refine HH.out.mono ?_
        rintro e w2 ⟨rfl, rfl⟩
        go_wp2_with fail
        go_roundw
        case rel => exact ⟨j + 1, by go_num, by omega, by rw [A1.out]; rfl, by first | rfl | trivial⟩
        case measure => simp [intOf]; omega
    · have hjk2 : j = k := by omega
      subst hjk2
      rw [AL.out]
      have SB := hid (subsumes_any _ _ a b _ (IA0.out.below B1.out) (IB0.out.below B1.out))
      have FW := fun W (hW : Below w.heap.size w W) => hid (refFollows_any 8 (by decide) (.slice (some ⟨W.heap.size, 0, none⟩) 1 1) [a] (fun l hl => by rw [List.mem_singleton.1 hl]; exact LA.out) _ b LB.out (W.alloc (.cells #[.slice aa j ca] 31)) (lists_one (IA0.out.below hW) _) ((IB0.out.below hW).below (below_alloc (Below.refl _ _) _)))
      clear HC AS AL LA LB IA0 IB0
      cases hs : subC a b
      · rw [hs] at SB
        clear hs FW FO
        go_wp2_with fail
        refine SB.out.mono ?_
        rintro e w2 ⟨rfl, hb2⟩
        have B2 := hid (B1.out.trans (hb2.mono B1.out.size))
        clear hb2
        go_wp2_with fail
        go_ret
        exact ⟨rfl, B2.out⟩
      · rw [hs] at SB
        rw [FO.out hs] at FW
        clear hs FO
        go_wp2_with fail
        refine SB.out.mono ?_
        rintro e w2 ⟨rfl, hb2⟩
        have B2 := hid (B1.out.trans (hb2.mono B1.out.size))
        clear hb2
        go_wp2_with fail
        refine (FW w2 B2.out).out.mono ?_
        rintro e w3 ⟨rfl, hb3⟩
        have B3 := hid (B2.out.trans ((below_trans (below_alloc (Below.refl w2.heap.size w2) _) hb3).mono B2.out.size))
        clear hb3
        go_wp2_with fail
        go_ret
        exact ⟨rfl, B3.out⟩
end Go.Proofs.Ytopneceicamakaa.Cf
