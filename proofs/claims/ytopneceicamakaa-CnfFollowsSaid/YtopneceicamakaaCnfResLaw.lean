/-
  LAYER 12: the law CnfResolves walked.
-/
import Derived.Test.YtopneceicamakaaCnfDocResolve
import Derived.Test.YtopneceicamakaaCnfSubsLaw
namespace Go.Proofs.Ytopneceicamakaa.Cf
open Go.RowKit Go.Proofs.Ytopneceicamakaa Go.Proofs.Ytopneceicamakaa.Ln

theorem varI_neg (x : Int) : varI (-x) = varI x := by unfold varI; split <;> split <;> omega
theorem trueC_neg {v : Int} (hv : 1 ≤ v) (m : List Bool) : trueC (-v) m = !trueC v m := by
  unfold trueC
  rw [if_neg (by omega), if_neg (by omega), if_neg (by omega), if_pos (by omega : 0 < v)]
  unfold onM
  rw [varI_neg]
/-- what follows from two clauses holds where both do -/
theorem res_follows {n : Nat} {a b c : List Int} {v : Int} (h : resC a b v = some c) : followsC n [a, b] c = true := by
  have hg : ¬ (v < 1 ∨ a.contains v = false ∨ b.contains (-v) = false) := by
    intro hg; unfold resC at h; rw [if_pos hg] at h; cases h
  have hc : c = normC (dropL a v ++ dropL b (-v)) := by
    unfold resC at h; rw [if_neg hg] at h; split at h
    · cases h
    · cases h; rfl
  subst hc
  refine follows_of fun m hm => ?_
  have h2 : someT a m = true ∧ someT b m = true := by simpa [holdsC] using hm
  unfold someT at h2 ⊢
  rw [List.any_eq_true, List.any_eq_true] at h2
  obtain ⟨⟨x, hx, tx⟩, ⟨y, hy, ty⟩⟩ := h2
  rw [List.any_eq_true]
  by_cases e : x = v
  · by_cases e2 : y = -v
    · exfalso
      rw [e2, trueC_neg (by omega), ← e, tx] at ty
      cases ty
    · exact ⟨y, (normC_mem _ _).2 (List.mem_append.2 (.inr (List.mem_filter.2 ⟨hy, by simpa using e2⟩))), ty⟩
  · exact ⟨x, (normC_mem _ _).2 (List.mem_append.2 (.inl (List.mem_filter.2 ⟨hx, by simpa using e⟩))), tx⟩

theorem lists_two {w : World} {v v2 : Value} {a b : List Int} (h : Ints w v a) (h2 : Ints w v2 b) (T : TypeId) : Lists (w.alloc (.cells #[v, v2] T)) (.slice (some ⟨w.heap.size, 0, none⟩) 2 2) [a, b] := by
  refine ⟨[v, v2], ⟨some ⟨w.heap.size, 0, none⟩, 2, rfl, Nat.le_refl _, by simp, fun _ => ⟨w.heap.size, 0, rfl, by simp, fun j hj => ?_⟩⟩, rfl, fun j hj hk => ?_⟩
  · rw [Nat.zero_add]
    exact (Blk.new w [v, v2] T).cell j (List.getElem?_eq_getElem hj)
  · have hj2 : j < 2 := by simpa using hj
    match j, hj2 with
    | 0, _ => exact h.below (below_alloc (Below.refl _ _) _)
    | 1, _ => exact h2.below (below_alloc (Below.refl _ _) _)

set_option maxHeartbeats 4000000 in
/-- where the law asks nothing -/
theorem law_res_off (va vb : Value) (a b : List Int) (v : Int) (w : World) (ha : RawC w va (intsV a)) (hb : RawC w vb (intsV b)) (hoff : 10 < a.length ∨ 10 < b.length ∨ ckC a 8 = false ∨ ckC b 8 = false) :
    Calls Try.prog 5 #[va, vb, .int .i64 v] w fun e w' => e = .returned (.bool true) ∧ Below w.heap.size w w' := by
  have R0 := hid (resolved_any w)
  have RW := fun W => hid (resolved_any W)
  have KA := hid ha
  have KB := hid hb
  obtain ⟨aa, ca, rfl, hca⟩ := rawI ha
  obtain ⟨ab, cb, rfl, hcb⟩ := rawI hb
  clear ha hb
  by_cases h1 : 10 < a.length
  · have d1 : (10 : Int) < (a.length : Int) := by omega
    generalize a.length = k at *
    generalize b.length = k2 at *
    clear hoff h1 KA KB
    go_enter Try.func5, Try.ntmps5
    go_wp2_with fail
    refine R0.out.mono ?_
    rintro e w1 ⟨rfl, hb1⟩
    have B1 := hid hb1
    clear hb1 R0
    go_wp2_with fail
    refine (RW w1).out.mono ?_
    rintro e w2 ⟨rfl, hb2⟩
    have B2 := hid (B1.out.trans (hb2.mono B1.out.size))
    clear hb2 B1
    go_wp2_with fail
    go_ret
    exact ⟨rfl, B2.out⟩
  have d1 : ¬ (10 : Int) < (a.length : Int) := by omega
  by_cases h2 : 10 < b.length
  · have d2 : (10 : Int) < (b.length : Int) := by omega
    generalize a.length = k at *
    generalize b.length = k2 at *
    clear hoff h2 KA KB
    go_enter Try.func5, Try.ntmps5
    go_wp2_with fail
    refine R0.out.mono ?_
    rintro e w1 ⟨rfl, hb1⟩
    have B1 := hid hb1
    clear hb1 R0
    go_wp2_with fail
    refine (RW w1).out.mono ?_
    rintro e w2 ⟨rfl, hb2⟩
    have B2 := hid (B1.out.trans (hb2.mono B1.out.size))
    clear hb2 B1
    go_wp2_with fail
    go_ret
    exact ⟨rfl, B2.out⟩
  have d2 : ¬ (10 : Int) < (b.length : Int) := by omega
  have IA := hid (show Ints w (.slice aa a.length ca) a from RawC.cells KA.out (by rw [show (intsV a).length = a.length from List.length_map _]; omega))
  have IB := hid (show Ints w (.slice ab b.length cb) b from RawC.cells KB.out (by rw [show (intsV b).length = b.length from List.length_map _]; omega))
  have CA := fun W (hW : Below w.heap.size w W) => hid (refCheckClause_any _ a 8 (by decide) W (IA.out.below hW))
  have CB := fun W (hW : Below w.heap.size w W) => hid (refCheckClause_any _ b 8 (by decide) W (IB.out.below hW))
  cases h3 : ckC a 8
  · rw [show rangeE (ckC a 8) = 8 by rw [h3]; rfl] at CA
    generalize a.length = k at *
    generalize b.length = k2 at *
    clear hoff h1 h2 h3 KA KB CB
    go_enter Try.func5, Try.ntmps5
    go_wp2_with fail
    refine R0.out.mono ?_
    rintro e w1 ⟨rfl, hb1⟩
    have B1 := hid hb1
    clear hb1 R0
    go_wp2_with fail
    refine (CA w1 B1.out).out.mono ?_
    rintro e w2 ⟨rfl, rfl⟩
    go_wp2_with fail
    refine (RW w1).out.mono ?_
    rintro e w2 ⟨rfl, hb2⟩
    have B2 := hid (B1.out.trans (hb2.mono B1.out.size))
    clear hb2 B1
    go_wp2_with fail
    go_ret
    exact ⟨rfl, B2.out⟩
  · have h4 : ckC b 8 = false := by
      rcases hoff with h | h | h | h
      · exact absurd h h1
      · exact absurd h h2
      · rw [h3] at h; cases h
      · exact h
    rw [show rangeE (ckC a 8) = 0 by rw [h3]; rfl] at CA
    rw [show rangeE (ckC b 8) = 8 by rw [h4]; rfl] at CB
    generalize a.length = k at *
    generalize b.length = k2 at *
    clear hoff h1 h2 h3 h4 KA KB
    go_enter Try.func5, Try.ntmps5
    go_wp2_with fail
    refine R0.out.mono ?_
    rintro e w1 ⟨rfl, hb1⟩
    have B1 := hid hb1
    clear hb1 R0
    go_wp2_with fail
    refine (CA w1 B1.out).out.mono ?_
    rintro e w2 ⟨rfl, rfl⟩
    clear CA
    go_wp2_with fail
    refine (CB w1 B1.out).out.mono ?_
    rintro e w2 ⟨rfl, rfl⟩
    go_wp2_with fail
    refine (RW w1).out.mono ?_
    rintro e w2 ⟨rfl, hb2⟩
    have B2 := hid (B1.out.trans (hb2.mono B1.out.size))
    clear hb2 B1
    go_wp2_with fail
    go_ret
    exact ⟨rfl, B2.out⟩

set_option maxHeartbeats 4000000 in
theorem law_res (va vb : Value) (a b : List Int) (v : Int) (hv : v ≤ 9223372036854775807) (w : World) (ha : RawC w va (intsV a)) (hb : RawC w vb (intsV b)) (h1 : ¬ 10 < a.length) (h2 : ¬ 10 < b.length) (h3 : ckC a 8 = true) (h4 : ckC b 8 = true) :
    Calls Try.prog 5 #[va, vb, .int .i64 v] w fun e w' => e = .returned (.bool true) ∧ Below w.heap.size w w' := by
  have R0 := hid (resolved_any w)
  have d1 : ¬ (10 : Int) < (a.length : Int) := by omega
  have d2 : ¬ (10 : Int) < (b.length : Int) := by omega
  have IA0 := hid (show Ints w va a from RawC.cells ha (by rw [show (intsV a).length = a.length from List.length_map _]; omega))
  have IB0 := hid (show Ints w vb b from RawC.cells hb (by rw [show (intsV b).length = b.length from List.length_map _]; omega))
  obtain ⟨aa, ca, rfl, hca⟩ := rawI ha
  obtain ⟨ab, cb, rfl, hcb⟩ := rawI hb
  clear ha hb
  have LA := hid (litsOk_of8 (by decide) h3)
  have LB := hid (litsOk_of8 (by decide) h4)
  have LEN := hid (And.intro h1 h2)
  have RA := fun W (hW : Below w.heap.size w W) => hid (refCheckClause_any _ a 8 (by decide) W (IA0.out.below hW))
  have RB := fun W (hW : Below w.heap.size w W) => hid (refCheckClause_any _ b 8 (by decide) W (IB0.out.below hW))
  rw [show rangeE (ckC a 8) = 0 by rw [h3]; rfl] at RA
  rw [show rangeE (ckC b 8) = 0 by rw [h4]; rfl] at RB
  have PR := fun W (hW : Below w.heap.size w W) => hid (resolve_any _ _ a b v hv LA.out.ok LB.out.ok (by omega) (by omega) W (IA0.out.below hW) (IB0.out.below hW))
  have DR := fun W (hW : Below w.heap.size w W) => hid (refResolve_any _ _ a b v hv LA.out LB.out (by omega) (by omega) W (IA0.out.below hW) (IB0.out.below hW))
  have FO := hid (fun c (h : resC a b v = some c) => res_follows (n := 8) h)
  have LO : Hid (∀ c, resC a b v = some c → litsOk c) := hid (fun c h => by
    unfold resC at h; split at h
    · cases h
    · split at h
      · cases h
      · cases h; exact litsOk_norm (litsOk_app (litsOk_drop LA.out v) (litsOk_drop LB.out (-v))))
  clear h1 h2 h3 h4
  unfold Resd at PR
  generalize resC a b v = r at *
  generalize a.length = k at *
  generalize b.length = k2 at *
  go_enter Try.func5, Try.ntmps5
  go_wp2_with fail
  refine R0.out.mono ?_
  rintro e w1 ⟨rfl, hb1⟩
  have B1 := hid hb1
  clear hb1 R0
  go_wp2_with fail
  refine (RA _ B1.out).out.mono ?_
  rintro e w2 ⟨rfl, rfl⟩
  clear RA
  go_wp2_with fail
  refine (RB _ B1.out).out.mono ?_
  rintro e w2 ⟨rfl, rfl⟩
  clear RB
  cases r with
  | none =>
    go_wp2_with fail
    refine (PR _ B1.out).out.mono ?_
    rintro e w2 ⟨⟨v2, rfl, hi2, hn2⟩, hb2⟩
    obtain rfl := hn2 trivial
    have B2 := hid (B1.out.trans (hb2.mono B1.out.size))
    clear hb2 PR hn2 hi2 FO LO
    go_wp2_with fail
    refine (DR _ B2.out).out.mono ?_
    rintro e w3 ⟨⟨v3, rfl, hi3⟩, hb3⟩
    have B3 := hid (B2.out.trans (hb3.mono B2.out.size))
    have I3 := hid hi3
    obtain ⟨a3, c3, rfl, _, _, _⟩ := hi3.shape
    have IE := hid (ints_any (.slice none 0 0) _ [] [] _ (Cells.nil _ none 0) I3.out)
    clear hb3 DR hi3
    go_wp2_with fail
    refine IE.out.mono ?_
    rintro e w4 ⟨rfl, hd4⟩
    have B4 := hid (B3.out.trans (hd4.below.mono B3.out.size))
    clear hd4
    go_wp2_with fail
    go_ret
    exact ⟨rfl, B4.out⟩
  | some c =>
    have FC := hid (FO.out c rfl)
    have LC := hid (LO.out c rfl)
    clear FO LO
    go_wp2_with fail
    refine (PR _ B1.out).out.mono ?_
    rintro e w2 ⟨⟨v2, rfl, hi2, hn2⟩, hb2⟩
    have B2 := hid (B1.out.trans (hb2.mono B1.out.size))
    have I2 := hid hi2
    obtain ⟨a2, c2, rfl, _, _, _⟩ := hi2.shape
    clear hb2 PR hn2 hi2
    go_wp2_with fail
    refine (DR _ B2.out).out.mono ?_
    rintro e w3 ⟨⟨v3, rfl, hi3⟩, hb3⟩
    have B3 := hid (B2.out.trans (hb3.mono B2.out.size))
    have I3 := hid hi3
    have I2' := hid (I2.out.below hb3)
    obtain ⟨a3, c3, rfl, _, _, _⟩ := hi3.shape
    have IE := hid (ints_any _ _ c c _ I2'.out I3.out)
    rw [decide_eq_true (rfl : c = c)] at IE
    clear hb3 DR hi3 I2
    simp only [Option.getD_some] at *
    generalize c.length = kc at *
    go_wp2_with fail
    refine IE.out.mono ?_
    rintro e w4 ⟨rfl, hd4⟩
    have B4 := hid (B3.out.trans (hd4.below.mono B3.out.size))
    have FW := hid (refFollows_any 8 (by decide) (.slice (some ⟨w4.heap.size, 0, none⟩) 2 2) [a, b] (fun l hl => by
      rcases List.mem_cons.1 hl with h | h
      · rw [h]; exact LA.out
      · rw [List.mem_singleton.1 h]; exact LB.out) _ c LC.out (w4.alloc (.cells #[.slice aa k ca, .slice ab k2 cb] 31)) (lists_two (IA0.out.below B4.out) (IB0.out.below B4.out) _) ((I2'.out.below hd4.below).below (below_alloc (Below.refl _ _) _)))
    rw [FC.out] at FW
    clear hd4
    go_wp2_with fail
    refine FW.out.mono ?_
    rintro e w5 ⟨rfl, hb5⟩
    have B5 := hid (B4.out.trans ((below_trans (below_alloc (Below.refl w4.heap.size w4) _) hb5).mono B4.out.size))
    clear hb5
    go_wp2_with fail
    go_ret
    exact ⟨rfl, B5.out⟩
end Go.Proofs.Ytopneceicamakaa.Cf
