/-
  LAYER 12: the law's few; the document's CheckClause and Check.
-/
import Derived.Test.YtopneceicamakaaCnfOpens
import Derived.Test.YtopneceicamakaaCnfResolved
namespace Go.Proofs.Ytopneceicamakaa.Cf
open Go.RowKit Go.Proofs.Ytopneceicamakaa Go.Proofs.Ytopneceicamakaa.Ln

def fewC (ll : List (List Int)) (many long : Nat) : Bool := decide (ll.length ≤ many) && ll.all (fun l => decide (l.length ≤ long))
theorem fewC_yes {ll : List (List Int)} {many long : Nat} (h : fewC ll many long = true) : ll.length ≤ many ∧ ∀ l ∈ ll, l.length ≤ long := by
  unfold fewC at h
  rw [Bool.and_eq_true, List.all_eq_true] at h
  exact ⟨of_decide_eq_true h.1, fun l hl => of_decide_eq_true (h.2 l hl)⟩

theorem rawL_shape {w : World} {v : Value} {ll : List (List Int)} (h : RawL w v ll) : ∃ a n c, v = .slice a n c ∧ n = ll.length ∧ n ≤ c ∧ (0 < n → ∃ B o, a = some ⟨B, o, none⟩ ∧ B < w.heap.size ∧ ∀ j, j < n → ∃ a2 c2, w.cell? ⟨B, o + j, none⟩ = some (.slice a2 (ll.getD j []).length c2) ∧ (ll.getD j []).length ≤ c2) := by
  obtain ⟨vs, ⟨a, c, rfl, hc, hcells⟩, hl, hi⟩ := h
  refine ⟨a, vs.length, c, rfl, hl, hc, fun hp => ?_⟩
  obtain ⟨B, o, e, hB, hcc⟩ := hcells hp
  refine ⟨B, o, e, hB, fun j hj => ?_⟩
  have h1 := hcc j hj
  obtain ⟨a2, c2, hv2, hc2, _⟩ := hi j hj
  rw [hv2] at h1
  rw [show (intsV (ll.getD j [])).length = (ll.getD j []).length from List.length_map _] at h1 hc2
  exact ⟨a2, c2, h1, hc2⟩

set_option maxHeartbeats 1000000 in
theorem few_any (v : Value) (ll : List (List Int)) (many long : Nat) (hm : many ≤ 1099511627776) (w : World) (h : RawL w v ll) :
    Calls Try.prog 11 #[v, .int .i64 (many : Int), .int .i64 (long : Int)] w fun e w' => e = .returned (.bool (fewC ll many long)) ∧ w = w' := by
  obtain ⟨a, n, c, rfl, hl, hc, hcells⟩ := rawL_shape h
  clear h
  by_cases h0 : many < ll.length
  · have E := hid (show fewC ll many long = false by unfold fewC; rw [decide_eq_false (by omega : ¬ ll.length ≤ many)]; rfl)
    have h1 : (many : Int) < (n : Int) := by omega
    clear hl h0 hcells hc hm
    go_enter Try.func11, Try.ntmps11
    go_wp2
    go_ret
    exact ⟨ret_bool E.out.symm, rfl⟩
  have h1 : ¬ (many : Int) < (n : Int) := by omega
  have hvm : n ≤ 1099511627776 := by omega
  have HI := hid (And.intro hl hcells)
  have E0 := hid h0
  clear hl h0 hcells
  go_enter Try.func11, Try.ntmps11
  go_wp2
  go_loopw [7] (fun i wr => ∃ m : Nat, i = .int .i64 (m : Int) ∧ m ≤ n ∧ Hid (∀ j, j < m → (ll.getD j []).length ≤ long) ∧ wr = w) (fun i _ => n - (intOf i).toNat)
  case atStart => exact ⟨0, rfl, Nat.zero_le _, hid (fun j hj => absurd hj (Nat.not_lt_zero _)), rfl⟩
  case round =>
    obtain ⟨m, rfl, hmn, HS, rfl⟩ := hrel
    by_cases hlt : m < n
    · obtain ⟨B, o, rfl, hB, hcc⟩ := HI.out.2 (by omega)
      obtain ⟨a2, c2, hcm, hc2⟩ := hcc m (by omega)
      clear hcc
      by_cases hbig : long < (ll.getD m []).length
      · have E := hid (show fewC ll many long = false by
          have hml : m < ll.length := by have := HI.out.1; omega
          unfold fewC
          rw [Bool.and_eq_false_iff]
          right
          rw [List.all_eq_false]
          refine ⟨ll[m], List.getElem_mem _, ?_⟩
          rw [List.getD_eq_getElem?_getD, List.getElem?_eq_getElem hml] at hbig
          simp at hbig ⊢; omega)
        generalize (ll.getD m []).length = q at *
        clear HI HS E0
        go_wp2
        go_ret
        exact ⟨ret_bool E.out.symm, rfl⟩
      · have HS2 := hid (show ∀ j, j < m + 1 → (ll.getD j []).length ≤ long from fun j hj => by
          by_cases e : j = m
          · subst e; omega
          · exact HS.out j (by omega))
        generalize (ll.getD m []).length = q at *
        clear HI HS E0
        go_wp2
        go_roundw
        case rel => exact ⟨m + 1, by go_num, by omega, HS2, by first | rfl | trivial⟩
        case measure => simp [intOf]; omega
    · have hm2 : m = n := by omega
      subst hm2
      have E := hid (show fewC ll many long = true by
        unfold fewC
        rw [Bool.and_eq_true, List.all_eq_true]
        refine ⟨decide_eq_true (by have := E0.out; omega), fun l hl => decide_eq_true ?_⟩
        obtain ⟨j, hj, rfl⟩ := List.mem_iff_getElem.1 hl
        have := HS.out j (by have := HI.out.1; omega)
        rwa [List.getD_eq_getElem?_getD, List.getElem?_eq_getElem hj] at this)
      clear HI HS E0
      go_wp2
      go_ret
      exact ⟨ret_bool E.out.symm, rfl⟩
theorem ck_no {l : List Int} {n : Int} {m : Nat} (hm : m < l.length) (hb : badL (mostI n) (l.getD m 0) = true) : rangeE (ckC l n) = 8 := by
  have : l.any (badL (mostI n)) = true := by
    rw [List.any_eq_true]
    rw [List.getD_eq_getElem?_getD, List.getElem?_eq_getElem hm] at hb
    exact ⟨l[m], List.getElem_mem _, hb⟩
  unfold ckC; rw [this]; rfl
theorem ck_yes {l : List Int} {n : Int} (hb : ∀ j, j < l.length → badL (mostI n) (l.getD j 0) = false) : rangeE (ckC l n) = 0 := by
  have : l.any (badL (mostI n)) = false := by
    rw [List.any_eq_false]
    intro x hx
    obtain ⟨j, hj, rfl⟩ := List.mem_iff_getElem.1 hx
    have := hb j hj
    rw [List.getD_eq_getElem?_getD, List.getElem?_eq_getElem hj] at this
    simpa using this
  unfold ckC; rw [this]; rfl
theorem badL_eq {m x : Int} : badL m x = (x == 0 || decide (x < -m) || decide (m < x)) := rfl

set_option maxHeartbeats 1000000 in
theorem refCheckClause_neg (v : Value) (l : List Int) (n : Int) (_ : n ≤ 9223372036854775807) (hs : n < 0) (w : World) (h : Ints w v l) :
    Calls Try.prog 15 #[v, .int .i64 n] w fun e w' => e = .returned (.int .i64 (rangeE (ckC l n))) ∧ w = w' := by
  have e0 : mostI n = 0 := by unfold mostI; rw [if_pos hs]
  have NO := hid (fun (m : Nat) (hm : m < l.length) (hb : badL (0) (l.getD m 0) = true) => ck_no (n := n) hm (by rw [e0]; exact hb))
  have YES := hid (fun (hb : ∀ j, j < l.length → badL (0) (l.getD j 0) = false) => ck_yes (n := n) (by rw [e0]; exact hb))
  obtain ⟨a, c, rfl, hc, hl, hcells⟩ := h.shape
  have HC := hid hcells
  generalize hr : rangeE (ckC l n) = r at *
  generalize hq : l.length = q at *
  clear e0 h hcells hr
  go_enter Try.func15, Try.ntmps15
  go_wp2
  go_loopw [5] (fun i wr => ∃ m : Nat, i = .int .i64 (m : Int) ∧ m ≤ q ∧ Hid (∀ j, j < m → badL (0) (l.getD j 0) = false) ∧ wr = w) (fun i _ => q - (intOf i).toNat)
  case atStart => exact ⟨0, rfl, Nat.zero_le _, hid (fun j hj => absurd hj (Nat.not_lt_zero _)), rfl⟩
  case round =>
    obtain ⟨m, rfl, hmn, HS, rfl⟩ := hrel
    by_cases hlt : m < q
    · obtain ⟨B, o, rfl, hB, hcc⟩ := HC.out (by omega)
      have hcm := hcc m hlt
      have NOm := hid (NO.out m hlt)
      have HSm := hid (fun (hx : badL (0) (l.getD m 0) = false) j (hj : j < m + 1) => show badL (0) (l.getD j 0) = false by
        by_cases e : j = m
        · subst e; exact hx
        · exact HS.out j (by omega))
      clear hcc HC NO YES hq HS
      generalize l.getD m 0 = x at *
      by_cases x0 : x = 0
      · have E := hid (NOm.out (by rw [badL_eq, x0]; rfl))
        clear NOm HSm
        subst x0
        go_wp2
        go_ret
        exact ⟨ret_int E.out.symm, rfl⟩
      have y0 : (x == 0) = false := by rw [beq_eq_false_iff_ne]; exact x0
      by_cases x1 : 0 < x
      · have E := hid (NOm.out (by rw [badL_eq, decide_eq_true x1, Bool.or_true]))
        clear NOm HSm y0
        go_wp2
        go_ret
        exact ⟨ret_int E.out.symm, rfl⟩
      by_cases x2 : x < -(0)
      · have E := hid (NOm.out (by rw [badL_eq, decide_eq_true x2, Bool.or_true, Bool.true_or]))
        clear NOm HSm y0
        go_wp2
        go_ret
        exact ⟨ret_int E.out.symm, rfl⟩
      · exfalso; omega
    · have hm2 : m = q := by omega
      subst hm2
      have E := hid (YES.out HS.out)
      clear HC NO YES HS hq
      go_wp2
      go_ret
      exact ⟨ret_int E.out.symm, rfl⟩

set_option maxHeartbeats 1000000 in
theorem refCheckClause_pos (v : Value) (l : List Int) (n : Int) (hn : n ≤ 9223372036854775807) (hs : 0 ≤ n) (w : World) (h : Ints w v l) :
    Calls Try.prog 15 #[v, .int .i64 n] w fun e w' => e = .returned (.int .i64 (rangeE (ckC l n))) ∧ w = w' := by
  have e0 : mostI n = n := by unfold mostI; rw [if_neg (by omega)]
  have NO := hid (fun (m : Nat) (hm : m < l.length) (hb : badL (n) (l.getD m 0) = true) => ck_no (n := n) hm (by rw [e0]; exact hb))
  have YES := hid (fun (hb : ∀ j, j < l.length → badL (n) (l.getD j 0) = false) => ck_yes (n := n) (by rw [e0]; exact hb))
  obtain ⟨a, c, rfl, hc, hl, hcells⟩ := h.shape
  have HC := hid hcells
  generalize hr : rangeE (ckC l n) = r at *
  generalize hq : l.length = q at *
  clear e0 h hcells hr
  go_enter Try.func15, Try.ntmps15
  go_wp2
  go_loopw [5] (fun i wr => ∃ m : Nat, i = .int .i64 (m : Int) ∧ m ≤ q ∧ Hid (∀ j, j < m → badL (n) (l.getD j 0) = false) ∧ wr = w) (fun i _ => q - (intOf i).toNat)
  case atStart => exact ⟨0, rfl, Nat.zero_le _, hid (fun j hj => absurd hj (Nat.not_lt_zero _)), rfl⟩
  case round =>
    obtain ⟨m, rfl, hmn, HS, rfl⟩ := hrel
    by_cases hlt : m < q
    · obtain ⟨B, o, rfl, hB, hcc⟩ := HC.out (by omega)
      have hcm := hcc m hlt
      have NOm := hid (NO.out m hlt)
      have HSm := hid (fun (hx : badL (n) (l.getD m 0) = false) j (hj : j < m + 1) => show badL (n) (l.getD j 0) = false by
        by_cases e : j = m
        · subst e; exact hx
        · exact HS.out j (by omega))
      clear hcc HC NO YES hq HS
      generalize l.getD m 0 = x at *
      by_cases x0 : x = 0
      · have E := hid (NOm.out (by rw [badL_eq, x0]; rfl))
        clear NOm HSm
        subst x0
        go_wp2
        go_ret
        exact ⟨ret_int E.out.symm, rfl⟩
      have y0 : (x == 0) = false := by rw [beq_eq_false_iff_ne]; exact x0
      by_cases x1 : n < x
      · have E := hid (NOm.out (by rw [badL_eq, decide_eq_true x1, Bool.or_true]))
        clear NOm HSm y0
        go_wp2
        go_ret
        exact ⟨ret_int E.out.symm, rfl⟩
      by_cases x2 : x < -(n)
      · have E := hid (NOm.out (by rw [badL_eq, decide_eq_true x2, Bool.or_true, Bool.true_or]))
        clear NOm HSm y0
        go_wp2
        go_ret
        exact ⟨ret_int E.out.symm, rfl⟩
      · have HS2 := hid (HSm.out (by rw [badL_eq, y0, decide_eq_false x1, decide_eq_false x2]; rfl))
        clear NOm HSm y0
        go_wp2
        go_roundw
        case rel => exact ⟨m + 1, by go_num, by omega, HS2, by first | rfl | trivial⟩
        case measure => simp [intOf]; omega
    · have hm2 : m = q := by omega
      subst hm2
      have E := hid (YES.out HS.out)
      clear HC NO YES HS hq
      go_wp2
      go_ret
      exact ⟨ret_int E.out.symm, rfl⟩

theorem refCheckClause_any (v : Value) (l : List Int) (n : Int) (hn : n ≤ 9223372036854775807) (w : World) (h : Ints w v l) :
    Calls Try.prog 15 #[v, .int .i64 n] w fun e w' => e = .returned (.int .i64 (rangeE (ckC l n))) ∧ w = w' := by
  by_cases hs : n < 0
  · exact refCheckClause_neg v l n hn hs w h
  · exact refCheckClause_pos v l n hn (by omega) w h

theorem rangeE_cases (b : Bool) : (b = true ∧ rangeE b = 0) ∨ (b = false ∧ rangeE b = 8) := by cases b <;> simp [rangeE]

set_option maxHeartbeats 1000000 in
theorem refCheck_any (N : Int) (hn : N ≤ 9223372036854775807) (v : Value) (ll : List (List Int)) (w : World) (h : Lists w v ll) :
    Calls Try.prog 13 #[.int .i64 N, v] w fun e w' => e = .returned (.int .i64 (checkE N ll)) ∧ w = w' := by
  obtain ⟨vs, hc, hl, hi⟩ := lists_get h
  obtain ⟨a, c, rfl, hcap, hmax, hcells⟩ := hc
  by_cases h1 : N < 0
  · have E := hid (show checkE N ll = 8 by unfold checkE; rw [if_pos (.inl h1)])
    clear hi hcells h hl
    go_enter Try.func13, Try.ntmps13
    go_wp2
    go_ret
    exact ⟨ret_int E.out.symm, rfl⟩
  by_cases h2 : 400 < N
  · have E := hid (show checkE N ll = 8 by unfold checkE; rw [if_pos (.inr h2)])
    clear hi hcells h hl
    go_enter Try.func13, Try.ntmps13
    go_wp2
    go_ret
    exact ⟨ret_int E.out.symm, rfl⟩
  have hg : ¬ (N < 0 ∨ 400 < N) := by omega
  by_cases h3 : 8000 < ll.length
  · have E := hid (show checkE N ll = 2 by unfold checkE; rw [if_neg hg, if_pos h3])
    have h3' : (8000 : Int) < (vs.length : Int) := by omega
    clear hi hcells h hg hl h3
    go_enter Try.func13, Try.ntmps13
    go_wp2
    go_ret
    exact ⟨ret_int E.out.symm, rfl⟩
  have h3' : ¬ (8000 : Int) < (vs.length : Int) := by omega
  have E1 := hid (fun (m : Nat) (hm : m < ll.length) (hb : ckC (ll.getD m []) N = false) => show checkE N ll = 8 by
    have : ll.any (fun l => !ckC l N) = true := by
      rw [List.any_eq_true]
      rw [List.getD_eq_getElem?_getD, List.getElem?_eq_getElem hm] at hb
      exact ⟨ll[m], List.getElem_mem _, by simpa using hb⟩
    unfold checkE; rw [if_neg hg, if_neg h3, this]; rfl)
  have E2 := hid (fun (hb : ∀ j, j < ll.length → ckC (ll.getD j []) N = true) => show checkE N ll = 0 by
    have : ll.any (fun l => !ckC l N) = false := by
      rw [List.any_eq_false]
      intro x hx
      obtain ⟨j, hj, rfl⟩ := List.mem_iff_getElem.1 hx
      have := hb j hj
      rw [List.getD_eq_getElem?_getD, List.getElem?_eq_getElem hj] at this
      simpa using this
    unfold checkE; rw [if_neg hg, if_neg h3, this]; rfl)
  have HG : Hid (0 < vs.length → ∃ B o, a = some ⟨B, o, none⟩ ∧ B < w.heap.size ∧ ∀ j, j < vs.length → ∃ u, w.cell? ⟨B, o + j, none⟩ = some u ∧ Ints w u (ll.getD j [])) := hid (fun hp => by
    obtain ⟨B, o, e, hB, hcc⟩ := hcells hp
    exact ⟨B, o, e, hB, fun j hj => ⟨_, hcc j hj, hi j hj⟩⟩)
  clear hi hcells h hg h3
  generalize checkE N ll = r at *
  generalize vs.length = q at *
  have HL := hid hl
  clear hl
  go_enter Try.func13, Try.ntmps13
  go_wp2
  go_loopw [5] (fun i wr => ∃ m : Nat, i = .int .i64 (m : Int) ∧ m ≤ q ∧ Hid (∀ j, j < m → ckC (ll.getD j []) N = true) ∧ wr = w) (fun i _ => q - (intOf i).toNat)
  case atStart => exact ⟨0, rfl, Nat.zero_le _, hid (fun j hj => absurd hj (Nat.not_lt_zero _)), rfl⟩
  case round =>
    obtain ⟨m, rfl, hmn, HS, rfl⟩ := hrel
    by_cases hlt : m < q
    · obtain ⟨B, o, rfl, hB, hcc⟩ := HG.out (by omega)
      obtain ⟨u, hcm, hu⟩ := hcc m hlt
      have HC := hid (refCheckClause_any u (ll.getD m []) N hn wr hu)
      have E1m := hid (E1.out m (by have := HL.out; omega))
      have HSm := hid (fun (hx : ckC (ll.getD m []) N = true) j (hj : j < m + 1) => show ckC (ll.getD j []) N = true by
        by_cases e : j = m
        · subst e; exact hx
        · exact HS.out j (by omega))
      obtain ⟨a2, c2, rfl, _, _, _⟩ := hu.shape
      clear hcc HG E1 E2 HS hu HL
      generalize hlm : (ll.getD m []).length = y at *
      clear hlm
      rcases rangeE_cases (ckC (ll.getD m []) N) with ⟨hb, he⟩ | ⟨hb, he⟩
      · have HS2 := hid (HSm.out hb)
        rw [he] at HC
        clear hb he HSm E1m
        go_wp2_with fail
        refine HC.out.mono ?_
        rintro e w2 ⟨rfl, rfl⟩
        clear HC
        go_wp2
        go_roundw
        case rel => exact ⟨m + 1, by go_num, by omega, HS2, by first | rfl | trivial⟩
        case measure => simp [intOf]; omega
      · have E := hid (E1m.out hb)
        rw [he] at HC
        clear hb he HSm E1m
        go_wp2_with fail
        refine HC.out.mono ?_
        rintro e w2 ⟨rfl, rfl⟩
        clear HC
        go_wp2
        go_ret
        exact ⟨ret_int E.out.symm, rfl⟩
    · have hm2 : m = q := by omega
      subst hm2
      have E := hid (E2.out (fun j hj => HS.out j (by have := HL.out; omega)))
      clear HG E1 E2 HS HL
      go_wp2
      go_ret
      exact ⟨ret_int E.out.symm, rfl⟩
end Go.Proofs.Ytopneceicamakaa.Cf
