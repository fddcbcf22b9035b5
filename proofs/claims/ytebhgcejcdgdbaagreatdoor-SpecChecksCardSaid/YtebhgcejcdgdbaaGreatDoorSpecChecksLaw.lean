/-
  LAYER 4: SpecChecks.
-/
import Derived.Test.YtebhgcejcdgdbaaGreatDoorSpecRawCheck
import Derived.Test.YtebhgcejcdgdbaaGreatDoorSpecBack
import Derived.Test.YtebhgcejcdgdbaaGreatDoorML
import Derived.Deep.RegionHeld3
namespace Go.Proofs.YtebhgcejcdgdbaaGreatDoor.Sp
open Go.RowKit Go.Sort
open Go.Proofs.YtebhgcejcdgdbaaGreatDoor Go.Proofs.YtebhgcejcdgdbaaGreatDoor.Nu Go.Proofs.YtebhgcejcdgdbaaGreatDoor.Vs

/-- what a comparison comes to, as the law asks -/
theorem cOk_law (c : RawC) : cOk c = (decide (0 ≤ c.op) && decide (c.op ≤ 8) && checkI c.a c.b c.c c.p.data.toList && (c.op != 8 || plainB c)) := by
  unfold cOk
  by_cases h8 : c.op = 8
  · rw [if_pos h8]
    have e : (c.op != 8) = false := by rw [h8]; rfl
    rw [e, decide_eq_true (by omega), decide_eq_true (by omega), Bool.true_and, Bool.true_and, Bool.false_or]
    cases hp : plainB c
    · rw [Bool.and_false]
    · rw [Bool.and_true]
      unfold plainB at hp
      simp only [Bool.and_eq_true, beq_iff_eq] at hp
      obtain ⟨⟨⟨h1, h2⟩, h3⟩, h4⟩ := hp
      rw [ByteArray.toList_eq] at h4
      rw [h1, h2, h3, h4]; rfl
  · rw [if_neg h8]
    have e : (c.op != 8) = true := by rw [bne_iff_ne]; exact h8
    rw [e, Bool.true_or, Bool.and_true]
    congr 2
    rw [decide_eq_decide]; omega
theorem take8 {cs : List RawC} {k : Nat} {c : RawC} (h : cs[k]? = some c) : (cs.take (k + 1)).all cOk = ((cs.take k).all cOk && cOk c) := by
  rw [List.take_add_one, h, List.all_append]; simp

theorem keepS {W5 b c : World} {p1 p2 : Nat} {v1 v2 : Value} (k : Below b.heap.size b c) (h : Below W5.heap.size W5 b ∧ b.cell? ⟨p1, 0, none⟩ = some v1 ∧ b.cell? ⟨p2, 0, none⟩ = some v2) :
    Below W5.heap.size W5 c ∧ c.cell? ⟨p1, 0, none⟩ = some v1 ∧ c.cell? ⟨p2, 0, none⟩ = some v2 := ⟨below_trans h.1 k, bc k h.2.1, bc k h.2.2⟩
set_option maxRecDepth 20000 in
set_option maxHeartbeats 8000000 in
theorem law_checks (v : Value) (rs : List (List RawC)) (w : World) (hr : RawR w v rs) (hm : MaxAt w) (ht : TenAt w) (hg : SignsAt w) :
    Calls Tryz.prog 4 #[.agg #[v]] w fun e w' => e = .returned (.bool true) ∧ Below w.heap.size w w' := by
  have HPD := hid taken_any
  have hr0 := hid hr
  obtain ⟨a, cp, rfl, hn⟩ := hr
  have hb0 := hid (below_alloc (Below.refl w.heap.size w) (.cells #[.slice a rs.length cp] 25))
  have hn0 := hid (Blk.new w [.slice a rs.length cp] 25)
  have TK0 := hid (HPD.out _ (hm.below hb0.out) (ht.below hb0.out) (hg.below hb0.out))
  go_enter Tryz.func4, Tryz.ntmps4
  go_wp2_with fail
  refine TK0.out.mono ?_
  rintro e w1 ⟨rfl, hb1⟩
  have z1 := hid (below_trans hb0.out hb1)
  have x1 := hid (hn0.out.below hb1)
  have TK1 := hid (HPD.out _ (hm.below z1.out) (ht.below z1.out) (hg.below z1.out))
  have c0 := x1.out.cell 0 rfl
  have cl := x1.out.lt
  clear hb0 hn0 TK0 hb1
  by_cases hbig : (6 : Int) < (rs.length : Int)
  · go_wp2_with (go_at_call 11; (with_reducible refine TK1.out.mono ?_); rintro e w2 ⟨rfl, hb2⟩)
    go_ret
    exact ⟨rfl, below_trans z1.out hb2⟩
  · have hn6 := hid (show rs.length ≤ 6 by omega)
    replace hn := hid hn
    clear TK1
    by_cases hl1 : (1 : Int) ≤ (rs.length : Int)
    · by_cases hl4 : (rs.length : Int) ≤ 4
      · have hmt := hid (show decide (1 ≤ rs.length) = true ∧ decide (rs.length ≤ 4) = true from ⟨decide_eq_true (by omega), decide_eq_true (by omega)⟩)
        go_wp2_with fail
        go_loopw [3, 4, 5, 6, 7] (fun m i _ _ _ wr => ∃ (k : Nat) (M : Bool), k ≤ rs.length ∧ i = .int .i64 k ∧ m = .bool M ∧ Hid (M = (true && (rs.take k).all altOk)) ∧ Hid (∀ cs, cs ∈ rs.take k → ∀ c, c ∈ cs.take 8 → c.p.size ≤ 60) ∧ Hid (Below w1.heap.size w1 wr)) (fun _ i _ _ _ _ => rs.length - (intOf i).toNat)
        case atStart => exact ⟨0, true, by omega, rfl, (by first | rfl | exact congrArg Value.bool (decide_eq_false (by omega))), hid rfl, hid (by simp), hid (Below.refl _ _)⟩
        case round =>
          obtain ⟨k, M, hk, rfl, rfl, hM, hT, hb⟩ := hrel
          have r0 := bc hb.out c0
          have rl := Nat.lt_of_lt_of_le cl hb.out.size
          by_cases hlt : k < rs.length
          · have k6 : k < 6 := by have := hn6.out; omega
            have hx := List.getElem?_eq_getElem hlt
            generalize rs[k] = cs at hx
            obtain ⟨G, o, rfl, hG, hcs⟩ := hn.out (by intro e; rw [e] at hlt; simp at hlt)
            obtain ⟨u, d0, hu⟩ := hcs k cs hx
            obtain ⟨ua, ucp, rfl, hun⟩ := hu
            replace hun := hid hun
            have g0 := bc hb.out (bc z1.out d0)
            have hgl := Nat.lt_of_lt_of_le hG (below_trans z1.out hb.out).size
            have hstk := hid (show (rs.take (k + 1)).all altOk = ((rs.take k).all altOk && altOk cs) by rw [List.take_add_one, hx, List.all_append]; simp)
            have htk := hid (show rs.take (k + 1) = rs.take k ++ [cs] by rw [List.take_add_one, hx]; rfl)
            have hao := hid (show altOk cs = (decide (1 ≤ cs.length) && decide (cs.length ≤ 4) && cs.all cOk) from rfl)
            clear hx hcs d0
            cases M
            · go_wp2_with fail
              go_loopw [3, 6, 7] (fun m i _ wx => ∃ (j : Nat) (N : Bool), j ≤ cs.length ∧ j ≤ 8 ∧ i = .int .i64 j ∧ m = .bool N ∧ Hid (N = (false && (cs.take j).all cOk)) ∧ Hid (∀ c, c ∈ cs.take j → c.p.size ≤ 60) ∧ Hid (Below w1.heap.size w1 wx)) (fun _ i _ _ => cs.length - (intOf i).toNat)
              case atStart => exact ⟨0, false, by omega, by omega, rfl, rfl, hid rfl, hid (by simp), hb⟩
              case round =>
                obtain ⟨j, N, hj, hj9, rfl, rfl, hN, hT2, hbi⟩ := hrel
                by_cases hj8 : j < cs.length ∧ j < 8
                ·   have j8 : j < 8 := hj8.2
                    have hlt2 : j < cs.length := hj8.1
                    have hx := List.getElem?_eq_getElem hlt2
                    generalize cs[j] = x at hx
                    obtain ⟨B, ob, rfl, hBl, hcc⟩ := hun.out (by intro e; rw [e] at hlt2; simp at hlt2)
                    obtain ⟨d0, d1, d2, d3, d4⟩ := hcc j x hx
                    have zx := hid (below_trans z1.out hbi.out)
                    have y0 := bc zx.out d0
                    have y1 := bc zx.out d1
                    have y2 := bc zx.out d2
                    have y3 := bc zx.out d3
                    have y4 := bc zx.out d4
                    have yl := Nat.lt_of_lt_of_le hBl zx.out.size
                    have hst := hid (take8 hx)
                    have hcl := hid (cOk_law x)
                    have htj := hid (show cs.take (j + 1) = cs.take j ++ [x] by rw [List.take_add_one, hx]; rfl)
                    clear hx hcc d0 d1 d2 d3 d4
                    by_cases h60 : (60 : Int) < (x.p.size : Int)
                    · go_wp2_with fail
                      all_goals
                        go_ret
                        exact ⟨rfl, zx.out⟩
                    · have hT3 := hid (show ∀ c, c ∈ cs.take (j + 1) → c.p.size ≤ 60 from fun c hc => by
                        rw [htj.out] at hc
                        rcases List.mem_append.1 hc with h | h
                        · exact hT2.out c h
                        · rw [List.mem_singleton.1 h]; omega)
                      have HV := hid (check_any x.a x.b x.c x.p.data.toList (by rw [lenS]; omega))
                      rw [bar] at HV
                      obtain rfl : N = false := hN.out
                      go_wp2_with fail
                      all_goals
                        go_roundw
                        case rel => exact ⟨j + 1, false, by omega, by omega, by go_num, rfl, hid (rfl), hT3, hbi⟩
                        case measure => simp [intOf]; omega
                · have hN2 := hid (show N = (true && (rs.take (k + 1)).all altOk) by
                    rw [hstk.out, hao.out]
                    rw [hN.out, Bool.true_and, ← (show false = (rs.take k).all altOk from hM.out)]; simp)
                  have hT4 := hid (show ∀ q, q ∈ rs.take (k + 1) → ∀ c, c ∈ q.take 8 → c.p.size ≤ 60 from fun q hq => by
                    rw [htk.out] at hq
                    rcases List.mem_append.1 hq with h | h
                    · exact hT.out q h
                    · rw [List.mem_singleton.1 h]
                      intro c hc
                      refine hT2.out c ?_
                      by_cases hl8 : cs.length ≤ 8
                      · have ej : j = cs.length := by omega
                        rw [ej, List.take_length]; exact List.mem_of_mem_take hc
                      · have ej : j = 8 := by omega
                        rw [ej]; exact hc)
                  have e8 : ¬ (j : Int) < (cs.length : Int) ∨ ((j : Int) < (cs.length : Int) ∧ ¬ (j : Int) < 8) := by omega
                  have r9 := bc hbi.out c0
                  rcases e8 with e8 | ⟨e8, e9⟩
                  all_goals
                    go_wp2_with fail
                    go_roundw
                    case rel => exact ⟨k + 1, N, by omega, by go_num, rfl, hN2, hT4, hbi⟩
                    case measure => simp [intOf]; omega
            · have hMt := hid (show (rs.take k).all altOk = true from hM.out.symm)
              by_cases a1 : (1 : Int) ≤ (cs.length : Int)
              · by_cases a4 : (cs.length : Int) ≤ 4
                · go_wp2_with fail
                  go_loopw [3, 6, 7] (fun m i _ wx => ∃ (j : Nat) (N : Bool), j ≤ cs.length ∧ j ≤ 8 ∧ i = .int .i64 j ∧ m = .bool N ∧ Hid (N = (true && (cs.take j).all cOk)) ∧ Hid (∀ c, c ∈ cs.take j → c.p.size ≤ 60) ∧ Hid (Below w1.heap.size w1 wx)) (fun _ i _ _ => cs.length - (intOf i).toNat)
                  case atStart => exact ⟨0, true, by omega, by omega, rfl, rfl, hid rfl, hid (by simp), hb⟩
                  case round =>
                    obtain ⟨j, N, hj, hj9, rfl, rfl, hN, hT2, hbi⟩ := hrel
                    by_cases hj8 : j < cs.length ∧ j < 8
                    ·   have j8 : j < 8 := hj8.2
                        have hlt2 : j < cs.length := hj8.1
                        have hx := List.getElem?_eq_getElem hlt2
                        generalize cs[j] = x at hx
                        obtain ⟨B, ob, rfl, hBl, hcc⟩ := hun.out (by intro e; rw [e] at hlt2; simp at hlt2)
                        obtain ⟨d0, d1, d2, d3, d4⟩ := hcc j x hx
                        have zx := hid (below_trans z1.out hbi.out)
                        have y0 := bc zx.out d0
                        have y1 := bc zx.out d1
                        have y2 := bc zx.out d2
                        have y3 := bc zx.out d3
                        have y4 := bc zx.out d4
                        have yl := Nat.lt_of_lt_of_le hBl zx.out.size
                        have hst := hid (take8 hx)
                        have hcl := hid (cOk_law x)
                        have htj := hid (show cs.take (j + 1) = cs.take j ++ [x] by rw [List.take_add_one, hx]; rfl)
                        clear hx hcc d0 d1 d2 d3 d4
                        by_cases h60 : (60 : Int) < (x.p.size : Int)
                        · go_wp2_with fail
                          all_goals
                            go_ret
                            exact ⟨rfl, zx.out⟩
                        · have hT3 := hid (show ∀ c, c ∈ cs.take (j + 1) → c.p.size ≤ 60 from fun c hc => by
                            rw [htj.out] at hc
                            rcases List.mem_append.1 hc with h | h
                            · exact hT2.out c h
                            · rw [List.mem_singleton.1 h]; omega)
                          have HV := hid (check_any x.a x.b x.c x.p.data.toList (by rw [lenS]; omega))
                          rw [bar] at HV
                          cases N
                          · go_wp2_with fail
                            all_goals
                              go_roundw
                              case rel => exact ⟨j + 1, false, by omega, by omega, by go_num, rfl, hid (by rw [hst.out, ← Bool.and_assoc, ← hN.out]; rfl), hT3, hbi⟩
                              case measure => simp [intOf]; omega
                          · by_cases ho0 : (0 : Int) ≤ x.op
                            · by_cases ho8 : x.op ≤ 8
                              · cases hck : checkI x.a x.b x.c x.p.data.toList
                                · have hco := hid (show cOk x = false by rw [hcl.out, hck, Bool.and_false]; rfl)
                                  rw [hck] at HV
                                  go_wp2_with (go_at_call 18; (with_reducible refine (HV.out _ (hm.below zx.out)).mono ?_); rintro e w3 ⟨rfl, hb3⟩; have q0 := bc hb3 y0)
                                  all_goals
                                    go_roundw
                                    case rel => exact ⟨j + 1, false, by omega, by omega, by go_num, rfl, hid (by rw [hst.out, ← Bool.and_assoc, ← hN.out, hco.out]; rfl), hT3, hid (below_trans hbi.out hb3)⟩
                                    case measure => simp [intOf]; omega
                                · rw [hck] at HV
                                  cases hne : (x.op != 8)
                                  · have hop : x.op = 8 := by simpa using hne
                                    have hcp := hid (show cOk x = plainB x by rw [hcl.out, hck, hne, decide_eq_true ho0, decide_eq_true ho8]; rfl)
                                    obtain ⟨xo, xa, xb, xc, xp⟩ := x
                                    dsimp only at *
                                    subst hop
                                    clear ho0 ho8 hne hck
                                    cases h1 : (xa == 0)
                                    · have hco := hid (show cOk ⟨8, xa, xb, xc, xp⟩ = false by rw [hcp.out]; unfold plainB; dsimp only; rw [h1]; rfl)
                                      go_wp2_with (go_at_call 18; (with_reducible refine (HV.out _ (hm.below zx.out)).mono ?_); rintro e w3 ⟨rfl, hb3⟩; have q0 := bc hb3 y0)
                                      all_goals
                                        go_roundw
                                        case rel => exact ⟨j + 1, false, by omega, by omega, by go_num, rfl, hid (by rw [hst.out, ← Bool.and_assoc, ← hN.out, hco.out]; rfl), hT3, hid (below_trans hbi.out hb3)⟩
                                        case measure => simp [intOf]; omega
                                    · obtain rfl : xa = 0 := beq_iff_eq.1 h1
                                      cases h2 : (xb == 0)
                                      · have hco := hid (show cOk ⟨8, 0, xb, xc, xp⟩ = false by rw [hcp.out]; unfold plainB; dsimp only; rw [h2]; rfl)
                                        clear h1
                                        go_wp2_with (go_at_call 18; (with_reducible refine (HV.out _ (hm.below zx.out)).mono ?_); rintro e w3 ⟨rfl, hb3⟩; have q0 := bc hb3 y0)
                                        all_goals
                                          go_roundw
                                          case rel => exact ⟨j + 1, false, by omega, by omega, by go_num, rfl, hid (by rw [hst.out, ← Bool.and_assoc, ← hN.out, hco.out]; rfl), hT3, hid (below_trans hbi.out hb3)⟩
                                          case measure => simp [intOf]; omega
                                      · obtain rfl : xb = 0 := beq_iff_eq.1 h2
                                        cases h3 : (xc == 0)
                                        · have hco := hid (show cOk ⟨8, 0, 0, xc, xp⟩ = false by rw [hcp.out]; unfold plainB; dsimp only; rw [h3]; rfl)
                                          clear h1 h2
                                          go_wp2_with (go_at_call 18; (with_reducible refine (HV.out _ (hm.below zx.out)).mono ?_); rintro e w3 ⟨rfl, hb3⟩; have q0 := bc hb3 y0)
                                          all_goals
                                            go_roundw
                                            case rel => exact ⟨j + 1, false, by omega, by omega, by go_num, rfl, hid (by rw [hst.out, ← Bool.and_assoc, ← hN.out, hco.out]; rfl), hT3, hid (below_trans hbi.out hb3)⟩
                                            case measure => simp [intOf]; omega
                                        · obtain rfl : xc = 0 := beq_iff_eq.1 h3
                                          cases h4 : (xp.toList == [])
                                          · have hco := hid (show cOk ⟨8, 0, 0, 0, xp⟩ = false by rw [hcp.out]; unfold plainB; dsimp only; rw [h4]; rfl)
                                            clear h1 h2 h3
                                            go_wp2_with (go_at_call 18; (with_reducible refine (HV.out _ (hm.below zx.out)).mono ?_); rintro e w3 ⟨rfl, hb3⟩; have q0 := bc hb3 y0)
                                            all_goals
                                              go_roundw
                                              case rel => exact ⟨j + 1, false, by omega, by omega, by go_num, rfl, hid (by rw [hst.out, ← Bool.and_assoc, ← hN.out, hco.out]; rfl), hT3, hid (below_trans hbi.out hb3)⟩
                                              case measure => simp [intOf]; omega
                                          · have hco := hid (show cOk ⟨8, 0, 0, 0, xp⟩ = true by rw [hcp.out]; unfold plainB; dsimp only; rw [h4]; rfl)
                                            clear h1 h2 h3
                                            go_wp2_with (go_at_call 18; (with_reducible refine (HV.out _ (hm.below zx.out)).mono ?_); rintro e w3 ⟨rfl, hb3⟩; have q0 := bc hb3 y0)
                                            all_goals
                                              go_roundw
                                              case rel => exact ⟨j + 1, true, by omega, by omega, by go_num, rfl, hid (by rw [hst.out, ← Bool.and_assoc, ← hN.out, hco.out]; rfl), hT3, hid (below_trans hbi.out hb3)⟩
                                              case measure => simp [intOf]; omega
                                  · have hco := hid (show cOk x = true by rw [hcl.out, hck, hne, decide_eq_true ho0, decide_eq_true ho8]; rfl)
                                    go_wp2_with (go_at_call 18; (with_reducible refine (HV.out _ (hm.below zx.out)).mono ?_); rintro e w3 ⟨rfl, hb3⟩; have q0 := bc hb3 y0)
                                    all_goals
                                      go_roundw
                                      case rel => exact ⟨j + 1, true, by omega, by omega, by go_num, rfl, hid (by rw [hst.out, ← Bool.and_assoc, ← hN.out, hco.out]; rfl), hT3, hid (below_trans hbi.out hb3)⟩
                                      case measure => simp [intOf]; omega
                              · have hco := hid (show cOk x = false by rw [hcl.out, decide_eq_false ho8, Bool.and_false]; rfl)
                                go_wp2_with fail
                                all_goals
                                  go_roundw
                                  case rel => exact ⟨j + 1, false, by omega, by omega, by go_num, rfl, hid (by rw [hst.out, ← Bool.and_assoc, ← hN.out, hco.out]; rfl), hT3, hbi⟩
                                  case measure => simp [intOf]; omega
                            · have hco := hid (show cOk x = false by rw [hcl.out, decide_eq_false ho0]; rfl)
                              go_wp2_with fail
                              all_goals
                                go_roundw
                                case rel => exact ⟨j + 1, false, by omega, by omega, by go_num, rfl, hid (by rw [hst.out, ← Bool.and_assoc, ← hN.out, hco.out]; rfl), hT3, hbi⟩
                                case measure => simp [intOf]; omega
                    · have hN2 := hid (show N = (true && (rs.take (k + 1)).all altOk) by
                        rw [hstk.out, hao.out]
                        have ej : j = cs.length := by omega
                        rw [hN.out, ej, List.take_length, hMt.out, decide_eq_true (show 1 ≤ cs.length by omega), decide_eq_true (show cs.length ≤ 4 by omega)]; simp)
                      have hT4 := hid (show ∀ q, q ∈ rs.take (k + 1) → ∀ c, c ∈ q.take 8 → c.p.size ≤ 60 from fun q hq => by
                        rw [htk.out] at hq
                        rcases List.mem_append.1 hq with h | h
                        · exact hT.out q h
                        · rw [List.mem_singleton.1 h]
                          intro c hc
                          refine hT2.out c ?_
                          by_cases hl8 : cs.length ≤ 8
                          · have ej : j = cs.length := by omega
                            rw [ej, List.take_length]; exact List.mem_of_mem_take hc
                          · have ej : j = 8 := by omega
                            rw [ej]; exact hc)
                      have e8 : ¬ (j : Int) < (cs.length : Int) ∨ ((j : Int) < (cs.length : Int) ∧ ¬ (j : Int) < 8) := by omega
                      have r9 := bc hbi.out c0
                      rcases e8 with e8 | ⟨e8, e9⟩
                      all_goals
                        go_wp2_with fail
                        go_roundw
                        case rel => exact ⟨k + 1, N, by omega, by go_num, rfl, hN2, hT4, hbi⟩
                        case measure => simp [intOf]; omega
                · go_wp2_with fail
                  go_loopw [3, 6, 7] (fun m i _ wx => ∃ (j : Nat) (N : Bool), j ≤ cs.length ∧ j ≤ 8 ∧ i = .int .i64 j ∧ m = .bool N ∧ Hid (N = (false && (cs.take j).all cOk)) ∧ Hid (∀ c, c ∈ cs.take j → c.p.size ≤ 60) ∧ Hid (Below w1.heap.size w1 wx)) (fun _ i _ _ => cs.length - (intOf i).toNat)
                  case atStart => exact ⟨0, false, by omega, by omega, rfl, rfl, hid rfl, hid (by simp), hb⟩
                  case round =>
                    obtain ⟨j, N, hj, hj9, rfl, rfl, hN, hT2, hbi⟩ := hrel
                    by_cases hj8 : j < cs.length ∧ j < 8
                    ·   have j8 : j < 8 := hj8.2
                        have hlt2 : j < cs.length := hj8.1
                        have hx := List.getElem?_eq_getElem hlt2
                        generalize cs[j] = x at hx
                        obtain ⟨B, ob, rfl, hBl, hcc⟩ := hun.out (by intro e; rw [e] at hlt2; simp at hlt2)
                        obtain ⟨d0, d1, d2, d3, d4⟩ := hcc j x hx
                        have zx := hid (below_trans z1.out hbi.out)
                        have y0 := bc zx.out d0
                        have y1 := bc zx.out d1
                        have y2 := bc zx.out d2
                        have y3 := bc zx.out d3
                        have y4 := bc zx.out d4
                        have yl := Nat.lt_of_lt_of_le hBl zx.out.size
                        have hst := hid (take8 hx)
                        have hcl := hid (cOk_law x)
                        have htj := hid (show cs.take (j + 1) = cs.take j ++ [x] by rw [List.take_add_one, hx]; rfl)
                        clear hx hcc d0 d1 d2 d3 d4
                        by_cases h60 : (60 : Int) < (x.p.size : Int)
                        · go_wp2_with fail
                          all_goals
                            go_ret
                            exact ⟨rfl, zx.out⟩
                        · have hT3 := hid (show ∀ c, c ∈ cs.take (j + 1) → c.p.size ≤ 60 from fun c hc => by
                            rw [htj.out] at hc
                            rcases List.mem_append.1 hc with h | h
                            · exact hT2.out c h
                            · rw [List.mem_singleton.1 h]; omega)
                          have HV := hid (check_any x.a x.b x.c x.p.data.toList (by rw [lenS]; omega))
                          rw [bar] at HV
                          obtain rfl : N = false := hN.out
                          go_wp2_with fail
                          all_goals
                            go_roundw
                            case rel => exact ⟨j + 1, false, by omega, by omega, by go_num, rfl, hid (rfl), hT3, hbi⟩
                            case measure => simp [intOf]; omega
                    · have hN2 := hid (show N = (true && (rs.take (k + 1)).all altOk) by
                        rw [hstk.out, hao.out]
                        rw [hN.out, hMt.out, decide_eq_false (show ¬ cs.length ≤ 4 by omega)]; simp)
                      have hT4 := hid (show ∀ q, q ∈ rs.take (k + 1) → ∀ c, c ∈ q.take 8 → c.p.size ≤ 60 from fun q hq => by
                        rw [htk.out] at hq
                        rcases List.mem_append.1 hq with h | h
                        · exact hT.out q h
                        · rw [List.mem_singleton.1 h]
                          intro c hc
                          refine hT2.out c ?_
                          by_cases hl8 : cs.length ≤ 8
                          · have ej : j = cs.length := by omega
                            rw [ej, List.take_length]; exact List.mem_of_mem_take hc
                          · have ej : j = 8 := by omega
                            rw [ej]; exact hc)
                      have e8 : ¬ (j : Int) < (cs.length : Int) ∨ ((j : Int) < (cs.length : Int) ∧ ¬ (j : Int) < 8) := by omega
                      have r9 := bc hbi.out c0
                      rcases e8 with e8 | ⟨e8, e9⟩
                      all_goals
                        go_wp2_with fail
                        go_roundw
                        case rel => exact ⟨k + 1, N, by omega, by go_num, rfl, hN2, hT4, hbi⟩
                        case measure => simp [intOf]; omega
              · have hz := hid (show cs.length = 0 by omega)
                go_wp2_with fail
                go_loopw [3, 6, 7] (fun m i _ wx => ∃ (j : Nat) (N : Bool), j ≤ cs.length ∧ j ≤ 8 ∧ i = .int .i64 j ∧ m = .bool N ∧ Hid (N = (false && (cs.take j).all cOk)) ∧ Hid (∀ c, c ∈ cs.take j → c.p.size ≤ 60) ∧ Hid (Below w1.heap.size w1 wx)) (fun _ i _ _ => cs.length - (intOf i).toNat)
                case atStart => exact ⟨0, false, by omega, by omega, rfl, rfl, hid rfl, hid (by simp), hb⟩
                case round =>
                  obtain ⟨j, N, hj, hj9, rfl, rfl, hN, hT2, hbi⟩ := hrel
                  by_cases hj8 : j < cs.length ∧ j < 8
                  ·   exact absurd hj8.1 (by have := hz.out; omega)
                  · have hN2 := hid (show N = (true && (rs.take (k + 1)).all altOk) by
                      rw [hstk.out, hao.out]
                      rw [hN.out, hMt.out, decide_eq_false (show ¬ 1 ≤ cs.length by have := hz.out; omega)]; simp)
                    have hT4 := hid (show ∀ q, q ∈ rs.take (k + 1) → ∀ c, c ∈ q.take 8 → c.p.size ≤ 60 from fun q hq => by
                      rw [htk.out] at hq
                      rcases List.mem_append.1 hq with h | h
                      · exact hT.out q h
                      · rw [List.mem_singleton.1 h]
                        intro c hc
                        refine hT2.out c ?_
                        by_cases hl8 : cs.length ≤ 8
                        · have ej : j = cs.length := by omega
                          rw [ej, List.take_length]; exact List.mem_of_mem_take hc
                        · have ej : j = 8 := by omega
                          rw [ej]; exact hc)
                    have e8 : ¬ (j : Int) < (cs.length : Int) ∨ ((j : Int) < (cs.length : Int) ∧ ¬ (j : Int) < 8) := by omega
                    have r9 := bc hbi.out c0
                    rcases e8 with e8 | ⟨e8, e9⟩
                    all_goals
                      go_wp2_with fail
                      go_roundw
                      case rel => exact ⟨k + 1, N, by omega, by go_num, rfl, hN2, hT4, hbi⟩
                      case measure => simp [intOf]; omega
          · have hke := hid (show k = rs.length by omega)
            have hma := hid (show (rs.all altOk) = M by rw [hM.out, hke.out, List.take_length, Bool.true_and])
            cases M
            · have hno := hid (show rngPre rs = false by unfold rngPre; rw [hma.out, Bool.and_false])
              have hsh := hid (show ∀ q, q ∈ rs → Short q from fun q hq h4 c hc => hT.out q (by rw [hke.out, List.take_length]; exact hq) c (by rw [List.take_of_length_le (by omega)]; exact hc))
              have zr := hid (below_trans z1.out hb.out)
              have HC := hid (fun w' (hb' : Below w.heap.size w w') => check_raw_no rs (.slice a rs.length cp) hsh.out hno.out w' (hm.below hb') (hr0.out.below hb'))
              have HX := hid (fun w2 (h2 : Below w.heap.size w w2) => text_off (.slice a rs.length cp) w2 ⟨_, _, _, rfl⟩ (fun w' hb' => HC.out w' (below_trans h2 hb')))
              have HH := hid (fun w2 (h2 : Below w.heap.size w w2) => has_off (.slice a rs.length cp) 0 0 0 ⟨#[]⟩ w2 ⟨_, _, _, rfl⟩ (fun w' hb' => HC.out w' (below_trans h2 hb')))
              go_wp2_with (first
                | (go_at_call 14; (with_reducible refine (HC.out _ zr.out).mono ?_); rintro e w4 ⟨rfl, hb4⟩; have z4 := hid (below_trans zr.out hb4); have k4 := bc hb4 r0)
                | (go_at_call 15; (with_reducible refine (HX.out _ z4.out).mono ?_); rintro e w5 ⟨rfl, hb5⟩; have z5 := hid (below_trans z4.out hb5); have k5 := bc hb5 k4)
                | (go_at_call 19; (with_reducible refine (HH.out _ z5.out).mono ?_); rintro e w6 ⟨rfl, hb6⟩))
              go_ret
              exact ⟨rfl, below_trans z5.out hb6⟩
            · have hall := hid (show rngPre rs = true by unfold rngPre; rw [hma.out, hmt.out.1, hmt.out.2]; rfl)
              have hsh := hid (show ∀ q, q ∈ rs → Short q from fun q hq h4 c hc => hT.out q (by rw [hke.out, List.take_length]; exact hq) c (by rw [List.take_of_length_le (by omega)]; exact hc))
              have zr := hid (below_trans z1.out hb.out)
              obtain ⟨ds, hmap, d1, d4, dok⟩ := raw_rng hall.out
              replace hmap := hid hmap
              have HCD := hid (fun w' (hb' : Below w.heap.size w w') => check_raw_yes ds (.slice a rs.length cp) d1 d4 dok (by rw [hmap.out]; exact hsh.out) (by rw [hmap.out]; exact List.all_eq_true.1 hma.out) w' (hm.below hb') (ht.below hb') (hg.below hb') (by rw [hmap.out]; exact hr0.out.below hb'))
              have HO := hid (fun w' (hb' : Below w.heap.size w w') => of_g ds (.slice a rs.length cp) d1 d4 dok w' (hm.below hb') (ht.below hb') (by rw [hmap.out]; exact hr0.out.below hb'))
              have HW := hid (fun w' (hb' : Below w.heap.size w w') => write_g ds (.slice a rs.length cp) d1 d4 dok w' (hm.below hb') (ht.below hb') (hg.below hb') (by rw [hmap.out]; exact hr0.out.below hb'))
              have HT := hid (fun oa cp w6 h => rrtext_any ds (.slice oa ds.length cp) d4 dok w6 h)
              have HQ := hid (fun v w' (hb' : Below w.heap.size w w') hq => of_rng ds v d1 d4 dok w' (hm.below hb') (ht.below hb') hq)
              unfold OfR at HO HQ
              by_cases h80 : (rngText ds).length ≤ 80
              · have HOK := hid (show OkR ds from ⟨d1, d4, dok, h80⟩)
                have HC := hid (fun w' (hb' : Below w.heap.size w w') => by have h := HCD.out w' hb'; rw [decide_eq_true h80] at h; exact h)
                have HTX := hid (fun w' (hb' : Below w.heap.size w w') => text_on (.slice a rs.length cp) ⟨(rngText ds).toArray⟩ w' ⟨_, _, _, rfl⟩ (fun w2 h2 => HC.out w2 (below_trans hb' h2)) (fun w2 h2 => HW.out w2 (below_trans hb' h2)))
                have hrt : rngOf (⟨(rngText ds).toArray⟩ : ByteArray).data.toList = some ds := by
                  show rngOf (rngText ds).toArray.toList = some ds
                  rw [List.toList_toArray]; exact rng_back HOK.out
                have HP := hid (fun w' (hb' : Below w.heap.size w w') => by have h := parse_o ⟨(rngText ds).toArray⟩ (by rw [bsz]; omega) w' (hm.below hb') (hg.below hb'); rw [hrt] at h; exact h)
                have hts : ((⟨(rngText ds).toArray⟩ : ByteArray).size : Int) ≤ 80 := by rw [bsz]; omega
                unfold RngO at HP
                clear HCD HW HOK hrt h80
                generalize (⟨(rngText ds).toArray⟩ : ByteArray) = T at HT HTX HP hts
                replace d1 := hid d1
                replace d4 := hid d4
                replace dok := hid dok
                go_wp2_with (first
                  | (go_at_call 17; (with_reducible refine (HO.out _ zr.out).mono ?_); rintro e w2 ⟨oa2, cp2, rfl, hb2, hr2⟩; have z2 := hid (below_trans zr.out hb2); have k2 := bc hb2 r0; replace hr2 := hid hr2)
                  | (go_at_call 16; (with_reducible refine (HT.out _ _ _ hr2.out).mono ?_); rintro e w3 ⟨rfl, hb3⟩; have z3 := hid (below_trans z2.out hb3); have k3 := bc hb3 k2)
                      | (go_at_call 14; (with_reducible refine (HC.out _ z3.out).mono ?_); rintro e w4 ⟨rfl, hb4⟩; have z4 := hid (below_trans z3.out hb4); have k4 := bc hb4 k3)
                  | (go_at_call 15; (with_reducible refine (HTX.out _ z4.out).mono ?_); rintro e w5 ⟨rfl, hb5⟩; have z5 := hid (below_trans z4.out hb5); have k5 := bc hb5 k4))
                refine (HP.out _ z5.out).mono ?_
                rintro e w6 ⟨oa1, m1, cp1, rfl, hb6, N1, hr1⟩
                obtain ⟨rfl, hr1⟩ := hr1 ds rfl
                have z7 := hid (below_alloc (below_trans z5.out hb6) (.cells #[.slice oa1 ds.length cp1] 25))
                have b7 := hid (below_alloc (Below.refl w6.heap.size w6) (.cells #[.slice oa1 ds.length cp1] 25))
                have v7 := hid (Blk.new w6 [.slice oa1 ds.length cp1] 25)
                replace hr1 := hid (hr1.below b7.out)
                have k7 := bc b7.out (bc hb6 k5)
                clear N1 hb6 k5 k4 k3 k2 hb5 hb4 hb3 hb2 z5 z4 z3 z2 b7 hr2
                go_wp2_with fail
                generalize w6.alloc (.cells [.slice oa1 ds.length cp1].toArray 25) = W7 at v7 hr1 z7 k7 ⊢
                generalize w6.heap.size = p8 at v7 ⊢
                have k8 := v7.out.cell 0 rfl
                clear v7 r0 rl c0 cl x1
                have HTX7 := hid (fun w' (h : Below W7.heap.size W7 w') => HTX.out w' (below_trans z7.out h))
                have HO7 := hid (fun w' (h : Below W7.heap.size W7 w') => HO.out w' (below_trans z7.out h))
                have HQ7 := hid (fun w' (h : Below W7.heap.size W7 w') => HQ.out (.slice oa1 ds.length cp1) w' (below_trans z7.out h) (hr1.out.below h))
                have hbr : Below W7.heap.size W7 W7 := Below.refl _ _
                have hb0 : Below W7.heap.size W7 W7.drew := hbr.drew
                go_region_held3 (fun w' => Below W7.heap.size W7 w' ∧ w'.cell? ⟨w.heap.size, 0, none⟩ = some (.slice a rs.length cp) ∧ w'.cell? ⟨p8, 0, none⟩ = some (.slice oa1 ds.length cp1)) (first | (exact keepS (by assumption) (by assumption)) | (exact keepS hb0 ⟨hbr, k7, k8⟩))
                  (first
                    | (go_at_call 15; (with_reducible refine (HTX7.out _ (And.left (by assumption))).mono ?_); rintro e w' ⟨rfl, hb⟩)
                    | (go_at_call 17; (with_reducible refine (HO7.out _ (And.left (by assumption))).mono ?_); rintro e w' ⟨oa9, cp9, rfl, hb, hr9⟩)
                    | (go_at_call 17; (with_reducible refine (HQ7.out _ (And.left (by assumption))).mono ?_); rintro e w' ⟨oa9, cp9, rfl, hb, hr9⟩)
                    | (go_at_call 16; (with_reducible refine (HT.out _ _ _ (by assumption)).mono ?_); rintro e w' ⟨rfl, hb⟩))
                all_goals
                  go_wp2_with fail
                  go_ret
                  exact ⟨rfl, below_trans z7.out (And.left (by assumption))⟩
              · have HC := hid (fun w' (hb' : Below w.heap.size w w') => by have h := HCD.out w' hb'; rw [decide_eq_false h80] at h; exact h)
                have HX := hid (fun w2 (h2 : Below w.heap.size w w2) => text_off (.slice a rs.length cp) w2 ⟨_, _, _, rfl⟩ (fun w' hb' => HC.out w' (below_trans h2 hb')))
                have HH := hid (fun w2 (h2 : Below w.heap.size w w2) => has_off (.slice a rs.length cp) 0 0 0 ⟨#[]⟩ w2 ⟨_, _, _, rfl⟩ (fun w' hb' => HC.out w' (below_trans h2 hb')))
                have hts : decide (((⟨(rngText ds).toArray⟩ : ByteArray).size : Int) ≤ 80) = false := decide_eq_false (by rw [bsz]; omega)
                clear HCD HW h80
                generalize (⟨(rngText ds).toArray⟩ : ByteArray) = T at HT hts
                replace d1 := hid d1
                replace d4 := hid d4
                replace dok := hid dok
                go_wp2_with (first
                  | (go_at_call 17; (with_reducible refine (HO.out _ zr.out).mono ?_); rintro e w2 ⟨oa2, cp2, rfl, hb2, hr2⟩; have z2 := hid (below_trans zr.out hb2); have k2 := bc hb2 r0; replace hr2 := hid hr2)
                  | (go_at_call 16; (with_reducible refine (HT.out _ _ _ hr2.out).mono ?_); rintro e w3 ⟨rfl, hb3⟩; have z3 := hid (below_trans z2.out hb3); have k3 := bc hb3 k2)
                      | (go_at_call 14; (with_reducible refine (HC.out _ z3.out).mono ?_); rintro e w4 ⟨rfl, hb4⟩; have z4 := hid (below_trans z3.out hb4); have k4 := bc hb4 k3)
                  | (go_at_call 15; (with_reducible refine (HX.out _ z4.out).mono ?_); rintro e w5 ⟨rfl, hb5⟩; have z5 := hid (below_trans z4.out hb5); have k5 := bc hb5 k4)
                  | (go_at_call 19; (with_reducible refine (HH.out _ z5.out).mono ?_); rintro e w6 ⟨rfl, hb6⟩))
                go_ret
                exact ⟨rfl, below_trans z5.out hb6⟩
      · have hmf := hid (show (decide (1 ≤ rs.length) && decide (rs.length ≤ 4)) = false by rw [decide_eq_false (show ¬ rs.length ≤ 4 by omega), Bool.and_false])
        go_wp2_with fail
        go_loopw [3, 4, 5, 6, 7] (fun m i _ _ _ wr => ∃ (k : Nat) (M : Bool), k ≤ rs.length ∧ i = .int .i64 k ∧ m = .bool M ∧ Hid (M = (false && (rs.take k).all altOk)) ∧ Hid (∀ cs, cs ∈ rs.take k → ∀ c, c ∈ cs.take 8 → c.p.size ≤ 60) ∧ Hid (Below w1.heap.size w1 wr)) (fun _ i _ _ _ _ => rs.length - (intOf i).toNat)
        case atStart => exact ⟨0, false, by omega, rfl, (by first | rfl | exact congrArg Value.bool (decide_eq_false (by omega))), hid rfl, hid (by simp), hid (Below.refl _ _)⟩
        case round =>
          obtain ⟨k, M, hk, rfl, rfl, hM, hT, hb⟩ := hrel
          have r0 := bc hb.out c0
          have rl := Nat.lt_of_lt_of_le cl hb.out.size
          by_cases hlt : k < rs.length
          · have k6 : k < 6 := by have := hn6.out; omega
            have hx := List.getElem?_eq_getElem hlt
            generalize rs[k] = cs at hx
            obtain ⟨G, o, rfl, hG, hcs⟩ := hn.out (by intro e; rw [e] at hlt; simp at hlt)
            obtain ⟨u, d0, hu⟩ := hcs k cs hx
            obtain ⟨ua, ucp, rfl, hun⟩ := hu
            replace hun := hid hun
            have g0 := bc hb.out (bc z1.out d0)
            have hgl := Nat.lt_of_lt_of_le hG (below_trans z1.out hb.out).size
            have hstk := hid (show (rs.take (k + 1)).all altOk = ((rs.take k).all altOk && altOk cs) by rw [List.take_add_one, hx, List.all_append]; simp)
            have htk := hid (show rs.take (k + 1) = rs.take k ++ [cs] by rw [List.take_add_one, hx]; rfl)
            have hao := hid (show altOk cs = (decide (1 ≤ cs.length) && decide (cs.length ≤ 4) && cs.all cOk) from rfl)
            clear hx hcs d0
            obtain rfl : M = false := hM.out
            go_wp2_with fail
            go_loopw [3, 6, 7] (fun m i _ wx => ∃ (j : Nat) (N : Bool), j ≤ cs.length ∧ j ≤ 8 ∧ i = .int .i64 j ∧ m = .bool N ∧ Hid (N = (false && (cs.take j).all cOk)) ∧ Hid (∀ c, c ∈ cs.take j → c.p.size ≤ 60) ∧ Hid (Below w1.heap.size w1 wx)) (fun _ i _ _ => cs.length - (intOf i).toNat)
            case atStart => exact ⟨0, false, by omega, by omega, rfl, rfl, hid rfl, hid (by simp), hb⟩
            case round =>
              obtain ⟨j, N, hj, hj9, rfl, rfl, hN, hT2, hbi⟩ := hrel
              by_cases hj8 : j < cs.length ∧ j < 8
              ·   have j8 : j < 8 := hj8.2
                  have hlt2 : j < cs.length := hj8.1
                  have hx := List.getElem?_eq_getElem hlt2
                  generalize cs[j] = x at hx
                  obtain ⟨B, ob, rfl, hBl, hcc⟩ := hun.out (by intro e; rw [e] at hlt2; simp at hlt2)
                  obtain ⟨d0, d1, d2, d3, d4⟩ := hcc j x hx
                  have zx := hid (below_trans z1.out hbi.out)
                  have y0 := bc zx.out d0
                  have y1 := bc zx.out d1
                  have y2 := bc zx.out d2
                  have y3 := bc zx.out d3
                  have y4 := bc zx.out d4
                  have yl := Nat.lt_of_lt_of_le hBl zx.out.size
                  have hst := hid (take8 hx)
                  have hcl := hid (cOk_law x)
                  have htj := hid (show cs.take (j + 1) = cs.take j ++ [x] by rw [List.take_add_one, hx]; rfl)
                  clear hx hcc d0 d1 d2 d3 d4
                  by_cases h60 : (60 : Int) < (x.p.size : Int)
                  · go_wp2_with fail
                    all_goals
                      go_ret
                      exact ⟨rfl, zx.out⟩
                  · have hT3 := hid (show ∀ c, c ∈ cs.take (j + 1) → c.p.size ≤ 60 from fun c hc => by
                      rw [htj.out] at hc
                      rcases List.mem_append.1 hc with h | h
                      · exact hT2.out c h
                      · rw [List.mem_singleton.1 h]; omega)
                    have HV := hid (check_any x.a x.b x.c x.p.data.toList (by rw [lenS]; omega))
                    rw [bar] at HV
                    obtain rfl : N = false := hN.out
                    go_wp2_with fail
                    all_goals
                      go_roundw
                      case rel => exact ⟨j + 1, false, by omega, by omega, by go_num, rfl, hid (rfl), hT3, hbi⟩
                      case measure => simp [intOf]; omega
              · have hN2 := hid (show N = (false && (rs.take (k + 1)).all altOk) by
                  rw [hstk.out, hao.out]
                  rw [hN.out]; simp)
                have hT4 := hid (show ∀ q, q ∈ rs.take (k + 1) → ∀ c, c ∈ q.take 8 → c.p.size ≤ 60 from fun q hq => by
                  rw [htk.out] at hq
                  rcases List.mem_append.1 hq with h | h
                  · exact hT.out q h
                  · rw [List.mem_singleton.1 h]
                    intro c hc
                    refine hT2.out c ?_
                    by_cases hl8 : cs.length ≤ 8
                    · have ej : j = cs.length := by omega
                      rw [ej, List.take_length]; exact List.mem_of_mem_take hc
                    · have ej : j = 8 := by omega
                      rw [ej]; exact hc)
                have e8 : ¬ (j : Int) < (cs.length : Int) ∨ ((j : Int) < (cs.length : Int) ∧ ¬ (j : Int) < 8) := by omega
                have r9 := bc hbi.out c0
                rcases e8 with e8 | ⟨e8, e9⟩
                all_goals
                  go_wp2_with fail
                  go_roundw
                  case rel => exact ⟨k + 1, N, by omega, by go_num, rfl, hN2, hT4, hbi⟩
                  case measure => simp [intOf]; omega
          · have hke := hid (show k = rs.length by omega)
            obtain rfl : M = false := hM.out
            have hno := hid (show rngPre rs = false by unfold rngPre; rw [hmf.out]; rfl)
            have hsh := hid (show ∀ q, q ∈ rs → Short q from fun q hq h4 c hc => hT.out q (by rw [hke.out, List.take_length]; exact hq) c (by rw [List.take_of_length_le (by omega)]; exact hc))
            have zr := hid (below_trans z1.out hb.out)
            have HC := hid (fun w' (hb' : Below w.heap.size w w') => check_raw_no rs (.slice a rs.length cp) hsh.out hno.out w' (hm.below hb') (hr0.out.below hb'))
            have HX := hid (fun w2 (h2 : Below w.heap.size w w2) => text_off (.slice a rs.length cp) w2 ⟨_, _, _, rfl⟩ (fun w' hb' => HC.out w' (below_trans h2 hb')))
            have HH := hid (fun w2 (h2 : Below w.heap.size w w2) => has_off (.slice a rs.length cp) 0 0 0 ⟨#[]⟩ w2 ⟨_, _, _, rfl⟩ (fun w' hb' => HC.out w' (below_trans h2 hb')))
            go_wp2_with (first
              | (go_at_call 14; (with_reducible refine (HC.out _ zr.out).mono ?_); rintro e w4 ⟨rfl, hb4⟩; have z4 := hid (below_trans zr.out hb4); have k4 := bc hb4 r0)
              | (go_at_call 15; (with_reducible refine (HX.out _ z4.out).mono ?_); rintro e w5 ⟨rfl, hb5⟩; have z5 := hid (below_trans z4.out hb5); have k5 := bc hb5 k4)
              | (go_at_call 19; (with_reducible refine (HH.out _ z5.out).mono ?_); rintro e w6 ⟨rfl, hb6⟩))
            go_ret
            exact ⟨rfl, below_trans z5.out hb6⟩
    · have hmf := hid (show (decide (1 ≤ rs.length) && decide (rs.length ≤ 4)) = false by rw [decide_eq_false (show ¬ 1 ≤ rs.length by omega)]; rfl)
      go_wp2_with fail
      go_loopw [3, 4, 5, 6, 7] (fun m i _ _ _ wr => ∃ (k : Nat) (M : Bool), k ≤ rs.length ∧ i = .int .i64 k ∧ m = .bool M ∧ Hid (M = (false && (rs.take k).all altOk)) ∧ Hid (∀ cs, cs ∈ rs.take k → ∀ c, c ∈ cs.take 8 → c.p.size ≤ 60) ∧ Hid (Below w1.heap.size w1 wr)) (fun _ i _ _ _ _ => rs.length - (intOf i).toNat)
      case atStart => exact ⟨0, false, by omega, rfl, (by first | rfl | exact congrArg Value.bool (decide_eq_false (by omega))), hid rfl, hid (by simp), hid (Below.refl _ _)⟩
      case round =>
        obtain ⟨k, M, hk, rfl, rfl, hM, hT, hb⟩ := hrel
        have r0 := bc hb.out c0
        have rl := Nat.lt_of_lt_of_le cl hb.out.size
        by_cases hlt : k < rs.length
        · exact absurd hlt (by omega)
        · have hke := hid (show k = rs.length by omega)
          obtain rfl : M = false := hM.out
          have hno := hid (show rngPre rs = false by unfold rngPre; rw [hmf.out]; rfl)
          have hsh := hid (show ∀ q, q ∈ rs → Short q from fun q hq h4 c hc => hT.out q (by rw [hke.out, List.take_length]; exact hq) c (by rw [List.take_of_length_le (by omega)]; exact hc))
          have zr := hid (below_trans z1.out hb.out)
          have HC := hid (fun w' (hb' : Below w.heap.size w w') => check_raw_no rs (.slice a rs.length cp) hsh.out hno.out w' (hm.below hb') (hr0.out.below hb'))
          have HX := hid (fun w2 (h2 : Below w.heap.size w w2) => text_off (.slice a rs.length cp) w2 ⟨_, _, _, rfl⟩ (fun w' hb' => HC.out w' (below_trans h2 hb')))
          have HH := hid (fun w2 (h2 : Below w.heap.size w w2) => has_off (.slice a rs.length cp) 0 0 0 ⟨#[]⟩ w2 ⟨_, _, _, rfl⟩ (fun w' hb' => HC.out w' (below_trans h2 hb')))
          go_wp2_with (first
            | (go_at_call 14; (with_reducible refine (HC.out _ zr.out).mono ?_); rintro e w4 ⟨rfl, hb4⟩; have z4 := hid (below_trans zr.out hb4); have k4 := bc hb4 r0)
            | (go_at_call 15; (with_reducible refine (HX.out _ z4.out).mono ?_); rintro e w5 ⟨rfl, hb5⟩; have z5 := hid (below_trans z4.out hb5); have k5 := bc hb5 k4)
            | (go_at_call 19; (with_reducible refine (HH.out _ z5.out).mono ?_); rintro e w6 ⟨rfl, hb6⟩))
          go_ret
          exact ⟨rfl, below_trans z5.out hb6⟩
end Go.Proofs.YtebhgcejcdgdbaaGreatDoor.Sp
