/-
  LAYER 1: LinesBlanks.
-/
import Derived.Test.YthmmeiilcblpgaaLinesBlankS
namespace Go.Proofs.Ythmmeiilcblpgaa.Ln
open Go.RowKit

set_option maxRecDepth 100000 in
set_option maxHeartbeats 2000000 in
theorem law_blanks_out (a : Option Addr) (n c : Nat) (a' : Option Addr) (n' c' : Nat) (s : ByteArray) (h : n < 1 ∨ 20 < n ∨ n' < n ∨ 100 < s.size) (w : World) :
    Calls Try.prog 8 #[.slice a n c, .slice a' n' c', .string s] w fun e w' => e = .returned (.bool true) ∧ Below w.heap.size w w' := by
  by_cases h1 : n < 1
  · have h1' : (n : Int) < 1 := by omega
    clear h
    go_enter Try.func8, Try.ntmps8
    go_wp2_with fail
    refine (readTrue_any _).mono ?_
    rintro e w1 ⟨rfl, hb1⟩
    go_wp2_with fail
    refine (readTrue_any _).mono ?_
    rintro e w2 ⟨rfl, hb2⟩
    go_wp2_with fail
    go_ret
    exact ⟨rfl, below_trans hb1 hb2⟩
  have g1 : ¬ (n : Int) < 1 := by omega
  by_cases h2 : 20 < n
  · have h2' : (20 : Int) < (n : Int) := by omega
    clear h h1
    go_enter Try.func8, Try.ntmps8
    go_wp2_with fail
    refine (readTrue_any _).mono ?_
    rintro e w1 ⟨rfl, hb1⟩
    go_wp2_with fail
    refine (readTrue_any _).mono ?_
    rintro e w2 ⟨rfl, hb2⟩
    go_wp2_with fail
    go_ret
    exact ⟨rfl, below_trans hb1 hb2⟩
  have g2 : ¬ (20 : Int) < (n : Int) := by omega
  by_cases h3 : n' < n
  · clear h h1 h2
    go_enter Try.func8, Try.ntmps8
    go_wp2_with fail
    refine (readTrue_any _).mono ?_
    rintro e w1 ⟨rfl, hb1⟩
    go_wp2_with fail
    refine (readTrue_any _).mono ?_
    rintro e w2 ⟨rfl, hb2⟩
    go_wp2_with fail
    go_ret
    exact ⟨rfl, below_trans hb1 hb2⟩
  have h4 : (100 : Int) < (s.size : Int) := by omega
  clear h h1 h2
  · skip
    go_enter Try.func8, Try.ntmps8
    go_wp2_with fail
    refine (readTrue_any _).mono ?_
    rintro e w1 ⟨rfl, hb1⟩
    go_wp2_with fail
    refine (readTrue_any _).mono ?_
    rintro e w2 ⟨rfl, hb2⟩
    go_wp2_with fail
    go_ret
    exact ⟨rfl, below_trans hb1 hb2⟩

def tabsOf (g : Int) : Nat := (g % 18446744073709551616 % 5).toNat
theorem tabsOf_lt (g : Int) : tabsOf g < 5 := by unfold tabsOf; omega
theorem tabsOf_eq (g : Int) : wrap64 ((IntKind.u64.wrap g).tmod 5) = (tabsOf g : Int) := by
  have e : IntKind.u64.wrap g = g % 18446744073709551616 := by rfl
  rw [e, Int.tmod_eq_emod_of_nonneg (by omega)]
  unfold tabsOf wrap64
  omega
theorem txt_more (ps : List Piece) (p : Piece) : txt (ps ++ [p]) = txt ps ++ (p.1 ++ p.2) := by unfold txt; simp
theorem gapOf_next (j : Nat) : gapOf j ++ [9] = gapOf (j + 1) := by unfold gapOf; rw [List.cons_append, ← List.replicate_succ']
theorem gapOf_len (j : Nat) : (gapOf j).length = j + 1 := by unfold gapOf; simp

set_option maxRecDepth 100000 in
set_option maxHeartbeats 4000000 in
theorem law_blanks_in (ws : List ByteArray) (hsz : ∀ k (h : k < ws.length), ws[k].size ≤ maxLen) (gs : List Int) (B o n c B' o' n' c' : Nat) (s : ByteArray) (hn : n = ws.length) (hn' : n' = gs.length)
    (h1 : 1 ≤ n) (h20 : n ≤ 20) (hnn : n ≤ n') (hs : s.size ≤ 100) (w : World) (hB : B < w.heap.size) (hB' : B' < w.heap.size)
    (hc : ∀ k (h : k < ws.length), w.cell? ⟨B, o + k, none⟩ = some (.string ws[k])) (hc' : ∀ k (h : k < gs.length), w.cell? ⟨B', o' + k, none⟩ = some (.int .i64 gs[k])) :
    Calls Try.prog 8 #[.slice (some ⟨B, o, none⟩) n c, .slice (some ⟨B', o', none⟩) n' c', .string s] w fun e w' => e = .returned (.bool true) ∧ Below w.heap.size w w' := by
  have HSZ := hid hsz
  have HN := hid hn
  have HN' := hid hn'
  have HC := hid hc
  have HC' := hid hc'
  have HB := hid hB
  have HB' := hid hB'
  have g1 : ¬ (n : Int) < 1 := by omega
  have g2 : ¬ (20 : Int) < (n : Int) := by omega
  have g3 : ¬ n' < n := by omega
  have g4 : ¬ (100 : Int) < (s.size : Int) := by omega
  clear hsz hn hn' hc hc' hB hB'
  go_enter Try.func8, Try.ntmps8
  go_wp2_with fail
  refine (readTrue_any _).mono ?_
  rintro e w1 ⟨rfl, hb1⟩
  have HB1 := hid hb1
  clear hb1
  go_wp2_with fail
  go_loopw [7, 8] (fun v u wr => ∃ (k m : Nat) (xs : List (List UInt8 × Nat)), k ≤ n ∧ xs.length = k ∧ v = .string ⟨(10 :: txt (xs.map pieceOf)).toArray⟩ ∧ u = .int .i64 (k : Nat) ∧ xs.map (·.1) = (ws.take k).map (·.data.toList) ∧
      (∀ x, x ∈ xs → wordV x.1 = true) ∧ (10 :: txt (xs.map pieceOf)).length ≤ 1 + 85 * k ∧ wr = w1.drewN m) (fun _ u _ => n - (intOf u).toNat)
  case atStart => exact ⟨0, 0, [], by omega, rfl, rfl, rfl, rfl, by simp, by simp [txt], rfl⟩
  case round =>
    obtain ⟨k, m, xs, hk, hxl, rfl, rfl, hxw, hxo, hlen, rfl⟩ := hrel
    have HXL := hid hxl
    have HXW := hid hxw
    have HXO := hid hxo
    have HLEN := hid hlen
    clear hxl hxw hxo hlen
    generalize hT : (10 :: txt (xs.map pieceOf)) = T at *
    have HT := hid hT
    clear hT
    by_cases hlt : k < n
    · have hkw : k < ws.length := by have := HN.out; omega
      have hkg : k < gs.length := by have := HN'.out; omega
      have cw := (HB1.out.cell (p := ⟨B, o + k, none⟩) HB.out).trans (HC.out k hkw)
      have cg := (HB1.out.cell (p := ⟨B', o' + k, none⟩) HB'.out).trans (HC'.out k hkg)
      have HKW := hid hkw
      have HKG := hid hkg
      have WD := fun M => hid (word_any ws[k] (HSZ.out k hkw) (w1.drewN M))
      generalize hW : ws[k] = W at *
      generalize hG : gs[k] = G at *
      have HW := hid hW
      have HG := hid hG
      clear hW hG hkw hkg
      cases hword : wordV W.data.toList
      · rw [hword] at WD
        have WDH := hid WD
        clear WD hword
        go_wp2_with fail
        refine (WDH.out _).out.mono ?_
        rintro e w2 ⟨rfl, rfl⟩
        go_wp2_with fail
        go_ret
        exact ⟨rfl, below_drewN' HB1.out m⟩
      · rw [hword] at WD
        have WDH := hid WD
        clear WD
        have HWO := hid hword
        clear hword
        have hw80 : W.size ≤ 80 := by have := (wordV_ok HWO.out).2.1; simpa using this
        have hTl : T.length ≤ 1 + 85 * k := HLEN.out
        have hcat : ∀ (a b : List UInt8), (⟨a.toArray⟩ : ByteArray) ++ ⟨b.toArray⟩ = ⟨(a ++ b).toArray⟩ := fun a b => by
          apply ByteArray.ext; simp
        go_wp2_with fail
        refine (WDH.out _).out.mono ?_
        rintro e w2 ⟨rfl, rfl⟩
        go_wp2_with fail
        have hg5 := tabsOf_lt G
        rw [show T ++ [32] = T ++ gapOf 0 from rfl]
        go_loopw [7, 9] (fun v u wr => ∃ (j m' : Nat), j ≤ tabsOf G ∧ v = .string ⟨(T ++ gapOf j).toArray⟩ ∧ u = .int .i64 (j : Nat) ∧ wr = w1.drewN m') (fun _ u _ => tabsOf G - (intOf u).toNat)
        case atStart => exact ⟨0, m, by omega, rfl, rfl, rfl⟩
        case round =>
          obtain ⟨j, m', hj, rfl, rfl, rfl⟩ := hrel
          have hgl := gapOf_len j
          have HN5 := hid (tabsOf_eq G)
          by_cases hjn : j < tabsOf G
          · have hj5 : (j : Int) < wrap64 ((IntKind.u64.wrap G).tmod 5) := by rw [HN5.out]; omega
            go_wp2_with fail
            go_roundw
            case rel => exact ⟨j + 1, m', by omega, by rw [gapOf_next], by go_num, rfl⟩
            case measure => simp [intOf]; omega
          · have hj5 : ¬ (j : Int) < wrap64 ((IntKind.u64.wrap G).tmod 5) := by rw [HN5.out]; omega
            go_wp2_with fail
            go_roundw
            case rel =>
              have ej : j = tabsOf G := by omega
              refine ⟨k + 1, m', xs ++ [(W.data.toList, tabsOf G)], by omega, by rw [List.length_append, HXL.out]; rfl, ?_, by go_num, ?_, ?_, ?_, rfl⟩
              · rw [List.map_append, List.map_singleton, txt_more, ← List.cons_append, HT.out, ej]; rfl
              · rw [List.map_append, HXW.out, List.take_add_one, List.map_append, List.getElem?_eq_getElem HKW.out, show ws[k]'HKW.out = W from HW.out]; rfl
              · intro x hx
                rcases List.mem_append.1 hx with h | h
                · exact HXO.out x h
                · rw [List.mem_singleton.1 h]; exact HWO.out
              · rw [List.map_append, List.map_singleton, txt_more, ← List.cons_append, HT.out, List.length_append, List.length_append]
                show _ + ((gapOf (tabsOf G)).length + W.data.toList.length) ≤ _
                rw [gapOf_len]
                have : W.data.toList.length = W.size := by simp
                omega
            case measure => simp [intOf]; omega
    · have hkn : k = n := by omega
      have hwx : xs.map (·.1) = ws.map (·.data.toList) := by rw [HXW.out, List.take_of_length_le (by have := HN.out; omega)]
      have hxn : xs ≠ [] := by intro h; have := HXL.out; rw [h] at this; simp at this; omega
      have hx20 : xs.length ≤ 20 := by rw [HXL.out]; omega
      have HWX := hid hwx
      have HXN := hid hxn
      have HX20 := hid hx20
      have hTl : T.length ≤ 1701 := by have := HLEN.out; omega
      clear hwx hxn hx20
      go_wp2_with fail
      go_loopw [10] (fun u wr => ∃ (j m' : Nat), j ≤ s.size ∧ u = .int .i64 (j : Nat) ∧ (∀ i, i < j → s.data.toList[i]? ≠ some 10) ∧ wr = w1.drewN m') (fun u _ => s.size - (intOf u).toNat)
      case atStart => exact ⟨0, m, by omega, rfl, by intro i hi; omega, rfl⟩
      case round =>
        obtain ⟨j, m', hj, rfl, hno, rfl⟩ := hrel
        have HNO := hid hno
        clear hno
        by_cases hjs : j < s.size
        · have hb := hid (byte_at s j hjs)
          have hcc : (s[j].toNat : Int) ≤ 255 := by have := s[j].toNat_lt; omega
          by_cases h10 : (s[j].toNat : Int) = 10
          · have h3' : ((s[j].toNat : Int) == 10) = true := by rw [h10]; rfl
            go_wp2_with fail
            go_ret
            exact ⟨rfl, below_drewN' HB1.out m'⟩
          · have h3' : ((s[j].toNat : Int) == 10) = false := by rw [beq_eq_false_iff_ne]; exact h10
            go_wp2_with fail
            go_roundw
            case rel =>
              refine ⟨j + 1, m', by omega, by go_num, fun i hi => ?_, rfl⟩
              rcases Nat.lt_succ_iff_lt_or_eq.1 hi with h | rfl
              · exact HNO.out i h
              · rw [hb.out]; intro h; injection h with h; apply h10; rw [h]; rfl
            case measure => simp [intOf]; omega
        · have hr10 : (10 : UInt8) ∉ s.data.toList := by
            intro h
            obtain ⟨i, hi, he⟩ := List.getElem_of_mem h
            have h1 : i < j := by have : i < s.size := by simpa using hi
                                  omega
            exact HNO.out i h1 (by rw [List.getElem?_eq_getElem hi, he])
          have HR := hid hr10
          clear hr10
          go_wp2_with fail
          have hval : ((⟨T.toArray⟩ : ByteArray) ++ ⟨#[32, 35]⟩ ++ s ++ ⟨#[10, 10, 35, 32]⟩ ++ s) = ⟨(10 :: (txt (xs.map pieceOf) ++ 32 :: 35 :: s.data.toList) ++ 10 :: 10 :: 35 :: 32 :: s.data.toList).toArray⟩ := by
            rw [← HT.out]; apply ByteArray.ext; apply Array.toList_inj.1; simp
          have hlen : (10 :: (txt (xs.map pieceOf) ++ 32 :: 35 :: s.data.toList) ++ 10 :: 10 :: 35 :: 32 :: s.data.toList).length ≤ 2000 := by
            have h1 : (10 :: txt (xs.map pieceOf)).length = T.length := by rw [HT.out]
            have h2 : s.data.toList.length = s.size := by simp
            simp only [List.length_cons, List.length_append] at h1 ⊢
            omega
          have hres := blanks_read xs HXN.out HX20.out HXO.out s.data.toList HR.out
          rw [hval]
          refine (Read_any _ (by omega) _).mono ?_
          intro e w2 hr
          unfold readS at hr
          rw [if_neg (by omega), hres] at hr
          obtain ⟨hb2, v, rfl, hlv⟩ := hr
          have hbw : Below w.heap.size w w2 := below_trans (below_drewN' HB1.out m') hb2
          have HBW := hid hbw
          clear hbw hb2 hres hlen hval
          obtain ⟨cells, ho, hx⟩ := hlv
          obtain ⟨wv, cv, a0, a1, a2, a3⟩ := hx 0 _ rfl
          rcases own3 ho with ⟨_, h⟩ | ⟨g, cc, hv, hcc⟩
          · cases h
          subst hv
          have c0 := hcc _ _ a0
          have c1 := hcc _ _ a1
          have c2 := hcc _ _ a2
          obtain ⟨wa, wc1, e1⟩ := own_shape a3.1
          subst e1
          have hrl : ∀ W', Below w.heap.size w W' → RowIs W' (.slice (some ⟨B, o, none⟩) n c) (strs (xs.map (·.1))) := by
            intro W' hb
            refine .inr ⟨B, o, c, ?_, fun i x hi => ?_⟩
            · have h1 : (strs (xs.map (·.1))).length = n := by rw [HWX.out]; unfold strs; rw [List.length_map, List.length_map]; exact HN.out.symm
              rw [h1]
            · rw [HWX.out] at hi
              unfold strs at hi
              rw [List.map_map, List.getElem?_map] at hi
              have hi' : i < ws.length := by
                rcases Nat.lt_or_ge i ws.length with h | h
                · exact h
                · rw [List.getElem?_eq_none h] at hi; cases hi
              rw [List.getElem?_eq_getElem hi'] at hi
              have hx : x = .string ws[i] := by
                simp only [Option.map_some, Function.comp_apply, Option.some.injEq] at hi
                rw [← hi]
              rw [hx]
              exact (hb.cell (p := ⟨B, o + i, none⟩) HB.out).trans (HC.out i hi')
          have HRL := hid hrl
          have hxl : (xs.map (·.1)).length ≤ 1099511627776 := by rw [List.length_map]; have := HX20.out; omega
          have HXL2 := hid hxl
          generalize hL : (xs.map (·.1)).length = LL at a3 c1
          have HA3 := hid a3
          have BA : Below w2.heap.size w2 (w2.alloc (Obj.cells #[.int .i64 0, .int .i64 0, .int .i64 0] 25)) := (Below.refl _ _).alloc (Nat.le_refl _) _
          have x0 := bcell BA c0
          have x1 := bcell BA c1
          have HBA := hid BA
          clear a0 a1 a2 a3 hx ho hcc c0 c1 c2 hxl hrl BA hL
          go_wp2_with fail
          refine (texts_eq _ HXL2.out _ _ _ (rowIs_of (HA3.out.below HBA.out).1) (HRL.out _ (below_trans HBW.out HBA.out))).mono ?_
          rintro e w3 ⟨rfl, m3, rfl⟩
          clear x0 x1
          go_wp2_with fail
          go_ret
          exact ⟨rfl, below_drewN' (below_trans HBW.out HBA.out) m3⟩

end Go.Proofs.Ythmmeiilcblpgaa.Ln
