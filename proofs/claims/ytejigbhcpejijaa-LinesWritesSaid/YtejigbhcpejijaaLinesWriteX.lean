/-
  LAYER 1: both Writes.
-/
import Derived.Test.YtejigbhcpejijaaLinesWriteW
namespace Go.Proofs.Ytejigbhcpejijaa.Ln
open Go.RowKit

theorem bcw {w w' : World} {a : Addr} {v : Value} (hb : Below w.heap.size w w') (h : w.cell? a = some v) : w'.cell? a = some v := by rw [hb.cell (World.block_lt_of_cell? w _ h)]; exact h
def Tame (rows : List (List ByteArray)) : Prop := rows.length ≤ 100 ∧ ∀ r, r ∈ rows → r.length ≤ 40 ∧ ∀ s, s ∈ r → s.size ≤ 200
def dats (rows : List (List ByteArray)) : List Words := rows.map dat
theorem dats_at {rows : List (List ByteArray)} {k : Nat} {r : List ByteArray} (h : rows[k]? = some r) : (dats rows)[k]? = some (dat r) := by unfold dats; rw [List.getElem?_map, h]; rfl
theorem tame_row {rows : List (List ByteArray)} (h : Tame rows) {r : List ByteArray} (hr : r ∈ rows) : r.length ≤ 40 ∧ ∀ j, (joinW ((dat r).take j)).length ≤ 8040 := by
  obtain ⟨h1, h2⟩ := h.2 r hr
  refine ⟨h1, fun j => ?_⟩
  have := joinW_len ((dat r).take j) 200 (fun w hw => by
    have hw' := List.mem_of_mem_take hw
    unfold dat at hw'
    obtain ⟨s, hs, rfl⟩ := List.mem_map.1 hw'
    rw [lenB]; exact h2 s hs)
  have hl : ((dat r).take j).length ≤ 40 := by rw [List.length_take, dat_len]; omega
  have : (joinW ((dat r).take j)).length ≤ 201 * 40 := Nat.le_trans this (Nat.mul_le_mul_left _ hl)
  omega
theorem tame_all {rows : List (List ByteArray)} (h : Tame rows) (k : Nat) : (writeB ((dats rows).take k)).length ≤ 804100 := by
  have := writeB_len ((dats rows).take k) 200 40 (fun r hr => by
    have hr' := List.mem_of_mem_take hr
    unfold dats at hr'
    obtain ⟨q, hq, rfl⟩ := List.mem_map.1 hr'
    obtain ⟨h1, h2⟩ := h.2 q hq
    refine ⟨by rw [dat_len]; exact h1, fun w hw => ?_⟩
    unfold dat at hw
    obtain ⟨s, hs, rfl⟩ := List.mem_map.1 hw
    rw [lenB]; exact h2 s hs)
  have hl : ((dats rows).take k).length ≤ 100 := by rw [List.length_take]; unfold dats; rw [List.length_map]; have := h.1; omega
  have : (writeB ((dats rows).take k)).length ≤ 8041 * 100 := Nat.le_trans this (Nat.mul_le_mul_left _ hl)
  omega

set_option maxRecDepth 20000 in
set_option maxHeartbeats 4000000 in
/-- the document's Write -/
theorem rwrite_any (rows : List (List ByteArray)) (v : Value) (ht : Tame rows) (w : World) (hr : RowsIn w v rows) :
    Calls Try.prog 18 #[v] w fun e w' => e = .returned (.string ⟨(writeB (dats rows)).toArray⟩) ∧ w = w' := by
  obtain ⟨a, c, rfl, hcap, hne⟩ := hr
  have hfin := hid (show writeB ((dats rows).take rows.length) = writeB (dats rows) by rw [List.take_of_length_le (by unfold dats; rw [List.length_map]; exact Nat.le_refl _)])
  have HL := hid (tame_all ht)
  have HT := hid (fun r (h : r ∈ rows) => tame_row ht h)
  have hn100 := hid ht.1
  replace hne := hid hne
  have hcap' := hid hcap
  clear ht hcap
  generalize writeB (dats rows) = RT at hfin ⊢
  go_enter Try.func18, Try.ntmps18
  go_wp2_with fail
  go_loop [3, 4, 5] (fun s i _ => ∃ (k : Nat) (S : ByteArray), k ≤ rows.length ∧ i = .int .i64 k ∧ s = .string S ∧ Hid (S.data.toList = writeB ((dats rows).take k))) (fun _ i _ => rows.length - (intOf i).toNat)
  case atStart => exact ⟨0, ByteArray.empty, by omega, rfl, rfl, hid rfl⟩
  case round =>
    obtain ⟨k, S, hk, rfl, rfl, hS⟩ := hrel
    by_cases hlt : k < rows.length
    · have hSs : S.size ≤ 804100 := by have := HL.out k; rw [← hS.out, lenB] at this; exact this
      have k100 : k < 100 := by have := hn100.out; omega
      have hx := List.getElem?_eq_getElem hlt
      generalize rows[k] = r at hx
      obtain ⟨B, o, rfl, hBl, hcells⟩ := hne.out (by intro e; rw [e] at hlt; simp at hlt)
      obtain ⟨u, g0, hu⟩ := hcells k r hx
      obtain ⟨hr40, hjl⟩ := HT.out r (List.mem_of_getElem? hx)
      have hdr := hid (dats_at hx)
      have HJ := hid hjl
      obtain ⟨ra, rc, rfl, hrc, hrn⟩ := hu
      replace hrn := hid hrn
      clear hx hjl hcells hrc
      go_wp2_with fail
      go_loop [3, 5] (fun s i => ∃ (j : Nat) (T : ByteArray), j ≤ r.length ∧ i = .int .i64 j ∧ s = .string T ∧ Hid (T.data.toList = writeB ((dats rows).take k) ++ joinW ((dat r).take j))) (fun _ i => r.length - (intOf i).toNat)
      case atStart => exact ⟨0, S, by omega, rfl, rfl, hid (by rw [hS.out, List.take_zero, joinW_nil, List.append_nil])⟩
      case round =>
        obtain ⟨j, T, hj, rfl, rfl, hT⟩ := hrel
        have hTs : T.size ≤ 812200 := by
          have h1 := HJ.out j
          have h2 := congrArg List.length hT.out
          have h3 := HL.out k
          rw [lenB, List.length_append] at h2
          omega
        have n1 : ¬ 9223372036854775807 < T.size + 1 := by omega
        by_cases hlt2 : j < r.length
        · have hy := List.getElem?_eq_getElem hlt2
          have hyd := hid (dat_at hy)
          obtain ⟨b', o', rfl, hbl', hc'⟩ := hrn.out (by intro e; rw [e] at hlt2; simp at hlt2)
          have y0 := hc' j _ hy
          have j40 : j < 40 := by omega
          have hys : r[j].size ≤ 8040 := by
            have h1 := HJ.out (j + 1)
            by_cases h0 : j = 0
            · subst h0
              rw [joinW_first hyd.out, lenB] at h1; exact h1
            · rw [joinW_take hyd.out (by omega), List.length_append, List.length_cons, lenB] at h1; omega
          generalize r[j] = x at hyd y0 hys
          clear hy hc'
          have n2 : ¬ 9223372036854775807 < T.size + x.size := by omega
          have n3 : ¬ 9223372036854775807 < T.size + 1 + x.size := by omega
          rcases Nat.eq_zero_or_pos j with hj0 | hj0
          · have hj1 : ¬ (0 : Int) < (j : Int) := by omega
            replace hj0 := hid hj0
            go_wp2_with fail
            go_round
            case rel => exact ⟨j + 1, _, by omega, by go_num, rfl, hid (by
              have h9 := hyd.out
              have h8 := hT.out
              rw [hj0.out] at h9 h8 ⊢
              rw [Nat.zero_add, joinW_first h9]
              rw [List.take_zero, joinW_nil, List.append_nil] at h8
              simp [h8])⟩
            case measure => simp [intOf]; omega
          · have hj1 : (0 : Int) < (j : Int) := by omega
            replace hj0 := hid hj0
            go_wp2_with fail
            go_round
            case rel => exact ⟨j + 1, _, by omega, by go_num, rfl, hid (by rw [joinW_take hyd.out hj0.out]; simp [hT.out])⟩
            case measure => simp [intOf]; omega
        · have hje := hid (show j = r.length by omega)
          go_wp2_with fail
          go_round
          case rel => exact ⟨k + 1, _, by omega, by go_num, rfl, hid (by
            rw [writeB_take hdr.out]
            unfold lineB
            have h8 := hT.out
            have e9 : (dat r).take r.length = dat r := List.take_of_length_le (by rw [dat_len]; exact Nat.le_refl _)
            rw [hje.out, e9] at h8
            simp [h8])⟩
          case measure => simp [intOf]; omega
    · have hke := hid (show k = rows.length by omega)
      have hS2 := hid (show S = ⟨RT.toArray⟩ by
        apply ByteArray.ext; apply Array.toList_inj.1
        rw [hS.out, hke.out, hfin.out])
      go_wp2_with fail
      go_ret
      exact ⟨congrArg (fun b => Ending.returned (.string b)) hS2.out, rfl⟩

theorem strCells_l (m : List UInt8) : Lib.strCells ⟨m.toArray⟩ = Lib.byteCells m := rfl
theorem bytes_app (l m : List UInt8) : Lib.byteCells (l ++ m) = Lib.byteCells l ++ Lib.byteCells m := by simp [Lib.byteCells]
theorem join_any (w : World) (u : Value) (r : List ByteArray) (hr : r.length ≤ 40) (hj : (joinW (dat r)).length ≤ 8040) (h : StrsAt w u r) :
    Calls Try.prog 35 #[u, .string ⟨#[32]⟩] w fun e w' => e = .returned (.string ⟨(joinW (dat r)).toArray⟩) ∧ Below w.heap.size w w' := by
  obtain ⟨a, c, rfl, hc, hn⟩ := h
  by_cases h0 : r = []
  · subst h0; exact join_none a c _ w
  · obtain ⟨b, o, rfl, hb, hcell⟩ := hn h0
    exact join_some b o c r ⟨#[32]⟩ w hcell hb (by omega) hc (by show (joinW (dat r)).length ≤ _; omega)

set_option maxRecDepth 20000 in
set_option maxHeartbeats 4000000 in
/-- package lines' Write -/
theorem write_any (rows : List (List ByteArray)) (v : Value) (ht : Tame rows) (w : World) (hr : RowsIn w v rows) :
    Calls Try.prog 17 #[v] w fun e w' => e = .returned (.string ⟨(writeB (dats rows)).toArray⟩) ∧ Below w.heap.size w w' := by
  obtain ⟨a, c, rfl, hcap, hne⟩ := hr
  have hfin := hid (show writeB ((dats rows).take rows.length) = writeB (dats rows) by rw [List.take_of_length_le (by unfold dats; rw [List.length_map]; exact Nat.le_refl _)])
  have HL := hid (tame_all ht)
  have HT := hid (fun r (h : r ∈ rows) => tame_row ht h)
  have hn100 := hid ht.1
  replace hne := hid hne
  have hcap' := hid hcap
  clear ht hcap
  generalize writeB (dats rows) = RT at hfin ⊢
  have HB0 := hid (Lib.IsBuilderF.of (Lib.fresh_isBuilder 74 5 w))
  have hbs := hid (below_alloc (Below.refl w.heap.size w) (.cells #[.pointer none, .slice none 0 0] 74))
  go_enter Try.func17, Try.ntmps17
  go_wp2_with fail
  go_loopw [5, 8] (fun _ i wr => ∃ k : Nat, k ≤ rows.length ∧ i = .int .i64 k ∧ Hid (Below w.heap.size w wr) ∧ Hid (Lib.IsBuilderF 74 5 w.heap.size w.heap.size (Lib.byteCells (writeB ((dats rows).take k))) wr)) (fun _ i _ => rows.length - (intOf i).toNat)
  case atStart => exact ⟨0, by omega, rfl, hbs, HB0⟩
  case round =>
    obtain ⟨k, hk, rfl, hb, hi⟩ := hrel
    clear HB0 hbs
    by_cases hlt : k < rows.length
    · have k100 : k < 100 := by have := hn100.out; omega
      have hx := List.getElem?_eq_getElem hlt
      generalize rows[k] = r at hx
      obtain ⟨B, o, rfl, hBl, hcells⟩ := hne.out (by intro e; rw [e] at hlt; simp at hlt)
      obtain ⟨u, g0, hu⟩ := hcells k r hx
      obtain ⟨hr40, hjl⟩ := HT.out r (List.mem_of_getElem? hx)
      have hdr := hid (dats_at hx)
      have hj := hjl r.length
      rw [List.take_of_length_le (by rw [dat_len]; exact Nat.le_refl _)] at hj
      have HJ := hid (join_any wr u r hr40 hj (hu.below hb.out))
      have g1 := bcw hb.out g0
      have hwk := hid (show writeB ((dats rows).take (k + 1)) = writeB ((dats rows).take k) ++ (joinW (dat r) ++ [10]) from writeB_take hdr.out)
      have hl1 := hid (HL.out k)
      have hjs := hid (show (⟨(joinW (dat r)).toArray⟩ : ByteArray).size ≤ 8040 by show (joinW (dat r)).toArray.size ≤ 8040; simpa using hj)
      have hja := hid hj
      clear hx hjl hcells hu g0 hj
      generalize joinW (dat r) = J at HJ hwk hjs hja
      generalize writeB ((dats rows).take k) = P at hi hwk hl1
      go_wp2_with fail
      refine HJ.out.mono ?_
      rintro e w3 ⟨rfl, hb3⟩
      have hsz3 := hid (Nat.le_trans hb.out.size hb3.size)
      go_wp2_with fail
      refine (writeString_any w.heap.size w.heap.size (Lib.byteCells P) ⟨J.toArray⟩ w3 (isBuilder_below hi.out hb3) (by rw [Lib.byteCells_length]; have := hl1.out; have := hjs.out; omega) hsz3.out).mono ?_
      rintro e w4 ⟨rfl, hI4, hb4, _⟩
      rw [strCells_l, ← bytes_app] at hI4
      go_wp2_with fail
      refine (writeByte_any w.heap.size w.heap.size (Lib.byteCells (P ++ J)) 10 w4 hI4 (by rw [Lib.byteCells_length, List.length_append]; have := hl1.out; have := hja.out; omega) (Nat.le_trans hsz3.out hb4.size)).mono ?_
      rintro e w5 ⟨rfl, hI5, hb5⟩
      have hfull := hid ((hb.out.trans (hb3.mono hb.out.size)).trans (hb4.trans hb5))
      have hI6 := hid (show Lib.IsBuilderF 74 5 w.heap.size w.heap.size (Lib.byteCells (P ++ (J ++ [10]))) w5 by
        rw [← List.append_assoc, bytes_app]; exact hI5)
      rw [← hwk.out] at hI6
      clear hI4 hI5 hb3 hb4 hb5
      go_wp2_with fail
      go_roundw
      case rel => exact ⟨k + 1, by omega, by go_num, hfull, hI6⟩
      case measure => simp [intOf]; omega
    · have hke := hid (show k = rows.length by omega)
      rw [hke.out, hfin.out] at hi
      go_wp2_with fail
      refine (builderString_any w.heap.size w.heap.size RT wr hi.out hb.out.size).mono ?_
      rintro e w3 ⟨rfl, hb3⟩
      go_wp2_with fail
      go_ret
      exact ⟨rfl, hb.out.trans hb3⟩
end Go.Proofs.Ytejigbhcpejijaa.Ln
