/-
  LAYER 1: Word, both Writes.
-/
import Derived.Test.YtejigbhcpejijaaLinesWriteM
import Derived.Test.YtejigbhcpejijaaLinesRows
import Derived.Test.YtejigbhcpejijaaBuilderJ
import Derived.Test.YtejigbhcpejijaaLinesSame
namespace Go.Proofs.Ytejigbhcpejijaa.Ln
open Go.RowKit

theorem lenB (s : ByteArray) : s.data.toList.length = s.size := by show s.data.toList.length = s.data.size; simp
theorem byteB (s : ByteArray) (k : Nat) (h : k < s.size) : s.data.toList[k]? = some s[k] := by
  rw [List.getElem?_eq_getElem (by rw [lenB]; exact h)]; rfl
theorem charB_int (c : UInt8) : charB c = (decide (33 ≤ (c.toNat : Int)) && decide ((c.toNat : Int) ≤ 126) && ((c.toNat : Int) != 35)) := by
  unfold charB okB
  rw [Bool.eq_iff_iff]
  simp only [Bool.and_eq_true, decide_eq_true_eq, bne_iff_ne, ne_eq]
  constructor
  · rintro ⟨⟨h1, h2⟩, h3⟩
    refine ⟨⟨by omega, by omega⟩, fun e => h3 ?_⟩
    rw [← UInt8.toNat_inj]; have : (35 : UInt8).toNat = 35 := rfl; omega
  · rintro ⟨⟨h1, h2⟩, h3⟩
    refine ⟨⟨by omega, by omega⟩, fun e => h3 ?_⟩
    rw [e]; rfl
theorem takeAll {p : UInt8 → Bool} {l : List UInt8} {k : Nat} {c : UInt8} (ha : (l.take k).all p = true) (h : l[k]? = some c) (hc : p c = true) : (l.take (k + 1)).all p = true := by
  rw [List.take_add_one, h, List.all_append, ha]; simp [hc]
theorem allOff {p : UInt8 → Bool} {l : List UInt8} {k : Nat} {c : UInt8} (h : l[k]? = some c) (hc : p c = false) : l.all p = false := by
  rw [Bool.eq_false_iff]; intro h'
  have := List.all_eq_true.1 h' c (List.mem_of_getElem? h)
  rw [hc] at this; cases this

set_option maxRecDepth 20000 in
set_option maxHeartbeats 4000000 in
theorem rword_any (s : ByteArray) (hs : s.size ≤ 1000) (w : World) : Calls Try.prog 16 #[.string s] w fun e w' => e = .returned (.bool (wordB s.data.toList)) ∧ w = w' := by
  have hlen := hid (lenB s)
  have hB := hid (fun k h => byteB s k h)
  have hW := hid (show wordB s.data.toList = (decide (s.data.toList ≠ [] ∧ s.data.toList.length ≤ 80) && s.data.toList.all charB) from rfl)
  generalize wordB s.data.toList = R at hW ⊢
  by_cases h0 : s.size = 0
  · obtain rfl : s = ⟨#[]⟩ := by
      apply ByteArray.ext; apply Array.toList_inj.1
      exact List.eq_nil_of_length_eq_zero (by rw [lenB]; exact h0)
    have hr := hid (show R = false by rw [hW.out]; rfl)
    go_enter Try.func16, Try.ntmps16
    go_wp2_with fail
    go_ret
    exact ⟨congrArg (fun b => Ending.returned (.bool b)) hr.out.symm, rfl⟩
  · have hne : (s.toList == []) = false := by
      rw [ByteArray.toList_eq, beq_eq_false_iff_ne]
      intro e; apply h0; rw [← lenB, e]; rfl
    by_cases h80 : (80 : Int) < (s.size : Int)
    · have hr := hid (show R = false by rw [hW.out, decide_eq_false (by rw [hlen.out]; omega)]; rfl)
      go_enter Try.func16, Try.ntmps16
      go_wp2_with fail
      go_ret
      exact ⟨congrArg (fun b => Ending.returned (.bool b)) hr.out.symm, rfl⟩
    · have hr := hid (show R = s.data.toList.all charB by
        rw [hW.out, decide_eq_true ⟨by intro e; apply h0; rw [← lenB, e]; rfl, by rw [hlen.out]; omega⟩]; rfl)
      clear hW
      generalize s.data.toList = l at *
      clear h0
      go_enter Try.func16, Try.ntmps16
      go_wp2_with fail
      go_loop [3] (fun v => ∃ k : Nat, k ≤ s.size ∧ v = .int .i64 k ∧ Hid ((l.take k).all charB = true)) (fun v => s.size - (intOf v).toNat)
      case atStart => exact ⟨0, by omega, rfl, hid rfl⟩
      case round =>
        obtain ⟨k, hk, rfl, hp⟩ := hrel
        by_cases hlt : k < s.size
        · have hb := hid (hB.out k hlt)
          have hi := hid (charB_int s[k])
          have hcc : (s[k].toNat : Int) ≤ 255 := by have := s[k].toNat_lt; omega
          by_cases h1 : (s[k].toNat : Int) < 33
          · have hn := hid (hr.out.trans (allOff hb.out (by rw [hi.out, decide_eq_false (by omega)]; rfl)))
            go_wp2_with fail
            go_ret
            exact ⟨congrArg (fun b => Ending.returned (.bool b)) hn.out.symm, rfl⟩
          · by_cases h2 : (126 : Int) < (s[k].toNat : Int)
            · have hn := hid (hr.out.trans (allOff hb.out (by rw [hi.out, decide_eq_false (p := (s[k].toNat : Int) ≤ 126) (by omega), Bool.and_false, Bool.false_and])))
              go_wp2_with fail
              go_ret
              exact ⟨congrArg (fun b => Ending.returned (.bool b)) hn.out.symm, rfl⟩
            · cases h3 : ((s[k].toNat : Int) == 35)
              · have hy := hid (takeAll hp.out hb.out (by rw [hi.out, decide_eq_true (by omega), decide_eq_true (by omega), bne, h3]; rfl))
                go_wp2_with fail
                go_round
                case rel => exact ⟨k + 1, by omega, by go_num, hy⟩
                case measure => simp [intOf]; omega
              · have hn := hid (hr.out.trans (allOff hb.out (by rw [hi.out, bne, h3]; simp)))
                have h35 : (s[k].toNat : Int) = 35 := by simpa using h3
                go_wp2_with fail
                go_ret
                exact ⟨congrArg (fun b => Ending.returned (.bool b)) hn.out.symm, rfl⟩
        · have hn := hid (show R = true by
            rw [hr.out]
            have := hp.out
            rwa [List.take_of_length_le (by rw [hlen.out]; omega)] at this)
          go_wp2_with fail
          go_ret
          exact ⟨congrArg (fun b => Ending.returned (.bool b)) hn.out.symm, rfl⟩

/-- a row's words, as lists -/
def dat (r : List ByteArray) : Words := r.map fun s => s.data.toList
theorem dat_len (r : List ByteArray) : (dat r).length = r.length := by unfold dat; rw [List.length_map]
theorem dat_at {r : List ByteArray} {k : Nat} {s : ByteArray} (h : r[k]? = some s) : (dat r)[k]? = some s.data.toList := by unfold dat; rw [List.getElem?_map, h]; rfl
theorem bar (s : ByteArray) : (⟨s.data.toList.toArray⟩ : ByteArray) = s := by simp
theorem StrsAt.row {w : World} {v : Value} {ws : List ByteArray} (h : StrsAt w v ws) : RowIs w v (strs (dat ws)) := by
  obtain ⟨a, c, rfl, _, h3⟩ := h
  have hl : (strs (dat ws)).length = ws.length := by simp [strs, dat]
  by_cases hne : ws = []
  · subst hne; exact .inl ⟨rfl, _, _, rfl⟩
  · obtain ⟨b, o, rfl, _, hc⟩ := h3 hne
    refine .inr ⟨b, o, c, by rw [hl], fun k x hx => ?_⟩
    have hk : k < ws.length := by rw [← hl]; exact (List.getElem?_eq_some_iff.1 hx).1
    have h9 := hc k _ (List.getElem?_eq_getElem hk)
    rw [h9]
    unfold strs dat at hx
    rw [List.getElem?_map, List.getElem?_map, List.getElem?_eq_getElem hk] at hx
    simp at hx
    rw [← hx]
end Go.Proofs.Ytejigbhcpejijaa.Ln
