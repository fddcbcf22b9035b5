/-
  LAYER 1: may a text be a word (Word of the document), and what LinesBlanks reads.
-/
import Derived.Test.YtejigbhcpejijaaLinesLaws
import Derived.Test.YtejigbhcpejijaaLinesPieces
namespace Go.Proofs.Ytejigbhcpejijaa.Ln
open Go.RowKit

def wB (c : UInt8) : Bool := okB c && (c != 35)
theorem wB_int (c : UInt8) : wB c = (decide (33 ≤ (c.toNat : Int)) && decide ((c.toNat : Int) ≤ 126) && ((c.toNat : Int) != 35)) := by
  unfold wB
  rw [okB_int]
  congr 1
  rw [Bool.eq_iff_iff]
  simp only [bne_iff_ne, ne_eq]
  constructor
  · intro h h'; apply h; apply UInt8.toNat_inj.1; show c.toNat = 35; omega
  · rintro h rfl; exact h rfl

def wordV (l : List UInt8) : Bool := decide (0 < l.length ∧ l.length ≤ 80 ∧ run wB l 0 = l.length)

set_option maxHeartbeats 1000000 in
theorem word_any (s : ByteArray) (hs : s.size ≤ maxLen) (w : World) :
    Calls Try.prog 16 #[.string s] w fun e w' => e = .returned (.bool (wordV s.data.toList)) ∧ w = w' := by
  unfold maxLen at hs
  by_cases h0 : s.size = 0
  · obtain rfl : s = ByteArray.empty := by
      apply ByteArray.ext; apply Array.eq_empty_of_size_eq_zero; exact h0
    go_enter Try.func16, Try.ntmps16
    go_wp2
    go_ret
    exact ⟨rfl, rfl⟩
  · have hq : (s.toList == []) = false := by
      rw [ByteArray.toList_eq, beq_eq_false_iff_ne]
      intro h; apply h0
      have := congrArg List.length h
      simpa using this
    by_cases h80 : s.size ≤ 80
    · go_enter Try.func16, Try.ntmps16
      go_wp2_with fail
      go_loop [3] (fun v => ∃ k : Nat, k ≤ s.size ∧ v = .int .i64 k ∧ run wB s.data.toList 0 = k + run wB s.data.toList k) (fun v => s.size - (intOf v).toNat)
      case atStart => exact ⟨0, by omega, rfl, by simp⟩
      case round =>
        obtain ⟨k, hk, rfl, hkr⟩ := hrel
        have hkr' := hid hkr
        clear hkr
        by_cases hlt : k < s.size
        · have hb := hid (byte_at s k hlt)
          have hi := hid (wB_int s[k])
          have hcc : (s[k].toNat : Int) ≤ 255 := by have := s[k].toNat_lt; omega
          have no : wB s[k] = false → Hid (wordV s.data.toList = false) := fun h => hid (by
            have hr := run_no (p := wB) hb.out h
            unfold wordV
            rw [decide_eq_false]
            rintro ⟨_, _, h'⟩
            rw [hkr'.out, hr] at h'
            simp at h'; omega)
          by_cases h1 : (s[k].toNat : Int) < 33
          · have hn := no (by rw [hi.out, decide_eq_false (by omega)]; rfl)
            clear hb no
            go_wp2_with fail
            go_ret
            exact ⟨ret_bool hn.out.symm, rfl⟩
          · by_cases h2 : (s[k].toNat : Int) ≤ 126
            · by_cases h3 : (s[k].toNat : Int) = 35
              · have hn := no (by rw [hi.out, h3]; rfl)
                have h3' : ((s[k].toNat : Int) == 35) = true := by rw [h3]; rfl
                clear hb no
                go_wp2_with fail
                go_ret
                exact ⟨ret_bool hn.out.symm, rfl⟩
              · have h3' : ((s[k].toNat : Int) == 35) = false := by rw [beq_eq_false_iff_ne]; exact h3
                have hb' := hid (run_yes (p := wB) hb.out (by rw [hi.out, decide_eq_true (by omega), decide_eq_true h2]; simpa [bne] using h3))
                clear hb no
                go_wp2_with fail
                go_round
                case rel => exact ⟨k + 1, by omega, by go_num, by rw [hkr'.out, hb'.out]; omega⟩
                case measure => simp [intOf]; omega
            · have hn := no (by rw [hi.out, decide_eq_false h2, Bool.and_false]; rfl)
              clear hb no
              go_wp2_with fail
              go_ret
              exact ⟨ret_bool hn.out.symm, rfl⟩
        · have hb' := hid (run_end (p := wB) (l := s.data.toList) (a := k) (by simp; omega))
          go_wp2_with fail
          go_ret
          exact ⟨ret_bool (by unfold wordV; rw [hkr'.out, hb'.out, decide_eq_true]; simp; omega), rfl⟩
    · go_enter Try.func16, Try.ntmps16
      go_wp2_with fail
      go_ret
      exact ⟨ret_bool (by unfold wordV; rw [decide_eq_false (by simp; omega)]), rfl⟩

end Go.Proofs.Ytejigbhcpejijaa.Ln
