/-
  LAYER 6, PACKAGE mark: the labels' text.
-/
import Derived.Test.YtmfmgenmnikhbaaDoorMarkWalks2
import Derived.Test.YtmfmgenmnikhbaaDoorBuilderW
namespace Go.Proofs.YtmfmgenmnikhbaaDoor.Mk
open Go.RowKit

theorem bitN (m : Nat) (h1 : 97 ≤ (m : Int)) (h2 : (m : Int) ≤ 122) (w : World) :
    Calls Tryd.prog 24 #[.int .u8 (m : Int)] w fun e w' => e = .returned (.int .u32 (2 ^ (m - 97) : Nat)) ∧ w = w' := by
  have hm : (UInt8.ofNat m).toNat = m := by show m % 256 = m; omega
  have h := bit_any (UInt8.ofNat m) (by rw [hm]; exact h1) (by rw [hm]; exact h2) w
  unfold lb at h
  rwa [hm] at h

theorem and_bit (n j : Nat) (hn : n < 4294967296) (hj : j < 26) : (bits .and .u32 (n : Int) ((2 ^ j : Nat) : Int) != 0) = n.testBit j := by
  have hj2 : 2 ^ j < 4294967296 := Nat.lt_of_le_of_lt (Nat.pow_le_pow_right (by decide : 0 < 2) (by omega : j ≤ 25)) (by decide)
  rw [u32_and_nat n (2 ^ j) hn hj2]
  have ht : (n &&& 2 ^ j).testBit j = n.testBit j := by rw [Nat.testBit_and, Nat.testBit_two_pow_self, Bool.and_true]
  cases hb : n.testBit j
  · have : n &&& 2 ^ j = 0 := by
      apply Nat.eq_of_testBit_eq
      intro i
      rw [Nat.testBit_and, Nat.zero_testBit, Nat.testBit_two_pow]
      by_cases e : j = i
      · subst e; rw [hb]; rfl
      · rw [decide_eq_false e, Bool.and_false]
    rw [this]; rfl
  · rw [bne_iff_ne]
    intro e
    have : n &&& 2 ^ j = 0 := by omega
    rw [this, hb] at ht
    simp at ht

theorem bytes_snoc (l : List UInt8) (c : UInt8) : Lib.byteCells (l ++ [c]) = Lib.byteCells l ++ [.int .u8 (c.toNat : Int)] := by simp [Lib.byteCells]
theorem bytes_len (l : List UInt8) : (Lib.byteCells l).length = l.length := Lib.byteCells_length l

set_option maxHeartbeats 1000000 in
theorem text_any (n : Nat) (hn : n < 4294967296) (w : World) :
    Calls Tryd.prog 12 #[.int .u32 (n : Int)] w (Gives (.string ⟨(textV n).toArray⟩) w) := by
  have H0 := hid (Lib.fresh_isBuilder 55 5 w)
  go_enter Tryd.func12, Tryd.ntmps12
  go_wp2_with fail
  go_loopw [4] (fun c wr => ∃ m : Nat, 97 ≤ m ∧ m ≤ 123 ∧ c = .int .u8 m ∧ Hid (Lib.IsBuilder 55 5 w.heap.size w.heap.size (Lib.byteCells (labsTo (m - 97) n)) wr) ∧ Below w.heap.size w wr) (fun c _ => 123 - (intOf c).toNat)
  case atStart => exact ⟨97, by omega, by omega, rfl, H0, below_alloc (Below.refl _ _) _⟩
  case round =>
    obtain ⟨m, h1, h2, rfl, hbl, hb⟩ := hrel
    have hsz := hb.size
    have hll : (labsTo (m - 97) n).length ≤ 123 := by
      unfold labsTo; rw [List.length_map]
      exact Nat.le_trans (List.length_filter_le _ _) (by simp; omega)
    by_cases hlt : m ≤ 122
    · have BB := fun w => hid (bitN m (by omega) (by omega) w)
      have HA := hid (and_bit n (m - 97) hn (by omega))
      have HS := hid (labsTo_succ (m - 97) n)
      have hltI : (m : Int) ≤ 122 := by omega
      generalize 2 ^ (m - 97) = B at BB HA
      cases ht : n.testBit (m - 97)
      · have ha := HA.out
        rw [ht] at ha HS
        have HS' := hid (show labsTo (m + 1 - 97) n = labsTo (m - 97) n by rw [show m + 1 - 97 = m - 97 + 1 from by omega, HS.out]; simp)
        clear HA HS ht
        generalize labsTo (m - 97) n = l at *
        go_wp2_with (first | (go_at_call 24; (with_reducible refine ((BB _).out).mono ?_); rintro e w' ⟨rfl, rfl⟩))
        go_roundw
        case rel => exact ⟨m + 1, by omega, by omega, by go_num, by rw [HS'.out]; exact hbl, hb⟩
        case measure => simp [intOf]; omega
      · have ha := HA.out
        rw [ht] at ha HS
        have HS' := hid (show labsTo (m + 1 - 97) n = labsTo (m - 97) n ++ [UInt8.ofNat m] by rw [show m + 1 - 97 = m - 97 + 1 from by omega, HS.out, show 97 + (m - 97) = m from by omega]; simp)
        have WB := hid (writeByte_any w.heap.size w.heap.size _ (m : Int) wr hbl.out (by rw [bytes_len]; omega) hsz)
        clear HA HS ht
        have hm : (UInt8.ofNat m).toNat = m := by show m % 256 = m; omega
        have HX := hid (show Lib.byteCells (labsTo (m + 1 - 97) n) = Lib.byteCells (labsTo (m - 97) n) ++ [.int .u8 (m : Int)] by rw [HS'.out, bytes_snoc, hm])
        clear HS' hm
        generalize Lib.byteCells (labsTo (m - 97) n) = l at *
        go_wp2_with (first | (go_at_call 24; (with_reducible refine ((BB _).out).mono ?_); rintro e w' ⟨rfl, rfl⟩) | (go_at_call 25; (with_reducible refine (WB.out).mono ?_); rintro e w' ⟨rfl, hbl2, hb2⟩))
        go_roundw
        case rel => exact ⟨m + 1, by omega, by omega, by go_num, by rw [HX.out]; exact hid hbl2, hb.trans hb2⟩
        case measure => simp [intOf]; omega
    · have hm : m = 123 := by omega
      subst hm
      have HLn := hid (Any.Builder_Len Tryd.lays170 w.heap.size w.heap.size _ wr hbl.out)
      have HSt := hid (Any.Builder_String_any Tryd.lays169 Tryd.Builder_Extra_169 w.heap.size w.heap.size _ wr hbl.out hsz)
      have HT := hid (show textV n = if labsTo 26 n = [] then [45] else labsTo 26 n from rfl)
      have HLn' := hid (show Calls Tryd.prog 26 #[.pointer (some ⟨w.heap.size, 0, none⟩)] wr fun e w' => e = .returned (.int .i64 ((labsTo 26 n).length : Nat)) ∧ w' = wr by
        have := HLn.out
        rw [bytes_len] at this
        exact this)
      have HSt' := hid (show Calls Tryd.prog 27 #[.pointer (some ⟨w.heap.size, 0, none⟩)] wr fun e w' => e = .returned (.string ⟨(labsTo 26 n).toArray⟩) ∧ Below w.heap.size wr w' from HSt.out)
      clear HLn HSt hbl
      generalize labsTo 26 n = l at *
      cases l with
      | nil =>
        go_wp2_with (first | (go_at_call 26; (with_reducible refine (HLn'.out).mono ?_); rintro e w' ⟨rfl, rfl⟩))
        go_ret
        exact gives rfl (by rw [HT.out]; rfl) hb
      | cons c t =>
        have hne : (((c :: t).length : Int) == 0) = false := by rw [beq_eq_false_iff_ne]; simp; omega
        have HT' := hid (show textV n = c :: t by rw [HT.out, if_neg (by simp)])
        clear HT
        generalize c :: t = l at *
        go_wp2_with (first | (go_at_call 26; (with_reducible refine (HLn'.out).mono ?_); rintro e w' ⟨rfl, rfl⟩) | (go_at_call 27; (with_reducible refine (HSt'.out).mono ?_); rintro e w' ⟨rfl, hb3⟩))
        go_ret
        exact gives rfl (by rw [HT'.out]; rfl) (hb.trans hb3)
end Go.Proofs.YtmfmgenmnikhbaaDoor.Mk
