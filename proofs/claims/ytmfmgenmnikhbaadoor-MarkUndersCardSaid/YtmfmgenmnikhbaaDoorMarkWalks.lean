/-
  LAYER 6, PACKAGE mark: labels.
-/
import Derived.Test.YtmfmgenmnikhbaaDoorMarkSpec
import Derived.Test.YtmfmgenmnikhbaaDoorShelf
import Derived.Test.YtmfmgenmnikhbaaDoorRows
import Derived.Test.YtmfmgenmnikhbaaDoorKit
import Derived.Laws.ShiftsVarLaws
import Derived.Laws.BitsAllLaws
import Derived.Deep.QuietTactic
import Derived.BigQuiet
import Derived.WalkSmall
namespace Go.Proofs.YtmfmgenmnikhbaaDoor.Mk
open Go.RowKit

def Gives (v : Value) (w : World) (e : Ending) (w' : World) : Prop := e = .returned v ∧ Below w.heap.size w w'
theorem gives {v v' : Value} {w w' : World} {e : Ending} (he : e = .returned v') (h : v' = v) (hb : Below w.heap.size w w') : Gives v w e w' := ⟨by rw [he, h], hb⟩

theorem bit_any (c : UInt8) (h1 : 97 ≤ (c.toNat : Int)) (h2 : (c.toNat : Int) ≤ 122) (w : World) :
    Calls Tryd.prog 24 #[.int .u8 (c.toNat : Int)] w fun e w' => e = .returned (.int .u32 (lb c : Nat)) ∧ w = w' := by
  have HB := hid (show ((lb c : Nat) : Int) = 2 ^ (c.toNat - 97) by unfold lb; simp)
  have HL := hid (lb_lt (c := c) (by unfold isL; simp; omega))
  go_enter Tryd.func24, Tryd.ntmps24
  go_wp2
  go_ret
  exact ⟨ret_int (by rw [← HB.out]; have := HL.out; omega), rfl⟩

theorem take_at {l : List UInt8} {k : Nat} {c : UInt8} (h : l[k]? = some c) : l.take (k + 1) = l.take k ++ [c] := by
  rw [List.take_add_one, h]; rfl
theorem rises_ok {l : List UInt8} (h : l ≠ [45]) : okL l = (!l.isEmpty && rises l) := by
  unfold okL; rw [show (l == [45]) = false from by simpa using h, Bool.false_or]
theorem fail_not {l : List UInt8} {k : Nat} {c : UInt8} (hl : l ≠ [45]) (h : l[k]? = some c) (hc : isL c = false) : okL l = false := by
  rw [rises_ok hl]
  cases hr : rises l
  · simp
  · have := rises_take hr (k + 1)
    rw [take_at h] at this
    rw [(rises_init this).2.1] at hc; cases hc
theorem fail_low {l : List UInt8} {k : Nat} {c : UInt8} (hl : l ≠ [45]) (hk : rises (l.take k) = true) (h : l[k]? = some c) (hc : isL c = true) (hle : lb c ≤ lsum (l.take k)) : okL l = false := by
  rw [rises_ok hl]
  cases hr : rises l
  · simp
  · have := rises_take hr (k + 1)
    rw [take_at h] at this
    exact absurd (rises_init this).2.2 ((lb_le hk hc).1 hle)
theorem next_ok {l : List UInt8} {k : Nat} {c : UInt8} (hk : rises (l.take k) = true) (h : l[k]? = some c) (hc : isL c = true) (hle : ¬ lb c ≤ lsum (l.take k)) : rises (l.take (k + 1)) = true ∧ lsum (l.take (k + 1)) = lsum (l.take k) + lb c := by
  rw [take_at h, lsum_snoc]
  refine ⟨rises_snoc hk hc ?_, rfl⟩
  rcases Classical.em (∀ x, (l.take k).getLast? = some x → x.toNat < c.toNat) with h' | h'
  · exact h'
  · exact absurd ((lb_le hk hc).2 h') hle
theorem num_no {l : List UInt8} (h : okL l = false) : numL l = 0 := by
  unfold numL; split
  · rfl
  · rw [h]; rfl
theorem or_add {a j : Nat} (h : a < 2 ^ j) : a ||| 2 ^ j = a + 2 ^ j := by
  have := Nat.two_pow_add_eq_or_of_lt h 1
  rw [Nat.mul_one] at this
  rw [Nat.or_comm, ← this, Nat.add_comm]

def parseV (l : List UInt8) : Value := .tuple #[.int .u32 (numL l : Nat), .bool (okL l)]

set_option maxHeartbeats 2000000 in
theorem parse_any (s : ByteArray) (hs : s.size ≤ maxLen) (w : World) :
    Calls Tryd.prog 8 #[.string s] w fun e w' => e = .returned (parseV s.data.toList) ∧ w = w' := by
  unfold maxLen at hs
  have hlen := hid (show s.data.toList.length = s.size by simp)
  by_cases h45 : s.data.toList = [45]
  · obtain rfl : s = ⟨#[45]⟩ := by
      apply ByteArray.ext; apply Array.toList_inj.1; rw [h45]
    go_enter Tryd.func8, Tryd.ntmps8
    go_wp2
    go_ret2
    exact ⟨rfl, rfl⟩
  · have hq : (s.toList == [45]) = false := by
      rw [ByteArray.toList_eq, beq_eq_false_iff_ne]; exact h45
    have H45 := hid h45
    clear h45
    go_enter Tryd.func8, Tryd.ntmps8
    go_wp2_with fail
    go_loop [4, 11] (fun v i => ∃ k : Nat, k ≤ s.size ∧ i = .int .i64 k ∧ v = .int .u32 (lsum (s.data.toList.take k) : Nat) ∧ Hid (rises (s.data.toList.take k) = true)) (fun _ i => s.size - (intOf i).toNat)
    case atStart => exact ⟨0, by omega, rfl, rfl, hid rfl⟩
    case round =>
      obtain ⟨k, hk, rfl, rfl, hr⟩ := hrel
      have hsl := lsum_lt hr.out
      by_cases hlt : k < s.size
      · have hb := hid (byte_at s k hlt)
        have hcc : (s[k].toNat : Int) ≤ 255 := by have := s[k].toNat_lt; omega
        have no : okL s.data.toList = false → Hid (parseV s.data.toList = .tuple #[.int .u32 0, .bool false]) := fun h => hid (by unfold parseV; rw [h, num_no h]; rfl)
        by_cases h1 : 97 ≤ (s[k].toNat : Int)
        · by_cases h2 : (s[k].toNat : Int) ≤ 122
          · have hc : isL s[k] = true := by unfold isL; simp; omega
            have BB := fun w => hid (bit_any s[k] h1 h2 w)
            have hll := lb_lt hc
            by_cases hle : lb s[k] ≤ lsum (s.data.toList.take k)
            · have HN := no (fail_low H45.out hr.out hb.out hc hle)
              clear no hc hb
              generalize lsum (s.data.toList.take k) = A at *
              generalize lb s[k] = B at *
              have hle' : (B : Int) ≤ (A : Int) := by omega
              go_wp2_with (go_at_call 24; (with_reducible refine ((BB _).out).mono ?_); rintro e w' ⟨rfl, rfl⟩)
              go_ret2
              exact ⟨by rw [HN.out]; rfl, rfl⟩
            · obtain ⟨n1, n2⟩ := next_ok hr.out hb.out hc hle
              have N1 := hid n1
              have N2 := hid n2
              have hor : bits .or .u32 ((lsum (s.data.toList.take k) : Nat) : Int) ((lb s[k] : Nat) : Int) = ((lsum (s.data.toList.take k) + lb s[k] : Nat) : Int) := by
                rw [u32_or_nat _ _ (by omega) (by omega)]
                unfold lb at hle ⊢
                rw [or_add (by omega)]
              clear no hc hb n1 n2
              generalize lsum (s.data.toList.take k) = A at *
              generalize lb s[k] = B at *
              have hle' : ¬ (B : Int) ≤ (A : Int) := by omega
              go_wp2_with (go_at_call 24; (with_reducible refine ((BB _).out).mono ?_); rintro e w' ⟨rfl, rfl⟩)
              go_round
              case rel => exact ⟨k + 1, by omega, by go_num, int_eq (by rw [N2.out]; omega), N1⟩
              case measure => simp [intOf]; omega
          · have HN := no (fail_not H45.out hb.out (by unfold isL; simp; omega))
            clear no hb
            go_wp2_with fail
            go_ret2
            exact ⟨by rw [HN.out]; rfl, rfl⟩
        · have HN := no (fail_not H45.out hb.out (by unfold isL; simp; omega))
          clear no hb
          go_wp2_with fail
          go_ret2
          exact ⟨by rw [HN.out]; rfl, rfl⟩
      · have hke : s.data.toList.take k = s.data.toList := List.take_of_length_le (by rw [hlen.out]; omega)
        rw [hke] at hr hsl ⊢
        have HP := hid (show parseV s.data.toList = .tuple #[.int .u32 (lsum s.data.toList : Nat), .bool (((lsum s.data.toList : Nat) : Int) != 0)] by
          unfold parseV numL
          rw [if_neg H45.out, rises_ok H45.out, hr.out]
          cases he : s.data.toList with
          | nil => rfl
          | cons c t =>
            have hp := lsum_pos hr.out (by rw [he]; simp)
            rw [he] at hp
            have : (((lsum (c :: t) : Nat) : Int) != 0) = true := by rw [bne_iff_ne]; omega
            rw [this]; rfl)
        clear hke
        generalize lsum s.data.toList = A at *
        go_wp2_with fail
        go_ret2
        exact ⟨by rw [HP.out]; rfl, rfl⟩

/-! ### Under, Check, Join, Meet, Count -/
def underV (a b : Nat) : Bool := decide (a &&& (4294967295 - b) = 0)
theorem under_any (a b : Nat) (ha : a < 4294967296) (hb : b < 4294967296) (w : World) :
    Calls Tryd.prog 16 #[.int .u32 (a : Int), .int .u32 (b : Int)] w fun e w' => e = .returned (.bool (underV a b)) ∧ w = w' := by
  have hx := u32_andNot_nat a b ha hb
  have HV := hid (show underV a b = (((a &&& (4294967295 - b) : Nat) : Int) == 0) by unfold underV; rw [Bool.eq_iff_iff]; simp)
  generalize a &&& (4294967295 - b) = x at hx HV
  go_enter Tryd.func16, Tryd.ntmps16
  go_wp2
  go_ret
  exact ⟨ret_bool HV.out.symm, rfl⟩
theorem check_any (a : Nat) (ha : a < 4294967296) (w : World) :
    Calls Tryd.prog 13 #[.int .u32 (a : Int)] w fun e w' => e = .returned (.bool (underV a 67108863)) ∧ w = w' := by
  have HU := fun w => hid (show Calls Tryd.prog 16 #[.int .u32 (a : Int), .int .u32 67108863] w fun e w' => e = .returned (.bool (underV a 67108863)) ∧ w = w' from under_any a 67108863 ha (by decide) w)
  generalize underV a 67108863 = u at HU ⊢
  go_enter Tryd.func13, Tryd.ntmps13
  go_wp2_with (go_at_call 16; (with_reducible refine ((HU _).out).mono ?_); rintro e w' ⟨rfl, rfl⟩)
  go_ret
  exact ⟨rfl, rfl⟩
theorem under_bits {a b : Nat} (ha : a < 4294967296) (hb : b < 4294967296) : underV a b = true ↔ ∀ i, i < 32 → a.testBit i = true → b.testBit i = true := by
  unfold underV
  rw [decide_eq_true_eq]
  have hs : ∀ i, (4294967295 - b).testBit i = (decide (i < 32) && !b.testBit i) := fun i => by rw [show 4294967295 - b = 2 ^ 32 - (b + 1) from by omega]; exact Nat.testBit_two_pow_sub_succ (n := 32) hb i
  constructor
  · intro h i hi hai
    have := congrArg (fun x => Nat.testBit x i) h
    simp only [Nat.testBit_and, Nat.zero_testBit, hs, hai, decide_eq_true hi, Bool.true_and, Bool.not_eq_false'] at this
    exact this
  · intro h
    apply Nat.eq_of_testBit_eq
    intro i
    rw [Nat.testBit_and, Nat.zero_testBit, hs]
    by_cases hi : i < 32
    · cases hai : a.testBit i
      · rfl
      · rw [h i hi hai]; simp
    · rw [Nat.testBit_lt_two_pow (Nat.lt_of_lt_of_le ha (Nat.pow_le_pow_right (by decide : 0 < 2) (by omega : 32 ≤ i)))]; rfl
theorem check_lt {a : Nat} (ha : a < 4294967296) : underV a 67108863 = decide (a < 67108864) := by
  rw [Bool.eq_iff_iff, under_bits ha (by decide), decide_eq_true_eq]
  have hm : ∀ i, (67108863 : Nat).testBit i = decide (i < 26) := fun i => Nat.testBit_two_pow_sub_one 26 i
  constructor
  · intro h
    rcases Nat.lt_or_ge a 67108864 with h' | h'
    · exact h'
    · exfalso
      obtain ⟨i, hi, hb⟩ := Nat.exists_ge_and_testBit_of_ge_two_pow (n := 26) h'
      have hi32 : i < 32 := by
        rcases Nat.lt_or_ge i 32 with h2 | h2
        · exact h2
        · rw [Nat.testBit_lt_two_pow (Nat.lt_of_lt_of_le ha (Nat.pow_le_pow_right (by decide : 0 < 2) h2))] at hb; cases hb
      have := h i hi32 hb
      rw [hm] at this
      have := of_decide_eq_true this
      omega
  · intro h i _ hb
    rw [hm, decide_eq_true_eq]
    rcases Nat.lt_or_ge i 26 with h2 | h2
    · exact h2
    · rw [Nat.testBit_lt_two_pow (Nat.lt_of_lt_of_le h (Nat.pow_le_pow_right (by decide : 0 < 2) h2))] at hb; cases hb
end Go.Proofs.YtmfmgenmnikhbaaDoor.Mk
