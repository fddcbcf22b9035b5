/-
  LAYER 2: the document's own answers (package chandlerref02), over the same plain functions of a number's bits.
-/
import Derived.Test.YtbiopkmnajkjpaaScoreText
import Derived.Laws.ShiftsVarLaws
namespace Go.Proofs.Ytbiopkmnajkjpaa.Sc
open Go.RowKit

theorem hex_and (b j : Nat) (hb : b < 18446744073709551616) (hj : j < 16) : bits BinOp.and IntKind.u64 ((b : Int) / 2 ^ (60 - 4 * j)) 15 = ((b / 16 ^ (15 - j) % 16 : Nat) : Int) := by
  have e : ((b : Int) / 2 ^ (60 - 4 * j)) = ((b / 16 ^ (15 - j) : Nat) : Int) := by
    rw [show (16 : Nat) = 2 ^ 4 from rfl, ← Nat.pow_mul, show 4 * (15 - j) = 60 - 4 * j from by omega]
    simp
  rw [e]
  have := u64_and_nat (b / 16 ^ (15 - j)) 15 (Nat.lt_of_le_of_lt (Nat.div_le_self _ _) hb) (by decide)
  rw [nat_mask4] at this
  exact this
theorem hexDigit_lo {d : Nat} (h : d < 10) : (48 + (d : Int)) = ((hexDigit d).toNat : Int) := by
  unfold hexDigit; rw [if_pos h]; simp; omega
theorem hexDigit_hi {d : Nat} (h : 10 ≤ d) (h' : d < 16) : (87 + (d : Int)) = ((hexDigit d).toNat : Int) := by
  unfold hexDigit; rw [if_neg (by omega)]; simp; omega
theorem hexT_take (b j : Nat) (hj : j < 16) : (hexT b).take (j + 1) = (hexT b).take j ++ [hexDigit (b / 16 ^ (15 - j) % 16)] := by
  rw [List.take_succ_eq_append_getElem (by rw [hexT_len]; exact hj)]
  congr 2
  simp [hexT]

set_option maxHeartbeats 400000 in
theorem refHex_any (b : Nat) (hb : b < 18446744073709551616) (w : World) :
    Calls Try.prog 17 #[.int .u64 (b : Int)] w fun e w' => e = .returned (.string ⟨(hexT b).toArray⟩) ∧ Below w.heap.size w w' := by
  have HB := hid hb
  clear hb
  go_enter Try.func17, Try.ntmps17
  go_wp2_with fail
  go_loopw [3, 4] (fun v i wr => ∃ j : Nat, j ≤ 16 ∧ i = .int .i64 (60 - 4 * (j : Int)) ∧ v = .string ⟨((hexT b).take j).toArray⟩ ∧ Below w.heap.size w wr) (fun _ i _ => (intOf i + 4).toNat)
  case atStart => exact ⟨0, by omega, rfl, rfl, Below.refl _ _⟩
  case round =>
    obtain ⟨j, hj, rfl, rfl, hbl⟩ := hrel
    by_cases hlt : j < 16
    · have hand := hex_and b j HB.out hlt
      have htk := hid (hexT_take b j hlt)
      have hd16 : b / 16 ^ (15 - j) % 16 < 16 := Nat.mod_lt _ (by decide)
      generalize b / 16 ^ (15 - j) % 16 = d at hand htk hd16
      have hll : ((hexT b).take j).length ≤ 16 := by have := List.length_take_le j (hexT b); omega
      generalize (hexT b).take j = l at *
      by_cases hd : d < 10
      · have cv := run_one_byte (P := Try.prog) wr 53 9 5 5 _ _ (hexDigit_lo hd) Try.underlying53 Try.underlying5 Try.underlying9
        go_wp2
        exact ⟨⟨j + 1, by omega, int_eq (by omega), str_append (b := [hexDigit d]) htk.out, hbl.alloc (by have := hbl.size; omega) _⟩, by simp [intOf]; omega⟩
      · have cv := run_one_byte (P := Try.prog) wr 53 9 5 5 _ _ (hexDigit_hi (by omega) hd16) Try.underlying53 Try.underlying5 Try.underlying9
        go_wp2
        exact ⟨⟨j + 1, by omega, int_eq (by omega), str_append (b := [hexDigit d]) htk.out, hbl.alloc (by have := hbl.size; omega) _⟩, by simp [intOf]; omega⟩
    · go_wp2
      go_ret
      exact ⟨ret_str (by rw [List.take_of_length_le (by rw [hexT_len]; omega)]), hbl⟩

theorem refBits_len (s : ByteArray) (h : s.size ≠ 16) (_hs : s.size ≤ maxLen) (w : World) :
    Calls Try.prog 13 #[.string s] w fun e w' => e = .returned (.tuple #[.int .u64 0, .bool false]) ∧ w = w' := by
  unfold maxLen at _hs
  have h' : ((s.size : Int) != 16) = true := by rw [bne_iff_ne]; omega
  have HH := hid h
  clear h
  go_enter Try.func13, Try.ntmps13
  go_wp2
  go_ret2
  exact ⟨rfl, rfl⟩

set_option maxHeartbeats 400000 in
theorem refBits_16 (s : ByteArray) (h : s.size = 16) (w : World) :
    Calls Try.prog 13 #[.string s] w fun e w' => e = .returned (.tuple #[.int .u64 (parseV s.data.toList : Nat), .bool (allDig s.data.toList)]) ∧ w = w' := by
  have h' : ((s.size : Int) != 16) = false := by rw [bne_eq_false_iff_eq]; omega
  have HH := hid h
  clear h
  go_enter Try.func13, Try.ntmps13
  go_wp2_with fail
  go_loop [4, 5] (fun v i => ∃ k : Nat, k ≤ 16 ∧ i = .int .i64 k ∧ allDig (s.data.toList.take k) = true ∧ v = .int .u64 ((hv (s.data.toList.take k) : Nat) : Int)) (fun _ i => 16 - (intOf i).toNat)
  case atStart => exact ⟨0, by omega, rfl, by simp [allDig], by simp [hv]⟩
  case round =>
    obtain ⟨k, hk, rfl, hd, rfl⟩ := hrel
    have hz1 : s.size ≤ 16 := by have := HH.out; omega
    have hz2 : 16 ≤ s.size := by have := HH.out; omega
    by_cases hlt : k < 16
    · have hlt' : k < s.size := by omega
      have hl := hv_lt (s.data.toList.take k)
      have hl : hv (s.data.toList.take k) < 1152921504606846976 := Nat.lt_of_lt_of_le hl (Nat.pow_le_pow_right (by decide) (by have := List.length_take_le k s.data.toList; omega) : 16 ^ (s.data.toList.take k).length ≤ 16 ^ 15)
      have hcc : (s[k].toNat : Int) ≤ 255 := by have := s[k].toNat_lt; omega
      have hno : digOk (s[k].toNat : Int) = false → allDig s.data.toList = false := fun hq => by
        have := allDig_snoc (s.data.toList.take k) s[k]
        rw [← take_snoc s k hlt', hq, Bool.and_false] at this
        unfold allDig at *
        rw [← List.take_append_drop (k + 1) s.data.toList, List.all_append, this, Bool.false_and]
      have hno' := hid hno
      clear hno
      have hts := hid (take_snoc s k hlt')
      have hdg := hid (dg_cast s[k])
      have hd' := hid hd
      clear hd
      generalize s.data.toList.take k = l at *
      by_cases a : 48 ≤ (s[k].toNat : Int) ∧ (s[k].toNat : Int) ≤ 57
      · obtain ⟨a1, a2⟩ := a
        go_wp2
        go_round
        case rel =>
          refine ⟨k + 1, by omega, by go_num, ?_, ?_⟩
          · rw [hts.out, allDig_snoc, hd'.out, digOk_t (by omega)]; rfl
          · rw [hts.out, hv_snoc]
            refine int_eq ?_
            have := hdg.out
            unfold digV at this
            rw [if_pos ⟨a1, a2⟩] at this
            rw [IntKind.wrap_u64, IntKind.wrap_u64]
            omega
        case measure => simp [intOf]; omega
      · by_cases b : 97 ≤ (s[k].toNat : Int) ∧ (s[k].toNat : Int) ≤ 102
        · obtain ⟨b1, b2⟩ := b
          have a' := hid a
          clear a
          go_wp2
          go_round
          case rel =>
            refine ⟨k + 1, by omega, by go_num, ?_, ?_⟩
            · rw [hts.out, allDig_snoc, hd'.out, digOk_t (by omega)]; rfl
            · rw [hts.out, hv_snoc]
              refine int_eq ?_
              have := hdg.out
              unfold digV at this
              rw [if_neg a'.out, if_pos ⟨b1, b2⟩] at this
              rw [IntKind.wrap_u64, IntKind.wrap_u64]
              omega
          case measure => simp [intOf]; omega
        · have hq := hid (hno'.out (digOk_f (by omega)))
          have a1 : (s[k].toNat : Int) < 48 ∨ (57 < (s[k].toNat : Int) ∧ (s[k].toNat : Int) < 97) ∨ 102 < (s[k].toNat : Int) := by omega
          clear a b
          rcases a1 with a1 | ⟨a1, a2⟩ | a1
          · go_wp2
            go_ret2
            exact ⟨ret_tup (by unfold parseV; rw [if_neg (by simp [hq.out])]; rfl) (bool_eq hq.out.symm), rfl⟩
          · go_wp2
            go_ret2
            exact ⟨ret_tup (by unfold parseV; rw [if_neg (by simp [hq.out])]; rfl) (bool_eq hq.out.symm), rfl⟩
          · go_wp2
            go_ret2
            exact ⟨ret_tup (by unfold parseV; rw [if_neg (by simp [hq.out])]; rfl) (bool_eq hq.out.symm), rfl⟩
    · have hk16 : k = 16 := by omega
      have e : s.data.toList.take k = s.data.toList := List.take_of_length_le (by simp; omega)
      rw [e] at hd ⊢
      have hd' := hid hd
      clear e hd
      subst hk16
      go_wp2
      go_ret2
      exact ⟨ret_tup (by unfold parseV; rw [if_pos hd'.out]; rfl) (bool_eq hd'.out.symm), rfl⟩

theorem refBits_any (s : ByteArray) (hs : s.size ≤ maxLen) (w : World) :
    Calls Try.prog 13 #[.string s] w fun e w' => e = .returned (.tuple #[.int .u64 (parseN s : Nat), .bool (parseOk s)]) ∧ w = w' := by
  by_cases h : s.size = 16
  · refine (refBits_16 s h w).mono ?_
    rintro e w' ⟨rfl, rfl⟩
    exact ⟨ret_tup (by unfold parseN; rw [if_pos h]) (bool_eq (by unfold parseOk; simp [h])), rfl⟩
  · refine (refBits_len s h hs w).mono ?_
    rintro e w' ⟨rfl, rfl⟩
    exact ⟨ret_tup (by unfold parseN; rw [if_neg h]; rfl) (bool_eq (by unfold parseOk; simp [h])), rfl⟩

theorem and_pow (b : Nat) (hb : b < 18446744073709551616) : bits BinOp.and IntKind.u64 ((b : Int) / 4503599627370496) 2047 = ((b / 4503599627370496 % 2048 : Nat) : Int) := by
  have := u64_and_nat (b / 4503599627370496) 2047 (by omega) (by decide)
  rw [nat_mask11] at this
  exact this
theorem and_rest (b : Nat) (hb : b < 18446744073709551616) : bits BinOp.and IntKind.u64 (b : Int) 4503599627370495 = ((b % 4503599627370496 : Nat) : Int) := by
  have := u64_and_nat b 4503599627370495 hb (by decide)
  rw [Nat.and_two_pow_sub_one_eq_mod b 52] at this
  exact this

set_option maxHeartbeats 400000 in
theorem refKind_any (b : Nat) (hb : b < 18446744073709551616) (w : World) :
    Calls Try.prog 20 #[.int .u64 (b : Int)] w fun e w' => e = .returned (.int .i64 (kind b)) ∧ w = w' := by
  have K := hid (kind_bits hb)
  have H1 := hid (and_pow b hb)
  have H2 := hid (and_rest b hb)
  clear hb
  go_enter Try.func20, Try.ntmps20
  go_wp2
  all_goals (go_ret; refine ⟨ret_int ?_, rfl⟩; have k := K.out; have h1 := H1.out; have h2 := H2.out; clear K H1 H2; (try simp only [beq_iff_eq, bne_iff_ne, beq_eq_false_iff_ne, bne_eq_false_iff_eq, ne_eq] at *); omega)

theorem or_top {b : Nat} (hb : b < 9223372036854775808) : bits BinOp.or IntKind.u64 (b : Int) 9223372036854775808 = ((b + 9223372036854775808 : Nat) : Int) := by
  have := u64_or_nat b 9223372036854775808 (by omega) (by decide)
  rw [Nat.or_comm, nat_join 63 9223372036854775808 b (by decide) hb] at this
  rw [Nat.add_comm]; exact this
theorem not_any {b : Nat} (hb : b < 18446744073709551616) : bits BinOp.xor IntKind.u64 IntKind.u64.max (b : Int) = ((18446744073709551615 - b : Nat) : Int) := by
  have := u64_xor_nat 18446744073709551615 b (by decide) hb
  have e : 18446744073709551615 ^^^ b = 18446744073709551615 - b := by
    rw [show (18446744073709551615 - b) = 2 ^ 64 - (b + 1) from by omega]
    apply Nat.eq_of_testBit_eq
    intro i
    rw [Nat.testBit_xor, Nat.testBit_two_pow_sub_succ hb, show (18446744073709551615 : Nat) = 2 ^ 64 - 1 from rfl, Nat.testBit_two_pow_sub_one]
    by_cases h : i < 64
    · simp [h]
    · have : b.testBit i = false := Nat.testBit_lt_two_pow (Nat.lt_of_lt_of_le hb (Nat.pow_le_pow_right (by decide) (by omega) : 2 ^ 64 ≤ 2 ^ i))
      simp [h, this]
  rw [e] at this
  exact this

theorem refRow_any (b : Nat) (hb : b < 18446744073709551616) (w : World) :
    Calls Try.prog 37 #[.int .u64 (b : Int)] w fun e w' => e = .returned (.int .u64 (row b : Int)) ∧ w = w' := by
  have HB := hid hb
  clear hb
  go_enter Try.func37, Try.ntmps37
  go_wp2_with (first | (go_at_call 20; (with_reducible refine (refKind_any _ HB.out _).mono ?_); rintro e w' ⟨rfl, rfl⟩))
  all_goals (go_ret; refine ⟨ret_int ?_, rfl⟩)
  · have hk : kind b = 0 := by simpa using ‹(kind b == 0) = true›
    rcases kind_row HB.out with ⟨_, _, r⟩ | ⟨_, _, r⟩
    · rw [r]; rfl
    · omega
  · have hk : kind b ≠ 0 := by simpa using ‹(kind b == 0) = false›
    have ht : (b : Int) / 9223372036854775808 = 1 := by simpa using ‹((b : Int) / 9223372036854775808 == 1) = true›
    rw [not_any HB.out]
    cases hn : isNan b
    · unfold row; rw [hn, if_neg (by simp), if_pos (by omega)]
    · exact absurd (kind_nan' hn) hk
  · have hk : kind b ≠ 0 := by simpa using ‹(kind b == 0) = false›
    have ht : ¬ (b : Int) / 9223372036854775808 = 1 := by simpa using ‹((b : Int) / 9223372036854775808 == 1) = false›
    have hb := HB.out
    rw [or_top (by omega)]
    cases hn : isNan b
    · unfold row; rw [hn, if_neg (by simp), if_neg (by omega)]
    · exact absurd (kind_nan' hn) hk

theorem refCompare_any (a b : Nat) (ha : a < 18446744073709551616) (hb : b < 18446744073709551616) (w : World) :
    Calls Try.prog 21 #[.int .u64 (a : Int), .int .u64 (b : Int)] w fun e w' => e = .returned (.int .i64 (cmpB a b)) ∧ w = w' := by
  have HA := hid ha
  have HB := hid hb
  clear ha hb
  have hab := cmpB_cases a b
  rcases hab with ⟨h1, h2⟩ | ⟨h1, h2⟩ | ⟨h1, h2⟩
  all_goals
    have h2' := hid h2
    clear h2
  · go_enter Try.func21, Try.ntmps21
    go_wp2_with (first | (go_at_call 37; (with_reducible refine (refRow_any _ HA.out _).mono ?_); rintro e w' ⟨rfl, rfl⟩) | (go_at_call 37; (with_reducible refine (refRow_any _ HB.out _).mono ?_); rintro e w' ⟨rfl, rfl⟩))
    go_ret
    exact ⟨ret_int h2'.out.symm, rfl⟩
  · go_enter Try.func21, Try.ntmps21
    go_wp2_with (first | (go_at_call 37; (with_reducible refine (refRow_any _ HA.out _).mono ?_); rintro e w' ⟨rfl, rfl⟩) | (go_at_call 37; (with_reducible refine (refRow_any _ HB.out _).mono ?_); rintro e w' ⟨rfl, rfl⟩))
    go_ret
    exact ⟨ret_int h2'.out.symm, rfl⟩
  · have h3 : ¬ row a < row b := by omega
    have h4 : ¬ row b < row a := by omega
    clear h1
    go_enter Try.func21, Try.ntmps21
    go_wp2_with (first | (go_at_call 37; (with_reducible refine (refRow_any _ HA.out _).mono ?_); rintro e w' ⟨rfl, rfl⟩) | (go_at_call 37; (with_reducible refine (refRow_any _ HB.out _).mono ?_); rintro e w' ⟨rfl, rfl⟩))
    go_ret
    exact ⟨ret_int h2'.out.symm, rfl⟩

theorem refText_any (b : Nat) (hb : b < 18446744073709551616) (w : World) :
    Calls Try.prog 16 #[.int .u64 (b : Int)] w fun e w' => e = .returned (.string ⟨(hexT (txV b)).toArray⟩) ∧ Below w.heap.size w w' := by
  have HB := hid hb
  clear hb
  by_cases hk : kind b = 0
  · have hn : (kind b == 0) = true := by rw [hk]; rfl
    have hfin := hid (show txV b = 9221120237041090561 from if_pos hk)
    clear hk
    go_enter Try.func16, Try.ntmps16
    go_wp2_with (first | (go_at_call 20; (with_reducible refine (refKind_any _ HB.out _).mono ?_); rintro e w' ⟨rfl, rfl⟩))
    go_ret
    exact ⟨by rw [hfin.out]; rfl, Below.refl _ _⟩
  · have hn : (kind b == 0) = false := by simpa using hk
    have hfin := hid (show txV b = b from if_neg hk)
    clear hk
    go_enter Try.func16, Try.ntmps16
    go_wp2_with (first | (go_at_call 20; (with_reducible refine (refKind_any _ HB.out _).mono ?_); rintro e w' ⟨rfl, rfl⟩) | (go_at_call 17; (with_reducible refine (refHex_any _ HB.out _).mono ?_); rintro e w' ⟨rfl, hb1⟩))
    go_ret
    exact ⟨ret_str (by rw [hfin.out]), hb1⟩

end Go.Proofs.Ytbiopkmnajkjpaa.Sc
