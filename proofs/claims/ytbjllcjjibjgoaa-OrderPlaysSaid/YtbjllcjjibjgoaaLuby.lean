/-
  LAYER 13: the program's Luby.
-/
import Derived.Test.YtbjllcjjibjgoaaRows
import Derived.Test.YtbjllcjjibjgoaaLubySpec
import Derived.Test.YtbjllcjjibjgoaaShelf
namespace Go.Proofs.Ytbjllcjjibjgoaa.Hp
open Go.RowKit

theorem luby_nil (i : Int) (h : i ≤ 0) (w : World) :
    Calls Try.prog 23 #[.int .i64 i] w fun e w' => e = .returned (.int .i64 0) ∧ w = w' := by
  go_enter Try.func23, Try.ntmps23
  go_wp2_with fail
  go_loop [0, 3] (fun u _ => u = .int .i64 i) (fun _ _ => 0)
  case atStart => rfl
  case round =>
    obtain rfl := hrel
    go_wp2
    go_ret
    exact ⟨rfl, rfl⟩

theorem len_is (n : Nat) (h : n ≠ 0) (hn : n ≤ 9223372036854775807) (w : World) :
    Calls Try.prog 30 #[.int .u64 (n : Int)] w fun e w' => e = .returned (.int .i64 ((n.log2 : Int) + 1)) ∧ w = w' := by
  refine (Try.bits_Len n w (by omega) (by omega)).mono ?_
  rintro e w' ⟨rfl, rfl⟩
  rw [Int.toNat_natCast, bitLen_log h (by omega)]
  exact ⟨ret_int (by omega), rfl⟩

set_option maxHeartbeats 1000000 in
theorem luby_any (n : Nat) (hn : n ≤ 9223372036854775807) (w : World) :
    Calls Try.prog 23 #[.int .i64 (n : Int)] w fun e w' => e = .returned (.int .i64 (luby n : Nat)) ∧ w = w' := by
  generalize hb : 9223372036854775807 = B at hn
  have HB := hid hb
  clear hb
  go_enter Try.func23, Try.ntmps23
  go_wp2_with fail
  go_loop [0, 3] (fun u _ => ∃ k : Nat, u = .int .i64 (k : Int) ∧ k ≤ B ∧ Hid (luby n = luby k)) (fun u _ => (intOf u).toNat)
  case atStart => exact ⟨n, rfl, hn, hid rfl⟩
  case round =>
    obtain ⟨k, rfl, hk, HK⟩ := hrel
    by_cases h0 : 0 < k
    · have HC := hid (len_is k (by omega) (by rw [HB.out]; exact hk) w)
      have HW := hid (show IntKind.u64.wrap (k : Int) = k by rw [IntKind.wrap_u64]; have := HB.out; omega)
      have hlg := log_le (n := k) (by omega)
      have hlt := log_lt k
      have hl63 : k.log2 < 63 := by
        by_cases hc : k.log2 < 63
        · exact hc
        · exfalso
          have : 2 ^ 63 ≤ 2 ^ k.log2 := Nat.pow_le_pow_right (by decide) (by omega)
          have h63 : (2 : Nat) ^ 63 = 9223372036854775808 := by decide
          have := HB.out
          omega
      have HS := luby_step (n := k) (by omega)
      have hpos := Nat.two_pow_pos k.log2
      have hle62 : 2 ^ k.log2 ≤ 2 ^ 62 := Nat.pow_le_pow_right (by decide) (by omega)
      rw [show (2 : Nat) ^ 62 = 4611686018427387904 by decide] at hle62
      have hcast : ((2 : Int) ^ k.log2) = ((2 ^ k.log2 : Nat) : Int) := by norm_cast
      generalize hH : 2 ^ k.log2 = H at *
      obtain ⟨h, hh⟩ : ∃ h : Int, h = (H : Int) := ⟨_, rfl⟩
      rw [← hh] at hcast
      have hkB : k ≤ 9223372036854775807 := by have := HB.out; omega
      obtain ⟨ki, hki⟩ : ∃ ki : Int, ki = (k : Int) := ⟨_, rfl⟩
      have hq : wrap64 ((2 : Int) ^ k.log2) = h := by rw [hcast]; unfold wrap64; omega
      have b1 : 1 ≤ h := by omega
      have b2 : h ≤ 4611686018427387904 := by omega
      have HHS := hid HS
      have HH := hid hh
      have HKI := hid hki
      clear HS hlt hcast hH hpos hle62 hkB hh
      rw [← hki] at HW HC
      have b3 : h ≤ ki := by have := HH.out; have := HKI.out; omega
      have b4 : ki ≤ 9223372036854775807 := by have := HB.out; omega
      have b5 : decide (0 < ki) = true := decide_eq_true (by omega)
      have b6 : 0 < ki := by omega
      rw [← hki]
      clear hki
      by_cases he : k = H + (H - 1)
      · have E := hid (HHS.out.1 he)
        have h9 : (ki == h + (h - 1)) = true := by rw [beq_iff_eq]; have := HH.out; have := HKI.out; omega
        clear he
        go_wp2_with fail
        refine HC.out.mono ?_
        rintro e w' ⟨rfl, rfl⟩
        go_wp2_with fail
        go_ret
        exact ⟨ret_int (by rw [HK.out, E.out, ← HH.out, hq]), rfl⟩
      · have E := hid (HHS.out.2 he)
        have h9 : (ki == h + (h - 1)) = false := by rw [beq_eq_false_iff_ne]; have := HH.out; have := HKI.out; omega
        clear he
        go_wp2_with fail
        refine HC.out.mono ?_
        rintro e w' ⟨rfl, rfl⟩
        go_wp2_with fail
        go_round
        case rel => exact ⟨k - (H - 1), int_eq (by have := HH.out; have := HKI.out; omega), by omega, hid (by rw [HK.out, E.out.1])⟩
        case measure => have := HH.out; have := HKI.out; have := E.out.2.1; simp [intOf]; omega
    · obtain rfl : k = 0 := by omega
      go_wp2
      go_ret
      exact ⟨ret_int (by rw [HK.out, luby_zero]; rfl), rfl⟩
end Go.Proofs.Ytbjllcjjibjgoaa.Hp
