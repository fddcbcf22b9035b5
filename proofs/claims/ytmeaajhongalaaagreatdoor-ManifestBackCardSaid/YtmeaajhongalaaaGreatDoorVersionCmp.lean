/-
  LAYER 3, PACKAGE version: two parts compared.
-/
import Derived.Test.YtmeaajhongalaaaGreatDoorIA
import Derived.Test.YtmeaajhongalaaaGreatDoorVersionRef
namespace Go.Proofs.YtmeaajhongalaaaGreatDoor.Vs
open Go.RowKit
open Go.Proofs.YtmeaajhongalaaaGreatDoor Go.Proofs.YtmeaajhongalaaaGreatDoor.Nu

theorem isNaN_any (x : Int) (w : World) : Calls Tryz.prog 177 #[.int .i64 x] w (GivesE (.bool false) w) := by
  go_enter Tryz.func177, Tryz.ntmps177
  go_wp2
  go_ret
  exact givesE rfl (by simp)
def cz (x y : Int) : Int := if x < y then -1 else if y < x then 1 else 0
theorem cz_nat (a b : Nat) : cz a b = ci a b := by unfold cz ci; split <;> split <;> (try split) <;> (try split) <;> omega

set_option maxHeartbeats 1000000 in
theorem cmpInt_any (x y : Int) (w : World) : Calls Tryz.prog 143 #[.int .i64 x, .int .i64 y] w (GivesE (.int .i64 (cz x y)) w) := by
  have HN := hid isNaN_any
  have HZ := hid (show cz x y = if x < y then -1 else if y < x then 1 else 0 from rfl)
  generalize cz x y = R at HZ ⊢
  by_cases h1 : x < y
  · have hr := hid (show R = -1 by rw [HZ.out, if_pos h1])
    go_enter Tryz.func143, Tryz.ntmps143
    go_wp2_with (go_at_call 177; (with_reducible refine (HN.out _ _).mono ?_); rintro e w' ⟨rfl, rfl⟩)
    go_ret
    exact givesE rfl (int_eq hr.out.symm)
  · by_cases h2 : y < x
    · have hr := hid (show R = 1 by rw [HZ.out, if_neg h1, if_pos h2])
      go_enter Tryz.func143, Tryz.ntmps143
      go_wp2_with (go_at_call 177; (with_reducible refine (HN.out _ _).mono ?_); rintro e w' ⟨rfl, rfl⟩)
      go_ret
      exact givesE rfl (int_eq hr.out.symm)
    · have hr := hid (show R = 0 by rw [HZ.out, if_neg h1, if_neg h2])
      go_enter Tryz.func143, Tryz.ntmps143
      go_wp2_with (go_at_call 177; (with_reducible refine (HN.out _ _).mono ?_); rintro e w' ⟨rfl, rfl⟩)
      go_ret
      exact givesE rfl (int_eq hr.out.symm)

theorem strCompare_any (a b : ByteArray) (w : World) : Calls Tryz.prog 146 #[.string a, .string b] w (GivesE (.int .i64 (Lib.compareBytes a.data.toList b.data.toList)) w) :=
  (Tryz.strings_Compare a b w).mono fun _ _ ⟨he, hw⟩ => ⟨he, hw.symm⟩

set_option maxHeartbeats 2000000 in
theorem comparePart_any (a b : ByteArray) (w : World) :
    Calls Tryz.prog 108 #[.string a, .string b] w (Gives (.int .i64 (cmpP a.data.toList b.data.toList)) w) := by
  have HA := hid (amongD a)
  have HB := hid (amongD b)
  have HI := hid (cmpInt_any (a.size : Int) (b.size : Int))
  have HS := hid (strCompare_any a b)
  have HV := hid (show cmpP a.data.toList b.data.toList = if a.data.toList.all dgB = true then (if b.data.toList.all dgB = true then (if a.size = b.size then Lib.compareBytes a.data.toList b.data.toList else ci a.size b.size) else -1) else if b.data.toList.all dgB = true then 1 else Lib.compareBytes a.data.toList b.data.toList by
    unfold cmpP; rw [lenS, lenS])
  rw [cz_nat] at HI
  generalize cmpP a.data.toList b.data.toList = R at HV ⊢
  generalize Lib.compareBytes a.data.toList b.data.toList = cb at HS HV
  generalize a.data.toList.all dgB = x at HA HV
  generalize b.data.toList.all dgB = y at HB HV
  generalize ci a.size b.size = cc at HI HV
  cases x
  · cases y
    · have hr := hid (show R = cb by rw [HV.out]; rfl)
      go_enter Tryz.func108, Tryz.ntmps108
      go_wp2_with (first
        | (go_at_call 145; first
          | ((with_reducible refine (HA.out _).mono ?_); rintro e w1 ⟨rfl, hb1⟩)
          | ((with_reducible refine (HB.out _).mono ?_); rintro e w2 ⟨rfl, hb2⟩))
        | (go_at_call 143; (with_reducible refine (HI.out _).mono ?_); rintro e w3 ⟨rfl, rfl⟩)
        | (go_at_call 146; (with_reducible refine (HS.out _).mono ?_); rintro e w3 ⟨rfl, rfl⟩))
      go_ret
      exact gives rfl (int_eq hr.out.symm) (below_trans hb1 hb2)
    · have hr := hid (show R = 1 by rw [HV.out]; rfl)
      go_enter Tryz.func108, Tryz.ntmps108
      go_wp2_with (first
        | (go_at_call 145; first
          | ((with_reducible refine (HA.out _).mono ?_); rintro e w1 ⟨rfl, hb1⟩)
          | ((with_reducible refine (HB.out _).mono ?_); rintro e w2 ⟨rfl, hb2⟩))
        | (go_at_call 143; (with_reducible refine (HI.out _).mono ?_); rintro e w3 ⟨rfl, rfl⟩)
        | (go_at_call 146; (with_reducible refine (HS.out _).mono ?_); rintro e w3 ⟨rfl, rfl⟩))
      go_ret
      exact gives rfl (int_eq hr.out.symm) (below_trans hb1 hb2)
  · cases y
    · have hr := hid (show R = -1 by rw [HV.out]; rfl)
      go_enter Tryz.func108, Tryz.ntmps108
      go_wp2_with (first
        | (go_at_call 145; first
          | ((with_reducible refine (HA.out _).mono ?_); rintro e w1 ⟨rfl, hb1⟩)
          | ((with_reducible refine (HB.out _).mono ?_); rintro e w2 ⟨rfl, hb2⟩))
        | (go_at_call 143; (with_reducible refine (HI.out _).mono ?_); rintro e w3 ⟨rfl, rfl⟩)
        | (go_at_call 146; (with_reducible refine (HS.out _).mono ?_); rintro e w3 ⟨rfl, rfl⟩))
      go_ret
      exact gives rfl (int_eq hr.out.symm) (below_trans hb1 hb2)
    · by_cases hl : a.size = b.size
      · have hr := hid (show R = cb by rw [HV.out, if_pos rfl, if_pos rfl, if_pos hl])
        have hn : ((a.size : Int) != (b.size : Int)) = false := by rw [hl]; simp
        clear hl
        go_enter Tryz.func108, Tryz.ntmps108
        go_wp2_with (first
          | (go_at_call 145; first
            | ((with_reducible refine (HA.out _).mono ?_); rintro e w1 ⟨rfl, hb1⟩)
            | ((with_reducible refine (HB.out _).mono ?_); rintro e w2 ⟨rfl, hb2⟩))
          | (go_at_call 143; (with_reducible refine (HI.out _).mono ?_); rintro e w3 ⟨rfl, rfl⟩)
          | (go_at_call 146; (with_reducible refine (HS.out _).mono ?_); rintro e w3 ⟨rfl, rfl⟩))
        go_ret
        exact gives rfl (int_eq hr.out.symm) (below_trans hb1 hb2)
      · have hr := hid (show R = cc by rw [HV.out, if_pos rfl, if_pos rfl, if_neg hl])
        have hn : ((a.size : Int) != (b.size : Int)) = true := by simp; omega
        go_enter Tryz.func108, Tryz.ntmps108
        go_wp2_with (first
          | (go_at_call 145; first
            | ((with_reducible refine (HA.out _).mono ?_); rintro e w1 ⟨rfl, hb1⟩)
            | ((with_reducible refine (HB.out _).mono ?_); rintro e w2 ⟨rfl, hb2⟩))
          | (go_at_call 143; (with_reducible refine (HI.out _).mono ?_); rintro e w3 ⟨rfl, rfl⟩)
          | (go_at_call 146; (with_reducible refine (HS.out _).mono ?_); rintro e w3 ⟨rfl, rfl⟩))
        go_ret
        exact gives rfl (int_eq hr.out.symm) (below_trans hb1 hb2)
end Go.Proofs.YtmeaajhongalaaaGreatDoor.Vs
