/-
  LAYER 3, THE DOCUMENT'S Parts: two parts against one another.
-/
import Derived.Test.YtjiofenpalokoaaGreatDoorVersionCmpF
namespace Go.Proofs.YtjiofenpalokoaaGreatDoor.Vs
open Go.RowKit
open Go.Proofs.YtjiofenpalokoaaGreatDoor Go.Proofs.YtjiofenpalokoaaGreatDoor.Nu

set_option maxHeartbeats 2000000 in
theorem rparts_any (a b : ByteArray) (ha : a.size < 4294967281) (hb : b.size < 4294967281) (pa : partV a.data.toList = true) (pb : partV b.data.toList = true) (w : World) :
    Calls Tryz.prog 41 #[.string a, .string b] w (Gives (.int .i64 (cmpP a.data.toList b.data.toList)) w) := by
  have HA := hid (rdigits_any a ha)
  have HB := hid (rdigits_any b hb)
  have NA := hid (refNumber_any a (by unfold maxLen; omega))
  have NB := hid (refNumber_any b (by unfold maxLen; omega))
  have HI := hid (ints_any (numN a.data.toList) (numN b.data.toList))
  have HS := hid (bytes_any a b ha hb)
  have HN := hid (fun h k => num_cmp pa pb h k)
  have HV := hid (show cmpP a.data.toList b.data.toList = if a.data.toList.all dgB = true then (if b.data.toList.all dgB = true then cmpP a.data.toList b.data.toList else -1) else if b.data.toList.all dgB = true then 1 else Lib.compareBytes a.data.toList b.data.toList by
    unfold cmpP; split <;> split <;> (try split) <;> simp_all)
  rw [cz_nat] at HI
  unfold NumIs at NA NB
  clear pa pb
  generalize numB a.data.toList = ba at NA
  generalize numB b.data.toList = bb at NB
  generalize Lib.compareBytes a.data.toList b.data.toList = cb at HS HV
  generalize hx : a.data.toList.all dgB = x at HA HV HN
  generalize hy : b.data.toList.all dgB = y at HB HV HN
  generalize cmpP a.data.toList b.data.toList = R at HV HN ⊢
  generalize numN a.data.toList = na at NA HI HN
  generalize numN b.data.toList = nb at NB HI HN
  generalize ci na nb = q at HI HN
  clear hx hy
  cases x
  · cases y
    · have hr := hid (show R = cb by rw [HV.out]; rfl)
      go_enter Tryz.func41, Tryz.ntmps41
      go_wp2_with (first
        | (go_at_call 62; first
          | ((with_reducible refine (HA.out _).mono ?_); rintro e w1 ⟨rfl, rfl⟩)
          | ((with_reducible refine (HB.out _).mono ?_); rintro e w2 ⟨rfl, rfl⟩))
        | (go_at_call 64; (with_reducible refine (HS.out _).mono ?_); rintro e w3 ⟨rfl, hb3⟩))
      go_ret
      exact gives rfl (int_eq hr.out.symm) hb3
    · have hr := hid (show R = 1 by rw [HV.out]; rfl)
      go_enter Tryz.func41, Tryz.ntmps41
      go_wp2_with (go_at_call 62; first
          | ((with_reducible refine (HA.out _).mono ?_); rintro e w1 ⟨rfl, rfl⟩)
          | ((with_reducible refine (HB.out _).mono ?_); rintro e w2 ⟨rfl, rfl⟩))
      go_ret
      exact gives rfl (int_eq hr.out.symm) (Below.refl _ _)
  · cases y
    · have hr := hid (show R = -1 by rw [HV.out]; rfl)
      go_enter Tryz.func41, Tryz.ntmps41
      go_wp2_with (go_at_call 62; first
          | ((with_reducible refine (HA.out _).mono ?_); rintro e w1 ⟨rfl, rfl⟩)
          | ((with_reducible refine (HB.out _).mono ?_); rintro e w2 ⟨rfl, rfl⟩))
      go_ret
      exact gives rfl (int_eq hr.out.symm) (Below.refl _ _)
    · have hr := hid (HN.out rfl rfl)
      go_enter Tryz.func41, Tryz.ntmps41
      go_wp2_with (first
        | (go_at_call 62; first
          | ((with_reducible refine (HA.out _).mono ?_); rintro e w1 ⟨rfl, rfl⟩)
          | ((with_reducible refine (HB.out _).mono ?_); rintro e w2 ⟨rfl, rfl⟩))
        | (go_at_call 63; first
          | ((with_reducible refine (NA.out _).mono ?_); rintro e w1 ⟨rfl, rfl⟩)
          | ((with_reducible refine (NB.out _).mono ?_); rintro e w2 ⟨rfl, rfl⟩))
        | (go_at_call 40; (with_reducible refine (HI.out _).mono ?_); rintro e w3 ⟨rfl, rfl⟩))
      go_ret
      exact gives rfl (int_eq hr.out) (Below.refl _ _)
end Go.Proofs.YtjiofenpalokoaaGreatDoor.Vs
