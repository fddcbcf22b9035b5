/-
  LAYER 3: slices.CompareFunc of parts; the document's Ints, Bytes, Parts.
-/
import Derived.Test.YtjiofenpalokoaaGreatDoorVersionCmpL
import Derived.Deep.QuietTactic
import Derived.BigQuiet
namespace Go.Proofs.YtjiofenpalokoaaGreatDoor.Vs
open Go.RowKit
open Go.Proofs.YtjiofenpalokoaaGreatDoor Go.Proofs.YtjiofenpalokoaaGreatDoor.Nu

set_option maxHeartbeats 1000000 in
theorem cmpFunc_any (xs ys : List (List UInt8)) (l1 : xs.length ≤ 1000) (_ : ys.length ≤ 1000) (B o c B' o' c' : Nat) (w : World) (h1 : CellsAt w B o xs) (h2 : CellsAt w B' o' ys) :
    Calls Tryz.prog 47 #[.slice (some ⟨B, o, none⟩) xs.length c, .slice (some ⟨B', o', none⟩) ys.length c', .func (.func 49) #[] #[]] w (Gives (.int .i64 (cmpL cmpP xs ys)) w) := by
  have hR := hid (show cmpL cmpP xs ys = cmpL cmpP (xs.drop 0) (ys.drop 0) from rfl)
  generalize cmpL cmpP xs ys = R at hR ⊢
  have HC := hid comparePart_any
  have ST := hid (fun k a b => @cmpL_step _ cmpP xs ys k a b)
  have LO := hid (fun k => @cmpL_long _ cmpP xs ys k)
  have EN := hid (fun k => @cmpL_end _ cmpP xs ys k)
  have BO := hid (fun k => @cmpL_both _ cmpP xs ys k)
  replace h1 := hid h1
  replace h2 := hid h2
  go_enter Tryz.func47, Tryz.ntmps47
  go_wp2_with fail
  go_loopw [7, 8, 9, 10, 13] (fun _ _ _ _ v wr => ∃ k : Nat, k ≤ xs.length ∧ v = .int .i64 k ∧ Below w.heap.size w wr ∧ CellsAt wr B o xs ∧ CellsAt wr B' o' ys ∧ Hid (R = cmpL cmpP (xs.drop k) (ys.drop k))) (fun _ _ _ _ v _ => xs.length - (intOf v).toNat)
  case atStart => exact ⟨0, by omega, rfl, Below.refl _ _, h1.out, h2.out, hid hR.out⟩
  case round =>
    obtain ⟨k, hk, rfl, hb, hx, hy, hp⟩ := hrel
    clear hR h1 h2
    have b1 := hx.1
    have b2 := hy.1
    by_cases hlt : k < xs.length
    · have g1 := hx.2 k hlt
      have x1 := hid (at_getD ([] : List UInt8) hlt)
      by_cases hlt2 : k < ys.length
      · have g2 := hy.2 k hlt2
        have x2 := hid (at_getD ([] : List UInt8) hlt2)
        generalize xs.getD k [] = a at g1 x1
        generalize ys.getD k [] = b at g2 x2
        have hs := hid (hp.out.trans (ST.out k a b x1.out x2.out))
        have HCa := hid (HC.out ⟨a.toArray⟩ ⟨b.toArray⟩)
        have ea : (⟨a.toArray⟩ : ByteArray).data.toList = a := rfl
        have eb : (⟨b.toArray⟩ : ByteArray).data.toList = b := rfl
        rw [ea, eb] at HCa
        replace hx := hid hx
        replace hy := hid hy
        generalize cmpP a b = q at hs HCa
        clear hp x1 x2 ST LO EN BO HC ea eb
        by_cases hq : q = 0
        · have hs2 := hid (hs.out.trans (if_pos hq))
          subst hq
          clear hs
          go_wp2_with (go_at_call 49; (with_reducible refine (HCa.out _).mono ?_); rintro e w3 ⟨rfl, hb3⟩)
          go_roundw
          case rel => exact ⟨k + 1, by omega, by go_num, below_trans hb hb3, hx.out.below hb3, hy.out.below hb3, hs2⟩
          case measure => simp [intOf]; omega
        · have hs2 := hid (hs.out.trans (if_neg hq))
          have hq' : (q != 0) = true := by simpa using hq
          clear hs hq
          go_wp2_with (go_at_call 49; (with_reducible refine (HCa.out _).mono ?_); rintro e w3 ⟨rfl, hb3⟩)
          go_ret
          exact gives rfl (int_eq hs2.out.symm) (below_trans hb hb3)
      · have hr := hid (hp.out.trans (LO.out k hlt (by omega)))
        generalize xs.getD k [] = a at g1 x1
        clear hp x1 ST LO EN BO HC
        go_wp2_with fail
        go_ret
        exact gives rfl (int_eq hr.out.symm) hb
    · by_cases hlt2 : xs.length < ys.length
      · have hr := hid (hp.out.trans (EN.out k (by omega) (by omega)))
        clear hp ST LO EN BO HC
        go_wp2_with fail
        go_ret
        exact gives rfl (int_eq hr.out.symm) hb
      · have hr := hid (hp.out.trans (BO.out k (by omega) (by omega)))
        clear hp ST LO EN BO HC
        go_wp2_with fail
        go_ret
        exact gives rfl (int_eq hr.out.symm) hb

theorem ints_any (x y : Int) (w : World) : Calls Tryz.prog 40 #[.int .i64 x, .int .i64 y] w (GivesE (.int .i64 (cz x y)) w) := by
  have HZ := hid (show cz x y = if x < y then -1 else if y < x then 1 else 0 from rfl)
  generalize cz x y = R at HZ ⊢
  by_cases h1 : x < y
  · have hr := hid (show R = -1 by rw [HZ.out, if_pos h1])
    go_enter Tryz.func40, Tryz.ntmps40
    go_wp2_with fail
    go_ret
    exact givesE rfl (int_eq hr.out.symm)
  · by_cases h2 : y < x
    · have hr := hid (show R = 1 by rw [HZ.out, if_neg h1, if_pos h2])
      go_enter Tryz.func40, Tryz.ntmps40
      go_wp2_with fail
      go_ret
      exact givesE rfl (int_eq hr.out.symm)
    · have hr := hid (show R = 0 by rw [HZ.out, if_neg h1, if_neg h2])
      go_enter Tryz.func40, Tryz.ntmps40
      go_wp2_with fail
      go_ret
      exact givesE rfl (int_eq hr.out.symm)

def cb1 (x y : UInt8) : Int := ci x.toNat y.toNat
theorem compB_L : ∀ p q : List UInt8, Lib.compareBytes p q = cmpL cb1 p q := by
  intro p
  induction p with
  | nil => intro q; cases q <;> simp [Lib.compareBytes, cmpL]
  | cons a p ih =>
    intro q
    cases q with
    | nil => simp [Lib.compareBytes, cmpL]
    | cons b q =>
      unfold Lib.compareBytes cmpL cb1 ci
      have e1 : a < b ↔ a.toNat < b.toNat := UInt8.lt_iff_toNat_lt
      have e2 : b < a ↔ b.toNat < a.toNat := UInt8.lt_iff_toNat_lt
      by_cases h1 : a.toNat < b.toNat
      · rw [if_pos (e1.2 h1), if_pos h1]; simp
      · rw [if_neg (fun h => h1 (e1.1 h)), if_neg h1]
        by_cases h2 : b.toNat < a.toNat
        · rw [if_pos (e2.2 h2), if_pos h2]; simp
        · rw [if_neg (fun h => h2 (e2.1 h)), if_neg h2, ih q]; simp; rfl
theorem wrap_byte (n : Nat) (h : (n : Int) ≤ 255) : IntKind.i64.wrap (n : Int) = (n : Int) := by
  unfold IntKind.wrap; simp [IntKind.signed, IntKind.bits]; omega
theorem cz_len (a b : Nat) : cz (a : Int) (b : Int) = if a < b then -1 else if b < a then 1 else 0 := by rw [cz_nat]; rfl

set_option maxHeartbeats 1000000 in
theorem bytes_any (a b : ByteArray) (ha : a.size < 4294967281) (hb : b.size < 4294967281) (w : World) :
    Calls Tryz.prog 64 #[.string a, .string b] w (Gives (.int .i64 (Lib.compareBytes a.data.toList b.data.toList)) w) := by
  have hla := hid (lenS a)
  have hlb := hid (lenS b)
  have hBa := hid (fun k h => byte_at a k h)
  have hBb := hid (fun k h => byte_at b k h)
  rw [compB_L]
  have hR := hid (show cmpL cb1 a.data.toList b.data.toList = cmpL cb1 (a.data.toList.drop 0) (b.data.toList.drop 0) from rfl)
  generalize cmpL cb1 a.data.toList b.data.toList = R at hR ⊢
  generalize a.data.toList = xs at *
  generalize b.data.toList = ys at *
  have HI := hid ints_any
  have ST := hid (fun k x y => @cmpL_step _ cb1 xs ys k x y)
  have LO := hid (fun k => @cmpL_long _ cb1 xs ys k)
  have EN := hid (fun k => @cmpL_end _ cb1 xs ys k)
  have BO := hid (fun k => @cmpL_both _ cb1 xs ys k)
  go_enter Tryz.func64, Tryz.ntmps64
  go_wp2_with fail
  go_loopw [5] (fun v wr => ∃ k : Nat, k ≤ a.size ∧ k ≤ b.size ∧ v = .int .i64 k ∧ Below w.heap.size w wr ∧ Hid (R = cmpL cb1 (xs.drop k) (ys.drop k))) (fun v _ => a.size - (intOf v).toNat)
  case atStart => exact ⟨0, by omega, by omega, rfl, Below.refl _ _, hid hR.out⟩
  case round =>
    obtain ⟨k, hka, hkb, rfl, hw, hp⟩ := hrel
    clear hR
    by_cases hlt : k < a.size
    · by_cases hlt2 : k < b.size
      · have x1 := hid (hBa.out k hlt)
        have x2 := hid (hBb.out k hlt2)
        have hs := hid (hp.out.trans (ST.out k _ _ x1.out x2.out))
        have hcc : (a[k].toNat : Int) ≤ 255 := by have := a[k].toNat_lt; omega
        have hcd : (b[k].toNat : Int) ≤ 255 := by have := b[k].toNat_lt; omega
        have hcb := hid (show cb1 a[k] b[k] = cz (a[k].toNat : Int) (b[k].toNat : Int) by rw [cz_nat]; rfl)
        have HIa := hid (HI.out (a[k].toNat : Int) (b[k].toNat : Int))
        have k0 : (0 : Int) ≤ (k : Int) := by omega
        have k1 : (k : Int) < (a.size : Int) := by omega
        have k2 : (k : Int) < (b.size : Int) := by omega
        clear hp x1 x2 ST LO EN BO HI hBa hBb
        by_cases hq : (a[k].toNat : Int) = (b[k].toNat : Int)
        · have hs2 := hid (hs.out.trans (if_pos (by rw [hcb.out, hq]; unfold cz; simp)))
          have hq' : ((a[k].toNat : Int) != (b[k].toNat : Int)) = false := by simpa using hq
          clear hs hq hcb HIa
          go_wp2_with fail
          go_quiet (fail)
          go_wp2_with fail
          go_roundw
          case rel => exact ⟨k + 1, by omega, by omega, by go_num, below_drewN' hw _, hs2⟩
          case measure => simp [intOf]; omega
        · have hs2 := hid (hs.out.trans (if_neg (by rw [hcb.out]; unfold cz; split; simp; split; simp; omega)))
          rw [hcb.out] at hs2
          have hq' : ((a[k].toNat : Int) != (b[k].toNat : Int)) = true := by simpa using hq
          clear hs hq hcb
          have HIw := hid (show ∀ w, Calls Tryz.prog 40 #[.int .i64 (IntKind.i64.wrap (a[k].toNat : Int)), .int .i64 (IntKind.i64.wrap (b[k].toNat : Int))] w (GivesE (.int .i64 (cz (a[k].toNat : Int) (b[k].toNat : Int))) w) by
            rw [wrap_byte _ hcc, wrap_byte _ hcd]; exact HIa.out)
          generalize cz (a[k].toNat : Int) (b[k].toNat : Int) = q at hs2 HIa HIw
          go_wp2_with fail
          go_quiet (fail)
          go_wp2_with fail
          go_quiet (((with_reducible refine (HIw.out _).mono ?_); rintro e w3 ⟨rfl, rfl⟩; exact ⟨rfl, _, rfl⟩))
          go_wp2_with fail
          go_ret
          exact gives rfl (int_eq hs2.out.symm) (below_drewN' (below_drewN' hw _) _)
      · have hr := hid (hp.out.trans (LO.out k (by rw [hla.out]; exact hlt) (by rw [hlb.out]; omega)))
        have HIa := hid (HI.out (a.size : Int) (b.size : Int))
        have hz := hid (show cz (a.size : Int) (b.size : Int) = 1 by rw [cz_len, if_neg (by omega), if_pos (by omega)])
        generalize cz (a.size : Int) (b.size : Int) = q at hz HIa
        clear hp ST LO EN BO HI hBa hBb
        go_wp2_with (go_at_call 40; (with_reducible refine (HIa.out _).mono ?_); rintro e w3 ⟨rfl, rfl⟩)
        go_ret
        exact gives rfl (int_eq (hz.out.trans hr.out.symm)) hw
    · by_cases hlt2 : a.size < b.size
      · have hr := hid (hp.out.trans (EN.out k (by rw [hla.out]; omega) (by rw [hlb.out]; omega)))
        have HIa := hid (HI.out (a.size : Int) (b.size : Int))
        have hz := hid (show cz (a.size : Int) (b.size : Int) = -1 by rw [cz_len, if_pos (by omega)])
        generalize cz (a.size : Int) (b.size : Int) = q at hz HIa
        clear hp ST LO EN BO HI hBa hBb
        go_wp2_with (go_at_call 40; (with_reducible refine (HIa.out _).mono ?_); rintro e w3 ⟨rfl, rfl⟩)
        go_ret
        exact gives rfl (int_eq (hz.out.trans hr.out.symm)) hw
      · have hr := hid (hp.out.trans (BO.out k (by rw [hla.out]; omega) (by rw [hlb.out]; omega)))
        have HIa := hid (HI.out (a.size : Int) (b.size : Int))
        have hz := hid (show cz (a.size : Int) (b.size : Int) = 0 by rw [cz_len, if_neg (by omega), if_neg (by omega)])
        generalize cz (a.size : Int) (b.size : Int) = q at hz HIa
        clear hp ST LO EN BO HI hBa hBb
        go_wp2_with (go_at_call 40; (with_reducible refine (HIa.out _).mono ?_); rintro e w3 ⟨rfl, rfl⟩)
        go_ret
        exact gives rfl (int_eq (hz.out.trans hr.out.symm)) hw
end Go.Proofs.YtjiofenpalokoaaGreatDoor.Vs
