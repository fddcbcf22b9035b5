/-
  SEVERAL TEXTS, one behind the other.
-/
import Derived.Test.YtebhgcejcdgdbaaGreatDoorMA
import Derived.Test.YtebhgcejcdgdbaaGreatDoorMC
import Derived.Deep.QuietTactic
import Derived.BigQuiet
/-
  LAYER 3, PACKAGE version: two parts compared.
-/
namespace Go.Proofs.YtebhgcejcdgdbaaGreatDoor.Vs
open Go.RowKit
open Go.Proofs.YtebhgcejcdgdbaaGreatDoor Go.Proofs.YtebhgcejcdgdbaaGreatDoor.Nu

theorem isNaN_any (x : Int) (w : World) : Calls Tryz.prog 84 #[.int .i64 x] w (GivesE (.bool false) w) := by
  go_enter Tryz.func84, Tryz.ntmps84
  go_wp2
  go_ret
  exact givesE rfl (by simp)
def cz (x y : Int) : Int := if x < y then -1 else if y < x then 1 else 0
theorem cz_nat (a b : Nat) : cz a b = ci a b := by unfold cz ci; split <;> split <;> (try split) <;> (try split) <;> omega

set_option maxHeartbeats 1000000 in
theorem cmpInt_any (x y : Int) (w : World) : Calls Tryz.prog 70 #[.int .i64 x, .int .i64 y] w (GivesE (.int .i64 (cz x y)) w) := by
  have HN := hid isNaN_any
  have HZ := hid (show cz x y = if x < y then -1 else if y < x then 1 else 0 from rfl)
  generalize cz x y = R at HZ ⊢
  by_cases h1 : x < y
  · have hr := hid (show R = -1 by rw [HZ.out, if_pos h1])
    go_enter Tryz.func70, Tryz.ntmps70
    go_wp2_with (go_at_call 84; (with_reducible refine (HN.out _ _).mono ?_); rintro e w' ⟨rfl, rfl⟩)
    go_ret
    exact givesE rfl (int_eq hr.out.symm)
  · by_cases h2 : y < x
    · have hr := hid (show R = 1 by rw [HZ.out, if_neg h1, if_pos h2])
      go_enter Tryz.func70, Tryz.ntmps70
      go_wp2_with (go_at_call 84; (with_reducible refine (HN.out _ _).mono ?_); rintro e w' ⟨rfl, rfl⟩)
      go_ret
      exact givesE rfl (int_eq hr.out.symm)
    · have hr := hid (show R = 0 by rw [HZ.out, if_neg h1, if_neg h2])
      go_enter Tryz.func70, Tryz.ntmps70
      go_wp2_with (go_at_call 84; (with_reducible refine (HN.out _ _).mono ?_); rintro e w' ⟨rfl, rfl⟩)
      go_ret
      exact givesE rfl (int_eq hr.out.symm)

theorem strCompare_any (a b : ByteArray) (w : World) : Calls Tryz.prog 71 #[.string a, .string b] w (GivesE (.int .i64 (Lib.compareBytes a.data.toList b.data.toList)) w) :=
  (Tryz.strings_Compare a b w).mono fun _ _ ⟨he, hw⟩ => ⟨he, hw.symm⟩

set_option maxHeartbeats 2000000 in
theorem comparePart_any (a b : ByteArray) (w : World) :
    Calls Tryz.prog 49 #[.string a, .string b] w (Gives (.int .i64 (cmpP a.data.toList b.data.toList)) w) := by
  have HA := hid (amongD a)
  have HB := hid (amongD b)
  have HI := hid (cmpInt_any (a.size : Int) (b.size : Int))
  have HS := hid (strCompare_any a b)
  have HV := hid (show cmpP a.data.toList b.data.toList = if a.data.toList.all dgB = true then (if b.data.toList.all dgB = true then (if a.size = b.size then Lib.compareBytes a.data.toList b.data.toList else ci a.size b.size) else -1) else if b.data.toList.all dgB = true then 1 else Lib.compareBytes a.data.toList b.data.toList by
    unfold cmpP; rw [lenS, lenS])
  rw [cz_nat] at HI
  generalize cmpP a.data.toList b.data.toList = R at HV ⊢
  generalize Lib.compareBytes a.data.toList b.data.toList = cb at HS HV
  generalize a.data.toList.all dgB = x at HA HV
  generalize b.data.toList.all dgB = y at HB HV
  generalize ci a.size b.size = cc at HI HV
  cases x
  · cases y
    · have hr := hid (show R = cb by rw [HV.out]; rfl)
      go_enter Tryz.func49, Tryz.ntmps49
      go_wp2_with (first
        | (go_at_call 66; first
          | ((with_reducible refine (HA.out _).mono ?_); rintro e w1 ⟨rfl, hb1⟩)
          | ((with_reducible refine (HB.out _).mono ?_); rintro e w2 ⟨rfl, hb2⟩))
        | (go_at_call 70; (with_reducible refine (HI.out _).mono ?_); rintro e w3 ⟨rfl, rfl⟩)
        | (go_at_call 71; (with_reducible refine (HS.out _).mono ?_); rintro e w3 ⟨rfl, rfl⟩))
      go_ret
      exact gives rfl (int_eq hr.out.symm) (below_trans hb1 hb2)
    · have hr := hid (show R = 1 by rw [HV.out]; rfl)
      go_enter Tryz.func49, Tryz.ntmps49
      go_wp2_with (first
        | (go_at_call 66; first
          | ((with_reducible refine (HA.out _).mono ?_); rintro e w1 ⟨rfl, hb1⟩)
          | ((with_reducible refine (HB.out _).mono ?_); rintro e w2 ⟨rfl, hb2⟩))
        | (go_at_call 70; (with_reducible refine (HI.out _).mono ?_); rintro e w3 ⟨rfl, rfl⟩)
        | (go_at_call 71; (with_reducible refine (HS.out _).mono ?_); rintro e w3 ⟨rfl, rfl⟩))
      go_ret
      exact gives rfl (int_eq hr.out.symm) (below_trans hb1 hb2)
  · cases y
    · have hr := hid (show R = -1 by rw [HV.out]; rfl)
      go_enter Tryz.func49, Tryz.ntmps49
      go_wp2_with (first
        | (go_at_call 66; first
          | ((with_reducible refine (HA.out _).mono ?_); rintro e w1 ⟨rfl, hb1⟩)
          | ((with_reducible refine (HB.out _).mono ?_); rintro e w2 ⟨rfl, hb2⟩))
        | (go_at_call 70; (with_reducible refine (HI.out _).mono ?_); rintro e w3 ⟨rfl, rfl⟩)
        | (go_at_call 71; (with_reducible refine (HS.out _).mono ?_); rintro e w3 ⟨rfl, rfl⟩))
      go_ret
      exact gives rfl (int_eq hr.out.symm) (below_trans hb1 hb2)
    · by_cases hl : a.size = b.size
      · have hr := hid (show R = cb by rw [HV.out, if_pos rfl, if_pos rfl, if_pos hl])
        have hn : ((a.size : Int) != (b.size : Int)) = false := by rw [hl]; simp
        clear hl
        go_enter Tryz.func49, Tryz.ntmps49
        go_wp2_with (first
          | (go_at_call 66; first
            | ((with_reducible refine (HA.out _).mono ?_); rintro e w1 ⟨rfl, hb1⟩)
            | ((with_reducible refine (HB.out _).mono ?_); rintro e w2 ⟨rfl, hb2⟩))
          | (go_at_call 70; (with_reducible refine (HI.out _).mono ?_); rintro e w3 ⟨rfl, rfl⟩)
          | (go_at_call 71; (with_reducible refine (HS.out _).mono ?_); rintro e w3 ⟨rfl, rfl⟩))
        go_ret
        exact gives rfl (int_eq hr.out.symm) (below_trans hb1 hb2)
      · have hr := hid (show R = cc by rw [HV.out, if_pos rfl, if_pos rfl, if_neg hl])
        have hn : ((a.size : Int) != (b.size : Int)) = true := by simp; omega
        go_enter Tryz.func49, Tryz.ntmps49
        go_wp2_with (first
          | (go_at_call 66; first
            | ((with_reducible refine (HA.out _).mono ?_); rintro e w1 ⟨rfl, hb1⟩)
            | ((with_reducible refine (HB.out _).mono ?_); rintro e w2 ⟨rfl, hb2⟩))
          | (go_at_call 70; (with_reducible refine (HI.out _).mono ?_); rintro e w3 ⟨rfl, rfl⟩)
          | (go_at_call 71; (with_reducible refine (HS.out _).mono ?_); rintro e w3 ⟨rfl, rfl⟩))
        go_ret
        exact gives rfl (int_eq hr.out.symm) (below_trans hb1 hb2)
end Go.Proofs.YtebhgcejcdgdbaaGreatDoor.Vs

/-
  LAYER 3, THE LIBRARY'S slices.Compare AND slices.CompareFunc: two rows of numbers, two rows of parts.
-/
namespace Go.Proofs.YtebhgcejcdgdbaaGreatDoor.Vs
open Go.RowKit
open Go.Proofs.YtebhgcejcdgdbaaGreatDoor Go.Proofs.YtebhgcejcdgdbaaGreatDoor.Nu

theorem cmpL_step {α : Type} {f : α → α → Int} {x y : List α} {k : Nat} {a b : α} (ha : x[k]? = some a) (hb : y[k]? = some b) :
    cmpL f (x.drop k) (y.drop k) = if f a b = 0 then cmpL f (x.drop (k + 1)) (y.drop (k + 1)) else f a b := by
  have h1 := (List.getElem?_eq_some_iff.1 ha).1
  have h2 := (List.getElem?_eq_some_iff.1 hb).1
  have e1 : x[k] = a := (List.getElem?_eq_some_iff.1 ha).2
  have e2 : y[k] = b := (List.getElem?_eq_some_iff.1 hb).2
  rw [List.drop_eq_getElem_cons h1, List.drop_eq_getElem_cons h2, e1, e2]
  rfl
theorem cmpL_long {α : Type} {f : α → α → Int} {x y : List α} {k : Nat} (h1 : k < x.length) (h2 : y.length ≤ k) : cmpL f (x.drop k) (y.drop k) = 1 := by
  rw [List.drop_eq_getElem_cons h1, List.drop_of_length_le h2]; rfl
theorem cmpL_end {α : Type} {f : α → α → Int} {x y : List α} {k : Nat} (h1 : x.length ≤ k) (h2 : k < y.length) : cmpL f (x.drop k) (y.drop k) = -1 := by
  rw [List.drop_eq_getElem_cons h2, List.drop_of_length_le h1]; rfl
theorem cmpL_both {α : Type} {f : α → α → Int} {x y : List α} {k : Nat} (h1 : x.length ≤ k) (h2 : y.length ≤ k) : cmpL f (x.drop k) (y.drop k) = 0 := by
  rw [List.drop_of_length_le h2, List.drop_of_length_le h1]; rfl

/-- a slice of numbers: its cells -/
def IntsAt (w : World) (B o : Nat) (xs : List Int) : Prop := B < w.heap.size ∧ ∀ k, k < xs.length → w.cell? ⟨B, o + k, none⟩ = some (.int .i64 (xs.getD k 0))
theorem IntsAt.below {w w' : World} {B o : Nat} {xs : List Int} (h : IntsAt w B o xs) (hb : Below w.heap.size w w') : IntsAt w' B o xs :=
  ⟨Nat.lt_of_lt_of_le h.1 hb.size, fun k hk => by rw [hb.cell h.1]; exact h.2 k hk⟩
theorem at_getD {α : Type} {l : List α} {k : Nat} (d : α) (h : k < l.length) : l[k]? = some (l.getD k d) := by
  simp [List.getD, List.getElem?_eq_getElem h]

set_option maxHeartbeats 1000000 in
theorem cmpInts_any (xs ys : List Int) (l1 : xs.length ≤ 1000) (_ : ys.length ≤ 1000) (B o c B' o' c' : Nat) (w : World) (h1 : IntsAt w B o xs) (h2 : IntsAt w B' o' ys) :
    Calls Tryz.prog 46 #[.slice (some ⟨B, o, none⟩) xs.length c, .slice (some ⟨B', o', none⟩) ys.length c'] w (GivesE (.int .i64 (cmpL cz xs ys)) w) := by
  have hR := hid (show cmpL cz xs ys = cmpL cz (xs.drop 0) (ys.drop 0) from rfl)
  generalize cmpL cz xs ys = R at hR ⊢
  have HC := hid cmpInt_any
  have ST := hid (fun k a b => @cmpL_step _ cz xs ys k a b)
  have LO := hid (fun k => @cmpL_long _ cz xs ys k)
  have EN := hid (fun k => @cmpL_end _ cz xs ys k)
  have BO := hid (fun k => @cmpL_both _ cz xs ys k)
  replace h1 := hid h1
  replace h2 := hid h2
  have b1 := h1.out.1
  have b2 := h2.out.1
  go_enter Tryz.func46, Tryz.ntmps46
  go_wp2_with fail
  go_loop [5, 6, 7, 8, 11] (fun _ _ _ _ v => ∃ k : Nat, k ≤ xs.length ∧ v = .int .i64 k ∧ Hid (R = cmpL cz (xs.drop k) (ys.drop k))) (fun _ _ _ _ v => xs.length - (intOf v).toNat)
  case atStart => exact ⟨0, by omega, rfl, hid hR.out⟩
  case round =>
    obtain ⟨k, hk, rfl, hp⟩ := hrel
    clear hR
    by_cases hlt : k < xs.length
    · have g1 := h1.out.2 k hlt
      have x1 := hid (at_getD (0 : Int) hlt)
      by_cases hlt2 : k < ys.length
      · have g2 := h2.out.2 k hlt2
        have x2 := hid (at_getD (0 : Int) hlt2)
        generalize xs.getD k 0 = a at g1 x1
        generalize ys.getD k 0 = b at g2 x2
        have hs := hid (hp.out.trans (ST.out k a b x1.out x2.out))
        have HCa := hid (HC.out a b)
        generalize cz a b = q at hs HCa
        clear hp x1 x2 ST LO EN BO HC
        by_cases hq : q = 0
        · have hs2 := hid (hs.out.trans (if_pos hq))
          subst hq
          clear hs
          go_wp2_with (go_at_call 70; (with_reducible refine (HCa.out _).mono ?_); rintro e w3 ⟨rfl, rfl⟩)
          go_round
          case rel => exact ⟨k + 1, by omega, by go_num, hs2⟩
          case measure => simp [intOf]; omega
        · have hs2 := hid (hs.out.trans (if_neg hq))
          have hq' : (q != 0) = true := by simpa using hq
          clear hs hq
          go_wp2_with (go_at_call 70; (with_reducible refine (HCa.out _).mono ?_); rintro e w3 ⟨rfl, rfl⟩)
          go_ret
          exact givesE rfl (int_eq hs2.out.symm)
      · have hr := hid (hp.out.trans (LO.out k hlt (by omega)))
        generalize xs.getD k 0 = a at g1 x1
        clear hp x1 ST LO EN BO HC
        go_wp2_with fail
        go_ret
        exact givesE rfl (int_eq hr.out.symm)
    · by_cases hlt2 : xs.length < ys.length
      · have hr := hid (hp.out.trans (EN.out k (by omega) (by omega)))
        clear hp ST LO EN BO HC
        go_wp2_with fail
        go_ret
        exact givesE rfl (int_eq hr.out.symm)
      · have hr := hid (hp.out.trans (BO.out k (by omega) (by omega)))
        clear hp ST LO EN BO HC
        go_wp2_with fail
        go_ret
        exact givesE rfl (int_eq hr.out.symm)
end Go.Proofs.YtebhgcejcdgdbaaGreatDoor.Vs

/-
  LAYER 3: slices.CompareFunc of parts; the document's Ints, Bytes, Parts.
-/
namespace Go.Proofs.YtebhgcejcdgdbaaGreatDoor.Vs
open Go.RowKit
open Go.Proofs.YtebhgcejcdgdbaaGreatDoor Go.Proofs.YtebhgcejcdgdbaaGreatDoor.Nu

set_option maxHeartbeats 1000000 in
theorem cmpFunc_any (xs ys : List (List UInt8)) (l1 : xs.length ≤ 1000) (_ : ys.length ≤ 1000) (B o c B' o' c' : Nat) (w : World) (h1 : CellsAt w B o xs) (h2 : CellsAt w B' o' ys) :
    Calls Tryz.prog 47 #[.slice (some ⟨B, o, none⟩) xs.length c, .slice (some ⟨B', o', none⟩) ys.length c', .func (.func 49) #[] #[]] w (Gives (.int .i64 (cmpL cmpP xs ys)) w) := by
  have hR := hid (show cmpL cmpP xs ys = cmpL cmpP (xs.drop 0) (ys.drop 0) from rfl)
  generalize cmpL cmpP xs ys = R at hR ⊢
  have HC := hid comparePart_any
  have ST := hid (fun k a b => @cmpL_step _ cmpP xs ys k a b)
  have LO := hid (fun k => @cmpL_long _ cmpP xs ys k)
  have EN := hid (fun k => @cmpL_end _ cmpP xs ys k)
  have BO := hid (fun k => @cmpL_both _ cmpP xs ys k)
  replace h1 := hid h1
  replace h2 := hid h2
  go_enter Tryz.func47, Tryz.ntmps47
  go_wp2_with fail
  go_loopw [7, 8, 9, 10, 13] (fun _ _ _ _ v wr => ∃ k : Nat, k ≤ xs.length ∧ v = .int .i64 k ∧ Below w.heap.size w wr ∧ CellsAt wr B o xs ∧ CellsAt wr B' o' ys ∧ Hid (R = cmpL cmpP (xs.drop k) (ys.drop k))) (fun _ _ _ _ v _ => xs.length - (intOf v).toNat)
  case atStart => exact ⟨0, by omega, rfl, Below.refl _ _, h1.out, h2.out, hid hR.out⟩
  case round =>
    obtain ⟨k, hk, rfl, hb, hx, hy, hp⟩ := hrel
    clear hR h1 h2
    have b1 := hx.1
    have b2 := hy.1
    by_cases hlt : k < xs.length
    · have g1 := hx.2 k hlt
      have x1 := hid (at_getD ([] : List UInt8) hlt)
      by_cases hlt2 : k < ys.length
      · have g2 := hy.2 k hlt2
        have x2 := hid (at_getD ([] : List UInt8) hlt2)
        generalize xs.getD k [] = a at g1 x1
        generalize ys.getD k [] = b at g2 x2
        have hs := hid (hp.out.trans (ST.out k a b x1.out x2.out))
        have HCa := hid (HC.out ⟨a.toArray⟩ ⟨b.toArray⟩)
        have ea : (⟨a.toArray⟩ : ByteArray).data.toList = a := rfl
        have eb : (⟨b.toArray⟩ : ByteArray).data.toList = b := rfl
        rw [ea, eb] at HCa
        replace hx := hid hx
        replace hy := hid hy
        generalize cmpP a b = q at hs HCa
        clear hp x1 x2 ST LO EN BO HC ea eb
        by_cases hq : q = 0
        · have hs2 := hid (hs.out.trans (if_pos hq))
          subst hq
          clear hs
          go_wp2_with (go_at_call 49; (with_reducible refine (HCa.out _).mono ?_); rintro e w3 ⟨rfl, hb3⟩)
          go_roundw
          case rel => exact ⟨k + 1, by omega, by go_num, below_trans hb hb3, hx.out.below hb3, hy.out.below hb3, hs2⟩
          case measure => simp [intOf]; omega
        · have hs2 := hid (hs.out.trans (if_neg hq))
          have hq' : (q != 0) = true := by simpa using hq
          clear hs hq
          go_wp2_with (go_at_call 49; (with_reducible refine (HCa.out _).mono ?_); rintro e w3 ⟨rfl, hb3⟩)
          go_ret
          exact gives rfl (int_eq hs2.out.symm) (below_trans hb hb3)
      · have hr := hid (hp.out.trans (LO.out k hlt (by omega)))
        generalize xs.getD k [] = a at g1 x1
        clear hp x1 ST LO EN BO HC
        go_wp2_with fail
        go_ret
        exact gives rfl (int_eq hr.out.symm) hb
    · by_cases hlt2 : xs.length < ys.length
      · have hr := hid (hp.out.trans (EN.out k (by omega) (by omega)))
        clear hp ST LO EN BO HC
        go_wp2_with fail
        go_ret
        exact gives rfl (int_eq hr.out.symm) hb
      · have hr := hid (hp.out.trans (BO.out k (by omega) (by omega)))
        clear hp ST LO EN BO HC
        go_wp2_with fail
        go_ret
        exact gives rfl (int_eq hr.out.symm) hb

theorem ints_any (x y : Int) (w : World) : Calls Tryz.prog 40 #[.int .i64 x, .int .i64 y] w (GivesE (.int .i64 (cz x y)) w) := by
  have HZ := hid (show cz x y = if x < y then -1 else if y < x then 1 else 0 from rfl)
  generalize cz x y = R at HZ ⊢
  by_cases h1 : x < y
  · have hr := hid (show R = -1 by rw [HZ.out, if_pos h1])
    go_enter Tryz.func40, Tryz.ntmps40
    go_wp2_with fail
    go_ret
    exact givesE rfl (int_eq hr.out.symm)
  · by_cases h2 : y < x
    · have hr := hid (show R = 1 by rw [HZ.out, if_neg h1, if_pos h2])
      go_enter Tryz.func40, Tryz.ntmps40
      go_wp2_with fail
      go_ret
      exact givesE rfl (int_eq hr.out.symm)
    · have hr := hid (show R = 0 by rw [HZ.out, if_neg h1, if_neg h2])
      go_enter Tryz.func40, Tryz.ntmps40
      go_wp2_with fail
      go_ret
      exact givesE rfl (int_eq hr.out.symm)

def cb1 (x y : UInt8) : Int := ci x.toNat y.toNat
theorem compB_L : ∀ p q : List UInt8, Lib.compareBytes p q = cmpL cb1 p q := by
  intro p
  induction p with
  | nil => intro q; cases q <;> simp [Lib.compareBytes, cmpL]
  | cons a p ih =>
    intro q
    cases q with
    | nil => simp [Lib.compareBytes, cmpL]
    | cons b q =>
      unfold Lib.compareBytes cmpL cb1 ci
      have e1 : a < b ↔ a.toNat < b.toNat := UInt8.lt_iff_toNat_lt
      have e2 : b < a ↔ b.toNat < a.toNat := UInt8.lt_iff_toNat_lt
      by_cases h1 : a.toNat < b.toNat
      · rw [if_pos (e1.2 h1), if_pos h1]; simp
      · rw [if_neg (fun h => h1 (e1.1 h)), if_neg h1]
        by_cases h2 : b.toNat < a.toNat
        · rw [if_pos (e2.2 h2), if_pos h2]; simp
        · rw [if_neg (fun h => h2 (e2.1 h)), if_neg h2, ih q]; simp; rfl
theorem wrap_byte (n : Nat) (h : (n : Int) ≤ 255) : IntKind.i64.wrap (n : Int) = (n : Int) := by
  unfold IntKind.wrap; simp [IntKind.signed, IntKind.bits]; omega
theorem cz_len (a b : Nat) : cz (a : Int) (b : Int) = if a < b then -1 else if b < a then 1 else 0 := by rw [cz_nat]; rfl

set_option maxHeartbeats 1000000 in
theorem bytes_any (a b : ByteArray) (ha : a.size < 4294967281) (hb : b.size < 4294967281) (w : World) :
    Calls Tryz.prog 64 #[.string a, .string b] w (Gives (.int .i64 (Lib.compareBytes a.data.toList b.data.toList)) w) := by
  have hla := hid (lenS a)
  have hlb := hid (lenS b)
  have hBa := hid (fun k h => byte_at a k h)
  have hBb := hid (fun k h => byte_at b k h)
  rw [compB_L]
  have hR := hid (show cmpL cb1 a.data.toList b.data.toList = cmpL cb1 (a.data.toList.drop 0) (b.data.toList.drop 0) from rfl)
  generalize cmpL cb1 a.data.toList b.data.toList = R at hR ⊢
  generalize a.data.toList = xs at *
  generalize b.data.toList = ys at *
  have HI := hid ints_any
  have ST := hid (fun k x y => @cmpL_step _ cb1 xs ys k x y)
  have LO := hid (fun k => @cmpL_long _ cb1 xs ys k)
  have EN := hid (fun k => @cmpL_end _ cb1 xs ys k)
  have BO := hid (fun k => @cmpL_both _ cb1 xs ys k)
  go_enter Tryz.func64, Tryz.ntmps64
  go_wp2_with fail
  go_loopw [5] (fun v wr => ∃ k : Nat, k ≤ a.size ∧ k ≤ b.size ∧ v = .int .i64 k ∧ Below w.heap.size w wr ∧ Hid (R = cmpL cb1 (xs.drop k) (ys.drop k))) (fun v _ => a.size - (intOf v).toNat)
  case atStart => exact ⟨0, by omega, by omega, rfl, Below.refl _ _, hid hR.out⟩
  case round =>
    obtain ⟨k, hka, hkb, rfl, hw, hp⟩ := hrel
    clear hR
    by_cases hlt : k < a.size
    · by_cases hlt2 : k < b.size
      · have x1 := hid (hBa.out k hlt)
        have x2 := hid (hBb.out k hlt2)
        have hs := hid (hp.out.trans (ST.out k _ _ x1.out x2.out))
        have hcc : (a[k].toNat : Int) ≤ 255 := by have := a[k].toNat_lt; omega
        have hcd : (b[k].toNat : Int) ≤ 255 := by have := b[k].toNat_lt; omega
        have hcb := hid (show cb1 a[k] b[k] = cz (a[k].toNat : Int) (b[k].toNat : Int) by rw [cz_nat]; rfl)
        have HIa := hid (HI.out (a[k].toNat : Int) (b[k].toNat : Int))
        have k0 : (0 : Int) ≤ (k : Int) := by omega
        have k1 : (k : Int) < (a.size : Int) := by omega
        have k2 : (k : Int) < (b.size : Int) := by omega
        clear hp x1 x2 ST LO EN BO HI hBa hBb
        by_cases hq : (a[k].toNat : Int) = (b[k].toNat : Int)
        · have hs2 := hid (hs.out.trans (if_pos (by rw [hcb.out, hq]; unfold cz; simp)))
          have hq' : ((a[k].toNat : Int) != (b[k].toNat : Int)) = false := by simpa using hq
          clear hs hq hcb HIa
          go_wp2_with fail
          go_quiet (fail)
          go_wp2_with fail
          go_roundw
          case rel => exact ⟨k + 1, by omega, by omega, by go_num, below_drewN' hw _, hs2⟩
          case measure => simp [intOf]; omega
        · have hs2 := hid (hs.out.trans (if_neg (by rw [hcb.out]; unfold cz; split; simp; split; simp; omega)))
          rw [hcb.out] at hs2
          have hq' : ((a[k].toNat : Int) != (b[k].toNat : Int)) = true := by simpa using hq
          clear hs hq hcb
          have HIw := hid (show ∀ w, Calls Tryz.prog 40 #[.int .i64 (IntKind.i64.wrap (a[k].toNat : Int)), .int .i64 (IntKind.i64.wrap (b[k].toNat : Int))] w (GivesE (.int .i64 (cz (a[k].toNat : Int) (b[k].toNat : Int))) w) by
            rw [wrap_byte _ hcc, wrap_byte _ hcd]; exact HIa.out)
          generalize cz (a[k].toNat : Int) (b[k].toNat : Int) = q at hs2 HIa HIw
          go_wp2_with fail
          go_quiet (fail)
          go_wp2_with fail
          go_quiet (((with_reducible refine (HIw.out _).mono ?_); rintro e w3 ⟨rfl, rfl⟩; exact ⟨rfl, _, rfl⟩))
          go_wp2_with fail
          go_ret
          exact gives rfl (int_eq hs2.out.symm) (below_drewN' (below_drewN' hw _) _)
      · have hr := hid (hp.out.trans (LO.out k (by rw [hla.out]; exact hlt) (by rw [hlb.out]; omega)))
        have HIa := hid (HI.out (a.size : Int) (b.size : Int))
        have hz := hid (show cz (a.size : Int) (b.size : Int) = 1 by rw [cz_len, if_neg (by omega), if_pos (by omega)])
        generalize cz (a.size : Int) (b.size : Int) = q at hz HIa
        clear hp ST LO EN BO HI hBa hBb
        go_wp2_with (go_at_call 40; (with_reducible refine (HIa.out _).mono ?_); rintro e w3 ⟨rfl, rfl⟩)
        go_ret
        exact gives rfl (int_eq (hz.out.trans hr.out.symm)) hw
    · by_cases hlt2 : a.size < b.size
      · have hr := hid (hp.out.trans (EN.out k (by rw [hla.out]; omega) (by rw [hlb.out]; omega)))
        have HIa := hid (HI.out (a.size : Int) (b.size : Int))
        have hz := hid (show cz (a.size : Int) (b.size : Int) = -1 by rw [cz_len, if_pos (by omega)])
        generalize cz (a.size : Int) (b.size : Int) = q at hz HIa
        clear hp ST LO EN BO HI hBa hBb
        go_wp2_with (go_at_call 40; (with_reducible refine (HIa.out _).mono ?_); rintro e w3 ⟨rfl, rfl⟩)
        go_ret
        exact gives rfl (int_eq (hz.out.trans hr.out.symm)) hw
      · have hr := hid (hp.out.trans (BO.out k (by rw [hla.out]; omega) (by rw [hlb.out]; omega)))
        have HIa := hid (HI.out (a.size : Int) (b.size : Int))
        have hz := hid (show cz (a.size : Int) (b.size : Int) = 0 by rw [cz_len, if_neg (by omega), if_neg (by omega)])
        generalize cz (a.size : Int) (b.size : Int) = q at hz HIa
        clear hp ST LO EN BO HI hBa hBb
        go_wp2_with (go_at_call 40; (with_reducible refine (HIa.out _).mono ?_); rintro e w3 ⟨rfl, rfl⟩)
        go_ret
        exact gives rfl (int_eq (hz.out.trans hr.out.symm)) hw
end Go.Proofs.YtebhgcejcdgdbaaGreatDoor.Vs

/-
  LAYER 3, THE DOCUMENT'S Parts: two parts against one another.
-/
namespace Go.Proofs.YtebhgcejcdgdbaaGreatDoor.Vs
open Go.RowKit
open Go.Proofs.YtebhgcejcdgdbaaGreatDoor Go.Proofs.YtebhgcejcdgdbaaGreatDoor.Nu

set_option maxHeartbeats 2000000 in
theorem rparts_any (a b : ByteArray) (ha : a.size < 4294967281) (hb : b.size < 4294967281) (pa : partV a.data.toList = true) (pb : partV b.data.toList = true) (w : World) :
    Calls Tryz.prog 41 #[.string a, .string b] w (Gives (.int .i64 (cmpP a.data.toList b.data.toList)) w) := by
  have HA := hid (rdigits_any a ha)
  have HB := hid (rdigits_any b hb)
  have NA := hid (refNumber_any a (by unfold maxLen; omega))
  have NB := hid (refNumber_any b (by unfold maxLen; omega))
  have HI := hid (ints_any (numN a.data.toList) (numN b.data.toList))
  have HS := hid (bytes_any a b ha hb)
  have HN := hid (fun h k => num_cmp pa pb h k)
  have HV := hid (show cmpP a.data.toList b.data.toList = if a.data.toList.all dgB = true then (if b.data.toList.all dgB = true then cmpP a.data.toList b.data.toList else -1) else if b.data.toList.all dgB = true then 1 else Lib.compareBytes a.data.toList b.data.toList by
    unfold cmpP; split <;> split <;> (try split) <;> simp_all)
  rw [cz_nat] at HI
  unfold NumIs at NA NB
  clear pa pb
  generalize numB a.data.toList = ba at NA
  generalize numB b.data.toList = bb at NB
  generalize Lib.compareBytes a.data.toList b.data.toList = cb at HS HV
  generalize hx : a.data.toList.all dgB = x at HA HV HN
  generalize hy : b.data.toList.all dgB = y at HB HV HN
  generalize cmpP a.data.toList b.data.toList = R at HV HN ⊢
  generalize numN a.data.toList = na at NA HI HN
  generalize numN b.data.toList = nb at NB HI HN
  generalize ci na nb = q at HI HN
  clear hx hy
  cases x
  · cases y
    · have hr := hid (show R = cb by rw [HV.out]; rfl)
      go_enter Tryz.func41, Tryz.ntmps41
      go_wp2_with (first
        | (go_at_call 62; first
          | ((with_reducible refine (HA.out _).mono ?_); rintro e w1 ⟨rfl, rfl⟩)
          | ((with_reducible refine (HB.out _).mono ?_); rintro e w2 ⟨rfl, rfl⟩))
        | (go_at_call 64; (with_reducible refine (HS.out _).mono ?_); rintro e w3 ⟨rfl, hb3⟩))
      go_ret
      exact gives rfl (int_eq hr.out.symm) hb3
    · have hr := hid (show R = 1 by rw [HV.out]; rfl)
      go_enter Tryz.func41, Tryz.ntmps41
      go_wp2_with (go_at_call 62; first
          | ((with_reducible refine (HA.out _).mono ?_); rintro e w1 ⟨rfl, rfl⟩)
          | ((with_reducible refine (HB.out _).mono ?_); rintro e w2 ⟨rfl, rfl⟩))
      go_ret
      exact gives rfl (int_eq hr.out.symm) (Below.refl _ _)
  · cases y
    · have hr := hid (show R = -1 by rw [HV.out]; rfl)
      go_enter Tryz.func41, Tryz.ntmps41
      go_wp2_with (go_at_call 62; first
          | ((with_reducible refine (HA.out _).mono ?_); rintro e w1 ⟨rfl, rfl⟩)
          | ((with_reducible refine (HB.out _).mono ?_); rintro e w2 ⟨rfl, rfl⟩))
      go_ret
      exact gives rfl (int_eq hr.out.symm) (Below.refl _ _)
    · have hr := hid (HN.out rfl rfl)
      go_enter Tryz.func41, Tryz.ntmps41
      go_wp2_with (first
        | (go_at_call 62; first
          | ((with_reducible refine (HA.out _).mono ?_); rintro e w1 ⟨rfl, rfl⟩)
          | ((with_reducible refine (HB.out _).mono ?_); rintro e w2 ⟨rfl, rfl⟩))
        | (go_at_call 63; first
          | ((with_reducible refine (NA.out _).mono ?_); rintro e w1 ⟨rfl, rfl⟩)
          | ((with_reducible refine (NB.out _).mono ?_); rintro e w2 ⟨rfl, rfl⟩))
        | (go_at_call 40; (with_reducible refine (HI.out _).mono ?_); rintro e w3 ⟨rfl, rfl⟩))
      go_ret
      exact gives rfl (int_eq hr.out) (Below.refl _ _)
end Go.Proofs.YtebhgcejcdgdbaaGreatDoor.Vs
