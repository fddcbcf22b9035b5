/-
  LAYER 3, THE LIBRARY'S slices.Compare AND slices.CompareFunc: two rows of numbers, two rows of parts.
-/
import Derived.Test.YtmeaajhongalaaaGreatDoorVersionCmp
namespace Go.Proofs.YtmeaajhongalaaaGreatDoor.Vs
open Go.RowKit
open Go.Proofs.YtmeaajhongalaaaGreatDoor Go.Proofs.YtmeaajhongalaaaGreatDoor.Nu

theorem cmpL_step {α : Type} {f : α → α → Int} {x y : List α} {k : Nat} {a b : α} (ha : x[k]? = some a) (hb : y[k]? = some b) :
    cmpL f (x.drop k) (y.drop k) = if f a b = 0 then cmpL f (x.drop (k + 1)) (y.drop (k + 1)) else f a b := by
  have h1 := (List.getElem?_eq_some_iff.1 ha).1
  have h2 := (List.getElem?_eq_some_iff.1 hb).1
  have e1 : x[k] = a := (List.getElem?_eq_some_iff.1 ha).2
  have e2 : y[k] = b := (List.getElem?_eq_some_iff.1 hb).2
  rw [List.drop_eq_getElem_cons h1, List.drop_eq_getElem_cons h2, e1, e2]
  rfl
theorem cmpL_long {α : Type} {f : α → α → Int} {x y : List α} {k : Nat} (h1 : k < x.length) (h2 : y.length ≤ k) : cmpL f (x.drop k) (y.drop k) = 1 := by
  rw [List.drop_eq_getElem_cons h1, List.drop_of_length_le h2]; rfl
theorem cmpL_end {α : Type} {f : α → α → Int} {x y : List α} {k : Nat} (h1 : x.length ≤ k) (h2 : k < y.length) : cmpL f (x.drop k) (y.drop k) = -1 := by
  rw [List.drop_eq_getElem_cons h2, List.drop_of_length_le h1]; rfl
theorem cmpL_both {α : Type} {f : α → α → Int} {x y : List α} {k : Nat} (h1 : x.length ≤ k) (h2 : y.length ≤ k) : cmpL f (x.drop k) (y.drop k) = 0 := by
  rw [List.drop_of_length_le h2, List.drop_of_length_le h1]; rfl

/-- a slice of numbers: its cells -/
def IntsAt (w : World) (B o : Nat) (xs : List Int) : Prop := B < w.heap.size ∧ ∀ k, k < xs.length → w.cell? ⟨B, o + k, none⟩ = some (.int .i64 (xs.getD k 0))
theorem IntsAt.below {w w' : World} {B o : Nat} {xs : List Int} (h : IntsAt w B o xs) (hb : Below w.heap.size w w') : IntsAt w' B o xs :=
  ⟨Nat.lt_of_lt_of_le h.1 hb.size, fun k hk => by rw [hb.cell h.1]; exact h.2 k hk⟩
theorem at_getD {α : Type} {l : List α} {k : Nat} (d : α) (h : k < l.length) : l[k]? = some (l.getD k d) := by
  simp [List.getD, List.getElem?_eq_getElem h]

set_option maxHeartbeats 1000000 in
theorem cmpInts_any (xs ys : List Int) (l1 : xs.length ≤ 1000) (_ : ys.length ≤ 1000) (B o c B' o' c' : Nat) (w : World) (h1 : IntsAt w B o xs) (h2 : IntsAt w B' o' ys) :
    Calls Tryz.prog 105 #[.slice (some ⟨B, o, none⟩) xs.length c, .slice (some ⟨B', o', none⟩) ys.length c'] w (GivesE (.int .i64 (cmpL cz xs ys)) w) := by
  have hR := hid (show cmpL cz xs ys = cmpL cz (xs.drop 0) (ys.drop 0) from rfl)
  generalize cmpL cz xs ys = R at hR ⊢
  have HC := hid cmpInt_any
  have ST := hid (fun k a b => @cmpL_step _ cz xs ys k a b)
  have LO := hid (fun k => @cmpL_long _ cz xs ys k)
  have EN := hid (fun k => @cmpL_end _ cz xs ys k)
  have BO := hid (fun k => @cmpL_both _ cz xs ys k)
  replace h1 := hid h1
  replace h2 := hid h2
  have b1 := h1.out.1
  have b2 := h2.out.1
  go_enter Tryz.func105, Tryz.ntmps105
  go_wp2_with fail
  go_loop [5, 6, 7, 8, 11] (fun _ _ _ _ v => ∃ k : Nat, k ≤ xs.length ∧ v = .int .i64 k ∧ Hid (R = cmpL cz (xs.drop k) (ys.drop k))) (fun _ _ _ _ v => xs.length - (intOf v).toNat)
  case atStart => exact ⟨0, by omega, rfl, hid hR.out⟩
  case round =>
    obtain ⟨k, hk, rfl, hp⟩ := hrel
    clear hR
    by_cases hlt : k < xs.length
    · have g1 := h1.out.2 k hlt
      have x1 := hid (at_getD (0 : Int) hlt)
      by_cases hlt2 : k < ys.length
      · have g2 := h2.out.2 k hlt2
        have x2 := hid (at_getD (0 : Int) hlt2)
        generalize xs.getD k 0 = a at g1 x1
        generalize ys.getD k 0 = b at g2 x2
        have hs := hid (hp.out.trans (ST.out k a b x1.out x2.out))
        have HCa := hid (HC.out a b)
        generalize cz a b = q at hs HCa
        clear hp x1 x2 ST LO EN BO HC
        by_cases hq : q = 0
        · have hs2 := hid (hs.out.trans (if_pos hq))
          subst hq
          clear hs
          go_wp2_with (go_at_call 143; (with_reducible refine (HCa.out _).mono ?_); rintro e w3 ⟨rfl, rfl⟩)
          go_round
          case rel => exact ⟨k + 1, by omega, by go_num, hs2⟩
          case measure => simp [intOf]; omega
        · have hs2 := hid (hs.out.trans (if_neg hq))
          have hq' : (q != 0) = true := by simpa using hq
          clear hs hq
          go_wp2_with (go_at_call 143; (with_reducible refine (HCa.out _).mono ?_); rintro e w3 ⟨rfl, rfl⟩)
          go_ret
          exact givesE rfl (int_eq hs2.out.symm)
      · have hr := hid (hp.out.trans (LO.out k hlt (by omega)))
        generalize xs.getD k 0 = a at g1 x1
        clear hp x1 ST LO EN BO HC
        go_wp2_with fail
        go_ret
        exact givesE rfl (int_eq hr.out.symm)
    · by_cases hlt2 : xs.length < ys.length
      · have hr := hid (hp.out.trans (EN.out k (by omega) (by omega)))
        clear hp ST LO EN BO HC
        go_wp2_with fail
        go_ret
        exact givesE rfl (int_eq hr.out.symm)
      · have hr := hid (hp.out.trans (BO.out k (by omega) (by omega)))
        clear hp ST LO EN BO HC
        go_wp2_with fail
        go_ret
        exact givesE rfl (int_eq hr.out.symm)
end Go.Proofs.YtmeaajhongalaaaGreatDoor.Vs
