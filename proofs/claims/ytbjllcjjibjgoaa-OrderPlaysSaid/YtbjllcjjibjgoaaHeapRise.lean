/-
  LAYER 13: rise and sink: what stands at a place of the tree goes up, or down, till the heap is in order.
-/
import Derived.Test.YtbjllcjjibjgoaaHeapMem
import Derived.IntWalk
namespace Go.Proofs.Ytbjllcjjibjgoaa.Hp
open Go.RowKit Go.Proofs.Ytbjllcjjibjgoaa.Ln

/-- the heap is in order from a place on; all that is in stands where it should -/
def Laid (m : Hm) (N : Nat) (S : List Nat) (I : List Bool) (n a : Nat) (w : World) : Prop :=
  ∃ P R, HMem w m N S P R n ∧ Pl N I P (R.take n) ∧ From S (R.take n) a
def Rose (m : Hm) (N : Nat) (S : List Nat) (I : List Bool) (n a : Nat) (w : World) (e : Ending) (w' : World) : Prop :=
  e = .returned (.tuple #[]) ∧ Only m.own w w' ∧ Laid m N S I n a w'

theorem take_get (R : List Nat) (n i : Nat) (hi : i < n) : (R.take n).getD i 0 = R.getD i 0 := by
  rw [List.getD_eq_getElem?_getD, List.getElem?_take_of_lt hi, ← List.getD_eq_getElem?_getD]
theorem set_same {α : Type} (l : List α) (i : Nat) (d : α) : l.set i (l.getD i d) = l := by
  apply List.ext_getElem?
  intro j
  rw [List.getElem?_set]
  by_cases h : i = j
  · subst h
    by_cases k : i < l.length
    · simp [k]
    · simp [k]
  · simp [h]
theorem set_take {α : Type} (l : List α) (n i : Nat) (a : α) : (l.set i a).take n = (l.take n).set i a := by
  apply List.ext_getElem?
  intro j
  by_cases hj : j < n
  · rw [List.getElem?_take_of_lt hj, List.getElem?_set, List.getElem?_set, List.getElem?_take_of_lt hj]
    by_cases h : i = j
    · subst h
      simp only [List.length_take, if_true]
      by_cases k : i < l.length
      · rw [if_pos k, if_pos (by omega)]
      · rw [if_neg k, if_neg (by omega)]
    · simp [h]
  · rw [List.getElem?_eq_none (by simp; omega), List.getElem?_eq_none (by simp; omega)]

/-- a round of rise, in plain mathematics -/
theorem rise_step {N : Nat} {S : List Nat} {I : List Bool} {PX : List Int} {X : List Nat} {n k v : Nat} (hX : X.length = N) (hn : n ≤ N) (hk : k < n) (h0 : 0 < k)
    (hp : Pl N I (PX.set v (k : Int)) ((X.take n).set k v)) (hu : Up S ((X.take n).set k v) k) (ha : ahead S v (X.getD (par k) 0)) :
    Pl N I ((PX.set (X.getD (par k) 0) (k : Int)).set v (par k : Int)) (((X.set k (X.getD (par k) 0)).take n).set (par k) v) ∧ Up S (((X.set k (X.getD (par k) 0)).take n).set (par k) v) (par k) := by
  have hpk : par k < k := by unfold par; omega
  have lT : (X.take n).length = n := by simp; omega
  generalize hT : X.take n = T at *
  have gX : T.getD (par k) 0 = X.getD (par k) 0 := by rw [← hT]; exact take_get X n _ (by omega)
  have g1 : (T.set k v).getD k 0 = v := by rw [getD_set, if_pos ⟨rfl, by omega⟩]
  have g2 : (T.set k v).getD (par k) 0 = X.getD (par k) 0 := by rw [getD_set, if_neg (by omega), gX]
  have hsw := hp.swap (i := k) (j := par k) (by simp; omega) (by simp; omega) (by omega)
  have hup := hu.step h0 (by simp; omega) (by rw [g1, g2]; exact ha)
  have hne : X.getD (par k) 0 ≠ v := fun e => by
    have := hp.inj (i := k) (j := par k) (by simp; omega) (by simp; omega) (by rw [g1, g2, e])
    omega
  rw [g1, g2] at hsw hup
  rw [set_take, hT]
  rw [List.set_set] at hsw hup
  rw [List.set_set] at hsw
  rw [List.set_comm _ _ hne]
  exact ⟨by simpa using hsw, by simpa using hup⟩

/-- what lies at the place, and above it -/
theorem hold (k : Nat) (X : List Nat) (v : Nat) {n N : Nat} (hk : k < n) (h0 : 0 < k) (hl : X.length = N) (hn : n ≤ N) : ((X.take n).set k v).getD k 0 = v ∧ ((X.take n).set k v).getD (par k) 0 = X.getD (par k) 0 := by
  have : par k < k := by unfold par; omega
  exact ⟨by rw [getD_set, if_pos ⟨rfl, by simp; omega⟩], by rw [getD_set, if_neg (by omega), take_get _ _ _ (by omega)]⟩

set_option maxHeartbeats 2000000 in
theorem rise_any {w : World} {m : Hm} {N : Nat} {S : List Nat} {P : List Int} {R : List Nat} {n : Nat} {I : List Bool} (h : HMem w m N S P R n) (i : Nat) (hi : i < n)
    (hp : Pl N I (P.set (R.getD i 0) (i : Int)) (R.take n)) (hu : Up S (R.take n) i) :
    Calls Try.prog 26 #[.pointer (some ⟨m.p, 0, none⟩), .int .i64 (i : Int)] w (Rose m N S I n 0 w) := by
  have c2 := h.head.cell 2 rfl
  have ci := h.node (show i < N by have := h.le; omega)
  have hs := h.small
  have hnN := h.le
  have hv0 := (hp.tree i (by simp [h.lenR]; omega))
  rw [take_get R n i hi] at hv0
  have hvN : R.getD i 0 ≤ N := hv0.2.1
  have hT : (R.take n).set i (R.getD i 0) = R.take n := by
    have := set_same (R.take n) i 0
    rwa [take_get R n i hi] at this
  have HP := hid (show Pl N I (P.set (R.getD i 0) (i : Int)) ((R.take n).set i (R.getD i 0)) by rw [hT]; exact hp)
  have HU := hid (show Up S ((R.take n).set i (R.getD i 0)) i by rw [hT]; exact hu)
  have H := hid h
  clear h hp hu hv0 hT
  generalize R.getD i 0 = v at *
  go_enter Try.func26, Try.ntmps26
  go_wp2
  go_loopw [1] (fun a wr => ∃ k : Nat, a = .int .i64 (k : Int) ∧ k < n ∧ ∃ PX X, Hid (Only m.own w wr ∧ HMem wr m N S PX X n ∧ Pl N I (PX.set v (k : Int)) ((X.take n).set k v) ∧ Up S ((X.take n).set k v) k)) (fun a _ => (intOf a).toNat)
  case atStart => exact ⟨i, rfl, hi, P, R, hid ⟨Only.refl _ _, H.out, HP.out, HU.out⟩⟩
  case round =>
    obtain ⟨k, rfl, hk, PX, X, HH⟩ := hrel
    have c2' := HH.out.2.1.head.cell 2 rfl
    by_cases h0 : 0 < k
    · have hpk : par k < k := by unfold par; omega
      have cp := HH.out.2.1.node (show par k < N by omega)
      have hd : decide (0 < k) = true := decide_eq_true h0
      have he : ((k : Int) - 1) / 2 = (par k : Int) := by unfold par; omega
      have hpvN : (X.getD (par k) 0) ≤ N := by
        have := HH.out.2.2.1.tree (par k) (by have := HH.out.2.1.lenR; simp; omega)
        rw [getD_set, if_neg (by omega), take_get _ _ _ (by omega)] at this
        exact this.2.1
      generalize hq : par k = q at *
      generalize hpv : X.getD q 0 = pv at *
      have HQ := hid hq
      have HPV := hid hpv
      clear hq hpv
      cases hah : decide (ahead S v pv)
      · have HA := hid hah
        clear hah
        go_wp2_with fail
        refine (ahead_any HH.out.2.1 v pv hvN hpvN).mono ?_
        rintro e w1 ⟨rfl, hdr⟩
        rw [HA.out]
        obtain ⟨d, rfl⟩ := hdr
        go_wp2_with fail
        refine (put_any (HH.out.2.1.drewN d) v k hvN hk).mono ?_
        rintro e w2 ⟨rfl, ho, hm⟩
        have hdn := HH.out.2.2.2.done (.inr (by
          have hh := hold k X v hk h0 HH.out.2.1.lenR hnN
          rw [hh.1, hh.2, HQ.out, HPV.out]; exact of_decide_eq_false HA.out))
        have ho2 := (HH.out.1.drewN d).trans ho
        have hp2 := HH.out.2.2.1
        go_wp2
        go_end0
        refine ⟨rfl, ho2, _, _, hm, ?_, ?_⟩
        · rw [set_take]; exact hp2
        · rw [set_take]; exact hdn
      · have HA := hid hah
        clear hah
        go_wp2_with fail
        refine (ahead_any HH.out.2.1 v pv hvN hpvN).mono ?_
        rintro e w1 ⟨rfl, hdr⟩
        rw [HA.out]
        obtain ⟨d, rfl⟩ := hdr
        have HH2 := hid (HH.out.2.1.drewN d)
        go_wp2_with fail
        refine (put_any HH2.out pv k hpvN hk).mono ?_
        rintro e w2 ⟨rfl, ho, hm⟩
        have HM := hid hm
        have HO := hid ((HH.out.1.drewN d).trans ho)
        clear hm ho
        go_wp2_with fail
        go_roundw
        case rel =>
          have st := rise_step HH.out.2.1.lenR hnN hk h0 HH.out.2.2.1 HH.out.2.2.2 (by rw [HQ.out, HPV.out]; exact of_decide_eq_true HA.out)
          rw [HQ.out, HPV.out] at st
          exact ⟨q, by rw [he], by omega, _, _, hid ⟨HO.out, HM.out, st.1, st.2⟩⟩
        case measure => simp [intOf]; omega
    · obtain rfl : k = 0 := by omega
      go_wp2_with fail
      refine (put_any HH.out.2.1 v 0 hvN hk).mono ?_
      rintro e w2 ⟨rfl, ho, hm⟩
      have hdn := HH.out.2.2.2.done (.inl rfl)
      have ho2 := HH.out.1.trans ho
      have hp2 := HH.out.2.2.1
      go_wp2
      go_end0
      refine ⟨rfl, ho2, _, _, hm, ?_, ?_⟩
      · rw [set_take]; exact hp2
      · rw [set_take]; exact hdn
end Go.Proofs.Ytbjllcjjibjgoaa.Hp
