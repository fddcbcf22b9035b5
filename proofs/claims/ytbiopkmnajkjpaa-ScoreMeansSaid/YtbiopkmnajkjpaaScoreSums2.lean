/-
  LAYER 2: the statements ScoreSums and ScoreMeans.
-/
import Derived.Test.YtbiopkmnajkjpaaScoreSums
namespace Go.Proofs.Ytbiopkmnajkjpaa.Sc
open Go.RowKit
set_option linter.unusedVariables false

/-- is one of the first k of that kind? -/
def hasK (l : List Nat) (t : Int) : Nat → Bool
  | 0 => false
  | k + 1 => hasK l t k || kind (nth l k) == t

theorem hasK_t {l : List Nat} {t : Int} {k : Nat} (h : hasK l t k = true) : true = hasK l t (k + 1) := by show true = (hasK l t k || _); rw [h]; rfl
theorem hasK_f {l : List Nat} {t : Int} {k : Nat} (h : hasK l t k = false) : (kind (nth l k) == t) = hasK l t (k + 1) := by show _ = (hasK l t k || _); rw [h]; rfl

theorem nan_of_kind {b : Nat} (hb : b < 18446744073709551616) (h : kind b = 0) : isNan b = true := by
  rcases kind_row hb with ⟨p, _, _⟩ | ⟨_, p⟩
  · exact p
  · omega
theorem pi_of_kind {b : Nat} (hb : b < 18446744073709551616) (h : kind b = 6) : b = 9218868437227405312 := by
  rcases kind_bits hb with p | p | p | p | p | p | p <;> omega
theorem ni_of_kind {b : Nat} (hb : b < 18446744073709551616) (h : kind b = 1) : b = 18442240474082181120 := by
  rcases kind_bits hb with p | p | p | p | p | p | p <;> omega

theorem sum_none {l : List Nat} (hl : ∀ k, k < l.length → nth l k < 18446744073709551616) : ∀ k, k ≤ l.length → hasK l 0 k = true → sumTo l k = none := by
  intro k
  induction k with
  | zero => intro _ h; cases h
  | succ k ih =>
    intro hk h
    have h : (hasK l 0 k || kind (nth l k) == 0) = true := h
    rcases Nat.eq_zero_or_pos k with rfl | hp
    · have : kind (nth l 0) = 0 := by simpa [hasK] using h
      rw [sumTo_one]; unfold canon; rw [if_pos (nan_of_kind (hl 0 (by omega)) this)]
    · rw [sumTo_step l k hp]
      cases h1 : hasK l 0 k
      · rw [h1] at h
        have : kind (nth l k) = 0 := by simpa using h
        have hn := nan_of_kind (hl k (by omega)) this
        cases sumTo l k with
        | none => rfl
        | some c => exact add_nan_r hn
      · rw [ih (by omega) h1]; rfl

theorem sum_inf {l : List Nat} (hl : ∀ k, k < l.length → nth l k < 18446744073709551616) (s : Bool) (t : Int) (ht : ∀ b, b < 18446744073709551616 → kind b = t → isNan b = false ∧ b = if s then 18442240474082181120 else 9218868437227405312) :
    ∀ k, k ≤ l.length → hasK l t k = true → sumTo l k = none ∨ sumTo l k = some (if s then 18442240474082181120 else 9218868437227405312) := by
  intro k
  induction k with
  | zero => intro _ h; cases h
  | succ k ih =>
    intro hk h
    have h : (hasK l t k || kind (nth l k) == t) = true := h
    rcases Nat.eq_zero_or_pos k with rfl | hp
    · have hkd : kind (nth l 0) = t := by simpa [hasK] using h
      have := ht _ (hl 0 (by omega)) hkd
      rw [sumTo_one]; unfold canon; rw [if_neg (by simp [this.1])]
      exact .inr (by rw [← this.2])
    · rw [sumTo_step l k hp]
      cases h1 : hasK l t k
      · rw [h1] at h
        have hkd : kind (nth l k) = t := by simpa using h
        have := ht _ (hl k (by omega)) hkd
        cases sumTo l k with
        | none => exact .inl rfl
        | some c => rw [this.2]; exact add_inf_r s c
      · rcases ih (by omega) h1 with e | e
        · rw [e]; exact .inl rfl
        · rw [e]; exact add_inf_l s _

theorem sum_both {l : List Nat} (hl : ∀ k, k < l.length → nth l k < 18446744073709551616) (h6 : hasK l 6 l.length = true) (h1 : hasK l 1 l.length = true) : sumTo l l.length = none := by
  have a := sum_inf hl false 6 (fun b hb hk => ⟨by rcases kind_row hb with ⟨_, p, _⟩ | ⟨p, _⟩; omega; exact p, pi_of_kind hb hk⟩) l.length (Nat.le_refl _) h6
  have b := sum_inf hl true 1 (fun b hb hk => ⟨by rcases kind_row hb with ⟨_, p, _⟩ | ⟨p, _⟩; omega; exact p, ni_of_kind hb hk⟩) l.length (Nat.le_refl _) h1
  rcases a with a | a
  · exact a
  · rcases b with b | b
    · exact b
    · rw [a] at b
      simp at b

set_option maxHeartbeats 4000000 in
theorem law_sums_row (l : List Nat) (hl : ∀ k, k < l.length → nth l k < 18446744073709551616) (B o n c : Nat) (hn : n = l.length) (h0 : 0 < n) (h200 : n ≤ 200) (w : World) (hB : B < w.heap.size)
    (hc : ∀ k, k < l.length → w.cell? ⟨B, o + k, none⟩ = some (.int .u64 (nth l k : Nat))) :
    Calls Try.prog 10 #[.slice (some ⟨B, o, none⟩) n c] w fun e w' => e = .returned (.bool true) ∧ Below w.heap.size w w' := by
  have HC := hid hc
  have HL := hid hl
  have HN := hid hn
  have hn1 : n ≤ l.length := by omega
  have hn2 : l.length ≤ n := by omega
  clear hc hl hn
  go_enter Try.func10, Try.ntmps10
  go_wp2_with (first | (go_at_call 14; (with_reducible refine (told_any _).mono ?_); rintro e w' ⟨rfl, hb1⟩) | (go_at_call 19; (with_reducible refine (of_z _).mono ?_); rintro e w' ⟨rfl, hb2⟩))
  have hb0 := below_trans hb1 hb2
  clear hb1 hb2
  go_loopw [3, 4, 5, 6, 7] (fun a b d v i wr => ∃ k : Nat, k ≤ n ∧ i = .int .i64 k ∧ a = .bool (hasK l 0 k) ∧ b = .bool (hasK l 6 k) ∧ d = .bool (hasK l 1 k) ∧ (∃ r, v = .float .f64 r ∧ Rel (sumTo l k) r) ∧ Below w.heap.size w wr) (fun _ _ _ _ i _ => n - (intOf i).toNat)
  case atStart => exact ⟨0, by omega, rfl, rfl, rfl, rfl, ⟨_, rfl, rel_zero⟩, hb0⟩
  case round =>
    obtain ⟨k, hk, rfl, rfl, rfl, rfl, ⟨r, rfl, hr⟩, hbl⟩ := hrel
    by_cases hlt : k < n
    · have hc1 : wr.cell? ⟨B, o + k, none⟩ = some (.int .u64 (nth l k : Nat)) := (hbl.cell (p := ⟨B, o + k, none⟩) hB).trans (HC.out k (by omega))
      have hx := hid (HL.out k (by omega))
      have hc0 : wr.cell? ⟨B, o, none⟩ = some (.int .u64 (nth l 0 : Nat)) := (hbl.cell (p := ⟨B, o + 0, none⟩) hB).trans (HC.out 0 (by omega))
      have hx0 := hid (HL.out 0 (by omega))
      have hst := sumTo_step l k
      rcases Nat.eq_zero_or_pos k with rfl | hp
      · have f0 : hasK l 0 0 = false := rfl
        have f6 : hasK l 6 0 = false := rfl
        have f1 : hasK l 1 0 = false := rfl
        clear hst hr hc1
        go_wp2_with (first | (go_at_call 20; (with_reducible refine (refKind_any _ hx0.out _).mono ?_); rintro e w' ⟨rfl, rfl⟩) | (go_at_call 19; (with_reducible refine (of_any _ hx0.out _).mono ?_); rintro e w' ⟨rfl, hb1⟩))
        go_roundw
        case rel => exact ⟨1, by omega, rfl, bool_eq (hasK_f f0), bool_eq (hasK_f f6), bool_eq (hasK_f f1), ⟨_, rfl, rel_canon hx0.out⟩, below_trans hbl hb1⟩
        case measure => simp [intOf]; omega
      · have hst' := hid (hst hp)
        clear hst hc0 hx0
        have hk0 : ((k : Int) == 0) = false := by rw [beq_eq_false_iff_ne]; omega
        cases h3 : hasK l 0 k <;> cases h4 : hasK l 6 k <;> cases h5 : hasK l 1 k
        all_goals
          go_wp2_with (go_at_call 20; (with_reducible refine (refKind_any _ hx.out _).mono ?_); rintro e w' ⟨rfl, rfl⟩)
          refine (of_any _ hx.out _).mono ?_
          rintro e w1 ⟨rfl, hb1⟩
          obtain ⟨r', w2, hrun, hr', hb2⟩ := run_fadd (P := Try.prog) w1 23 (y := nth l k) hr
          rw [← hst'.out] at hr'
          have hb3 := below_trans (below_trans hbl hb1) hb2
          clear hbl hb1 hb2 hr
          go_wp2
          go_roundw
          case rel => exact ⟨k + 1, by omega, by go_num, bool_eq (by first | exact hasK_t h3 | exact hasK_f h3), bool_eq (by first | exact hasK_t h4 | exact hasK_f h4), bool_eq (by first | exact hasK_t h5 | exact hasK_f h5), ⟨r', rfl, hr'⟩, hb3⟩
          case measure => simp [intOf]; omega
    · have hkn : k = n := by omega
      subst hkn
      go_wp2_with fail
      refine (all_row l HL.out B o k c HN.out (by omega) wr (by have := hbl.size; omega) (fun i hi => (hbl.cell (p := ⟨B, o + i, none⟩) hB).trans (HC.out i hi))).mono ?_
      rintro e w2 ⟨v, rfl, hown, hb2⟩
      have HK := HN
      go_wp2_with fail
      refine (sum_row l HL.out v wr w2 hown).mono ?_
      rintro e w3 ⟨s, rfl, hs, hb3⟩
      have hb03 := below_trans (below_trans hbl hb2) hb3
      have hr' : Rel (sumTo l l.length) r := by rw [← HK.out]; exact hr
      have htx := Rel.text hs hr'
      have hz := hid (fun (e : sumTo l l.length = none) => by rw [e] at hs; exact hs.none_kind : sumTo l l.length = none → kind s = 0)
      have hsl := hid hs.1
      have hrl := hid hr'.1
      have hnn := hid (sum_none HL.out l.length (Nat.le_refl _))
      have hbb := hid (sum_both HL.out)
      clear hs hr hr' hbl hb2 hb3 hown
      cases h3 : hasK l 0 k
      · cases h4 : hasK l 6 k
        · go_wp2_with (first | (go_at_call 15; (with_reducible refine (text_any _ hsl.out _).mono ?_); rintro e w' ⟨rfl, hb1⟩) | (go_at_call 15; (with_reducible refine (text_any _ hrl.out _).mono ?_); rintro e w' ⟨rfl, hb1⟩) | (go_at_call 18; (with_reducible refine (kind_any _ hsl.out _).mono ?_); rintro e w' ⟨rfl, rfl⟩))
          go_ret
          exact ⟨rfl, by (repeat (first | exact Below.refl _ _ | assumption | refine below_alloc ?_ _ | refine below_drew ?_ | refine below_trans ?_ (by assumption)))⟩
        · cases h5 : hasK l 1 k
          · go_wp2_with (first | (go_at_call 15; (with_reducible refine (text_any _ hsl.out _).mono ?_); rintro e w' ⟨rfl, hb1⟩) | (go_at_call 15; (with_reducible refine (text_any _ hrl.out _).mono ?_); rintro e w' ⟨rfl, hb1⟩) | (go_at_call 18; (with_reducible refine (kind_any _ hsl.out _).mono ?_); rintro e w' ⟨rfl, rfl⟩))
            go_ret
            exact ⟨rfl, by (repeat (first | exact Below.refl _ _ | assumption | refine below_alloc ?_ _ | refine below_drew ?_ | refine below_trans ?_ (by assumption)))⟩
          · have hkz : kind s = 0 := hz.out (hbb.out (by rw [← HK.out]; exact h4) (by rw [← HK.out]; exact h5))
            go_wp2_with (first | (go_at_call 15; (with_reducible refine (text_any _ hsl.out _).mono ?_); rintro e w' ⟨rfl, hb1⟩) | (go_at_call 15; (with_reducible refine (text_any _ hrl.out _).mono ?_); rintro e w' ⟨rfl, hb1⟩) | (go_at_call 18; (with_reducible refine (kind_any _ hsl.out _).mono ?_); rintro e w' ⟨rfl, rfl⟩))
            go_ret
            exact ⟨rfl, by (repeat (first | exact Below.refl _ _ | assumption | refine below_alloc ?_ _ | refine below_drew ?_ | refine below_trans ?_ (by assumption)))⟩
      · have hkz : kind s = 0 := hz.out (hnn.out (by rw [← HK.out]; exact h3))
        go_wp2_with (first | (go_at_call 15; (with_reducible refine (text_any _ hsl.out _).mono ?_); rintro e w' ⟨rfl, hb1⟩) | (go_at_call 15; (with_reducible refine (text_any _ hrl.out _).mono ?_); rintro e w' ⟨rfl, hb1⟩) | (go_at_call 18; (with_reducible refine (kind_any _ hsl.out _).mono ?_); rintro e w' ⟨rfl, rfl⟩))
        go_ret
        exact ⟨rfl, by (repeat (first | exact Below.refl _ _ | assumption | refine below_alloc ?_ _ | refine below_drew ?_ | refine below_trans ?_ (by assumption)))⟩

theorem law_sums_many (a : Option Addr) (n c : Nat) (h : 200 < n) (w : World) :
    Calls Try.prog 10 #[.slice a n c] w fun e w' => e = .returned (.bool true) ∧ Below w.heap.size w w' := by
  go_enter Try.func10, Try.ntmps10
  go_wp2_with (go_at_call 14; (with_reducible refine (told_any _).mono ?_); rintro e w' ⟨rfl, hb1⟩)
  go_ret
  exact ⟨rfl, by (repeat (first | exact Below.refl _ _ | assumption | refine below_alloc ?_ _ | refine below_drew ?_ | refine below_trans ?_ (by assumption)))⟩

theorem rel_z_text {s : Nat} (h : Rel (some 0) s) : s = 0 := h.2.1

theorem sum_empty (v : Value) (w0 w : World) (h : w.ownsRow w0.heap.size 23 1 v 0 (floats [])) :
    Calls Try.prog 29 #[v] w fun e w' => e = .returned (.float .f64 0) ∧ Below w.heap.size w w' :=
  (sum_row [] (fun k h => by cases h) v w0 w h).mono fun e w' ⟨r, he, hr, hb⟩ => ⟨by rw [he, rel_z_text hr], hb⟩

theorem law_sums_nil (a : Option Addr) (c : Nat) (w : World) :
    Calls Try.prog 10 #[.slice a 0 c] w fun e w' => e = .returned (.bool true) ∧ Below w.heap.size w w' := by
  go_enter Try.func10, Try.ntmps10
  go_wp2_with (first | (go_at_call 14; (with_reducible refine (told_any _).mono ?_); rintro e w' ⟨rfl, hb1⟩) | (go_at_call 19; (with_reducible refine (of_z _).mono ?_); rintro e w' ⟨rfl, hb2⟩))
  refine wp_loop_rounds 1 ?_
  rw [rounds_succ]
  go_wp2_with fail
  refine (all_nil _ _ _).mono ?_
  rintro e w3 ⟨v, rfl, hown, hb3⟩
  go_wp2_with fail
  refine (sum_empty v _ _ hown).mono ?_
  rintro e w4 ⟨rfl, hb4⟩
  go_wp2_with (first | (go_at_call 15; (with_reducible refine (text_any _ l0 _).mono ?_); rintro e w' ⟨rfl, hb1⟩))
  go_ret
  exact ⟨rfl, by (repeat (first | exact Below.refl _ _ | assumption | refine below_alloc ?_ _ | refine below_drew ?_ | refine below_trans ?_ (by assumption)))⟩

/-- the mean: the sum, divided -/
theorem mean_row (l : List Nat) (hl : ∀ k, k < l.length → nth l k < 18446744073709551616) (v : Value) (n c : Nat) (a : Option Addr) (hv : v = .slice a n c) (hn : n = l.length) (w0 w : World) (h : w.ownsRow w0.heap.size 23 1 v l.length (floats l)) :
    Calls Try.prog 30 #[v] w (SumIs ((sumTo l l.length).bind fun s => Ieee.double.div s (floatOfInt .f64 l.length)) w) := by
  have hs := hid (sum_row l hl v w0 w h)
  subst hv
  have HN := hid hn
  clear hn h
  go_enter Try.func30, Try.ntmps30
  go_wp2_with fail
  refine hs.out.mono ?_
  rintro e w1 ⟨s, rfl, hr, hb1⟩
  obtain ⟨r', w2, hrun, hr', hb2⟩ := run_fdiv (P := Try.prog) w1 23 (y := floatOfInt .f64 (n : Int)) hr
  clear hr
  go_wp2
  go_ret
  refine ⟨r', rfl, ?_, below_trans hb1 hb2⟩
  rw [HN.out] at hr'
  exact hr'

theorem law_means_many (a : Option Addr) (n c : Nat) (h : 200 < n) (w : World) :
    Calls Try.prog 11 #[.slice a n c] w fun e w' => e = .returned (.bool true) ∧ Below w.heap.size w w' := by
  go_enter Try.func11, Try.ntmps11
  go_wp2_with (go_at_call 14; (with_reducible refine (told_any _).mono ?_); rintro e w' ⟨rfl, hb1⟩)
  go_ret
  exact ⟨rfl, by (repeat (first | exact Below.refl _ _ | assumption | refine below_alloc ?_ _ | refine below_drew ?_ | refine below_trans ?_ (by assumption)))⟩

theorem own_shape {w : World} {base : Nat} {e : TypeId} {v : Value} {n : Nat} {xs : List Value} (h : w.ownsRow base e 1 v n xs) : ∃ a c, v = .slice a n c := by
  rcases ownsRow_one h with ⟨rfl, rfl, _⟩ | ⟨g, c, rfl, _⟩
  · exact ⟨_, _, rfl⟩
  · exact ⟨_, _, rfl⟩

theorem div_zero : Ieee.double.div 0 (floatOfInt .f64 0) = none := by decide +kernel

theorem law_means_nil (a : Option Addr) (c : Nat) (w : World) :
    Calls Try.prog 11 #[.slice a 0 c] w fun e w' => e = .returned (.bool true) ∧ Below w.heap.size w w' := by
  go_enter Try.func11, Try.ntmps11
  go_wp2_with (first | (go_at_call 14; (with_reducible refine (told_any _).mono ?_); rintro e w' ⟨rfl, hb1⟩))
  refine (all_nil _ _ _).mono ?_
  rintro e w3 ⟨v, rfl, hown, hb3⟩
  obtain ⟨a', c', hv⟩ := own_shape hown
  have hm := hid (mean_row [] (fun k h => by cases h) v 0 c' a' hv rfl _ _ hown)
  clear hown hv
  go_wp2_with fail
  refine hm.out.mono ?_
  rintro e w4 ⟨s, rfl, hs, hb4⟩
  have hk : kind s = 0 := by
    have e : (sumTo [] ([] : List Nat).length).bind (fun s => Ieee.double.div s (floatOfInt .f64 ([] : List Nat).length)) = none := div_zero
    rw [e] at hs
    exact hs.none_kind
  have hsl := hid hs.1
  clear hs hm
  go_wp2_with (first | (go_at_call 18; (with_reducible refine (kind_any _ hsl.out _).mono ?_); rintro e w' ⟨rfl, rfl⟩))
  go_ret
  exact ⟨rfl, by (repeat (first | exact Below.refl _ _ | assumption | refine below_alloc ?_ _ | refine below_drew ?_ | refine below_trans ?_ (by assumption)))⟩

set_option maxHeartbeats 1000000 in
theorem law_means_row (l : List Nat) (hl : ∀ k, k < l.length → nth l k < 18446744073709551616) (B o n c : Nat) (hn : n = l.length) (h0 : 0 < n) (h200 : n ≤ 200) (w : World) (hB : B < w.heap.size)
    (hc : ∀ k, k < l.length → w.cell? ⟨B, o + k, none⟩ = some (.int .u64 (nth l k : Nat))) :
    Calls Try.prog 11 #[.slice (some ⟨B, o, none⟩) n c] w fun e w' => e = .returned (.bool true) ∧ Below w.heap.size w w' := by
  have HC := hid hc
  have HL := hid hl
  have HN := hid hn
  have hne : ((n : Int) == 0) = false := by rw [beq_eq_false_iff_ne]; omega
  have HB := hid hB
  clear hc hl hn
  go_enter Try.func11, Try.ntmps11
  go_wp2_with (first | (go_at_call 14; (with_reducible refine (told_any _).mono ?_); rintro e w' ⟨rfl, hb1⟩))
  refine (all_row l HL.out B o n c HN.out (by omega) _ (by have := hb1.size; have := HB.out; omega) (fun i hi => (hb1.cell (p := ⟨B, o + i, none⟩) HB.out).trans (HC.out i hi))).mono ?_
  rintro e w2 ⟨v, rfl, hown, hb2⟩
  obtain ⟨a', c', hv⟩ := own_shape hown
  have hm := hid (mean_row l HL.out v _ c' a' hv rfl _ _ hown)
  clear hown hv
  have hb02 := below_trans hb1 hb2
  clear hb1 hb2
  go_wp2_with fail
  refine hm.out.mono ?_
  rintro e w3 ⟨m, rfl, hmr, hb3⟩
  have hml := hid hmr.1
  have hmr' := hid hmr
  have hb03 := below_trans hb02 hb3
  clear hmr hm hb02 hb3
  go_wp2_with (first | (go_at_call 15; (with_reducible refine (text_any _ hml.out _).mono ?_); rintro e w' ⟨rfl, hb1⟩))
  have hb04 := below_trans hb03 hb1
  refine (all_row l HL.out B o n c HN.out (by omega) _ (by have := hb04.size; have := HB.out; omega) (fun i hi => (hb04.cell (p := ⟨B, o + i, none⟩) HB.out).trans (HC.out i hi))).mono ?_
  rintro e w5 ⟨v, rfl, hown, hb2⟩
  have hb05 := below_trans hb04 hb2
  have hs := hid (sum_row l HL.out v _ _ hown)
  clear hown hb2 hb1 hb03 hb04
  go_wp2_with fail
  refine hs.out.mono ?_
  rintro e w6 ⟨s, rfl, hr, hb6⟩
  have hb06 := below_trans hb05 hb6
  obtain ⟨r', w7, hrun, hr', hb7⟩ := run_fdiv (P := Try.prog) w6 23 (y := floatOfInt .f64 (n : Int)) hr
  have hb07 := below_trans hb06 hb7
  rw [show ((n : Nat) : Int) = ((l.length : Nat) : Int) from by rw [HN.out]] at hr'
  have htx := Rel.text hmr'.out hr'
  have hrl := hid hr'.1
  clear hr hs hb05 hb6 hb06 hb7 hr'
  go_wp2_with (first | (go_at_call 15; (with_reducible refine (text_any _ hrl.out _).mono ?_); rintro e w' ⟨rfl, hb1⟩))
  go_ret
  exact ⟨rfl, below_trans hb07 hb1⟩

end Go.Proofs.Ytbiopkmnajkjpaa.Sc
