/-
  LAYER 5: which of any patterns fits and says most.
-/
import Derived.Test.YtnmmahipbjigpaaDoorNameRef3
import Derived.WalkSpells
namespace Go.Proofs.YtnmmahipbjigpaaDoor.Nm
open Go.RowKit

def mostV (s : List UInt8) (gs : List (List UInt8)) (k : Nat) : Int := if longV s gs k < 0 then -1 else weightV (gs.getD (longV s gs k).toNat [])
theorem long_zero (s : List UInt8) (gs : List (List UInt8)) : longV s gs 0 = -1 ∧ mostV s gs 0 = -1 := ⟨rfl, rfl⟩
theorem long_no {s : List UInt8} (gs : List (List UInt8)) (h : checkV s = false) : ∀ k, longV s gs k = -1 := by
  intro k
  induction k with
  | zero => rfl
  | succ k ih =>
    unfold longV
    dsimp only
    rw [if_neg]
    · exact ih
    · unfold matchV; rw [h]; simp
theorem long_keep {s : List UInt8} {gs : List (List UInt8)} {k : Nat} (h : (matchV (gs.getD k []) s && decide (weightV (gs.getD k []) > mostV s gs k)) = false) : longV s gs (k + 1) = longV s gs k ∧ mostV s gs (k + 1) = mostV s gs k := by
  have e : longV s gs (k + 1) = longV s gs k := by
    conv => lhs; unfold longV
    dsimp only
    rw [if_neg]
    intro h2
    simp only [Bool.and_eq_true] at h2
    rw [h2.1, Bool.true_and] at h
    have h := of_decide_eq_false h
    have hw := weight_pos (g := gs.getD k []) (by have := h2.1; unfold matchV at this; simp only [Bool.and_eq_true] at this; exact this.1.1)
    unfold mostV at h
    by_cases hl : longV s gs k < 0
    · rw [if_pos hl] at h; omega
    · rw [if_neg hl] at h
      have := h2.2
      rw [decide_eq_false hl, decide_eq_false h] at this; cases this
  exact ⟨e, by unfold mostV; rw [e]⟩
theorem long_take {s : List UInt8} {gs : List (List UInt8)} {k : Nat} (h1 : matchV (gs.getD k []) s = true) (h2 : weightV (gs.getD k []) > mostV s gs k) : longV s gs (k + 1) = k ∧ mostV s gs (k + 1) = weightV (gs.getD k []) := by
  have e : longV s gs (k + 1) = k := by
    conv => lhs; unfold longV
    dsimp only
    rw [if_pos]
    rw [h1, Bool.true_and]
    unfold mostV at h2
    by_cases hl : longV s gs k < 0
    · rw [decide_eq_true hl]; rfl
    · rw [if_neg hl] at h2
      rw [decide_eq_true h2, Bool.or_true]
  refine ⟨e, ?_⟩
  unfold mostV
  rw [e, if_neg (by omega)]
  simp
theorem most_lt (s : List UInt8) (gs : List (List UInt8)) (k : Nat) : -1 ≤ mostV s gs k ∧ mostV s gs k ≤ 87 := by
  unfold mostV
  split
  · omega
  · rename_i h
    have h1 := longV_fits s gs k (by omega)
    unfold matchV at h1
    simp only [Bool.and_eq_true] at h1
    have := weight_pos h1.1.1
    have := weight_max (gs.getD (longV s gs k).toNat [])
    omega

theorem quietly {f : FuncId} {args : Array Value} {v : Value} (h : ∀ w, Hid (Calls Tryd.prog f args w (GivesQ v w))) (w : World) (n : Nat) :
    Hid (Calls Tryd.prog f args (w.drewN n) fun e w'' => e = .returned v ∧ ∃ m, w'' = w.drewN m) := hid (Calls.quiet_of (h (w.drewN n)).out)

/-- a slice of texts: its cells -/
def CellsAt (w : World) (B o : Nat) (gs : List (List UInt8)) : Prop := B < w.heap.size ∧ ∀ k, k < gs.length → w.cell? ⟨B, o + k, none⟩ = some (.string ⟨(gs.getD k []).toArray⟩)
theorem CellsAt.below {w w' : World} {B o : Nat} {gs : List (List UInt8)} (h : CellsAt w B o gs) (hb : Below w.heap.size w w') : CellsAt w' B o gs :=
  ⟨Nat.lt_of_lt_of_le h.1 hb.size, fun k hk => by rw [hb.cell h.1]; exact h.2 k hk⟩

set_option maxHeartbeats 2000000 in
theorem longest_any (s : List UInt8) (hs : s.length ≤ 140737488355328) (gs : List (List UInt8)) (hgs : ∀ k, k < gs.length → (gs.getD k []).length ≤ 140737488355328) (hn : gs.length ≤ 140737488355328) (B o c : Nat) (w : World) (hc : CellsAt w B o gs) :
    Calls Tryd.prog 21 #[.string ⟨s.toArray⟩, .slice (some ⟨B, o, none⟩) gs.length c] w (Gives (.int .i64 (longV s gs gs.length)) w) := by
  have HK := fun w => hid (check_any s hs w)
  cases hck : checkV s
  · rw [hck] at HK
    have HV := hid (long_no gs hck gs.length)
    go_enter Tryd.func21, Tryd.ntmps21
    go_wp2_with (first | (go_at_call 13; (with_reducible refine ((HK _).out).mono ?_); rintro e w' ⟨rfl, hb⟩))
    go_ret
    exact gives rfl (int_eq HV.out.symm) hb
  · rw [hck] at HK
    go_enter Tryd.func21, Tryd.ntmps21
    go_wp2_with (first | (go_at_call 13; (with_reducible refine ((HK _).out).mono ?_); rintro e w' ⟨rfl, hb⟩))
    go_loopw [5, 6, 16] (fun a m i wr => ∃ k : Nat, k ≤ gs.length ∧ i = .int .i64 k ∧ a = .int .i64 (longV s gs k) ∧ m = .int .i64 (mostV s gs k) ∧ Below w.heap.size w wr) (fun _ _ i _ => gs.length - (intOf i).toNat)
    case atStart => exact ⟨0, Nat.zero_le _, rfl, rfl, rfl, hb⟩
    case round =>
      obtain ⟨k, hk, rfl, rfl, rfl, hb1⟩ := hrel
      by_cases hlt : k < gs.length
      · have hcell := (hc.below hb1).2 k hlt
        have hbl := (hc.below hb1).1
        have hgl := hgs k hlt
        have HL := fun f : Bool => hid (fun (h : (matchV (gs.getD k []) s && decide (weightV (gs.getD k []) > mostV s gs k)) = f) => h)
        have HM := hid (show matchV (gs.getD k []) s = fitsV (gs.getD k []) s by rw [match_fits, hck]; rfl)
        have K1 := hid (long_keep (s := s) (gs := gs) (k := k))
        have K2 := hid (long_take (s := s) (gs := gs) (k := k))
        have hwm := weight_max (gs.getD k [])
        have hml := most_lt s gs k
        have hll := longV_lt s gs k
        clear HL
        generalize gs.getD k [] = g at *
        have HF := fun w => hid (fits_any g s hgl w)
        have HW := fun w => hid (weight_any g hgl w)
        generalize weightV g = wt at *
        generalize hL : longV s gs k = L at *
        generalize hMo : mostV s gs k = M at *
        generalize hL1 : longV s gs (k + 1) = L1 at *
        generalize hM1 : mostV s gs (k + 1) = M1 at *
        rw [HM.out] at K1 K2
        generalize fitsV g s = f at *
        cases f
        · have E := hid (K1.out rfl)
          have HL1 := hid hL1
          have HM1 := hid hM1
          clear K1 K2 hL hMo hL1 hM1
          go_wp2_with (first | (go_at_call 33; (with_reducible refine ((HF _).out).mono ?_); rintro e w' ⟨rfl, hb2⟩) | (go_at_call 19; (with_reducible refine ((HW _).out).mono ?_); rintro e w' ⟨rfl, hb3⟩))
          go_roundw
          case rel => exact ⟨k + 1, by omega, by go_num, int_eq (by rw [HL1.out, E.out.1]), int_eq (by rw [HM1.out, E.out.2]), below_trans hb1 hb2⟩
          case measure => simp [intOf]; omega
        · by_cases hgt : M < wt
          · have E := hid (K2.out rfl hgt)
            have HL1 := hid hL1
            have HM1 := hid hM1
            clear K1 K2 hL hMo hL1 hM1
            go_wp2_with (first | (go_at_call 33; (with_reducible refine ((HF _).out).mono ?_); rintro e w' ⟨rfl, hb2⟩) | (go_at_call 19; (with_reducible refine ((HW _).out).mono ?_); rintro e w' ⟨rfl, hb3⟩))
            go_roundw
            case rel => exact ⟨k + 1, by omega, by go_num, int_eq (by rw [HL1.out, E.out.1]), int_eq (by rw [HM1.out, E.out.2]), below_trans (below_trans hb1 hb2) hb3⟩
            case measure => simp [intOf]; omega
          · have E := hid (K1.out (by simp; omega))
            have HL1 := hid hL1
            have HM1 := hid hM1
            clear K1 K2 hL hMo hL1 hM1
            go_wp2_with (first | (go_at_call 33; (with_reducible refine ((HF _).out).mono ?_); rintro e w' ⟨rfl, hb2⟩) | (go_at_call 19; (with_reducible refine ((HW _).out).mono ?_); rintro e w' ⟨rfl, hb3⟩))
            go_roundw
            case rel => exact ⟨k + 1, by omega, by go_num, int_eq (by rw [HL1.out, E.out.1]), int_eq (by rw [HM1.out, E.out.2]), below_trans (below_trans hb1 hb2) hb3⟩
            case measure => simp [intOf]; omega
      · have hke : k = gs.length := by omega
        go_wp2_with fail
        go_ret
        exact gives rfl (int_eq (by rw [hke])) hb1

theorem longest_nil (s : List UInt8) (hs : s.length ≤ 140737488355328) (a : Option Addr) (c : Nat) (w : World) :
    Calls Tryd.prog 21 #[.string ⟨s.toArray⟩, .slice a 0 c] w (Gives (.int .i64 (-1)) w) := by
  have HK := fun w => hid (check_any s hs w)
  cases hck : checkV s
  · rw [hck] at HK
    go_enter Tryd.func21, Tryd.ntmps21
    go_wp2_with (first | (go_at_call 13; (with_reducible refine ((HK _).out).mono ?_); rintro e w' ⟨rfl, hb⟩))
    go_ret
    exact gives rfl rfl hb
  · rw [hck] at HK
    go_enter Tryd.func21, Tryd.ntmps21
    go_wp2_with (first | (go_at_call 13; (with_reducible refine ((HK _).out).mono ?_); rintro e w' ⟨rfl, hb⟩))
    go_loopw [5, 6, 16] (fun a m i wr => i = .int .i64 0 ∧ a = .int .i64 (-1) ∧ Below w.heap.size w wr) (fun _ _ i _ => 0)
    case atStart => exact ⟨rfl, rfl, hb⟩
    case round =>
      obtain ⟨rfl, rfl, hb1⟩ := hrel
      go_wp2_with fail
      go_ret
      exact gives rfl rfl hb1

set_option maxHeartbeats 2000000 in
theorem rlongest (s : List UInt8) (hs : s.length ≤ 140737488355328) (gs : List (List UInt8)) (hgs : ∀ k, k < gs.length → (gs.getD k []).length ≤ 140737488355328) (hn : gs.length ≤ 140737488355328) (B o c : Nat) (w : World) (hc : CellsAt w B o gs) :
    Calls Tryd.prog 22 #[.string ⟨s.toArray⟩, .slice (some ⟨B, o, none⟩) gs.length c] w (GivesQ (.int .i64 (longV s gs gs.length)) w) := by
  go_enter Tryd.func22, Tryd.ntmps22
  go_wp2_with fail
  go_loopw [5, 6] (fun a i wr => ∃ k : Nat, k ≤ gs.length ∧ i = .int .i64 k ∧ a = .int .i64 (longV s gs k) ∧ Qt w wr) (fun _ i _ => gs.length - (intOf i).toNat)
  case atStart => exact ⟨0, Nat.zero_le _, rfl, rfl, Qt.refl _⟩
  case round =>
    obtain ⟨k, hk, rfl, rfl, hq⟩ := hrel
    have hb1 := hq.below
    by_cases hlt : k < gs.length
    · have hcB := hc.below hb1
      have hcell := hcB.2 k hlt
      have hbl := hcB.1
      have hgl := hgs k hlt
      have hll := longV_lt s gs k
      have HE := hid (show longV s gs (k + 1) = if matchV (gs.getD k []) s && (decide (longV s gs k < 0) || decide (weightV (gs.getD k []) > weightV (gs.getD (longV s gs k).toNat []))) then (k : Int) else longV s gs k from rfl)
      have HM := quietly fun w => hid (rmatch (gs.getD k []) s hgl hs w)
      have HW := quietly fun w => hid (rweight (gs.getD k []) hgl w)
      by_cases hneg : longV s gs k < 0
      · have hL : longV s gs k = -1 := by omega
        rw [hL] at HE ⊢
        cases hm : matchV (gs.getD k []) s
        · rw [hm] at HM HE
          have HE' := hid (show longV s gs (k + 1) = -1 from HE.out)
          clear HE hL hneg hm hll
          generalize gs.getD k [] = g at *
          go_wp2_with fail
          go_quiet (first | (go_at_call 18; with_reducible exact (HM _ _).out) | (go_at_call 20; with_reducible exact (HW _ _).out))
          go_wp2
          go_roundw
          case rel => exact ⟨k + 1, by omega, by go_num, int_eq (by rw [HE'.out]), hq.drew _⟩
          case measure => simp [intOf]; omega
        · rw [hm] at HM HE
          have HE' := hid (show longV s gs (k + 1) = k from HE.out)
          clear HE hL hneg hm hll
          generalize gs.getD k [] = g at *
          go_wp2_with fail
          go_quiet (first | (go_at_call 18; with_reducible exact (HM _ _).out) | (go_at_call 20; with_reducible exact (HW _ _).out))
          go_wp2
          go_roundw
          case rel => exact ⟨k + 1, by omega, by go_num, int_eq (by rw [HE'.out]), hq.drew _⟩
          case measure => simp [intOf]; omega
      · obtain ⟨j, hj⟩ := Int.eq_ofNat_of_zero_le (Int.not_lt.1 hneg)
        have hjk : j < k := by omega
        rw [hj] at HE ⊢
        rw [decide_eq_false (by omega : ¬ ((j : Int) < 0)), Bool.false_or, Int.toNat_natCast] at HE
        cases hm : matchV (gs.getD k []) s
        · rw [hm] at HM HE
          have HE' := hid (show longV s gs (k + 1) = j from HE.out)
          clear HE hj hneg hm hll
          generalize gs.getD k [] = g at *
          go_wp2_with fail
          go_quiet (first | (go_at_call 18; with_reducible exact (HM _ _).out) | (go_at_call 20; with_reducible exact (HW _ _).out))
          go_wp2
          go_roundw
          case rel => exact ⟨k + 1, by omega, by go_num, int_eq (by rw [HE'.out]), hq.drew _⟩
          case measure => simp [intOf]; omega
        · rw [hm, Bool.true_and] at HE
          rw [hm] at HM
          have hcellj := hcB.2 j (by omega)
          have HW2 := quietly fun w => hid (rweight (gs.getD j []) (hgs j (by omega)) w)
          have hjl : j < gs.length := by omega
          have hnj : ¬ ((j : Int) < 0) := by omega
          by_cases hgt : weightV (gs.getD j []) < weightV (gs.getD k [])
          · have HE' := hid (show longV s gs (k + 1) = k by rw [HE.out, decide_eq_true hgt]; rfl)
            clear HE hj hneg hm hll
            generalize gs.getD k [] = g at *
            generalize gs.getD j [] = g2 at *
            generalize weightV g = wt at *
            generalize weightV g2 = wt2 at *
            go_wp2_with fail
            go_quiet (first | (go_at_call 18; with_reducible exact (HM _ _).out) | (go_at_call 20; with_reducible exact (HW _ _).out) | (go_at_call 20; with_reducible exact (HW2 _ _).out))
            go_wp2
            go_roundw
            case rel => exact ⟨k + 1, by omega, by go_num, int_eq (by rw [HE'.out]), hq.drew _⟩
            case measure => simp [intOf]; omega
          · have HE' := hid (show longV s gs (k + 1) = j by rw [HE.out, decide_eq_false hgt]; rfl)
            clear HE hj hneg hm hll
            generalize gs.getD k [] = g at *
            generalize gs.getD j [] = g2 at *
            generalize weightV g = wt at *
            generalize weightV g2 = wt2 at *
            go_wp2_with fail
            go_quiet (first | (go_at_call 18; with_reducible exact (HM _ _).out) | (go_at_call 20; with_reducible exact (HW _ _).out) | (go_at_call 20; with_reducible exact (HW2 _ _).out))
            go_wp2
            go_roundw
            case rel => exact ⟨k + 1, by omega, by go_num, int_eq (by rw [HE'.out]), hq.drew _⟩
            case measure => simp [intOf]; omega
    · have hke : k = gs.length := by omega
      go_wp2_with fail
      go_ret
      exact givesQ rfl (int_eq (by rw [hke])) hq

theorem rlongest_nil (s : List UInt8) (a : Option Addr) (c : Nat) (w : World) :
    Calls Tryd.prog 22 #[.string ⟨s.toArray⟩, .slice a 0 c] w (GivesQ (.int .i64 (-1)) w) := by
  go_enter Tryd.func22, Tryd.ntmps22
  go_wp2_with fail
  go_loopw [5, 6] (fun a i wr => i = .int .i64 0 ∧ a = .int .i64 (-1) ∧ Qt w wr) (fun _ i _ => 0)
  case atStart => exact ⟨rfl, rfl, Qt.refl _⟩
  case round =>
    obtain ⟨rfl, rfl, hq⟩ := hrel
    go_wp2_with fail
    go_ret
    exact givesQ rfl rfl hq
end Go.Proofs.YtnmmahipbjigpaaDoor.Nm
