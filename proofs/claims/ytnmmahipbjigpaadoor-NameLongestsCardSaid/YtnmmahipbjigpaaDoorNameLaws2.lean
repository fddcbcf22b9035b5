/-
  LAYER 5: the law of many patterns; the law of a name's fronts.
-/
import Derived.Test.YtnmmahipbjigpaaDoorNameLaws
namespace Go.Proofs.YtnmmahipbjigpaaDoor.Nm
open Go.RowKit

set_option maxHeartbeats 4000000 in
theorem law_longests (l : List UInt8) (hl : l.length ≤ 140737488355328) (gs : List (List UInt8)) (hn : gs.length ≤ 140737488355328) (B o c : Nat) (w : World) (hc : CellsAt w B o gs) :
    Calls Tryd.prog 5 #[.string ⟨l.toArray⟩, .slice (some ⟨B, o, none⟩) gs.length c] w (LawOk w) := by
  have HN := fun w => hid (named_any w)
  by_cases h500 : (100 : Int) < (l.length : Int)
  · go_enter Tryd.func5, Tryd.ntmps5
    go_wp2_with (first | (go_at_call 8; (with_reducible refine ((HN _).out).mono ?_); rintro e w' ⟨rfl, hb1⟩))
    go_ret
    exact ⟨rfl, hb1⟩
  by_cases h501 : (40 : Int) < (gs.length : Int)
  · go_enter Tryd.func5, Tryd.ntmps5
    go_wp2_with (first | (go_at_call 8; (with_reducible refine ((HN _).out).mono ?_); rintro e w' ⟨rfl, hb1⟩))
    go_ret
    exact ⟨rfl, hb1⟩
  have C1 := fun hgs w h => hid (longest_any l hl gs hgs hn B o c w h)
  have R1 := fun hgs w h => hid (loud (rlongest l hl gs hgs hn B o c w h))
  generalize longV l gs gs.length = p at C1 R1
  go_enter Tryd.func5, Tryd.ntmps5
  go_wp2_with fail
  go_loop [5] (fun v => ∃ k : Nat, k ≤ gs.length ∧ v = .int .i64 k ∧ Hid (∀ j, j < k → (gs.getD j []).length ≤ 140737488355328)) (fun v => gs.length - (intOf v).toNat)
  case atStart => exact ⟨0, Nat.zero_le _, rfl, hid (fun j h => absurd h (Nat.not_lt_zero j))⟩
  case round =>
    obtain ⟨k, hk, rfl, hall⟩ := hrel
    by_cases hlt : k < gs.length
    · have hcell := hc.2 k hlt
      have hbl := hc.1
      have HX := hid (fun (h : (gs.getD k []).length ≤ 140737488355328) (j : Nat) (hj : j < k + 1) => (show (gs.getD j []).length ≤ 140737488355328 from by
        rcases Nat.lt_or_ge j k with h' | h'
        · exact hall.out j h'
        · rw [show j = k from by omega]; exact h))
      generalize gs.getD k [] = g at hcell HX
      by_cases h100 : (100 : Int) < (g.length : Int)
      · go_wp2_with (first | (go_at_call 8; (with_reducible refine ((HN _).out).mono ?_); rintro e w' ⟨rfl, hb1⟩))
        go_ret
        exact ⟨rfl, hb1⟩
      · go_wp2_with fail
        go_round
        case rel => exact ⟨k + 1, by omega, by go_num, hid (HX.out (by omega))⟩
        case measure => simp [intOf]; omega
    · have hgs : ∀ k, k < gs.length → (gs.getD k []).length ≤ 140737488355328 := fun j hj => hall.out j (by omega)
      have C1 := C1 hgs
      have R1 := R1 hgs
      clear hgs
      go_wp2_with (first | (go_at_call 8; (with_reducible refine ((HN _).out).mono ?_); rintro e w' ⟨rfl, hb1⟩))
      refine (C1 _ (hc.below hb1)).out.mono ?_
      rintro e w2 ⟨rfl, hb2⟩
      go_wp2_with fail
      refine (R1 _ (hc.below (below_trans hb1 hb2))).out.mono ?_
      rintro e w3 ⟨rfl, hb3⟩
      go_wp2
      go_ret
      exact ⟨rfl, below_trans (below_trans hb1 hb2) hb3⟩

theorem law_longests_nil (l : List UInt8) (hl : l.length ≤ 140737488355328) (a : Option Addr) (c : Nat) (w : World) :
    Calls Tryd.prog 5 #[.string ⟨l.toArray⟩, .slice a 0 c] w (LawOk w) := by
  have HN := fun w => hid (named_any w)
  by_cases h500 : (100 : Int) < (l.length : Int)
  · go_enter Tryd.func5, Tryd.ntmps5
    go_wp2_with (first | (go_at_call 8; (with_reducible refine ((HN _).out).mono ?_); rintro e w' ⟨rfl, hb1⟩))
    go_ret
    exact ⟨rfl, hb1⟩
  have C1 := fun w => hid (longest_nil l hl a c w)
  have R1 := fun w => hid (loud (rlongest_nil l a c w))
  go_enter Tryd.func5, Tryd.ntmps5
  go_wp2_with fail
  go_loop [5] (fun v => v = .int .i64 0) (fun v => 0)
  case atStart => rfl
  case round =>
    subst hrel
    go_wp2_with (first | (go_at_call 8; (with_reducible refine ((HN _).out).mono ?_); rintro e w' ⟨rfl, hb1⟩) | (go_at_call 21; (with_reducible refine ((C1 _).out).mono ?_); rintro e w' ⟨rfl, hb2⟩) | (go_at_call 22; (with_reducible refine ((R1 _).out).mono ?_); rintro e w' ⟨rfl, hb3⟩))
    go_ret
    exact ⟨rfl, below_trans (below_trans hb1 hb2) hb3⟩

theorem mod_fact (n : Int) (L : Nat) (h : L ≤ 140737488355328) : ∃ m : Nat, wrap64 ((IntKind.u64.wrap n).tmod ((L : Int) + 1)) = (m : Int) ∧ m ≤ L := by
  have h0 : 0 ≤ IntKind.u64.wrap n := by
    unfold IntKind.wrap; simp [IntKind.signed, IntKind.bits]; omega
  generalize IntKind.u64.wrap n = x at h0
  rw [Int.tmod_eq_emod_of_nonneg h0]
  have h1 := Int.emod_nonneg x (by omega : ((L : Int) + 1) ≠ 0)
  have h2 := Int.emod_lt_of_pos x (by omega : 0 < ((L : Int) + 1))
  refine ⟨(x % ((L : Int) + 1)).toNat, ?_, by omega⟩
  unfold wrap64
  omega

set_option maxHeartbeats 4000000 in
theorem law_fronts (l : List UInt8) (hl : l.length ≤ 140737488355328) (n : Int) (w : World) :
    Calls Tryd.prog 7 #[.string ⟨l.toArray⟩, .int .i64 n] w (LawOk w) := by
  have HN := fun w => hid (named_any w)
  have RC := fun w => hid (loud (rcheck l hl w))
  cases hc : checkV l
  · rw [hc] at RC
    go_enter Tryd.func7, Tryd.ntmps7
    go_wp2_with (first | (go_at_call 8; (with_reducible refine ((HN _).out).mono ?_); rintro e w' ⟨rfl, hb1⟩) | (go_at_call 14; (with_reducible refine ((RC _).out).mono ?_); rintro e w' ⟨rfl, hb2⟩))
    go_ret
    refine ⟨rfl, below_trans (below_trans (by assumption) hb2) hb1⟩
  · rw [hc] at RC
    have hlen := check_len hc
    obtain ⟨m, hm, hml⟩ := mod_fact n l.length hl
    have x1 := take_ext l m
    have k1 : (⟨(l.take m).toArray⟩ : ByteArray) ++ ⟨#[42]⟩ = ⟨(l.take m ++ [42]).toArray⟩ := bytes_append _ _
    have hgl : (l.take m ++ [42]).length ≤ 140737488355328 := by rw [List.length_append, List.length_take]; simp; omega
    have M1 := fun w => hid (match_any (l.take m ++ [42]) l hgl hl w)
    have G1 := fun w => hid (glob_any (l.take m ++ [42]) hgl w)
    rw [match_front hc] at M1
    generalize globV (l.take m ++ [42]) = gg at M1 G1
    generalize l.take m ++ [42] = G at k1 M1 G1
    have hT : (l.take m).length ≤ 42 := by rw [List.length_take]; omega
    generalize l.take m = T at k1 x1 hT
    have M2 := fun w => hid (match_any l l hl hl w)
    rw [match_self hc] at M2
    have M3 := fun w => hid (show Calls Tryd.prog 17 #[.string ⟨#[42]⟩, .string ⟨l.toArray⟩] w (Gives (.bool (matchV [42] l)) w) from match_any [42] l (by decide) hl w)
    rw [match_all hc] at M3
    have S1 := fun w => hid (show Calls Tryd.prog 9 #[.string ⟨l.toArray⟩] w (Gives (.tuple #[.string ⟨(scopeV l).toArray⟩, .string ⟨(restV l).toArray⟩]) w) from split_any l hl w)
    cases hs : scp l
    · have e1 : scopeV l = [] := by unfold scopeV; rw [hs]; rfl
      have e2 := rest_no hs
      have P1 := fun w => hid (plain_any l hl w)
      rw [show plain l = true by unfold checkV at hc; rw [hs] at hc; exact hc] at P1
      rw [e1, e2] at S1
      clear hc hgl e1 e2 hs
      go_enter Tryd.func7, Tryd.ntmps7
      go_wp2_with (first | (go_at_call 8; (with_reducible refine ((HN _).out).mono ?_); rintro e w' ⟨rfl, hb1⟩) | (go_at_call 14; (with_reducible refine ((RC _).out).mono ?_); rintro e w' ⟨rfl, hb2⟩) | (go_at_call 17; (with_reducible refine ((M1 _).out).mono ?_); rintro e w' ⟨rfl, hb3⟩) | (go_at_call 15; (with_reducible refine ((G1 _).out).mono ?_); rintro e w' ⟨rfl, hb4⟩) | (go_at_call 17; (with_reducible refine ((M2 _).out).mono ?_); rintro e w' ⟨rfl, hb5⟩) | (go_at_call 17; (with_reducible refine ((M3 _).out).mono ?_); rintro e w' ⟨rfl, hb6⟩) | (go_at_call 9; (with_reducible refine ((S1 _).out).mono ?_); rintro e w' ⟨rfl, hb7⟩) | (go_at_call 11; (with_reducible refine ((P1 _).out).mono ?_); rintro e w' ⟨rfl, hb8⟩))
      go_ret
      refine ⟨rfl, ?_⟩
      repeat (first | assumption | refine below_trans ?_ (by assumption))
    · have MS := fun h w => hid (match_any (64 :: (scopeV l ++ [47, 42])) l h hl w)
      rw [match_scope hc hs] at MS
      obtain ⟨h1, _, _⟩ := scp_split hs
      have hc' := hc
      rw [check_ref] at hc'
      have hc2 := hc
      unfold checkV at hc2
      rw [if_pos hs, Bool.and_eq_true] at hc2
      have ea : scopeV l = (fore 47 l).drop 1 := by unfold scopeV; rw [if_pos hs]
      have eb : restV l = aft 47 l := by unfold restV; rw [if_pos hs]
      rw [← ea, ← eb] at h1 hc2
      have la := scope_len l
      have lb := rest_len l
      have M4 := MS (by simp; omega)
      have P1 := fun w => hid (plain_any (scopeV l) (by omega) w)
      have P2 := fun w => hid (plain_any (restV l) (by omega) w)
      rw [hc2.1] at P1
      rw [hc2.2] at P2
      have hne := plain_ne hc2.1
      clear MS hc' ea eb hc2 hc hs la lb hgl
      generalize scopeV l = A at *
      generalize restV l = B at *
      have hae : A.isEmpty = false := by cases A with | nil => exact absurd rfl hne | cons _ _ => rfl
      have c1 : (⟨#[64]⟩ : ByteArray) ++ ⟨A.toArray⟩ = ⟨(64 :: A).toArray⟩ := bytes_append [64] A
      have c2 : (⟨(64 :: A).toArray⟩ : ByteArray) ++ ⟨#[47]⟩ = ⟨(64 :: A ++ [47]).toArray⟩ := bytes_append _ [47]
      have c3 : (⟨(64 :: A ++ [47]).toArray⟩ : ByteArray) ++ ⟨B.toArray⟩ = ⟨l.toArray⟩ := by rw [bytes_append, h1]; simp
      have c4 : (⟨(64 :: A).toArray⟩ : ByteArray) ++ ⟨#[47, 42]⟩ = ⟨(64 :: (A ++ [47, 42])).toArray⟩ := bytes_append (64 :: A) [47, 42]
      have hA : A.length ≤ 42 := by have := congrArg List.length h1; simp at this; omega
      have hB : B.length ≤ 42 := by have := congrArg List.length h1; simp at this; omega
      have hP : (64 :: A).length ≤ 43 := by simp; omega
      have hQ : (64 :: A ++ [47]).length ≤ 44 := by simp; omega
      generalize 64 :: (A ++ [47, 42]) = R at c4 M4
      generalize 64 :: A ++ [47] = Q at c2 c3 hQ
      generalize 64 :: A = P at c1 c2 c4 hP
      clear h1 hne
      go_enter Tryd.func7, Tryd.ntmps7
      go_wp2_with (first | (go_at_call 8; (with_reducible refine ((HN _).out).mono ?_); rintro e w' ⟨rfl, hb1⟩) | (go_at_call 14; (with_reducible refine ((RC _).out).mono ?_); rintro e w' ⟨rfl, hb2⟩) | (go_at_call 17; (with_reducible refine ((M1 _).out).mono ?_); rintro e w' ⟨rfl, hb3⟩) | (go_at_call 15; (with_reducible refine ((G1 _).out).mono ?_); rintro e w' ⟨rfl, hb4⟩) | (go_at_call 17; (with_reducible refine ((M2 _).out).mono ?_); rintro e w' ⟨rfl, hb5⟩) | (go_at_call 17; (with_reducible refine ((M3 _).out).mono ?_); rintro e w' ⟨rfl, hb6⟩) | (go_at_call 9; (with_reducible refine ((S1 _).out).mono ?_); rintro e w' ⟨rfl, hb7⟩) | (go_at_call 11; (with_reducible refine ((P1 _).out).mono ?_); rintro e w' ⟨rfl, hb8⟩) | (go_at_call 11; (with_reducible refine ((P2 _).out).mono ?_); rintro e w' ⟨rfl, hb9⟩) | (go_at_call 17; (with_reducible refine ((M4 _).out).mono ?_); rintro e w' ⟨rfl, hb10⟩))
      go_ret
      refine ⟨rfl, ?_⟩
      repeat (first | assumption | refine below_trans ?_ (by assumption))
end Go.Proofs.YtnmmahipbjigpaaDoor.Nm
