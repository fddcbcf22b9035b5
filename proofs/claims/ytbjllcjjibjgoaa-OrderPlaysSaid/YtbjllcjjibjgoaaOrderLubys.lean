/-
  LAYER 13: the document's row; the law OrderLubys walked.
-/
import Derived.Test.YtbjllcjjibjgoaaOrderTurns
import Derived.OwnWalk
import Derived.Laws.OwnMore
namespace Go.Proofs.Ytbjllcjjibjgoaa.Hp
open Go.RowKit Go.Proofs.Ytbjllcjjibjgoaa.Ln

def natsV (l : List Nat) : List Value := l.map natV
theorem natsV_one (l : List Nat) : ∀ u ∈ natsV l, u.oneCell' = true := by
  intro u hu
  obtain ⟨x, _, rfl⟩ := List.mem_map.1 hu
  rfl
theorem row_small {k : Nat} (h : k ≤ 10) : 2 ^ k ≤ 1024 := Nat.le_trans (Nat.pow_le_pow_right (by decide) h) (by decide)

/-- what the document's row comes to: its first n numbers, in a block of their own -/
def RowN (n : Nat) (w : World) (e : Ending) (w' : World) : Prop :=
  ∃ a c, e = .returned (.slice a n c) ∧ Below w.heap.size w w' ∧ (0 < n → ∃ g, a = some ⟨g, 0, none⟩ ∧ g < w'.heap.size ∧ ∀ i, i < n → w'.cell? ⟨g, i, none⟩ = some (.int .i64 (luby (i + 1) : Nat)))

set_option maxHeartbeats 2000000 in
theorem refLuby_any (n : Nat) (hn : n ≤ 599) (w : World) :
    Calls Try.prog 22 #[.int .i64 (n : Int)] w (RowN n w) := by
  obtain ⟨i0, q1, q2, q3, q4⟩ := info_parts infoI
  have hi := hid q1
  have hz0 := hid q2
  have hz1 := hid q3
  have hz2 := hid q4
  clear q1 q2 q3 q4
  have han : ∀ W, (Builtin.append_ #[34, 34] 34 #[.slice none 0 0, .slice none 0 0]).run Try.prog W = .ok (.slice none 0 0) W := fun W => run_append_owned_none W 0 _ _ 3 i0 1 Try.underlying34 hi.out _ 0 [] (World.ownsRow_nil _ _ _ _)
  go_enter Try.func22, Try.ntmps22
  go_wp2_with fail
  go_loopw [3, 4] (fun v p wr => ∃ k : Nat, ∃ P L : Nat, k ≤ 10 ∧ p = .int .i64 (P : Int) ∧ Hid (P = 2 ^ k) ∧ Hid (L = (row k).length) ∧ wr.ownsRow w.heap.size 3 1 v L (natsV (row k)) ∧ Below w.heap.size w wr ∧ (k = 0 → v = .slice none 0 0)) (fun _ p _ => 1025 - (intOf p).toNat)
  case atStart => exact ⟨0, 1, 0, by omega, rfl, hid rfl, hid rfl, World.ownsRow_nil _ _ _ _, Below.refl _ _, fun _ => rfl⟩
  case round =>
    obtain ⟨k, P, L, hk, rfl, HP, HL, hown, hbl, hnil⟩ := hrel
    have hP : 1 ≤ P ∧ P ≤ 1024 ∧ L = P - 1 := by
      have h1 := Nat.two_pow_pos k
      have h2 := row_small hk
      have h3 := row_len k
      have := HP.out; have := HL.out
      omega
    obtain ⟨p1, p2, p3⟩ := hP
    have HL3 := hid p3
    clear p3
    by_cases hlt : L < n
    · have hk9 : k ≤ 9 := by
        by_cases h : k = 10
        · exfalso
          have h1 := HP.out
          rw [h] at h1
          have h2 : (2 : Nat) ^ 10 = 1024 := by decide
          have := HL3.out
          omega
        · omega
      have hP512 : P ≤ 512 := by
        have h1 := HP.out
        have : 2 ^ k ≤ 2 ^ 9 := Nat.pow_le_pow_right (by decide) hk9
        have h2 : (2 : Nat) ^ 9 = 512 := by decide
        omega
      obtain ⟨va, vc, rfl⟩ := own_shape hown
      by_cases h0 : k = 0
      · subst h0
        have hv := hnil rfl
        have hL : L = 0 := HL.out
        subst hL
        rw [hv] at hown ⊢
        clear hnil hv
        have hsz2 := hbl.size
        have hP1 : P = 1 := HP.out
        subst hP1
        go_wp2_with (at_builtin; refine wpList_append_own _ rfl (.tmp 14) (.tmp 16) 34 rfl w.heap.size 3 i0 (.int .i64 0) 1 8 Try.underlying34 hi.out hz0.out hz1.out hz2.out rfl (by decide) _ _ _ rfl (hown.alloc _) ⟨wr.heap.size, 0, none⟩ 1 1 [.int .i64 1] rfl rfl ?c1 ?c2 ?c3 ?c4 ?c5 ?_)
        try (case c1 => exact cell_one_new _ _ _)
        try (case c2 => first | rfl | (intro u hu; simp at hu; subst hu; rfl))
        try (case c3 => unfold maxLen; omega)
        try (case c4 => omega)
        try (case c5 => first | omega | (simp; omega))
        intro v' w2 hown2 hgrow _
        have hb2 : Below w.heap.size w w2 := (hbl.alloc (by omega) _).grown hgrow (by simp; omega) (fun k hk => (hown.lt k hk).1)
        clear hgrow hown hbl
        go_wp2
        go_roundw
        case rel => exact ⟨1, 2, 1, by omega, rfl, hid rfl, hid rfl, hown2, hb2, fun h => by omega⟩
        case measure => simp [intOf]
      · have hcells := ownsRow_one hown
        have hLpos : 1 ≤ L := by
          have h1 := HP.out
          have : 2 ^ 1 ≤ 2 ^ k := Nat.pow_le_pow_right (by decide) (by omega)
          have := HL3.out
          omega
        rcases hcells with ⟨_, h, _⟩ | ⟨g, cc, hv, hg1, hg2, hc1, hc2, hcell⟩
        · omega
        simp only [Value.slice.injEq] at hv
        obtain ⟨rfl, _, rfl⟩ := hv
        have HCELL := hid hcell
        have hln : (natsV (row k)).length = L * 1 := by rw [Nat.mul_one]; simpa [natsV] using HL.out.symm
        have hln := hid hln
        have hsz2 := hbl.size
        have H0 := hid h0
        have hL511 : L ≤ 511 := by have := HL3.out; omega
        clear hcell hnil h0
        go_wp2_with (at_builtin; refine wpList_append_own _ rfl (.tmp 11) (.tmp 12) 34 rfl w.heap.size 3 i0 (.int .i64 0) 1 8 Try.underlying34 hi.out hz0.out hz1.out hz2.out rfl (by decide) _ _ _ rfl hown ⟨g, 0, none⟩ L vc (natsV (row k)) rfl hln.out ?d1 (natsV_one _) ?d3 ?d4 ?d5 ?_)
        case d1 => intro j u hj; rw [addr_add, Nat.zero_add]; exact HCELL.out j u hj
        case d3 => unfold maxLen; omega
        case d4 => omega
        case d5 => omega
        intro v1 w1 hown1 hgrow1 _
        have hb1 : Below w.heap.size w w1 := hbl.grown hgrow1 (by omega) (fun k hk => (hown.lt k hk).1)
        have hsz1 := hb1.size
        clear hgrow1 hown hbl
        go_wp2_with (at_builtin; refine wpList_append_own _ rfl (.tmp 14) (.tmp 16) 34 rfl w.heap.size 3 i0 (.int .i64 0) 1 8 Try.underlying34 hi.out hz0.out hz1.out hz2.out rfl (by decide) _ _ _ rfl (hown1.alloc _) ⟨w1.heap.size, 0, none⟩ 1 1 [.int .i64 (P : Int)] rfl rfl ?e1 ?e2 ?e3 ?e4 ?e5 ?_)
        case e1 => exact cell_one_new _ _ _
        case e2 => intro u hu; simp at hu; subst hu; rfl
        case e3 => unfold maxLen; omega
        case e4 => omega
        case e5 => simp; omega
        intro v' w2 hown2 hgrow _
        have hb2 : Below w.heap.size w w2 := (hb1.alloc (by omega) _).grown hgrow (by simp; omega) (fun k hk => (hown1.lt k hk).1)
        clear hgrow hown1 hb1
        go_wp2
        go_roundw
        case rel =>
          refine ⟨k + 1, P * 2, L + L + 1, by omega, by go_num, hid (by rw [HP.out, Nat.pow_succ]), hid ?_, ?_, hb2, fun h => by omega⟩
          · simp [row, HL.out]; omega
          · have e : natsV (row (k + 1)) = natsV (row k) ++ (natsV (row k) ++ [.int .i64 (P : Int)]) := by
              simp [natsV, row, natV, HP.out]
            rw [e]; exact hown2
        case measure => simp [intOf]; omega
    · have hlen := HL.out
      have hgk : ∀ i, i < L → (row k).getD i 0 = luby (i + 1) := fun i hi => row_get k i (by rw [← row_len k, ← hlen]; exact hi)
      obtain ⟨va, vc, rfl⟩ := own_shape hown
      have hLc : L ≤ vc := by
        rcases ownsRow_one hown with ⟨h1, h2, _⟩ | ⟨g, cc, hv, _, _, hc1, _, _⟩
        · omega
        · simp only [Value.slice.injEq] at hv; omega
      have hcells := ownsRow_one hown
      have HH := hid (And.intro hlen (And.intro hgk (And.intro hcells hbl)))
      clear hlen hgk hown hbl hnil hcells
      go_wp2_with fail
      go_ret
      refine ⟨va, vc, rfl, HH.out.2.2.2, fun hpos => ?_⟩
      rcases HH.out.2.2.1 with ⟨h1, h2, _⟩ | ⟨g, cc, hv, _, hg, hc1, _, hcell⟩
      · omega
      · simp only [Value.slice.injEq] at hv
        refine ⟨g, hv.1, hg, fun i hi => hcell i _ ?_⟩
        have hl := HH.out.1
        have := HH.out.2.1 i (by omega)
        simp only [natsV, natV, List.getElem?_map, List.getElem?_eq_getElem (show i < (row k).length by omega), Option.map_some]
        rw [← this, List.getD_eq_getElem?_getD, List.getElem?_eq_getElem (show i < (row k).length by omega)]; rfl

theorem mod_nat (k m : Int) (hm : 1 ≤ m) (hm2 : m ≤ 1099511627776) : ∃ K : Nat, wrap64 ((IntKind.u64.wrap k).tmod m) = (K : Int) ∧ (K : Int) < m := by
  have h0 : 0 ≤ IntKind.u64.wrap k := by rw [IntKind.wrap_u64]; omega
  generalize IntKind.u64.wrap k = x at *
  rw [Int.tmod_eq_emod_of_nonneg h0]
  have h1 := Int.emod_nonneg x (show m ≠ 0 by omega)
  have h2 := Int.emod_lt_of_pos x (show 0 < m by omega)
  generalize x % m = y at *
  rw [wrap_in y (by omega) (by omega)]
  exact ⟨y.toNat, by omega, by omega⟩

set_option maxHeartbeats 2000000 in
theorem law_lubys (k below : Int) (w : World) :
    Calls Try.prog 5 #[.int .i64 k, .int .i64 below] w fun e w' => e = .returned (.bool true) ∧ Below w.heap.size w w' := by
  obtain ⟨n, hn, hn6⟩ := mod_nat k 600 (by decide) (by decide)
  have RL := hid (refLuby_any n (by omega) w)
  go_enter Try.func5, Try.ntmps5
  go_wp2_with fail
  simp only [hn]
  refine RL.out.mono ?_
  rintro e w1 ⟨a, c, rfl, hb, hrow⟩
  have HB := hid hb
  have HR := hid hrow
  clear hb hrow RL hn
  go_wp2_with fail
  go_loopw [6] (fun u wr => ∃ i : Nat, u = .int .i64 (i : Int) ∧ i ≤ n ∧ Hid (Drawn w1 wr)) (fun u _ => n - (intOf u).toNat)
  case atStart => exact ⟨0, rfl, by omega, hid (Drawn.refl _)⟩
  case round =>
    obtain ⟨i, rfl, hi, HD⟩ := hrel
    have hbl := HB.out.trans (HD.out.below.mono HB.out.size)
    have HBL := hid hbl
    by_cases hlt : i < n
    · obtain ⟨g, rfl, hg, hcell⟩ := HR.out (by omega)
      have hc1 : wr.cell? ⟨g, i, none⟩ = some (.int .i64 (luby (i + 1) : Nat)) := (HD.out.below.cell (p := ⟨g, i, none⟩) hg).trans (hcell i hlt)
      have hwr : IntKind.i64.wrap ((i : Int) + 1) = (i : Int) + 1 := IntWalk.i64_in _ (by omega)
      have HL := fun z => hid (show Calls Try.prog 23 #[.int .i64 ((i : Int) + 1)] (wr.drewN z) fun e w' => e = .returned (.int .i64 (luby (i + 1) : Nat)) ∧ w' = wr.drewN z by
        have := luby_any (i + 1) (by omega) (wr.drewN z)
        rw [show ((i + 1 : Nat) : Int) = (i : Int) + 1 by omega] at this
        exact this.mono (fun _ _ h => ⟨h.1, h.2.symm⟩))
      clear hcell hbl
      generalize luby (i + 1) = x at *
      go_wp2_with fail
      go_quiet ((go_at_call 23; exact Calls.quiet_of_same (HL _).out))
      go_wp2_with fail
      go_roundw
      case rel => exact ⟨i + 1, by go_num, by omega, hid (HD.out.more _)⟩
      case measure => simp [intOf]; omega
    · clear hbl HR
      by_cases hb0 : 0 < below
      · have hd : decide (0 < below) = true := decide_eq_true hb0
        go_wp2_with fail
        refine (popped_any _).mono ?_
        rintro e w2 ⟨rfl, hb2⟩
        have HB2 := hid (HBL.out.trans (hb2.mono HBL.out.size))
        clear hb2
        go_wp2_with fail
        go_ret
        exact ⟨rfl, HB2.out⟩
      · have hd : decide (0 < below) = false := decide_eq_false hb0
        have hle : below ≤ 0 := by omega
        go_wp2_with fail
        refine (popped_any _).mono ?_
        rintro e w2 ⟨rfl, hb2⟩
        have HB2 := hid (HBL.out.trans (hb2.mono HBL.out.size))
        clear hb2
        go_wp2_with (go_at_call 23; (with_reducible refine (luby_nil _ hle _).mono ?_); rintro e w' ⟨rfl, rfl⟩)
        go_ret
        exact ⟨rfl, HB2.out⟩
end Go.Proofs.Ytbjllcjjibjgoaa.Hp
