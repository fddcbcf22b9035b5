/-
  TEXTS IN A SLICE: is one among them? (the document's In; slices.Index and slices.Contains at texts)
-/
import Derived.Test.YtmeaajhongalaaaGreatDoorIB
import Derived.Test.YtmeaajhongalaaaGreatDoorFoot
namespace Go.Proofs.YtmeaajhongalaaaGreatDoor
open Go.RowKit Go.Proofs.YtmeaajhongalaaaGreatDoor.Ln

theorem contains_take {ws : List (List UInt8)} {x : List UInt8} {k : Nat} (h : ∀ j, j < k → ∀ hj : j < ws.length, ws[j] ≠ x) (hk : k < ws.length) (hx : ws[k] ≠ x) : ∀ j, j < k + 1 → ∀ hj : j < ws.length, ws[j] ≠ x := by
  intro j hj hl
  rcases Nat.lt_or_ge j k with h1 | h1
  · exact h j h1 hl
  · have : j = k := by omega
    subst this; exact hx
theorem contains_no {ws : List (List UInt8)} {x : List UInt8} (h : ∀ j, j < ws.length → ∀ hj : j < ws.length, ws[j] ≠ x) : ws.contains x = false := by
  cases hc : ws.contains x with
  | false => rfl
  | true =>
    exfalso
    have hm : x ∈ ws := by simpa using hc
    obtain ⟨j, hj, e⟩ := List.getElem_of_mem hm
    exact h j hj hj e
theorem contains_yes {ws : List (List UInt8)} {x : List UInt8} {k : Nat} (hk : k < ws.length) (hx : ws[k] = x) : ws.contains x = true := by
  have hm : x ∈ ws := by rw [← hx]; exact List.getElem_mem hk
  simpa using hm

/-- a row of texts that the call owns -/
theorem StrsF.of_owns {w : World} {base : Nat} {e : TypeId} {v : Value} {ss : List (List UInt8)} (h : w.ownsRow base e 1 v ss.length (strs ss)) : StrsF (fun b => base ≤ b) w v ss := by
  rcases ownsRow_one h with ⟨hv, h0, _⟩ | ⟨g, c, hv, hg, hl, h1, h2, hc⟩
  · have := List.eq_nil_of_length_eq_zero h0
    subst this
    rw [hv]; exact StrsF.nil _ _
  · exact ⟨_, c, hv, h1, h2, fun _ => ⟨g, rfl, hl, hg, fun k hk => hc k _ (word_get hk)⟩⟩
theorem StrsF.row {F : Nat → Prop} {w : World} {v : Value} {ss : List (List UInt8)} (h : StrsF F w v ss) : RowIs w v (strs ss) := by
  obtain ⟨a, cp, rfl, _, _, h4⟩ := h
  by_cases hne : ss = []
  · subst hne; exact .inl ⟨rfl, _, _, rfl⟩
  · obtain ⟨B, rfl, _, _, hc⟩ := h4 hne
    right
    refine ⟨B, 0, cp, by simp [strs], fun k x hk => ?_⟩
    have hkl : k < ss.length := by have := (List.getElem?_eq_some_iff.1 hk).1; simpa [strs] using this
    rw [word_get hkl] at hk
    cases hk
    rw [Nat.zero_add]; exact hc k hkl

set_option maxHeartbeats 1000000 in
theorem in_any (ws : List (List UInt8)) (hl : ws.length ≤ 1099511627776) (x : List UInt8) (v : Value) (w : World) (h : RowIs w v (strs ws)) :
    Calls Tryz.prog 67 #[v, .string ⟨x.toArray⟩] w fun e w' => e = .returned (.bool (ws.contains x)) ∧ w = w' := by
  have hsl : (strs ws).length = ws.length := by simp [strs]
  rcases h with ⟨h0, a, c, rfl⟩ | ⟨g, o, c, rfl, hc⟩
  · have hz : ws = [] := List.eq_nil_of_length_eq_zero (by rw [← hsl, h0]; rfl)
    subst hz
    clear hsl h0 hl
    go_enter Tryz.func67, Tryz.ntmps67
    go_wp2
    go_rounds 1
    go_ret
    exact ⟨rfl, rfl⟩
  · have HC := hid (fun k (hk : k < ws.length) => hc k _ (word_get hk))
    have HY := hid (fun k (hk : k < ws.length) (e : ws[k] = x) => contains_yes hk e)
    have HNO := hid (contains_no (ws := ws) (x := x))
    rw [hsl]
    clear hsl hc
    generalize ws.contains x = b at HY HNO ⊢
    obtain ⟨n, hn⟩ : ∃ n, ws.length = n := ⟨_, rfl⟩
    rw [hn] at hl ⊢
    have HN := hid hn
    clear hn
    go_enter Tryz.func67, Tryz.ntmps67
    go_wp2_with fail
    go_loop [5] (fun v => ∃ k : Nat, k ≤ n ∧ v = .int .i64 k ∧ Hid (∀ j, j < k → ∀ hj : j < ws.length, ws[j] ≠ x)) (fun v => n - (intOf v).toNat)
    case atStart => exact ⟨0, by omega, rfl, hid (fun j h => absurd h (Nat.not_lt_zero _))⟩
    case round =>
      obtain ⟨k, hk, rfl, hall⟩ := hrel
      by_cases hlt : k < n
      · have hkw : k < ws.length := by rw [HN.out]; exact hlt
        have c1 := HC.out k hkw
        by_cases he : ws[k] = x
        · obtain rfl := HY.out k hkw he
          rw [he] at c1
          clear he
          go_wp2_with fail
          go_ret
          exact ⟨rfl, rfl⟩
        · have hn1 := hid (contains_take hall.out hkw he)
          generalize ws[k] = y at c1 he
          have hWV : (y != x) = true := bne_iff_ne.2 he
          have hWV2 : (y == x) = false := beq_eq_false_iff_ne.2 he
          have hWV3 : (x == y) = false := beq_eq_false_iff_ne.2 (fun e => he e.symm)
          clear he
          go_wp2_with fail
          go_round
          case rel => exact ⟨k + 1, by omega, by go_num, hn1⟩
          case measure => simp [intOf]; omega
      · have hke : k = n := by omega
        obtain rfl := HNO.out (fun j hj => hall.out j (by have := HN.out; omega))
        go_wp2_with fail
        go_ret
        exact ⟨rfl, rfl⟩

set_option maxHeartbeats 1000000 in
theorem index_any (ws : List (List UInt8)) (hl : ws.length ≤ 1099511627776) (x : List UInt8) (v : Value) (w : World) (h : RowIs w v (strs ws)) :
    Calls Tryz.prog 127 #[v, .string ⟨x.toArray⟩] w fun e w' => ∃ j : Int, e = .returned (.int .i64 j) ∧ decide (0 ≤ j) = ws.contains x ∧ w = w' := by
  have hsl : (strs ws).length = ws.length := by simp [strs]
  rcases h with ⟨h0, a, c, rfl⟩ | ⟨g, o, c, rfl, hc⟩
  · have hz : ws = [] := List.eq_nil_of_length_eq_zero (by rw [← hsl, h0]; rfl)
    subst hz
    clear hsl h0 hl
    go_enter Tryz.func127, Tryz.ntmps127
    go_wp2
    go_rounds 1
    go_ret
    exact ⟨_, rfl, rfl, rfl⟩
  · have HC := hid (fun k (hk : k < ws.length) => hc k _ (word_get hk))
    have HY := hid (fun k (hk : k < ws.length) (e : ws[k] = x) => contains_yes hk e)
    have HNO := hid (contains_no (ws := ws) (x := x))
    rw [hsl]
    clear hsl hc
    generalize ws.contains x = b at HY HNO ⊢
    obtain ⟨n, hn⟩ : ∃ n, ws.length = n := ⟨_, rfl⟩
    rw [hn] at hl ⊢
    have HN := hid hn
    clear hn
    go_enter Tryz.func127, Tryz.ntmps127
    go_wp2_with fail
    go_loop [5, 8] (fun _ v => ∃ k : Nat, k ≤ n ∧ v = .int .i64 k ∧ Hid (∀ j, j < k → ∀ hj : j < ws.length, ws[j] ≠ x)) (fun _ v => n - (intOf v).toNat)
    case atStart => exact ⟨0, by omega, rfl, hid (fun j h => absurd h (Nat.not_lt_zero _))⟩
    case round =>
      obtain ⟨k, hk, rfl, hall⟩ := hrel
      by_cases hlt : k < n
      · have hkw : k < ws.length := by rw [HN.out]; exact hlt
        have c1 := HC.out k hkw
        by_cases he : ws[k] = x
        · obtain rfl := HY.out k hkw he
          rw [he] at c1
          clear he
          go_wp2_with fail
          go_ret
          exact ⟨_, rfl, by simp, rfl⟩
        · have hn1 := hid (contains_take hall.out hkw he)
          generalize ws[k] = y at c1 he
          have hWV : (y != x) = true := bne_iff_ne.2 he
          have hWV2 : (y == x) = false := beq_eq_false_iff_ne.2 he
          have hWV3 : (x == y) = false := beq_eq_false_iff_ne.2 (fun e => he e.symm)
          clear he
          go_wp2_with fail
          go_round
          case rel => exact ⟨k + 1, by omega, by go_num, hn1⟩
          case measure => simp [intOf]; omega
      · have hke : k = n := by omega
        obtain rfl := HNO.out (fun j hj => hall.out j (by have := HN.out; omega))
        go_wp2_with fail
        go_ret
        exact ⟨_, rfl, by simp, rfl⟩

theorem contains_any (ws : List (List UInt8)) (hl : ws.length ≤ 1099511627776) (x : List UInt8) (v : Value) (w : World) (h : RowIs w v (strs ws)) :
    Calls Tryz.prog 71 #[v, .string ⟨x.toArray⟩] w fun e w' => e = .returned (.bool (ws.contains x)) ∧ w = w' := by
  have HI := hid (index_any ws hl x v w h)
  generalize ws.contains x = b at HI ⊢
  generalize (⟨x.toArray⟩ : ByteArray) = X at HI ⊢
  clear h hl
  go_enter Tryz.func71, Tryz.ntmps71
  go_wp2_with fail
  refine HI.out.mono ?_
  rintro e w1 ⟨j, rfl, hj, rfl⟩
  clear HI
  subst hj
  go_wp2
  all_goals (go_ret)
  all_goals exact ⟨by simp_all, rfl⟩
end Go.Proofs.YtmeaajhongalaaaGreatDoor
