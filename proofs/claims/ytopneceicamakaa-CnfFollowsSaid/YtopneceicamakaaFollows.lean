/-
  LAYER 12: the document's Follows: a clause holds in each model in which all clauses do.
-/
import Derived.Test.YtopneceicamakaaCnfDocTrue
import Derived.Test.YtopneceicamakaaModel
namespace Go.Proofs.Ytopneceicamakaa.Cf
open Go.RowKit Go.Proofs.Ytopneceicamakaa Go.Proofs.Ytopneceicamakaa.Ln

/-- does a clause hold in each of the models over n variables in which all clauses do? -/
def followsC (n : Nat) (ll : List (List Int)) (c : List Int) : Bool := (List.range (2 ^ n)).all fun k => !holdsC ll (modelL n k) || someT c (modelL n k)
theorem follows_no {n k : Nat} {ll : List (List Int)} {c : List Int} (hk : k < 2 ^ n) (h : holdsC ll (modelL n k) = true) (h2 : someT c (modelL n k) = false) : followsC n ll c = false := by
  unfold followsC
  rw [List.all_eq_false]
  exact ⟨k, by simpa using hk, by rw [h, h2]; decide⟩
theorem follows_yes {n : Nat} {ll : List (List Int)} {c : List Int} (h : ∀ k, k < 2 ^ n → holdsC ll (modelL n k) = true → someT c (modelL n k) = true) : followsC n ll c = true := by
  unfold followsC
  rw [List.all_eq_true]
  intro k hk
  cases hh : holdsC ll (modelL n k)
  · rfl
  · rw [h k (by simpa using hk) hh]; rfl
/-- what holds in all models does in those -/
theorem follows_of {n : Nat} {ll : List (List Int)} {c : List Int} (h : ∀ m, holdsC ll m = true → someT c m = true) : followsC n ll c = true := follows_yes fun _ _ => h _
theorem holds_one (c : List Int) (m : List Bool) : holdsC [c] m = someT c m := by simp [holdsC]

theorem lists_one {w : World} {v : Value} {c : List Int} (h : Ints w v c) (T : TypeId) : Lists (w.alloc (.cells #[v] T)) (.slice (some ⟨w.heap.size, 0, none⟩) 1 1) [c] := by
  refine ⟨[v], ⟨some ⟨w.heap.size, 0, none⟩, 1, rfl, Nat.le_refl _, by simp, fun _ => ⟨w.heap.size, 0, rfl, by simp, fun j hj => ?_⟩⟩, rfl, fun j hj hk => ?_⟩
  · have : j = 0 := by simpa using hj
    subst this
    exact (Blk.new w [v] T).cell 0 rfl
  · have : j = 0 := by simpa using hj
    subst this
    exact h.below (below_alloc (Below.refl _ _) _)

set_option maxHeartbeats 2000000 in
theorem refFollows_any (n : Nat) (hn : n ≤ 12) (cv : Value) (ll : List (List Int)) (hok : ∀ l ∈ ll, litsOk l) (v : Value) (c : List Int) (hc : litsOk c) (w : World) (hL : Lists w cv ll) (hI : Ints w v c) :
    Calls Try.prog 25 #[.int .i64 (n : Int), cv, v] w fun e w' => e = .returned (.bool (followsC n ll c)) ∧ Below w.heap.size w w' := by
  have NO := hid (fun k (h1 : k < 2 ^ n) (h : holdsC ll (modelL n k) = true) (h2 : someT c (modelL n k) = false) => follows_no h1 h h2)
  have YES := hid (fun (h : ∀ k, k < 2 ^ n → holdsC ll (modelL n k) = true → someT c (modelL n k) = true) => follows_yes (n := n) h)
  have OK := hid hok
  have OC := hid hc
  have KL := hid hL
  have KI := hid hI
  obtain ⟨vs, hvs, hvl, hvi⟩ := lists_get hL
  obtain ⟨ac, cc, rfl, g1, g2, g3⟩ := id hvs
  obtain ⟨ai, ci, rfl, g4, g5, g6⟩ := hI.shape
  clear g1 g2 g3 g4 g5 g6
  clear hvs hvi hvl hL hI hok hc
  generalize vs.length = q at *
  generalize c.length = y at *
  have hP : 2 ^ n ≤ 2 ^ 12 := Nat.pow_le_pow_right (by decide) hn
  rw [show (2 : Nat) ^ 12 = 4096 by decide] at hP
  have hcast : ((2 : Int) ^ n) = ((2 ^ n : Nat) : Int) := by norm_cast
  generalize 2 ^ n = P at *
  have hq : wrap64 ((2 : Int) ^ n) = (P : Int) := by rw [hcast]; unfold wrap64; omega
  clear hcast
  generalize followsC n ll c = r at *
  go_enter Try.func25, Try.ntmps25
  go_wp2_with fail
  go_loopw [7, 8] (fun u _ wr => ∃ k : Nat, u = .int .i64 (k : Int) ∧ k ≤ P ∧ Hid (∀ j, j < k → holdsC ll (modelL n j) = true → someT c (modelL n j) = true) ∧ Hid (Below w.heap.size w wr)) (fun u _ _ => P - (intOf u).toNat)
  case atStart => exact ⟨0, rfl, Nat.zero_le _, hid (fun j hj => absurd hj (Nat.not_lt_zero _)), hid (Below.refl _ _)⟩
  case round =>
    obtain ⟨k, rfl, hk, HS, HB⟩ := hrel
    by_cases hlt : k < P
    · have NOk := hid (NO.out k hlt)
      have HSk := hid (fun (hx : holdsC ll (modelL n k) = true → someT c (modelL n k) = true) j (hj : j < k + 1) => show holdsC ll (modelL n j) = true → someT c (modelL n j) = true by
        by_cases e : j = k
        · subst e; exact hx
        · exact HS.out j (by omega))
      clear HS NO YES
      have RM := hid (refModel_any n k hn wr)
      generalize modelL n k = m at *
      go_wp2_with fail
      refine RM.out.mono ?_
      rintro e w1 ⟨vm, rfl, hm, hb1⟩
      have B1 := hid (HB.out.trans (hb1.mono HB.out.size))
      have M1 := hid hm
      have RH := hid (refHolds_any _ ll OK.out _ m w1 (KL.out.below B1.out) hm)
      have RC := hid (refHolds_any (.slice (some ⟨w1.heap.size, 0, none⟩) 1 1) [c] (fun l hl => by rw [List.mem_singleton.1 hl]; exact OC.out) _ m (w1.alloc (.cells #[.slice ai y ci] 31)) (lists_one (KI.out.below B1.out) _) (hm.below (below_alloc (Below.refl _ _) _)))
      rw [holds_one] at RC
      obtain ⟨am, cm, rfl, _, _, _⟩ := hm.shape
      have B2 := hid (B1.out.alloc B1.out.size (.cells #[.slice ai y ci] 31))
      clear hm hb1 RM HB M1
      generalize m.length = mm at *
      cases hh : holdsC ll m
      · have HS2 := hid (HSk.out (fun e => by rw [hh] at e; cases e))
        rw [hh] at RH
        clear hh HSk NOk RC B2
        go_wp2_with fail
        refine RH.out.mono ?_
        rintro e w2 ⟨rfl, rfl⟩
        go_wp2_with fail
        go_roundw
        case rel => exact ⟨k + 1, by go_num, by omega, HS2, B1⟩
        case measure => simp [intOf]; omega
      · rw [hh] at RH
        cases h2 : someT c m
        · have E := hid (NOk.out hh h2)
          rw [h2] at RC
          clear hh HSk NOk h2
          go_wp2_with fail
          refine RH.out.mono ?_
          rintro e w2 ⟨rfl, rfl⟩
          go_wp2_with fail
          refine RC.out.mono ?_
          rintro e w3 ⟨rfl, rfl⟩
          go_wp2_with fail
          go_ret
          exact ⟨ret_bool E.out.symm, B2.out⟩
        · have HS2 := hid (HSk.out (fun _ => h2))
          rw [h2] at RC
          clear hh HSk NOk h2
          go_wp2_with fail
          refine RH.out.mono ?_
          rintro e w2 ⟨rfl, rfl⟩
          go_wp2_with fail
          refine RC.out.mono ?_
          rintro e w3 ⟨rfl, rfl⟩
          go_wp2_with fail
          go_roundw
          case rel => exact ⟨k + 1, by go_num, by omega, HS2, B2⟩
          case measure => simp [intOf]; omega
    · have hk2 : k = P := by omega
      subst hk2
      have E := hid (YES.out HS.out)
      clear NO YES HS
      go_wp2_with fail
      go_ret
      exact ⟨ret_bool E.out.symm, HB.out⟩
end Go.Proofs.Ytopneceicamakaa.Cf
