/-
  LAYER 5, THE DOCUMENT's ANSWERS: contracts over the same plain functions.
-/
import Derived.Test.YtafnohojnjpfcaaGreatDoorNameWalks2
namespace Go.Proofs.YtafnohojnjpfcaaGreatDoor.Nm
open Go.RowKit

/-- nothing but draws -/
def Qt (w w' : World) : Prop := ∃ n, w' = w.drewN n
theorem Qt.refl (w : World) : Qt w w := ⟨0, rfl⟩
theorem Qt.drew {w w' : World} (h : Qt w w') (m : Nat) : Qt w (w'.drewN m) := by
  obtain ⟨n, rfl⟩ := h; exact ⟨n + m, by rw [World.drewN_drewN]⟩
theorem Qt.trans {a b c : World} (h : Qt a b) (k : Qt b c) : Qt a c := by
  obtain ⟨m, rfl⟩ := k; exact h.drew m
theorem Qt.below {w w' : World} (h : Qt w w') : Below w.heap.size w w' := by
  obtain ⟨n, rfl⟩ := h; exact below_drewN' (Below.refl _ _) n
/-- what a call comes to that gives v, and changes nothing -/
def GivesQ (v : Value) (w : World) (e : Ending) (w' : World) : Prop := e = .returned v ∧ Qt w w'
theorem givesQ {v v' : Value} {w w' : World} {e : Ending} (he : e = .returned v') (h : v' = v) (hb : Qt w w') : GivesQ v w e w' := ⟨by rw [he, h], hb⟩
theorem loud {f : FuncId} {args : Array Value} {w : World} {v : Value} (h : Calls Tryz.prog f args w (GivesQ v w)) : Calls Tryz.prog f args w (Gives v w) :=
  h.mono fun _ _ h => ⟨h.1, h.2.below⟩

theorem okN_int (c : UInt8) : okN c = ((decide (97 ≤ (c.toNat : Int)) && decide ((c.toNat : Int) ≤ 122)) || (decide (48 ≤ (c.toNat : Int)) && decide ((c.toNat : Int) ≤ 57)) || ((c.toNat : Int) == 45)) := by
  unfold okN isL
  have h3 : (c == 45) = ((c.toNat : Int) == 45) := by
    rw [Bool.eq_iff_iff]; simp [← UInt8.toNat_inj]; omega
  rw [h3, Bool.eq_iff_iff]; simp; omega

def run0 (l : List UInt8) (k : Nat) : Prop := run okN l 0 = k + run okN l k
theorem run0_yes {l : List UInt8} {k : Nat} {c : UInt8} (h : run0 l k) (hb : l[k]? = some c) (hc : okN c = true) : run0 l (k + 1) := by
  unfold run0 at *; rw [h, run_yes hb hc]; omega
theorem run0_no {l : List UInt8} {k : Nat} {c : UInt8} (h : run0 l k) (hb : l[k]? = some c) (hc : okN c = false) : l.all okN = false := by
  unfold run0 at h
  rw [run_no hb hc] at h
  have hk : k < l.length := by
    rcases Nat.lt_or_ge k l.length with h' | h'
    · exact h'
    · rw [List.getElem?_eq_none h'] at hb; cases hb
  cases ha : l.all okN
  · rfl
  · have := run_all.2 ha; omega
theorem run0_end {l : List UInt8} {k : Nat} (h : run0 l k) (hk : k = l.length) : l.all okN = true := by
  unfold run0 at h
  rw [run_end (a := k) (by omega)] at h
  exact run_all.1 (by omega)

set_option maxHeartbeats 2000000 in
/-- the loop of the document's Letters, behind its first test -/
theorem refLetters_go (s : ByteArray) (hs : s.size ≤ maxLen) (h20 : s.size ≤ 20) (hok : s.size = 0 ∨ ∃ h : 0 < s.size, 97 ≤ (s[0].toNat : Int) ∧ (s[0].toNat : Int) ≤ 122) (b : Bool) (HA : Hid (s.data.toList.all okN = b)) (w : World) :
    Calls Tryz.prog 129 #[.string s] w (GivesQ (.bool b) w) := by
  unfold maxLen at hs
  have hlen := hid (show s.data.toList.length = s.size by simp)
  rcases hok with h0 | ⟨hz, ha, hbb⟩
  · have h0' : (s.size : Int) ≤ 0 := by omega
    go_enter Tryz.func129, Tryz.ntmps129
    go_wp2_with fail
    go_loop [3] (fun v => v = .int .i64 0) (fun v => 0)
    case atStart => rfl
    case round =>
      subst hrel
      go_wp2_with fail
      go_ret
      refine givesQ rfl (bool_eq ?_) (Qt.refl _)
      rw [← HA.out, List.eq_nil_of_length_eq_zero (by rw [hlen.out]; exact h0 : s.data.toList.length = 0)]; rfl
  · have hcc : (s[0].toNat : Int) ≤ 255 := by omega
    go_enter Tryz.func129, Tryz.ntmps129
    go_wp2_with fail
    go_loop [3] (fun v => ∃ k : Nat, k ≤ s.size ∧ v = .int .i64 k ∧ Hid (run0 s.data.toList k)) (fun v => s.size - (intOf v).toNat)
    case atStart => exact ⟨0, by omega, rfl, hid (by simp [run0])⟩
    case round =>
      obtain ⟨k, hk, rfl, hkr⟩ := hrel
      clear ha hbb hcc
      by_cases hlt : k < s.size
      · have hb := hid (byte_at s k hlt)
        have hi := hid (okN_int s[k])
        have hcc : (s[k].toNat : Int) ≤ 255 := by have := s[k].toNat_lt; omega
        have yes : okN s[k] = true → Hid (run0 s.data.toList (k + 1)) := fun h => hid (run0_yes hkr.out hb.out h)
        have no : okN s[k] = false → Hid (s.data.toList.all okN = false) := fun h => hid (run0_no hkr.out hb.out h)
        by_cases h1 : 97 ≤ (s[k].toNat : Int)
        · by_cases h2 : (s[k].toNat : Int) ≤ 122
          · have hy := yes (by rw [hi.out, decide_eq_true h1, decide_eq_true h2]; rfl)
            clear yes no
            go_wp2_with fail
            go_round
            case rel => exact ⟨k + 1, by omega, by go_num, hy⟩
            case measure => simp [intOf]; omega
          · have h5 : ((s[k].toNat : Int) == 45) = false := by rw [beq_eq_false_iff_ne]; omega
            have h57 : ¬ ((s[k].toNat : Int) ≤ 57) := by omega
            have h48 : (48 : Int) ≤ s[k].toNat := by omega
            have hn := no (by rw [hi.out, decide_eq_false h2, decide_eq_false (p := (s[k].toNat : Int) ≤ 57) (by omega), h5]; simp)
            clear yes no
            go_wp2_with fail
            go_ret
            exact givesQ rfl (bool_eq (hn.out.symm.trans HA.out)) (Qt.refl _)
        · by_cases h3 : 48 ≤ (s[k].toNat : Int)
          · by_cases h4 : (s[k].toNat : Int) ≤ 57
            · have hy := yes (by rw [hi.out, decide_eq_true h3, decide_eq_true h4]; simp)
              clear yes no
              go_wp2_with fail
              go_round
              case rel => exact ⟨k + 1, by omega, by go_num, hy⟩
              case measure => simp [intOf]; omega
            · have h5 : ((s[k].toNat : Int) == 45) = false := by rw [beq_eq_false_iff_ne]; omega
              have hn := no (by rw [hi.out, decide_eq_false h1, decide_eq_false h4, h5]; simp)
              clear yes no
              go_wp2_with fail
              go_ret
              exact givesQ rfl (bool_eq (hn.out.symm.trans HA.out)) (Qt.refl _)
          · by_cases h5 : (s[k].toNat : Int) = 45
            · have h5' : ((s[k].toNat : Int) == 45) = true := by rw [h5]; rfl
              have hy := yes (by rw [hi.out, h5']; simp)
              clear yes no h5
              go_wp2_with fail
              go_round
              case rel => exact ⟨k + 1, by omega, by go_num, hy⟩
              case measure => simp [intOf]; omega
            · have h5' : ((s[k].toNat : Int) == 45) = false := by rw [beq_eq_false_iff_ne]; exact h5
              have hn := no (by rw [hi.out, decide_eq_false h1, decide_eq_false h3, h5']; simp)
              clear yes no
              go_wp2_with fail
              go_ret
              exact givesQ rfl (bool_eq (hn.out.symm.trans HA.out)) (Qt.refl _)
      · have he := hid (run0_end hkr.out (by rw [hlen.out]; omega))
        go_wp2_with fail
        go_ret
        exact givesQ rfl (bool_eq (he.out.symm.trans HA.out)) (Qt.refl _)

set_option maxHeartbeats 1000000 in
theorem refLetters_any (s : ByteArray) (hs : s.size ≤ maxLen) (w : World) :
    Calls Tryz.prog 129 #[.string s] w (GivesQ (.bool (letters s.data.toList)) w) := by
  have hlen := hid (show s.data.toList.length = s.size by simp)
  by_cases h20 : s.size ≤ 20
  · by_cases h0 : s.size = 0
    · have e : letters s.data.toList = s.data.toList.all okN := by
        rw [List.eq_nil_of_length_eq_zero (by rw [hlen.out]; exact h0 : s.data.toList.length = 0)]; rfl
      rw [e]
      exact refLetters_go s hs h20 (.inl h0) _ (hid rfl) w
    · have hz : 0 < s.size := by omega
      have hl : s.data.toList.head? = some s[0] := by rw [List.head?_eq_getElem?]; exact byte_at s 0 hz
      have hd : headL s.data.toList = isL s[0] := by
        cases hx : s.data.toList with
        | nil => rw [hx] at hl; cases hl
        | cons c t => rw [hx] at hl; cases hl; rfl
      have hi : isL s[0] = (decide (97 ≤ (s[0].toNat : Int)) && decide ((s[0].toNat : Int) ≤ 122)) := by unfold isL; rw [Bool.eq_iff_iff]; simp; omega
      by_cases hL : isL s[0] = true
      · have e : letters s.data.toList = s.data.toList.all okN := by
          unfold letters; rw [hd, hL, decide_eq_true (by rw [hlen.out]; exact h20)]; simp
        rw [e]
        rw [hL] at hi
        have hi := hi.symm
        simp only [Bool.and_eq_true, decide_eq_true_eq] at hi
        exact refLetters_go s hs h20 (.inr ⟨hz, hi⟩) _ (hid rfl) w
      · have hL' : isL s[0] = false := by simpa using hL
        have HV := hid (show letters s.data.toList = false by
          unfold letters; rw [hd, hL']; simp)
        rw [hL'] at hi
        have Hi := hid hi
        clear hL hL' hd hl hi
        unfold maxLen at hs
        by_cases h1 : (s[0].toNat : Int) < 97
        · go_enter Tryz.func129, Tryz.ntmps129
          go_wp2_with fail
          go_ret
          exact givesQ rfl (bool_eq HV.out.symm) (Qt.refl _)
        · have h2 : (122 : Int) < s[0].toNat := by
            rcases Int.lt_or_le 122 (s[0].toNat : Int) with h | h
            · exact h
            · have := Hi.out
              rw [decide_eq_true (by omega), decide_eq_true h] at this; cases this
          go_enter Tryz.func129, Tryz.ntmps129
          go_wp2_with fail
          go_ret
          exact givesQ rfl (bool_eq HV.out.symm) (Qt.refl _)
  · have HV := hid (show letters s.data.toList = false by
      unfold letters
      rw [decide_eq_false (by rw [hlen.out]; exact h20)]; simp)
    unfold maxLen at hs
    go_enter Tryz.func129, Tryz.ntmps129
    go_wp2_with fail
    go_ret
    exact givesQ rfl (bool_eq HV.out.symm) (Qt.refl _)

theorem rletters (l : List UInt8) (hs : l.length ≤ 140737488355328) (w : World) :
    Calls Tryz.prog 129 #[.string ⟨l.toArray⟩] w (GivesQ (.bool (letters l)) w) :=
  refLetters_any ⟨l.toArray⟩ (by show l.toArray.size ≤ maxLen; unfold maxLen; simp; omega) w
end Go.Proofs.YtafnohojnjpfcaaGreatDoor.Nm
