/-
  LAYER 3, THE DOCUMENT'S Compare, of versions that 'of' gives.
-/
import Derived.Test.YtjiofenpalokoaaGreatDoorVersionOf
import Derived.Test.YtjiofenpalokoaaGreatDoorVersionOrd2
namespace Go.Proofs.YtjiofenpalokoaaGreatDoor.Vs
open Go.RowKit
open Go.Proofs.YtjiofenpalokoaaGreatDoor Go.Proofs.YtjiofenpalokoaaGreatDoor.Nu

def rows (p : List UInt8) : List (List UInt8) := if p = [] then [] else cutl 46 p
theorem rowO_eq (l : List UInt8) : rowO l = rows (preO l) := by
  unfold rowO preO rows preL
  cases h : verV l
  · rfl
  · have h2 := (text_of h).2.2.2.2.2
    rw [if_pos rfl, if_pos rfl, h2]
    by_cases h3 : aft 45 l = []
    · rw [if_pos h3, decide_eq_false (by simpa using h3)]; rfl
    · rw [if_neg h3, decide_eq_true h3]; rfl
theorem preO_ok {l : List UInt8} (hl : l.length < 4294967281) : OkPre (preO l) := by
  unfold preO
  cases h : verV l
  · exact ⟨by simp, .inl rfl⟩
  · rw [if_pos rfl]
    have h2 := (text_of h).2.2.2.2.1
    have := aft_le l
    exact ⟨by omega, h2⟩
theorem rows_ok {p : List UInt8} (h : OkPre p) : (rows p).length ≤ 4 ∧ ∀ q, q ∈ rows p → q.length < 4294967281 ∧ partV q = true := by
  unfold rows
  by_cases hp : p = []
  · rw [if_pos hp]; exact ⟨by simp, by simp⟩
  · rw [if_neg hp]
    refine ⟨h.cut, fun q hq => ?_⟩
    have h1 := (cutl_mem 46 _ p (Nat.le_refl _) q hq).2
    have h2 := h.1
    refine ⟨by omega, ?_⟩
    rcases h.2 with e | e
    · exact absurd e hp
    · unfold preV at e
      simp only [Bool.and_eq_true] at e
      exact List.all_eq_true.1 e.2 q hq
theorem rows_nil {p : List UInt8} : rows p = [] ↔ p = [] := by
  unfold rows
  by_cases hp : p = []
  · rw [if_pos hp]; simp [hp]
  · rw [if_neg hp]; simp [hp, cutl_ne]
theorem nat3_ne {a b c a' b' c' : Nat} (h : ¬ [a, b, c] = [a', b', c']) : ([(a : Int), (b : Int), (c : Int)] : List Int) ≠ [(a' : Int), (b' : Int), (c' : Int)] := by
  intro e
  apply h
  simp at e
  obtain ⟨h1, h2, h3⟩ := e
  rw [show a = a' by omega, show b = b' by omega, show c = c' by omega]
theorem cmpL_nat3 (a b c a' b' c' : Nat) : cmpL cz [(a : Int), (b : Int), (c : Int)] [(a' : Int), (b' : Int), (c' : Int)] = cmpL ci [a, b, c] [a', b', c'] := cmpL_nat [a, b, c] [a', b', c']

/-- of two versions, which one is higher, by the document -/
theorem rcompare_any (a b c a' b' c' : Nat) (p q : List UInt8) (hp : OkPre p) (hq : OkPre q) (pv qv : Value) (w : World) (h1 : PreAt w pv (rows p)) (h2 : PreAt w qv (rows q)) :
    Calls Tryz.prog 22 #[rVal a b c pv, rVal a' b' c' qv] w (Gives (.int .i64 (cmpV [a, b, c] [a', b', c'] p q)) w) := by
  obtain ⟨pa, pc, rfl⟩ := h1.shape
  obtain ⟨qa, qc, rfl⟩ := h2.shape
  obtain ⟨lp, gp⟩ := rows_ok hp
  obtain ⟨lq, gq⟩ := rows_ok hq
  unfold cmpV
  by_cases hn : [a, b, c] = [a', b', c']
  · obtain ⟨rfl, rfl, rfl⟩ : a = a' ∧ b = b' ∧ c = c' := by simpa using hn
    rw [if_pos rfl]
    by_cases h0 : p = []
    · have e0 : (rows p).length = 0 := by rw [rows_nil.2 h0]; rfl
      have := rcompare_short a b c pa (rows p).length pc qa (rows q).length qc lp lq (.inl e0) w
      refine this.mono ?_
      rintro e w' ⟨rfl, hb⟩
      refine gives rfl (int_eq ?_) hb
      rw [cz_len, e0]
      unfold cmpB
      by_cases h3 : q = []
      · rw [rows_nil.2 h3, h0, h3]; simp
      · have : 0 < (rows q).length := List.length_pos_iff.2 (fun e => h3 (rows_nil.1 e))
        rw [if_neg (by omega), if_pos this, if_neg (by rw [h0]; exact fun e => h3 e.symm), if_pos h0]
    · by_cases h3 : q = []
      · have e0 : (rows q).length = 0 := by rw [rows_nil.2 h3]; rfl
        have := rcompare_short a b c pa (rows p).length pc qa (rows q).length qc lp lq (.inr e0) w
        refine this.mono ?_
        rintro e w' ⟨rfl, hb⟩
        refine gives rfl (int_eq ?_) hb
        have h4 : 0 < (rows p).length := List.length_pos_iff.2 (fun e => h0 (rows_nil.1 e))
        rw [cz_len, e0, if_pos h4, h3, cmpB_rel h0]
      · have n1 : rows p ≠ [] := fun e => h0 (rows_nil.1 e)
        have n2 : rows q ≠ [] := fun e => h3 (rows_nil.1 e)
        rcases h1 with ⟨e, _⟩ | ⟨g, cc, _, e1, _, _, c1⟩
        · exact absurd e n1
        rcases h2 with ⟨e, _⟩ | ⟨g', cc', _, e2, _, _, c2⟩
        · exact absurd e n2
        rw [e1, e2]
        have := rcompare_long a b c g cc g' cc' (rows p) (rows q) lp lq n1 n2 gp gq w c1 c2
        refine this.mono ?_
        rintro e w' ⟨rfl, hb⟩
        refine gives rfl (int_eq ?_) hb
        unfold cmpB
        rw [show rows p = cutl 46 p from if_neg h0, show rows q = cutl 46 q from if_neg h3]
        by_cases h4 : p = q
        · subst h4; rw [if_pos rfl, (cmpL_cmp cmpP_cmp).self]
        · rw [if_neg h4, if_neg h0, if_neg h3]
  · rw [if_neg hn]
    have := rcompare_num a b c a' b' c' pa (rows p).length pc qa (rows q).length qc (nat3_ne hn) w
    rwa [cmpL_nat3] at this

/-- what 'of' gives, spelt out -/
def OfV (x0 x1 x2 : Int) (A : ByteArray) (Q : List (List UInt8)) (w : World) (e : Ending) (w' : World) : Prop :=
  ∃ pa pc, e = .returned (.tuple #[.agg #[.int .i64 x0, .int .i64 x1, .int .i64 x2, .string A], .agg #[.int .i64 x0, .int .i64 x1, .int .i64 x2, .slice pa Q.length pc]]) ∧ PreAt w' (.slice pa Q.length pc) Q ∧ Below w.heap.size w w'
theorem of_v (s : ByteArray) (hs : s.size < 4294967281) : ∃ (a b c : Nat) (p : List UInt8), a < 1000000 ∧ b < 1000000 ∧ c < 1000000 ∧ OkPre p ∧ p.length ≤ s.size ∧ ∀ w, MaxAt w → Calls Tryz.prog 20 #[.string s] w (OfV a b c ⟨p.toArray⟩ (rows p) w) := by
  have hl : s.data.toList.length < 4294967281 := by rw [lenS]; exact hs
  have key : nO s.data.toList 0 < 1000000 ∧ nO s.data.toList 1 < 1000000 ∧ nO s.data.toList 2 < 1000000 := by
    unfold nO
    cases h : verV s.data.toList
    · simp
    · have := text_of h
      exact ⟨this.2.1, this.2.2.1, this.2.2.2.1⟩
  have hpl : (preO s.data.toList).length ≤ s.size := by
    unfold preO
    split
    · have := aft_le s.data.toList; rw [lenS] at this; exact this
    · simp
  refine ⟨_, _, _, preO s.data.toList, key.1, key.2.1, key.2.2, preO_ok hl, hpl, fun w hm => ?_⟩
  refine (of_any s hs w hm).mono ?_
  rintro e w' ⟨pv, rfl, h1, h2⟩
  rw [rowO_eq] at h1
  obtain ⟨pa, pc, rfl⟩ := h1.shape
  exact ⟨pa, pc, rfl, h1, h2⟩
end Go.Proofs.YtjiofenpalokoaaGreatDoor.Vs
