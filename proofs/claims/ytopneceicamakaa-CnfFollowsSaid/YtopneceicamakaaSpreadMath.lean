/-
  LAYER 12: spreading, in plain mathematics: whatever way it goes, it comes to the same.
-/
import Derived.Test.YtopneceicamakaaCnfSpread
import Derived.Test.YtopneceicamakaaNormMath
namespace Go.Proofs.Ytopneceicamakaa.Cf

/-- literals that are true, told as a set -/
def allF (S : Int → Prop) (c : List Int) : Prop := ∀ x ∈ c, S (-x)
/-- x is the only literal of a clause that isn't false -/
def unitAt (S : Int → Prop) (c : List Int) (x : Int) : Prop := x ∈ c ∧ ¬ S (-x) ∧ ∀ y ∈ c, y ≠ x → S (-y)
/-- what can be reached, clause by clause -/
inductive Reach (cls : List (List Int)) (S0 : Int → Prop) : (Int → Prop) → Prop
  | start {S : Int → Prop} : (∀ x, S x ↔ S0 x) → Reach cls S0 S
  | step {S S' : Int → Prop} {c : List Int} {x : Int} : Reach cls S0 S → c ∈ cls → unitAt S c x → (∀ y, S' y ↔ (S y ∨ y = x)) → Reach cls S0 S'
theorem Reach.congr {cls : List (List Int)} {S0 S T : Int → Prop} (h : Reach cls S0 S) (e : ∀ x, T x ↔ S x) : Reach cls S0 T := by
  cases h with
  | start h => exact .start fun x => (e x).trans (h x)
  | step h1 h2 h3 h4 => exact .step h1 h2 h3 fun y => (e y).trans (h4 y)
/-- nothing more follows -/
def Fixd (cls : List (List Int)) (S : Int → Prop) : Prop := ∀ c ∈ cls, ¬ allF S c ∧ ∀ x, unitAt S c x → S x
def Cons (S : Int → Prop) : Prop := ∀ x, S x → ¬ S (-x)
theorem Reach.cons {cls : List (List Int)} {S0 S : Int → Prop} (h0 : Cons S0) (hz : ∀ c ∈ cls, ∀ x ∈ c, x ≠ 0) (h : Reach cls S0 S) : Cons S := by
  induction h with
  | start e => intro x hx hn; exact h0 x ((e x).1 hx) ((e _).1 hn)
  | step h1 hc hu e ih =>
    rename_i S1 S2 c y
    intro x hx hn
    rw [e] at hx hn
    have hy0 := hz c hc y hu.1
    rcases hx with hx | hx <;> rcases hn with hn | hn
    · exact ih x hx hn
    · have : y = -x := hn.symm
      subst this
      exact hu.2.1 (by rw [Int.neg_neg]; exact hx)
    · subst hx; exact hu.2.1 hn
    · omega
/-- what is reached lies in each set that nothing more follows from -/
theorem Reach.sub {cls : List (List Int)} {S0 S F : Int → Prop} (hF0 : ∀ x, S0 x → F x) (hF : Fixd cls F) (h : Reach cls S0 S) : ∀ x, S x → F x := by
  induction h with
  | start e => intro x hx; exact hF0 x ((e x).1 hx)
  | step h1 hcm hu e ih =>
    rename_i S1 S2 c y
    intro x hx
    rw [e] at hx
    rcases hx with hx | rfl
    · exact ih x hx
    · by_cases hy : F (-x)
      · exfalso
        refine (hF c hcm).1 fun z hz => ?_
        by_cases e2 : z = x
        · subst e2; exact hy
        · exact ih _ (hu.2.2 z hz e2)
      · exact (hF c hcm).2 x ⟨hu.1, hy, fun z hz hzx => ih _ (hu.2.2 z hz hzx)⟩
/-- where one way comes to an end, no way comes to a clash -/
theorem no_clash {cls : List (List Int)} {S0 S F : Int → Prop} (hF0 : ∀ x, S0 x → F x) (hF : Fixd cls F) (h : Reach cls S0 S) {c : List Int} (hcm : c ∈ cls) : ¬ allF S c :=
  fun ha => (hF c hcm).1 fun x hx => h.sub hF0 hF _ (ha x hx)

/-- what is reached is so in each model in which the clauses hold, and what was so at first -/
theorem Reach.sound {cls : List (List Int)} {S0 S : Int → Prop} {m : List Bool} (hz : ∀ c ∈ cls, ∀ x ∈ c, x ≠ 0) (h0 : ∀ x, S0 x → trueC x m = true) (hm : ∀ c ∈ cls, someT c m = true) (h : Reach cls S0 S) : ∀ x, S x → trueC x m = true := by
  induction h with
  | start e => intro x hx; exact h0 x ((e x).1 hx)
  | step h1 hcm hu e ih =>
    rename_i S1 S2 c y
    intro x hx
    rw [e] at hx
    rcases hx with hx | rfl
    · exact ih x hx
    · have := hm c hcm
      unfold someT at this
      rw [List.any_eq_true] at this
      obtain ⟨z, hz1, hz2⟩ := this
      by_cases e2 : z = x
      · subst e2; exact hz2
      · have h3 := ih _ (hu.2.2 z hz1 e2)
        have hz0 := hz c hcm z hz1
        exfalso
        have : trueC (-z) m = !trueC z m := by
          unfold trueC onM
          have : varI (-z) = varI z := by unfold varI; split <;> split <;> omega
          rw [this]
          by_cases hp : 0 < z
          · rw [if_neg (by omega), if_neg (by omega), if_neg (by omega), if_pos hp]
          · rw [if_neg (by omega), if_pos (by omega), if_neg (by omega), if_neg hp, Bool.not_not]
        rw [this, hz2] at h3
        cases h3
theorem clash_sound {cls : List (List Int)} {S0 S : Int → Prop} {m : List Bool} (hz : ∀ c ∈ cls, ∀ x ∈ c, x ≠ 0) (h0 : ∀ x, S0 x → trueC x m = true) (hm : ∀ c ∈ cls, someT c m = true) (h : Reach cls S0 S) {c : List Int} (hc : c ∈ cls) (ha : allF S c) : False := by
  have := hm c hc
  unfold someT at this
  rw [List.any_eq_true] at this
  obtain ⟨z, hz1, hz2⟩ := this
  have h3 := h.sound hz h0 hm _ (ha z hz1)
  have hz0 := hz c hc z hz1
  have h4 : trueC (-z) m = !trueC z m := by
    unfold trueC onM
    have : varI (-z) = varI z := by unfold varI; split <;> split <;> omega
    rw [this]
    by_cases hp : 0 < z
    · rw [if_neg (by omega), if_neg (by omega), if_neg (by omega), if_pos hp]
    · rw [if_neg (by omega), if_pos (by omega), if_neg (by omega), if_neg hp, Bool.not_not]
  rw [h4, hz2] at h3
  cases h3
end Go.Proofs.Ytopneceicamakaa.Cf
