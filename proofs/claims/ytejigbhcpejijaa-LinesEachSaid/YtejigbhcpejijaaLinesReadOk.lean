/-
  LAYER 1, PLAIN MATHEMATICS: what the lines that are read look like; what errors there are.
-/
import Derived.Test.YtejigbhcpejijaaLinesLaws
namespace Go.Proofs.Ytejigbhcpejijaa.Ln

theorem word_short {l : List UInt8} {b t : Nat} : (word l b t).length ≤ t - b := by
  unfold word
  rw [List.length_take]; omega

theorem sp_words (l : List UInt8) : ∀ (f a : Nat) (ws : Words) (cs : List Nat) {ws' : Words} {cs' : List Nat}, sp l f a ws cs = .ok (ws', cs') → (∀ x, x ∈ ws → x.length ≤ 80) → ∀ x, x ∈ ws' → x.length ≤ 80 := by
  intro f
  induction f with
  | zero => intro a ws cs ws' cs' h h1; cases h; exact h1
  | succ f ih =>
    intro a ws cs ws' cs' h h1
    unfold sp at h
    dsimp only at h
    split at h
    · cases h; exact h1
    · split at h
      · cases h
      · rename_i hx
        split at h
        · cases h
        · refine ih _ _ _ h ?_
          intro x hx'
          rcases List.mem_append.1 hx' with h' | h'
          · exact h1 x h'
          · rw [List.mem_singleton.1 h']
            exact Nat.le_trans word_short (by omega)

/-- a line as it is read -/
def LineOk (x : LineS) : Prop := 1 ≤ x.1 ∧ x.2.1 ≠ [] ∧ x.2.1.length ≤ 20 ∧ x.2.2.length = x.2.1.length ∧ ∀ u, u ∈ x.2.1 → u.length ≤ 80

theorem rd_lines (most : Nat) : ∀ (f : Nat) (l : List UInt8) (no : Nat) (out : List LineS) {xs : List LineS}, 1 ≤ no → rd most f l no out = .ok xs → (∀ x, x ∈ out → LineOk x) → ∀ x, x ∈ xs → LineOk x := by
  intro f
  induction f with
  | zero => intro l no out xs _ h h2; cases h; exact h2
  | succ f ih =>
    intro l no out xs hno h h2
    unfold rd at h
    split at h
    · cases h; exact h2
    · split at h
      · cases h
      · split at h
        · cases h
        · rename_i ws cs hl
          have hw := sp_ok _ _ _ _ _ hl (by simp) rfl
          have hw2 := sp_words _ _ _ _ _ hl (by simp)
          refine ih _ _ _ (by omega) h ?_
          intro x hx
          split at hx
          · exact h2 x hx
          · rename_i hne
            rcases List.mem_append.1 hx with h' | h'
            · exact h2 x h'
            · simp only [List.mem_singleton] at h'
              subst h'
              exact ⟨hno, hne, hw.1, hw.2, hw2⟩

theorem rd_codes (most : Nat) : ∀ (f : Nat) (l : List UInt8) (no : Nat) (out : List LineS) {c n k : Nat}, rd most f l no out = .error (c, n, k) → c = 1 ∨ c = 2 := by
  intro f
  induction f with
  | zero => intro l no out c n k h; cases h
  | succ f ih =>
    intro l no out c n k h
    unfold rd at h
    split at h
    · cases h
    · split at h
      · cases h; exact .inr rfl
      · split at h
        · rename_i e col hl
          cases h
          have := spC_code hl
          omega
        · exact ih _ _ _ h

theorem readS_lines {l : List UInt8} {xs : List LineS} (h : readS l = .ok xs) : ∀ x, x ∈ xs → LineOk x := by
  unfold readS at h
  split at h
  · cases h
  · exact rd_lines _ _ _ _ _ (by decide) h (by intro x hx; cases hx)
theorem readS_codes {l : List UInt8} {c n k : Nat} (h : readS l = .error (c, n, k)) : c = 1 ∨ c = 2 := by
  unfold readS at h
  split at h
  · cases h; exact .inr rfl
  · exact rd_codes _ _ _ _ _ h
theorem readS_len {l : List UInt8} {xs : List LineS} (h : readS l = .ok xs) : xs.length ≤ l.length := by
  unfold readS at h
  split at h
  · cases h
  · exact (rd_ok _ _ _ _ _ l.length h (by simp) (by intro x hx; cases hx)).1

end Go.Proofs.Ytejigbhcpejijaa.Ln
