/-
  PLAIN MATHEMATICS: of two numbers without a 0 ahead the longer is the greater; of as many digits the first that differs decides. No program is imported.
-/
import Derived.Test.YtjiofenpalokoaaGreatDoorVersionOrd
namespace Go.Proofs.YtjiofenpalokoaaGreatDoor.Vs
open Go.Proofs.YtjiofenpalokoaaGreatDoor Go.Proofs.YtjiofenpalokoaaGreatDoor.Nu

def fd (a : Nat) (l : List UInt8) : Nat := l.foldl (fun n c => 10 * n + (c.toNat - 48)) a
theorem dg_of {c : UInt8} (h : dgB c = true) : 48 ≤ c.toNat ∧ c.toNat ≤ 57 := by
  unfold dgB at h; simpa using h
theorem fd_lt : ∀ (p q : List UInt8) (a b : Nat), p.all dgB = true → q.all dgB = true → p.length = q.length → a < b → fd a p < fd b q := by
  intro p
  induction p with
  | nil => intro q a b _ _ hl h; obtain rfl := List.eq_nil_of_length_eq_zero hl.symm; exact h
  | cons c p ih =>
    intro q a b hp hq hl h
    cases q with
    | nil => simp at hl
    | cons d q =>
      rw [List.all_cons, Bool.and_eq_true] at hp hq
      have h1 := dg_of hp.1
      have h2 := dg_of hq.1
      exact ih q (10 * a + (c.toNat - 48)) (10 * b + (d.toNat - 48)) hp.2 hq.2 (by simpa using hl) (by omega)
theorem fd_cmp : ∀ (p q : List UInt8) (a : Nat), p.all dgB = true → q.all dgB = true → p.length = q.length → ci (fd a p) (fd a q) = Lib.compareBytes p q := by
  intro p
  induction p with
  | nil => intro q a _ _ hl; obtain rfl := List.eq_nil_of_length_eq_zero hl.symm; simp [ci, Lib.compareBytes]
  | cons c p ih =>
    intro q a hp hq hl
    cases q with
    | nil => simp at hl
    | cons d q =>
      rw [List.all_cons, Bool.and_eq_true] at hp hq
      have h1 := dg_of hp.1
      have h2 := dg_of hq.1
      have hl' : p.length = q.length := by simpa using hl
      unfold Lib.compareBytes
      simp only [UInt8.lt_iff_toNat_lt]
      show ci (fd (10 * a + (c.toNat - 48)) p) (fd (10 * a + (d.toNat - 48)) q) = _
      by_cases e1 : c.toNat < d.toNat
      · rw [if_pos e1]
        have := fd_lt p q (10 * a + (c.toNat - 48)) (10 * a + (d.toNat - 48)) hp.2 hq.2 hl' (by omega)
        unfold ci; rw [if_pos this]
      · rw [if_neg e1]
        by_cases e2 : d.toNat < c.toNat
        · rw [if_pos e2]
          have := fd_lt q p (10 * a + (d.toNat - 48)) (10 * a + (c.toNat - 48)) hq.2 hp.2 hl'.symm (by omega)
          unfold ci; rw [if_neg (by omega), if_pos this]
        · rw [if_neg e2]
          obtain rfl : c = d := UInt8.toNat_inj.1 (by omega)
          exact ih q _ hp.2 hq.2 hl'
theorem fd_hi : ∀ (p : List UInt8) (a : Nat), p.all dgB = true → fd a p < (a + 1) * 10 ^ p.length := by
  intro p
  induction p with
  | nil => intro a _; simp [fd]
  | cons c p ih =>
    intro a hp
    rw [List.all_cons, Bool.and_eq_true] at hp
    have h1 := dg_of hp.1
    have := ih (10 * a + (c.toNat - 48)) hp.2
    rw [List.length_cons, Nat.pow_succ]
    have e : (10 * a + (c.toNat - 48) + 1) * 10 ^ p.length ≤ (a + 1) * (10 ^ p.length * 10) := by
      rw [Nat.mul_comm (10 ^ p.length) 10, ← Nat.mul_assoc]
      exact Nat.mul_le_mul_right _ (by omega)
    exact Nat.lt_of_lt_of_le this e
theorem fd_lo : ∀ (p : List UInt8) (a : Nat), a * 10 ^ p.length ≤ fd a p := by
  intro p
  induction p with
  | nil => intro a; simp [fd]
  | cons c p ih =>
    intro a
    have := ih (10 * a + (c.toNat - 48))
    rw [List.length_cons, Nat.pow_succ]
    have e : a * (10 ^ p.length * 10) ≤ (10 * a + (c.toNat - 48)) * 10 ^ p.length := by
      rw [Nat.mul_comm (10 ^ p.length) 10, ← Nat.mul_assoc]
      exact Nat.mul_le_mul_right _ (by omega)
    exact Nat.le_trans e this
theorem digV_less {p q : List UInt8} (hp : p.all dgB = true) (hq : q.all dgB = true) (hn : padB q = false) (h1 : 1 ≤ p.length) (hl : p.length < q.length) : digV p < digV q := by
  have h := fd_hi p 0 hp
  cases q with
  | nil => simp at hl
  | cons d q =>
    rw [List.all_cons, Bool.and_eq_true] at hq
    have hd := dg_of hq.1
    have h48 : d.toNat ≠ 48 := by
      intro e
      unfold padB at hn
      have := of_decide_eq_false hn
      apply this
      refine ⟨by omega, ?_⟩
      rw [List.getElem?_cons_zero]
      congr 1
      exact UInt8.toNat_inj.1 e
    have lo := fd_lo q (10 * 0 + (d.toNat - 48))
    have e : digV (d :: q) = fd (10 * 0 + (d.toNat - 48)) q := rfl
    have e' : digV p = fd 0 p := rfl
    rw [e, e']
    have hpow : 10 ^ p.length ≤ 10 ^ q.length := Nat.pow_le_pow_right (by decide) (by simp at hl; omega)
    have : 1 * 10 ^ q.length ≤ (10 * 0 + (d.toNat - 48)) * 10 ^ q.length := Nat.mul_le_mul_right _ (by omega)
    rw [Nat.zero_add, Nat.one_mul] at h
    rw [Nat.one_mul] at this
    omega
theorem partV_num {p : List UInt8} (h : partV p = true) (hd : p.all dgB = true) : numB p = true ∧ padB p = false ∧ 1 ≤ p.length := by
  unfold partV at h
  rw [hd] at h
  simp only [Bool.and_eq_true, decide_eq_true_eq, Bool.not_eq_true', Bool.true_and] at h
  obtain ⟨⟨⟨h1, h2⟩, _⟩, h3⟩ := h
  refine ⟨numB_iff.2 ⟨h1, by omega, ?_, hd⟩, h3, h1⟩
  exact of_decide_eq_false h3
theorem num_cmp {p q : List UInt8} (hp : partV p = true) (hq : partV q = true) (dp : p.all dgB = true) (dq : q.all dgB = true) : ci (numN p) (numN q) = cmpP p q := by
  obtain ⟨p1, p2, p3⟩ := partV_num hp dp
  obtain ⟨q1, q2, q3⟩ := partV_num hq dq
  unfold numN cmpP
  rw [p1, q1, if_pos rfl, if_pos rfl, if_pos dp, if_pos dq]
  by_cases e : p.length = q.length
  · rw [if_pos e]; exact fd_cmp p q 0 dp dq e
  · rw [if_neg e]
    rcases Nat.lt_or_gt_of_ne e with h | h
    · have := digV_less dp dq q2 p3 h
      unfold ci; rw [if_pos this, if_pos h]
    · have := digV_less dq dp p2 q3 h
      unfold ci; rw [if_neg (by omega), if_pos this, if_neg (by omega), if_pos h]
end Go.Proofs.YtjiofenpalokoaaGreatDoor.Vs
