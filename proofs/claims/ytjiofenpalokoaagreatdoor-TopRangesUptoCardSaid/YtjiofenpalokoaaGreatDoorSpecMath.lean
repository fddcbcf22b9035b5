/-
  LAYER 4, PLAIN MATHEMATICS: what a range's text is parsed as; which versions a range has. No program is imported.
-/
import Derived.Test.YtjiofenpalokoaaGreatDoorVersionOrd2
namespace Go.Proofs.YtjiofenpalokoaaGreatDoor.Sp
open Go.Proofs.YtjiofenpalokoaaGreatDoor Go.Proofs.YtjiofenpalokoaaGreatDoor.Nu Go.Proofs.YtjiofenpalokoaaGreatDoor.Vs

structure CompT where
  op : Nat
  a : Nat
  b : Nat
  c : Nat
  p : List UInt8

def sgn : Nat → List UInt8
  | 0 => [61]
  | 1 => [33, 61]
  | 2 => [60]
  | 3 => [60, 61]
  | 4 => [62]
  | 5 => [62, 61]
  | 6 => [126]
  | 7 => [94]
  | _ => [42]
def hit (l : List UInt8) (op : Nat) : Bool := (sgn op).isPrefixOf l && verV (l.drop (sgn op).length)
def ofV (op : Nat) (t : List UInt8) : CompT := ⟨op, nth t 0, nth t 1, nth t 2, aft 45 t⟩
def anyC : CompT := ⟨8, 0, 0, 0, []⟩
/-- the first sign from that one on that leaves a version's text -/
def firstHit (l : List UInt8) : Nat → Nat → Option CompT
  | 0, _ => none
  | n + 1, k => if hit l k then some (ofV k (l.drop (sgn k).length)) else firstHit l n (k + 1)
def compOf (l : List UInt8) : Option CompT := if l = [42] then some anyC else firstHit l 8 0

/-- all of them, if all are -/
def allOf {α β : Type} (f : α → Option β) : List α → Option (List β)
  | [] => some []
  | x :: xs => match f x with
    | none => none
    | some y => match allOf f xs with
      | none => none
      | some ys => some (y :: ys)
def altOf (l : List UInt8) : Option (List CompT) := if (cutl 44 l).length ≤ 4 then allOf compOf (cutl 44 l) else none
def rngOf (l : List UInt8) : Option (List (List CompT)) := if l.length ≤ 80 ∧ (cutl 124 l).length ≤ 4 then allOf altOf (cutl 124 l) else none

theorem allOf_step {α β : Type} {f : α → Option β} {l : List α} {k : Nat} {x : α} (h : l[k]? = some x) : allOf f (l.drop k) = match f x with
    | none => none
    | some y => match allOf f (l.drop (k + 1)) with
      | none => none
      | some ys => some (y :: ys) := by
  have hk := (List.getElem?_eq_some_iff.1 h).1
  have e : l[k] = x := (List.getElem?_eq_some_iff.1 h).2
  rw [List.drop_eq_getElem_cons hk, e]; rfl
theorem allOf_app {α β : Type} {f : α → Option β} : ∀ l m : List α, allOf f (l ++ m) = match allOf f l with
    | none => none
    | some xs => match allOf f m with
      | none => none
      | some ys => some (xs ++ ys) := by
  intro l
  induction l with
  | nil => intro m; rw [List.nil_append]; simp only [allOf]; cases allOf f m <;> rfl
  | cons x l ih =>
    intro m
    rw [List.cons_append]
    simp only [allOf, ih m]
    cases f x with
    | none => rfl
    | some y => cases allOf f l with
      | none => rfl
      | some ys => cases allOf f m <;> rfl
theorem allOf_len {α β : Type} {f : α → Option β} : ∀ {l : List α} {ys : List β}, allOf f l = some ys → ys.length = l.length := by
  intro l
  induction l with
  | nil => intro ys h; simp only [allOf, Option.some.injEq] at h; subst h; rfl
  | cons x l ih =>
    intro ys h
    simp only [allOf] at h
    cases hx : f x with
    | none => rw [hx] at h; cases h
    | some y =>
      cases hl : allOf f l with
      | none => rw [hx, hl] at h; cases h
      | some zs =>
        rw [hx, hl] at h
        simp only [Option.some.injEq] at h
        subst h
        simp [ih hl]
theorem allOf_all {α β : Type} {f : α → Option β} {P : α → β → Prop} (hf : ∀ x y, f x = some y → P x y) : ∀ {l : List α} {ys : List β}, allOf f l = some ys → ∀ y, y ∈ ys → ∃ x, x ∈ l ∧ P x y := by
  intro l
  induction l with
  | nil => intro ys h y hy; simp only [allOf, Option.some.injEq] at h; subst h; simp at hy
  | cons x l ih =>
    intro ys h y hy
    simp only [allOf] at h
    cases hx : f x with
    | none => rw [hx] at h; cases h
    | some z =>
      cases hl : allOf f l with
      | none => rw [hx, hl] at h; cases h
      | some zs =>
        rw [hx, hl] at h
        simp only [Option.some.injEq] at h
        subst h
        rcases List.mem_cons.1 hy with rfl | hy
        · exact ⟨x, by simp, hf _ _ hx⟩
        · obtain ⟨x', h1, h2⟩ := ih hl y hy
          exact ⟨x', by simp [h1], h2⟩
theorem allOf_map {α β : Type} {f : α → Option β} {g : β → α} (hf : ∀ x y, f x = some y → g y = x) : ∀ {l : List α} {ys : List β}, allOf f l = some ys → ys.map g = l := by
  intro l
  induction l with
  | nil => intro ys h; simp only [allOf, Option.some.injEq] at h; subst h; rfl
  | cons x l ih =>
    intro ys h
    simp only [allOf] at h
    cases hx : f x with
    | none => rw [hx] at h; cases h
    | some z =>
      cases hl : allOf f l with
      | none => rw [hx, hl] at h; cases h
      | some zs =>
        rw [hx, hl] at h
        simp only [Option.some.injEq] at h
        subst h
        rw [List.map_cons, ih hl, hf _ _ hx]

/-! texts -/
def compText (c : CompT) : List UInt8 := sgn c.op ++ (if c.op = 8 then [] else textV c.a c.b c.c c.p)
def altText (cs : List CompT) : List UInt8 := joinl 44 (cs.map compText)
def rngText (rs : List (List CompT)) : List UInt8 := joinl 124 (rs.map altText)
/-- may it be a comparison? -/
def OkC (c : CompT) : Prop := (c.op < 8 ∧ c.a < 1000000 ∧ c.b < 1000000 ∧ c.c < 1000000 ∧ (c.p = [] ∨ preV c.p = true)) ∨ c = anyC
def OkR (rs : List (List CompT)) : Prop := 1 ≤ rs.length ∧ rs.length ≤ 4 ∧ (∀ cs, cs ∈ rs → 1 ≤ cs.length ∧ cs.length ≤ 4 ∧ ∀ c, c ∈ cs → OkC c) ∧ (rngText rs).length ≤ 80

theorem firstHit_some {l : List UInt8} : ∀ {n k : Nat} {c : CompT}, firstHit l n k = some c → ∃ j, k ≤ j ∧ j < k + n ∧ hit l j = true ∧ c = ofV j (l.drop (sgn j).length) := by
  intro n
  induction n with
  | zero => intro k c h; simp [firstHit] at h
  | succ n ih =>
    intro k c h
    unfold firstHit at h
    by_cases hh : hit l k = true
    · rw [if_pos hh] at h
      simp only [Option.some.injEq] at h
      exact ⟨k, Nat.le_refl _, by omega, hh, h.symm⟩
    · rw [if_neg hh] at h
      obtain ⟨j, h1, h2, h3, h4⟩ := ih h
      exact ⟨j, by omega, by omega, h3, h4⟩
theorem compOf_ok {l : List UInt8} {c : CompT} (h : compOf l = some c) : compText c = l ∧ OkC c := by
  unfold compOf at h
  by_cases h0 : l = [42]
  · rw [if_pos h0] at h
    simp only [Option.some.injEq] at h
    subst h
    exact ⟨by rw [h0]; rfl, .inr rfl⟩
  · rw [if_neg h0] at h
    obtain ⟨j, _, h2, h3, rfl⟩ := firstHit_some h
    unfold hit at h3
    simp only [Bool.and_eq_true] at h3
    obtain ⟨t1, t2, t3, t4, t5, _⟩ := text_of h3.2
    have hp := List.isPrefixOf_iff_prefix.1 h3.1
    refine ⟨?_, .inl ⟨by show j < 8; omega, t2, t3, t4, t5⟩⟩
    unfold compText ofV
    rw [if_neg (by show ¬ j = 8; omega), t1]
    exact List.prefix_iff_eq_append.1 hp
theorem altOf_ok {l : List UInt8} {cs : List CompT} (h : altOf l = some cs) : altText cs = l ∧ 1 ≤ cs.length ∧ cs.length ≤ 4 ∧ ∀ c, c ∈ cs → OkC c := by
  unfold altOf at h
  by_cases h4 : (cutl 44 l).length ≤ 4
  · rw [if_pos h4] at h
    have h1 := allOf_len h
    have h2 := List.length_pos_iff.2 (cutl_ne 44 l)
    refine ⟨?_, by omega, by omega, fun c hc => ?_⟩
    · unfold altText
      rw [allOf_map (fun x y hxy => (compOf_ok hxy).1) h, join_cutl]
    · obtain ⟨x, _, hx⟩ := allOf_all (P := fun _ c => OkC c) (fun x y hxy => (compOf_ok hxy).2) h c hc
      exact hx
  · rw [if_neg h4] at h; cases h
theorem rngOf_ok {l : List UInt8} {rs : List (List CompT)} (h : rngOf l = some rs) : rngText rs = l ∧ OkR rs := by
  unfold rngOf at h
  by_cases h4 : l.length ≤ 80 ∧ (cutl 124 l).length ≤ 4
  · rw [if_pos h4] at h
    have h1 := allOf_len h
    have h2 := List.length_pos_iff.2 (cutl_ne 124 l)
    have ht : rngText rs = l := by
      unfold rngText
      rw [allOf_map (fun x y hxy => (altOf_ok hxy).1) h, join_cutl]
    refine ⟨ht, by omega, by omega, fun cs hc => ?_, by rw [ht]; exact h4.1⟩
    obtain ⟨x, _, hx⟩ := allOf_all (P := fun _ cs => 1 ≤ cs.length ∧ cs.length ≤ 4 ∧ ∀ c, c ∈ cs → OkC c) (fun x y hxy => (altOf_ok hxy).2) h cs hc
    exact hx
  · rw [if_neg h4] at h; cases h

/-! what a range has -/
def okOp (op : Nat) (k : Int) : Bool :=
  match op with
  | 0 => k == 0
  | 1 => k != 0
  | 2 => decide (k < 0)
  | 3 => decide (k ≤ 0)
  | 4 => decide (0 < k)
  | _ => decide (0 ≤ k)
/-- the lowest release above all versions that have the same numbers up to a place -/
def nextL (a b c : Nat) (place : Nat) : List Nat := match place with
  | 0 => [a + 1, 0, 0]
  | 1 => [a, b + 1, 0]
  | _ => [a, b, c + 1]
def keptP (a b : Nat) : Nat := if a ≠ 0 then 0 else if b ≠ 0 then 1 else 2
def compHas (c : CompT) (x y z : Nat) (p : List UInt8) : Bool :=
  if c.op = 8 then true
  else okOp c.op (cmpV [x, y, z] [c.a, c.b, c.c] p c.p) &&
    (if c.op = 6 then decide (cmpV [x, y, z] (nextL c.a c.b c.c 1) p [] < 0) else if c.op = 7 then decide (cmpV [x, y, z] (nextL c.a c.b c.c (keptP c.a c.b)) p [] < 0) else true)
def opens (c : CompT) (x y z : Nat) : Bool := decide (c.p ≠ []) && decide ([c.a, c.b, c.c] = [x, y, z])
def altHas (cs : List CompT) (x y z : Nat) (p : List UInt8) : Bool := cs.all (fun c => compHas c x y z p) && (decide (p = []) || cs.any (fun c => opens c x y z))
def rngHas (rs : List (List CompT)) (x y z : Nat) (p : List UInt8) : Bool := rs.any (fun cs => altHas cs x y z p)

/-! texts one behind the other -/
theorem cutl_app {c : UInt8} (q : List UInt8) : ∀ (n : Nat) (l : List UInt8), l.length ≤ n → cutl c (l ++ c :: q) = cutl c l ++ cutl c q := by
  intro n
  induction n with
  | zero => intro l h; obtain rfl := List.eq_nil_of_length_eq_zero (Nat.le_zero.1 h); rw [List.nil_append, show c :: q = [] ++ c :: q from rfl, cutl_hit (by simp), cutl_no (l := []) (by simp)]; rfl
  | succ n ih =>
    intro l hl
    by_cases h : c ∈ l
    · obtain ⟨a, r, rfl, ha⟩ := splits l h
      rw [List.append_assoc, List.cons_append, cutl_hit ha, ih r (by simp at hl; omega), cutl_hit ha]; rfl
    · rw [cutl_hit h, cutl_no h]; rfl
theorem rngOf_join {s t : List UInt8} (hl : s.length + t.length ≤ 79) (hc : (cutl 124 s).length + (cutl 124 t).length ≤ 4) : rngOf (s ++ 124 :: t) = match rngOf s with
    | none => none
    | some xs => match rngOf t with
      | none => none
      | some ys => some (xs ++ ys) := by
  unfold rngOf
  rw [cutl_app t _ s (Nat.le_refl _)]
  rw [if_pos ⟨by simp; omega, by simp; omega⟩, if_pos ⟨by omega, by omega⟩, if_pos ⟨by omega, by omega⟩]
  rw [allOf_app]
  cases allOf altOf (cutl 124 s) with
  | none => rfl
  | some xs => cases allOf altOf (cutl 124 t) <;> rfl
theorem rngHas_app (xs ys : List (List CompT)) (x y z : Nat) (p : List UInt8) : rngHas (xs ++ ys) x y z p = (rngHas xs x y z p || rngHas ys x y z p) := by
  unfold rngHas; rw [List.any_append]
theorem altHas_app (xs ys : List CompT) (x y z : Nat) : altHas (xs ++ ys) x y z [] = (altHas xs x y z [] && altHas ys x y z []) := by
  unfold altHas; rw [List.all_append]; simp
end Go.Proofs.YtjiofenpalokoaaGreatDoor.Sp
