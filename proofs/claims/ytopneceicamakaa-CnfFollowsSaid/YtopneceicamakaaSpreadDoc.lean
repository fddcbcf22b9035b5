/-
  LAYER 12: what the document's way of spreading comes to, in plain mathematics.
-/
import Derived.Test.YtopneceicamakaaSpreadMath2
import Derived.Test.YtopneceicamakaaCnfDocHas
namespace Go.Proofs.Ytopneceicamakaa.Cf
open Go.RowKit Go.Proofs.Ytopneceicamakaa Go.Proofs.Ytopneceicamakaa.Ln

/-- how far a clause has been looked at: none, just one, or more aren't false -/
def Seen (set c : List Int) (o : Int) (many : Nat) : Prop :=
  ((∀ x ∈ c, -x ∈ set) ∧ many = 0 ∧ o = 0) ∨ (many = 1 ∧ o ∈ c ∧ -o ∉ set ∧ ∀ y ∈ c, -y ∉ set → y = o) ∨ (2 ≤ many ∧ ∃ y z, y ∈ c ∧ z ∈ c ∧ y ≠ z ∧ -y ∉ set ∧ -z ∉ set)
theorem seen_nil (set : List Int) : Seen set [] 0 0 := .inl ⟨fun _ h => absurd h List.not_mem_nil, rfl, rfl⟩
theorem seen_false {set c : List Int} {o x : Int} {many : Nat} (h : Seen set c o many) (hx : -x ∈ set) : Seen set (c ++ [x]) o many := by
  rcases h with ⟨h1, h2, h3⟩ | ⟨h1, h2, h3, h4⟩ | ⟨h1, y, z, h2, h3, h4⟩
  · refine .inl ⟨fun y hy => ?_, h2, h3⟩
    rcases List.mem_append.1 hy with h | h
    · exact h1 y h
    · rw [List.mem_singleton.1 h]; exact hx
  · refine .inr (.inl ⟨h1, List.mem_append.2 (.inl h2), h3, fun y hy hn => ?_⟩)
    rcases List.mem_append.1 hy with h | h
    · exact h4 y h hn
    · rw [List.mem_singleton.1 h] at hn; exact absurd hx hn
  · exact .inr (.inr ⟨h1, y, z, List.mem_append.2 (.inl h2), List.mem_append.2 (.inl h3), h4⟩)
theorem seen_same {set c : List Int} {o x : Int} {many : Nat} (h : Seen set c o many) (hx0 : x ≠ 0) (hx : x = o) : Seen set (c ++ [x]) o many := by
  subst hx
  rcases h with ⟨h1, h2, h3⟩ | ⟨h1, h2, h3, h4⟩ | ⟨h1, y, z, h2, h3, h4⟩
  · exact absurd h3 hx0
  · refine .inr (.inl ⟨h1, List.mem_append.2 (.inl h2), h3, fun y hy hn => ?_⟩)
    rcases List.mem_append.1 hy with h | h
    · exact h4 y h hn
    · exact List.mem_singleton.1 h
  · exact .inr (.inr ⟨h1, y, z, List.mem_append.2 (.inl h2), List.mem_append.2 (.inl h3), h4⟩)
theorem seen_new {set c : List Int} {o x : Int} {many : Nat} (h : Seen set c o many) (hn : -x ∉ set) (hx : x ≠ o) : Seen set (c ++ [x]) x (many + 1) := by
  have hm : x ∈ c ++ [x] := by simp
  rcases h with ⟨h1, h2, h3⟩ | ⟨h1, h2, h3, h4⟩ | ⟨h1, y, z, h2, h3, h4⟩
  · refine .inr (.inl ⟨by omega, hm, hn, fun y hy hyn => ?_⟩)
    rcases List.mem_append.1 hy with h | h
    · exact absurd (h1 y h) hyn
    · exact List.mem_singleton.1 h
  · exact .inr (.inr ⟨by omega, x, o, hm, List.mem_append.2 (.inl h2), hx, hn, h3⟩)
  · exact .inr (.inr ⟨by omega, y, z, List.mem_append.2 (.inl h2), List.mem_append.2 (.inl h3), h4⟩)
theorem take_one {c : List Int} {k : Nat} (h : k < c.length) : c.take (k + 1) = c.take k ++ [c.getD k 0] := by
  rw [List.take_add_one, List.getElem?_eq_getElem h, List.getD_eq_getElem?_getD, List.getElem?_eq_getElem h]; rfl
def hitT (set c : List Int) (k : Nat) : Bool := (c.take k).any fun x => set.contains x
theorem hitT_succ {set c : List Int} {k : Nat} (h : k < c.length) : hitT set c (k + 1) = (hitT set c k || set.contains (c.getD k 0)) := by
  unfold hitT; rw [take_one h, List.any_append]; simp
theorem hitT_all (set c : List Int) : hitT set c c.length = c.any fun x => set.contains x := by unfold hitT; rw [List.take_length]

/-- one clause is such that nothing more follows from it -/
def fixAt (S : Int → Prop) (c : List Int) : Prop := ¬ allF S c ∧ ∀ x, unitAt S c x → S x
/-- the literals that are so, as they came about -/
structure Grow0 (N : Nat) (cls : List (List Int)) (lits set A : List Int) : Prop where
  eq : set = lits ++ A
  reach : Reach cls (· ∈ lits) (· ∈ set)
  nodup : (A.map varI).Nodup
  inn : ∀ x ∈ A, 1 ≤ varI x ∧ varI x ≤ (N : Int)
def GrowR (N : Nat) (cls : List (List Int)) (lits set : List Int) (r : Nat) : Prop := ∃ A, Grow0 N cls lits set A ∧ (Fixd cls (· ∈ set) ∨ r ≤ A.length)
def GrowI (N : Nat) (cls : List (List Int)) (lits set : List Int) (r i : Nat) : Prop := ∃ A, Grow0 N cls lits set A ∧ (Fixd cls (· ∈ set) ∨ r + 1 ≤ A.length ∨ (r ≤ A.length ∧ ∀ j, j < i → fixAt (· ∈ set) (cls.getD j [])))
theorem grow_start (N : Nat) (cls : List (List Int)) (lits : List Int) : GrowR N cls lits lits 0 :=
  ⟨[], ⟨by simp, .start fun _ => Iff.rfl, by simp, fun x hx => absurd hx List.not_mem_nil⟩, .inr (Nat.zero_le _)⟩
theorem grow_in {N : Nat} {cls : List (List Int)} {lits set : List Int} {r : Nat} (h : GrowR N cls lits set r) : GrowI N cls lits set r 0 := by
  obtain ⟨A, h1, h2⟩ := h
  exact ⟨A, h1, h2.elim .inl fun h => .inr (.inr ⟨h, fun j hj => absurd hj (Nat.not_lt_zero _)⟩)⟩
theorem grow_out {N : Nat} {cls : List (List Int)} {lits set : List Int} {r : Nat} (h : GrowI N cls lits set r cls.length) : GrowR N cls lits set (r + 1) := by
  obtain ⟨A, h1, h2⟩ := h
  refine ⟨A, h1, ?_⟩
  rcases h2 with h | h | ⟨_, h⟩
  · exact .inl h
  · exact .inr h
  · refine .inl fun c hc => ?_
    obtain ⟨j, hj, rfl⟩ := List.mem_iff_getElem.1 hc
    have := h j hj
    rwa [List.getD_eq_getElem?_getD, List.getElem?_eq_getElem hj] at this
theorem grow_len {N : Nat} {cls : List (List Int)} {lits set : List Int} {A : List Int} (h : Grow0 N cls lits set A) : A.length ≤ N := by
  have := pig N (A.map varI) h.nodup (fun x hx => by
    obtain ⟨y, hy, rfl⟩ := List.mem_map.1 hx
    exact h.inn y hy)
  rwa [List.length_map] at this
theorem grow_size {N : Nat} {cls : List (List Int)} {lits set : List Int} {r i : Nat} (h : GrowI N cls lits set r i) : set.length ≤ lits.length + N := by
  obtain ⟨A, h1, _⟩ := h
  have := grow_len h1
  rw [h1.eq, List.length_append]; omega
theorem grow_sizeR {N : Nat} {cls : List (List Int)} {lits set : List Int} {r : Nat} (h : GrowR N cls lits set r) : set.length ≤ lits.length + N := by
  obtain ⟨A, h1, _⟩ := h
  have := grow_len h1
  rw [h1.eq, List.length_append]; omega

/-- what all of this rests on -/
structure Base (N : Nat) (cls : List (List Int)) (lits : List Int) : Prop where
  hN : N ≤ 400
  chk : checkE N cls = 0
  ck : ckC lits N = true
  adj : adjT (normC lits) = false
theorem Base.lit {N : Nat} {cls : List (List Int)} {lits : List Int} (h : Base N cls lits) : ∀ c ∈ cls, ∀ x ∈ c, -(N : Int) ≤ x ∧ x ≤ N ∧ x ≠ 0 := by
  obtain ⟨_, _, _, hall⟩ := checkE_zero h.chk
  exact fun c hc => ckC_in (hall c hc)
theorem Base.cons {N : Nat} {cls : List (List Int)} {lits set : List Int} (h : Base N cls lits) (hr : Reach cls (· ∈ lits) (· ∈ set)) : Cons (· ∈ set) := by
  refine hr.cons (fun x hx hn => ?_) (fun c hc x hx => (h.lit c hc x hx).2.2)
  have hl : litsOk lits := fun x hx => by have := ckC_in h.ck x hx; have := h.hN; exact ⟨by omega, by omega, by omega⟩
  have ht := adj_taut hl
  rw [h.adj] at ht
  unfold tautD at ht
  have := List.any_eq_false.1 ht.symm x hx
  apply this
  rw [List.contains_iff_mem]; exact hn

theorem grow_keep {N : Nat} {cls : List (List Int)} {lits set : List Int} {r i : Nat} {o : Int} {many : Nat} (hb : Base N cls lits) (h : GrowI N cls lits set r i) (hs : Seen set (cls.getD i []) o many)
    (hk : ((cls.getD i []).any fun x => set.contains x) = true ∨ 2 ≤ many) : GrowI N cls lits set r (i + 1) := by
  obtain ⟨A, h1, h2⟩ := h
  have hcons := hb.cons h1.reach
  have hfix : fixAt (· ∈ set) (cls.getD i []) := by
    rcases hk with hk | hk
    · rw [List.any_eq_true] at hk
      obtain ⟨y, hy, hyc⟩ := hk
      rw [List.contains_iff_mem] at hyc
      refine ⟨fun ha => hcons y hyc (ha y hy), fun x hu => ?_⟩
      by_cases e : y = x
      · subst e; exact hyc
      · exact absurd (hu.2.2 y hy e) (hcons y hyc)
    · rcases hs with ⟨_, h, _⟩ | ⟨h, _⟩ | ⟨_, y, z, g1, g2, g3, g4, g5⟩
      · omega
      · omega
      · refine ⟨fun ha => g4 (ha y g1), fun x hu => ?_⟩
        exfalso
        by_cases e : y = x
        · subst e; exact g5 (hu.2.2 z g2 (fun e => g3 e.symm))
        · exact g4 (hu.2.2 y g1 e)
  refine ⟨A, h1, ?_⟩
  rcases h2 with h | h | ⟨g1, g2⟩
  · exact .inl h
  · exact .inr (.inl h)
  · refine .inr (.inr ⟨g1, fun j hj => ?_⟩)
    by_cases e : j = i
    · subst e; exact hfix
    · exact g2 j (by omega)
theorem grow_add {N : Nat} {cls : List (List Int)} {lits set : List Int} {r i : Nat} {o : Int} (hb : Base N cls lits) (hi : i < cls.length) (h : GrowI N cls lits set r i) (hs : Seen set (cls.getD i []) o 1)
    (hk : ((cls.getD i []).any fun x => set.contains x) = false) : GrowI N cls lits (set ++ [o]) r (i + 1) := by
  obtain ⟨A, h1, h2⟩ := h
  have hcm : cls.getD i [] ∈ cls := by rw [List.getD_eq_getElem?_getD, List.getElem?_eq_getElem hi]; exact List.getElem_mem _
  generalize cls.getD i [] = c at *
  obtain ⟨g1, g2, g3⟩ : o ∈ c ∧ -o ∉ set ∧ ∀ y ∈ c, -y ∉ set → y = o := by
    rcases hs with ⟨_, h, _⟩ | ⟨_, h⟩ | ⟨h, _⟩
    · omega
    · exact h
    · omega
  have hun : unitAt (· ∈ set) c o := ⟨g1, g2, fun y hy hyo => by
    by_cases e : -y ∈ set
    · exact e
    · exact absurd (g3 y hy e) hyo⟩
  have hno : o ∉ set := fun e => by
    have := List.any_eq_false.1 hk o g1
    exact this (by rw [List.contains_iff_mem]; exact e)
  have hlit := hb.lit c hcm o g1
  have hv : 1 ≤ varI o ∧ varI o ≤ (N : Int) := by unfold varI; split <;> omega
  refine ⟨A ++ [o], ⟨by rw [h1.eq, List.append_assoc], .step h1.reach hcm hun (fun y => by simp), ?_, fun x hx => ?_⟩, ?_⟩
  · rw [List.map_append, List.nodup_append]
    refine ⟨h1.nodup, by simp, fun a ha b hb2 => ?_⟩
    obtain ⟨y, hy, rfl⟩ := List.mem_map.1 ha
    have hb3 : b = varI o := by simpa using hb2
    rw [hb3]
    intro e
    have hys : y ∈ set := by rw [h1.eq]; exact List.mem_append.2 (.inr hy)
    rcases varI_eq e with e | e
    · exact hno (e ▸ hys)
    · exact g2 (e ▸ hys)
  · rcases List.mem_append.1 hx with hx | hx
    · exact h1.inn x hx
    · rw [List.mem_singleton.1 hx]; exact hv
  · rcases h2 with h | h | ⟨h, _⟩
    · exact absurd ((h c hcm).2 o hun) hno
    · exact .inr (.inl (by simp; omega))
    · exact .inr (.inl (by simp; omega))
theorem reach_up {cls : List (List Int)} {S0 S : Int → Prop} (h : Reach cls S0 S) : ∀ x, S0 x → S x := by
  induction h with
  | start e => exact fun x hx => (e x).2 hx
  | step _ _ _ e ih => exact fun x hx => (e x).2 (.inl (ih x hx))
theorem grow_clash {N : Nat} {cls : List (List Int)} {lits set : List Int} {r i : Nat} {o : Int} (hb : Base N cls lits) (hi : i < cls.length) (h : GrowI N cls lits set r i) (hs : Seen set (cls.getD i []) o 0) : spreadC N cls lits = (none, true) := by
  obtain ⟨A, h1, _⟩ := h
  have hcm : cls.getD i [] ∈ cls := by rw [List.getD_eq_getElem?_getD, List.getElem?_eq_getElem hi]; exact List.getElem_mem _
  have hall : allF (· ∈ set) (cls.getD i []) := by
    rcases hs with ⟨h, _⟩ | ⟨h, _⟩ | ⟨h, _⟩
    · exact h
    · omega
    · omega
  rcases (spread_says hb.hN hb.chk hb.ck).2 hb.adj with ⟨S, _, _, h⟩ | ⟨S, l, h2, h3, _, _, _⟩
  · exact h
  · exfalso
    exact no_clash (reach_up h2) h3 h1.reach hcm hall
theorem grow_end {N : Nat} {cls : List (List Int)} {lits set : List Int} (hb : Base N cls lits) (h : GrowR N cls lits set (N + 1)) : spreadC N cls lits = (some (normC set), false) := by
  obtain ⟨A, h1, h2⟩ := h
  have hlen := grow_len h1
  have hfix : Fixd cls (· ∈ set) := h2.elim id fun h => by omega
  rcases (spread_says hb.hN hb.chk hb.ck).2 hb.adj with ⟨S, g1, ⟨c, hc, ha⟩, _⟩ | ⟨S, l, g1, g2, g3, g4, g5⟩
  · exact absurd ha (no_clash (reach_up h1.reach) hfix g1 hc)
  · rw [g5]
    congr 2
    refine uniq _ _ g3 (normC_strict set) fun x => ?_
    rw [g4, normC_mem]
    exact ⟨g1.sub (reach_up h1.reach) hfix x, h1.reach.sub (reach_up g1) g2 x⟩
end Go.Proofs.Ytopneceicamakaa.Cf
