/-
  LAYER 4, PLAIN MATHEMATICS: a range's text is parsed as the range.
-/
import Derived.Test.YtebhgcejcdgdbaaGreatDoorMA
namespace Go.Proofs.YtebhgcejcdgdbaaGreatDoor.Sp
open Go.Proofs.YtebhgcejcdgdbaaGreatDoor Go.Proofs.YtebhgcejcdgdbaaGreatDoor.Nu Go.Proofs.YtebhgcejcdgdbaaGreatDoor.Vs

theorem sgn_pos {k : Nat} (h : k < 8) : 1 ≤ (sgn k).length := by
  have ways : k = 0 ∨ k = 1 ∨ k = 2 ∨ k = 3 ∨ k = 4 ∨ k = 5 ∨ k = 6 ∨ k = 7 := by omega
  rcases ways with rfl | rfl | rfl | rfl | rfl | rfl | rfl | rfl <;> decide
theorem sgn_no {k : Nat} (h : k < 8) {x : UInt8} (hx : x = 44 ∨ x = 124) : x ∉ sgn k := by
  have ways : k = 0 ∨ k = 1 ∨ k = 2 ∨ k = 3 ∨ k = 4 ∨ k = 5 ∨ k = 6 ∨ k = 7 := by omega
  rcases hx with rfl | rfl <;> rcases ways with rfl | rfl | rfl | rfl | rfl | rfl | rfl | rfl <;> decide
theorem comp_back {c : CompT} (h : OkC c) : compOf (compText c) = some c ∧ (44 : UInt8) ∉ compText c ∧ (124 : UInt8) ∉ compText c := by
  rcases h with ⟨h8, ha, hb, hc, hp⟩ | rfl
  · obtain ⟨h0, h1, h2, h3, h4⟩ := of_text (pre := c.p) ha hb hc
    rw [decide_eq_true hp] at h0
    have hct : compText c = sgn c.op ++ textV c.a c.b c.c c.p := by unfold compText; rw [if_neg (by omega)]
    have hl : lead (compText c) = (sgn c.op).length := by rw [hct]; exact lead_app _ (sgn_all h8) (ver_head h0)
    have ht : (compText c).take (lead (compText c)) = sgn c.op := by rw [hl, hct, List.take_left]
    have hd : (compText c).drop (lead (compText c)) = textV c.a c.b c.c c.p := by rw [hl, hct, List.drop_left]
    have hne : compText c ≠ [42] := by
      intro e
      have := congrArg List.length e
      rw [hct, List.length_append] at this
      obtain ⟨d, r, hh, _⟩ := ver_head h0
      rw [hh] at this
      have := sgn_pos h8
      simp at *
      omega
    refine ⟨?_, ?_, ?_⟩
    · rw [one_hit h8 hne ht, hd, if_pos h0]
      unfold ofV
      rw [h1, h2, h3, h4]
    · rw [hct, List.mem_append]
      rintro (h | h)
      · exact sgn_no h8 (.inl rfl) h
      · exact ver_no h0 (by decide) (by decide) (by decide) h
    · rw [hct, List.mem_append]
      rintro (h | h)
      · exact sgn_no h8 (.inr rfl) h
      · exact ver_no h0 (by decide) (by decide) (by decide) h
  · exact ⟨rfl, by decide, by decide⟩
theorem allOf_back {α β : Type} {f : α → Option β} {g : β → α} : ∀ {ys : List β}, (∀ y, y ∈ ys → f (g y) = some y) → allOf f (ys.map g) = some ys := by
  intro ys
  induction ys with
  | nil => intro _; rfl
  | cons y ys ih =>
    intro h
    rw [List.map_cons]
    simp only [allOf]
    rw [h y (by simp), ih (fun z hz => h z (by simp [hz]))]
theorem mem_joinl {c x : UInt8} : ∀ {ps : List (List UInt8)}, x ∈ joinl c ps → x = c ∨ ∃ p, p ∈ ps ∧ x ∈ p := by
  intro ps
  induction ps with
  | nil => intro h; simp [joinl] at h
  | cons p ps ih =>
    intro h
    by_cases hp : ps = []
    · subst hp
      exact .inr ⟨p, by simp, h⟩
    · rw [joinl_cons hp] at h
      rcases List.mem_append.1 h with h | h
      · exact .inr ⟨p, by simp, h⟩
      · rcases List.mem_cons.1 h with h | h
        · exact .inl h
        · rcases ih h with h | ⟨q, hq, h⟩
          · exact .inl h
          · exact .inr ⟨q, by simp [hq], h⟩
theorem alt_back {cs : List CompT} (h1 : 1 ≤ cs.length) (h4 : cs.length ≤ 4) (h : ∀ c, c ∈ cs → OkC c) : altOf (altText cs) = some cs ∧ (124 : UInt8) ∉ altText cs := by
  have hcut : cutl 44 (altText cs) = cs.map compText := by
    unfold altText
    refine cutl_join (by intro e; have := congrArg List.length e; rw [List.length_map] at this; simp at this; rw [this] at h1; simp at h1) fun p hp => ?_
    obtain ⟨c, hc, rfl⟩ := List.mem_map.1 hp
    exact (comp_back (h c hc)).2.1
  refine ⟨?_, fun hm => ?_⟩
  · unfold altOf
    rw [hcut, if_pos (by rw [List.length_map]; exact h4)]
    exact allOf_back fun c hc => (comp_back (h c hc)).1
  · unfold altText at hm
    rcases mem_joinl hm with h9 | ⟨p, hp, h9⟩
    · exact absurd h9 (by decide)
    · obtain ⟨c, hc, rfl⟩ := List.mem_map.1 hp
      exact (comp_back (h c hc)).2.2 h9
theorem rng_back {rs : List (List CompT)} (h : OkR rs) : rngOf (rngText rs) = some rs := by
  obtain ⟨h1, h4, hok, hl⟩ := h
  have hcut : cutl 124 (rngText rs) = rs.map altText := by
    unfold rngText
    refine cutl_join (by intro e; have := congrArg List.length e; rw [List.length_map] at this; simp at this; rw [this] at h1; simp at h1) fun p hp => ?_
    obtain ⟨cs, hc, rfl⟩ := List.mem_map.1 hp
    exact (alt_back (hok cs hc).1 (hok cs hc).2.1 (hok cs hc).2.2).2
  unfold rngOf
  rw [hcut, if_pos ⟨hl, by rw [List.length_map]; exact h4⟩]
  exact allOf_back fun cs hc => (alt_back (hok cs hc).1 (hok cs hc).2.1 (hok cs hc).2.2).1
end Go.Proofs.YtebhgcejcdgdbaaGreatDoor.Sp
