/-
  NUMBERS, AND LISTS OF NUMBERS, THAT COME IN, however long. No program is imported.
-/
import Derived.Test.YtopneceicamakaaOpens
import Derived.Test.YtopneceicamakaaRowsMem
import Derived.Deep.Slices
namespace Go.Proofs.Ytopneceicamakaa
open Go.RowKit Go.Proofs.Ytopneceicamakaa.Ln
open Go.ChangeShapes Go.WideShapes Go.ChangeAt

/-- a slice that reads as those values, however long -/
def RawC (w : World) (v : Value) (vs : List Value) : Prop :=
  ∃ a c, v = .slice a vs.length c ∧ vs.length ≤ c ∧ (0 < vs.length → ∃ B o, a = some ⟨B, o, none⟩ ∧ B < w.heap.size ∧ ∀ j (h : j < vs.length), w.cell? ⟨B, o + j, none⟩ = some vs[j])
theorem RawC.below {w w' : World} {v : Value} {vs : List Value} (h : RawC w v vs) (hb : Below w.heap.size w w') : RawC w' v vs := by
  obtain ⟨a, c, h1, h2, h4⟩ := h
  refine ⟨a, c, h1, h2, fun hp => ?_⟩
  obtain ⟨B, o, e, hB, hc⟩ := h4 hp
  exact ⟨B, o, e, Nat.lt_of_lt_of_le hB hb.size, fun j hj => (hb.cell (p := ⟨B, o + j, none⟩) hB).trans (hc j hj)⟩
theorem RawC.cells {w : World} {v : Value} {vs : List Value} (h : RawC w v vs) (hl : vs.length ≤ 17592186044416) : Cells w v vs := by
  obtain ⟨a, c, h1, h2, h4⟩ := h
  exact ⟨a, c, h1, h2, hl, h4⟩
/-- lists of numbers, however long -/
def RawL (w : World) (v : Value) (ll : List (List Int)) : Prop := ∃ vs, RawC w v vs ∧ vs.length = ll.length ∧ ∀ j (h : j < vs.length), RawC w vs[j] (intsV (ll.getD j []))
theorem RawL.below {w w' : World} {v : Value} {ll : List (List Int)} (h : RawL w v ll) (hb : Below w.heap.size w w') : RawL w' v ll := by
  obtain ⟨vs, h1, h2, h3⟩ := h
  exact ⟨vs, h1.below hb, h2, fun j h => (h3 j h).below hb⟩
theorem RawL.lists {w : World} {v : Value} {ll : List (List Int)} (h : RawL w v ll) (h1 : ll.length ≤ 17592186044416) (h2 : ∀ l ∈ ll, l.length ≤ 17592186044416) : Lists w v ll := by
  obtain ⟨vs, c1, c2, c3⟩ := h
  refine ⟨vs, c1.cells (by omega), c2, fun j hj hk => ?_⟩
  have h3 := c3 j hj
  rw [List.getD_eq_getElem?_getD, List.getElem?_eq_getElem hk] at h3
  exact RawC.cells h3 (by rw [intsV, List.length_map]; exact h2 _ (List.getElem_mem _))

theorem ints_in {H : Type} {enc : TypeId × Value → H} {P : Program} {W : World} {t e : TypeId} {fuel : Nat} {cs : List Value} {x : DataW H × List MemPlace} (ht : P.underlying t = some (.slice e)) (he : P.underlying e = some (.int .i64)) (hc : P.cellsOf e = 1)
    (h : DataW.trod enc P W 0 (fun _ => true) true fuel t cs = some x) : ∃ v l, cs = [v] ∧ RawC W v (intsV l) ∧ ∀ y ∈ l, -9223372036854775808 ≤ y ∧ y ≤ 9223372036854775807 := by
  rcases open_ints ht he hc h with ⟨hcs, _⟩ | ⟨a', n', c', zs, hcs, _, hl, hm, hz, hx, hcell, hwz⟩
  · exact ⟨_, [], hcs, ⟨none, 0, rfl, Nat.le_refl _, fun h => absurd h (by decide)⟩, fun _ h => absurd h List.not_mem_nil⟩
  · have hz' : zs.length = c' := by simpa using hz
    refine ⟨_, zs.take n', hcs, ⟨some a', c', by rw [intsV, List.length_map, List.length_take, Nat.min_eq_left (by omega)], by rw [intsV, List.length_map, List.length_take]; omega, fun hne => ?_⟩, fun y hy => ?_⟩
    · rw [intsV, List.length_map, List.length_take] at hne
      obtain ⟨B, o, rfl, hcc⟩ := ints_at hcell (by omega)
      refine ⟨B, o, rfl, World.block_lt_of_cell? W _ (hcc 0 (by omega)), fun k hk => ?_⟩
      have hk' : k < zs.length := by rw [intsV, List.length_map, List.length_take] at hk; omega
      simp only [intsV, List.getElem_map, List.getElem_take]
      rw [hcc k hk']
      simp [List.getD, List.getElem?_eq_getElem hk']
    · have := hwz _ (List.mem_of_mem_take hy)
      simpa [Lit.wf, IntKind.min, IntKind.max, IntKind.signed, IntKind.bits] using this

theorem open_list {H : Type} {enc : TypeId × Value → H} {P : Program} {W : World} {b0 : Nat} {r : Reach} {t e : TypeId} {v : Value} {d : DataW H} {ps : List MemPlace} (ht : P.underlying t = some (.slice e)) (he : P.underlying e = some (.int .i64)) (hc : P.cellsOf e = 1)
    (hval : Value.okWide P W r b0 t v) (h : DataW.Trod enc P W 0 (fun _ => true) true t v d ps) : ∃ l, RawC W v (intsV l) ∧ ∀ y ∈ l, -9223372036854775808 ≤ y ∧ y ≤ 9223372036854775807 := by
  obtain ⟨a, n, c, rfl⟩ := okWide_slice ht hval
  obtain ⟨fuel, hf⟩ := h
  obtain ⟨v, l, hcs, h1, h2⟩ := ints_in ht he hc hf
  simp [Value.cells] at hcs
  subst hcs
  exact ⟨l, h1, h2⟩

theorem open_lists {H : Type} {enc : TypeId × Value → H} {P : Program} {W : World} {b0 : Nat} {r : Reach} {t q e : TypeId} {v : Value} {d : DataW H} {ps : List MemPlace} (ht : P.underlying t = some (.slice q)) (hq : P.underlying q = some (.slice e)) (he : P.underlying e = some (.int .i64)) (hc : P.cellsOf e = 1) (hc2 : P.cellsOf q = 1)
    (hval : Value.okWide P W r b0 t v) (h : DataW.Trod enc P W 0 (fun _ => true) true t v d ps) : ∃ ll, RawL W v ll ∧ ∀ l ∈ ll, ∀ y ∈ l, -9223372036854775808 ≤ y ∧ y ≤ 9223372036854775807 := by
  obtain ⟨a, n, c, rfl⟩ := okWide_slice ht hval
  obtain ⟨fuel, hf⟩ := h
  rcases Go.Deep.open_slice ht hf with ⟨hcs, _⟩ | ⟨a', len, cap, m, k, D, Pl, hcs, _, hl, _, hm, hx, hi⟩
  · simp [Value.cells] at hcs
    obtain ⟨rfl, rfl, rfl⟩ := hcs
    exact ⟨[], ⟨[], ⟨none, 0, rfl, Nat.le_refl _, fun h => absurd h (by decide)⟩, rfl, fun j h => absurd h (Nat.not_lt_zero _)⟩, fun _ h => absurd h List.not_mem_nil⟩
  · simp [Value.cells] at hcs
    obtain ⟨rfl, rfl, rfl⟩ := hcs
    have hmn : n ≤ m := by rw [hm]; simp; omega
    have key : ∀ i, i < n → ∃ u l, W.cell? (a'.add i) = some u ∧ RawC W u (intsV l) ∧ ∀ y ∈ l, -9223372036854775808 ≤ y ∧ y ≤ 9223372036854775807 := by
      intro i hin
      obtain ⟨cs', hc', ht'⟩ := hi i (by omega)
      rw [hc2, Nat.mul_one] at hc'
      obtain ⟨u, l, rfl, hs⟩ := ints_in hq he hc ht'
      obtain ⟨_, _, hat⟩ := World.cells?_some hc'
      refine ⟨u, l, ?_, hs⟩
      have h9 := hat 0 (by decide)
      have h8 : W.cell? ((a'.add i).add 0) = some u := by simpa using h9
      have h7 : (a'.add i).add 0 = a'.add i := by simp [Addr.add]
      rwa [h7] at h8
    rcases Nat.eq_zero_or_pos n with h0 | hpos
    · subst h0
      exact ⟨[], ⟨[], ⟨some a', c, rfl, Nat.zero_le _, fun h => absurd h (by decide)⟩, rfl, fun j h => absurd h (Nat.not_lt_zero _)⟩, fun _ h => absurd h List.not_mem_nil⟩
    · have ⟨U, hU⟩ : ∃ U : Nat → Value, ∀ i, i < n → ∃ l, W.cell? (a'.add i) = some (U i) ∧ RawC W (U i) (intsV l) ∧ ∀ y ∈ l, -9223372036854775808 ≤ y ∧ y ≤ 9223372036854775807 :=
        ⟨fun i => if h : i < n then Classical.choose (key i h) else .nilIface, fun i h => by
          dsimp only; rw [dif_pos h]; exact Classical.choose_spec (key i h)⟩
      have ⟨R, hR⟩ : ∃ R : Nat → List Int, ∀ i, i < n → W.cell? (a'.add i) = some (U i) ∧ RawC W (U i) (intsV (R i)) ∧ ∀ y ∈ R i, -9223372036854775808 ≤ y ∧ y ≤ 9223372036854775807 :=
        ⟨fun i => if h : i < n then Classical.choose (hU i h) else [], fun i h => by
          dsimp only; rw [dif_pos h]; exact Classical.choose_spec (hU i h)⟩
      obtain ⟨B, o, mm⟩ := a'
      have h00 := (hR 0 hpos).1
      have hmm : mm = none := by simpa [Addr.add] using World.cell?_spot h00
      subst hmm
      refine ⟨(List.range n).map R, ⟨(List.range n).map U, ⟨some ⟨B, o, none⟩, c, by simp, by simp; exact hl, fun _ => ⟨B, o, rfl, World.block_lt_of_cell? W _ h00, fun k hk => ?_⟩⟩, by simp, fun k hk => ?_⟩, fun l hl => ?_⟩
      · have hkn : k < n := by simpa using hk
        have h1 := (hR k hkn).1
        rw [Go.WideShapes.add_plain] at h1
        rw [h1]; simp
      · have hkn : k < n := by simpa using hk
        have h1 := (hR k hkn).2.1
        have e1 : ((List.range n).map R).getD k [] = R k := by simp [List.getD_eq_getElem?_getD, List.getElem?_range hkn]
        have e2 : ((List.range n).map U)[k]'hk = U k := by simp
        rw [e1, e2]; exact h1
      · obtain ⟨k, hk, rfl⟩ := List.mem_map.1 hl
        exact (hR k (by simpa using hk)).2.2
end Go.Proofs.Ytopneceicamakaa
