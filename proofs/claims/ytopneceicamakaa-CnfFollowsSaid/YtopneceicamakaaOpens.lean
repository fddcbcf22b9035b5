/-
  SLICES of texts, and of numbers, that come in. No program is imported.
-/
import Derived.Test.YtopneceicamakaaKit
import Derived.SliceStrings
namespace Go.Proofs.Ytopneceicamakaa
open Go.RowKit
section
open Go.ChangeShapes Go.WideShapes Go.ChangeAt

theorem strs_at {w : World} {a : Addr} {zs : List ByteArray} (h : ∀ i, i < zs.length → w.cell? (a.add i) = some (.string (zs.getD i ByteArray.empty))) (hp : 0 < zs.length) :
    ∃ b off, a = ⟨b, off, none⟩ ∧ ∀ j, j < zs.length → w.cell? ⟨b, off + j, none⟩ = some (.string (zs.getD j ByteArray.empty)) := by
  obtain ⟨b, off, spot⟩ := a
  have hspot : spot = none := by simpa [Addr.add] using World.cell?_spot (h 0 hp)
  subst hspot
  exact ⟨b, off, rfl, fun j hj => by rw [← Go.WideShapes.add_plain]; exact h j hj⟩

/-- a slice of texts that came in: empty, or its cells -/
theorem open_words {H : Type} {enc : TypeId × Value → H} {P : Program} {W : World} {b0 : Nat} {r : Reach} {t e : TypeId} {v : Value} {d : DataW H} {ps : List MemPlace} (ht : P.underlying t = some (.slice e)) (he : P.underlying e = some .string) (hc : P.cellsOf e = 1)
    (hval : Value.okWide P W r b0 t v) (h : DataW.Trod enc P W 0 (fun _ => true) true t v d ps) :
    ∃ a n c, v = .slice a n c ∧ (n = 0 ∨ ∃ B o, ∃ ws : List ByteArray, a = some ⟨B, o, none⟩ ∧ n = ws.length ∧ B < W.heap.size ∧ (∀ k (h : k < ws.length), ws[k].size ≤ maxLen) ∧
      (∀ k (h : k < ws.length), W.cell? ⟨B, o + k, none⟩ = some (.string ws[k])) ∧ ∃ es sp, d = .slice es sp ∧ n ≤ es.length + sp.length) := by
  obtain ⟨a, n, c, rfl⟩ := okWide_slice ht hval
  refine ⟨a, n, c, rfl, ?_⟩
  obtain ⟨fuel, hf⟩ := h
  rcases open_strings ht he hc hf with ⟨hcs, _⟩ | ⟨a', n', c', zs, hcs, _, hl, hm, hz, hx, hcell, hwz⟩
  · left
    simp [Value.cells] at hcs
    exact hcs.2.1
  · simp [Value.cells] at hcs
    obtain ⟨rfl, rfl, rfl⟩ := hcs
    rcases Nat.eq_zero_or_pos n with h0 | h0
    · exact .inl h0
    · right
      have hz' : zs.length = c := by simpa using hz
      obtain ⟨B, o, rfl, hcc⟩ := strs_at hcell (by omega)
      refine ⟨B, o, zs.take n, rfl, by simp; omega, World.block_lt_of_cell? W _ (hcc 0 (by omega)), ?_, ?_, ?_⟩
      · intro k hk
        rw [List.getElem_take]
        exact hwz _ (List.getElem_mem _)
      · intro k hk
        have hk' : k < zs.length := by simp at hk; omega
        rw [List.getElem_take, hcc k hk']
        simp [List.getD, List.getElem?_eq_getElem hk']
      · simp only [Prod.mk.injEq] at hx
        refine ⟨_, _, hx.1, ?_⟩
        simp [strs]; omega

/-- a slice of numbers that came in: empty, or its cells -/
theorem open_nums {H : Type} {enc : TypeId × Value → H} {P : Program} {W : World} {b0 : Nat} {r : Reach} {t e : TypeId} {k : IntKind} {v : Value} {d : DataW H} {ps : List MemPlace} (ht : P.underlying t = some (.slice e)) (he : P.underlying e = some (.int k)) (hc : P.cellsOf e = 1)
    (hval : Value.okWide P W r b0 t v) (h : DataW.Trod enc P W 0 (fun _ => true) true t v d ps) :
    ∃ a n c, v = .slice a n c ∧ (n = 0 ∨ ∃ B o, ∃ ws : List Int, a = some ⟨B, o, none⟩ ∧ n = ws.length ∧ B < W.heap.size ∧
      (∀ j (h : j < ws.length), W.cell? ⟨B, o + j, none⟩ = some (.int k ws[j]))) := by
  obtain ⟨a, n, c, rfl⟩ := okWide_slice ht hval
  refine ⟨a, n, c, rfl, ?_⟩
  obtain ⟨fuel, hf⟩ := h
  rcases open_ints ht he hc hf with ⟨hcs, _⟩ | ⟨a', n', c', zs, hcs, _, hl, hm, hz, hx, hcell, hwz⟩
  · left
    simp [Value.cells] at hcs
    exact hcs.2.1
  · simp [Value.cells] at hcs
    obtain ⟨rfl, rfl, rfl⟩ := hcs
    rcases Nat.eq_zero_or_pos n with h0 | h0
    · exact .inl h0
    · right
      have hz' : zs.length = c := by simpa using hz
      obtain ⟨B, o, rfl, hcc⟩ := ints_at hcell (by omega)
      refine ⟨B, o, zs.take n, rfl, by simp; omega, World.block_lt_of_cell? W _ (hcc 0 (by omega)), ?_⟩
      intro j hj
      have hj' : j < zs.length := by simp at hj; omega
      rw [List.getElem_take, hcc j hj']
      simp [List.getD, List.getElem?_eq_getElem hj']

/-- a slice of numbers that came in: empty, or its cells -/
theorem open_u32s {H : Type} {enc : TypeId × Value → H} {P : Program} {W : World} {b0 : Nat} {r : Reach} {t e : TypeId} {v : Value} {d : DataW H} {ps : List MemPlace} (ht : P.underlying t = some (.slice e)) (he : P.underlying e = some (.int .u32)) (hc : P.cellsOf e = 1)
    (hval : Value.okWide P W r b0 t v) (h : DataW.Trod enc P W 0 (fun _ => true) true t v d ps) :
    ∃ a n c, v = .slice a n c ∧ (n = 0 ∨ ∃ B o, ∃ ws : List Int, a = some ⟨B, o, none⟩ ∧ n = ws.length ∧ B < W.heap.size ∧
      (∀ j (h : j < ws.length), W.cell? ⟨B, o + j, none⟩ = some (.int .u32 ws[j])) ∧ ∀ j (h : j < ws.length), 0 ≤ ws[j] ∧ ws[j] ≤ 4294967295) := by
  obtain ⟨a, n, c, rfl⟩ := okWide_slice ht hval
  refine ⟨a, n, c, rfl, ?_⟩
  obtain ⟨fuel, hf⟩ := h
  rcases open_ints ht he hc hf with ⟨hcs, _⟩ | ⟨a', n', c', zs, hcs, _, hl, hm, hz, hx, hcell, hwz⟩
  · left
    simp [Value.cells] at hcs
    exact hcs.2.1
  · simp [Value.cells] at hcs
    obtain ⟨rfl, rfl, rfl⟩ := hcs
    rcases Nat.eq_zero_or_pos n with h0 | h0
    · exact .inl h0
    · right
      have hz' : zs.length = c := by simpa using hz
      obtain ⟨B, o, rfl, hcc⟩ := ints_at hcell (by omega)
      refine ⟨B, o, zs.take n, rfl, by simp; omega, World.block_lt_of_cell? W _ (hcc 0 (by omega)), ?_, ?_⟩
      · intro j hj
        have hj' : j < zs.length := by simp at hj; omega
        rw [List.getElem_take, hcc j hj']
        simp [List.getD, List.getElem?_eq_getElem hj']
      · intro j hj
        rw [List.getElem_take]
        have := hwz _ (List.getElem_mem (by simp at hj; omega : j < zs.length))
        simpa [Lit.wf, IntKind.min, IntKind.max, IntKind.signed, IntKind.bits] using this
end
end Go.Proofs.Ytopneceicamakaa
