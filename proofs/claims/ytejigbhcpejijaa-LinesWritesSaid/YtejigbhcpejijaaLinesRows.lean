/-
  LAYER 1: lists of lists of words that come in.
-/
import Derived.Test.YtejigbhcpejijaaLinesOpens
import Derived.Deep.Slices
namespace Go.Proofs.Ytejigbhcpejijaa.Ln
open Go.RowKit
open Go.ChangeShapes Go.WideShapes Go.ChangeAt

/-- words in memory, wherever -/
def StrsAt (w : World) (v : Value) (ws : List ByteArray) : Prop := ∃ a c, v = .slice a ws.length c ∧ ws.length ≤ c ∧ (ws ≠ [] → ∃ b o, a = some ⟨b, o, none⟩ ∧ b < w.heap.size ∧ ∀ k s, ws[k]? = some s → w.cell? ⟨b, o + k, none⟩ = some (.string s))
theorem StrsAt.below {w w' : World} {v : Value} {ws : List ByteArray} (h : StrsAt w v ws) (hb : Below w.heap.size w w') : StrsAt w' v ws := by
  obtain ⟨a, c, h1, h2, h3⟩ := h
  refine ⟨a, c, h1, h2, fun hn => ?_⟩
  obtain ⟨b, o, e, hl, hc⟩ := h3 hn
  exact ⟨b, o, e, Nat.lt_of_lt_of_le hl hb.size, fun k s hk => by rw [hb.cell hl]; exact hc k s hk⟩
/-- rows of words in memory -/
def RowsIn (w : World) (v : Value) (rows : List (List ByteArray)) : Prop := ∃ a c, v = .slice a rows.length c ∧ rows.length ≤ c ∧ (rows ≠ [] → ∃ B o, a = some ⟨B, o, none⟩ ∧ B < w.heap.size ∧ ∀ k r, rows[k]? = some r → ∃ u, w.cell? ⟨B, o + k, none⟩ = some u ∧ StrsAt w u r)
theorem RowsIn.below {w w' : World} {v : Value} {rows : List (List ByteArray)} (h : RowsIn w v rows) (hb : Below w.heap.size w w') : RowsIn w' v rows := by
  obtain ⟨a, c, h1, h2, h3⟩ := h
  refine ⟨a, c, h1, h2, fun hn => ?_⟩
  obtain ⟨B, o, e, hl, hc⟩ := h3 hn
  refine ⟨B, o, e, Nat.lt_of_lt_of_le hl hb.size, fun k r hk => ?_⟩
  obtain ⟨u, h4, h5⟩ := hc k r hk
  exact ⟨u, by rw [hb.cell hl]; exact h4, h5.below hb⟩

theorem strs_in {H : Type} {enc : TypeId × Value → H} {P : Program} {W : World} {t e : TypeId} {fuel : Nat} {cs : List Value} {x : DataW H × List MemPlace} (ht : P.underlying t = some (.slice e)) (he : P.underlying e = some .string) (hc : P.cellsOf e = 1)
    (h : DataW.trod enc P W 0 (fun _ => true) true fuel t cs = some x) : ∃ v ws, cs = [v] ∧ StrsAt W v ws := by
  rcases open_strings ht he hc h with ⟨hcs, _⟩ | ⟨a', n', c', zs, hcs, _, hl, hm, hz, hx, hcell, hwz⟩
  · exact ⟨_, [], hcs, none, 0, rfl, Nat.le_refl _, fun h => absurd rfl h⟩
  · have hz' : zs.length = c' := by simpa using hz
    refine ⟨_, zs.take n', hcs, some a', c', by rw [List.length_take, Nat.min_eq_left (by omega)], by rw [List.length_take]; omega, fun hne => ?_⟩
    have hn0 : 0 < n' := by
      rcases Nat.eq_zero_or_pos n' with h0 | h0
      · subst h0; exact absurd rfl hne
      · exact h0
    obtain ⟨B, o, rfl, hcc⟩ := strs_at hcell (by omega)
    refine ⟨B, o, rfl, World.block_lt_of_cell? W _ (hcc 0 (by omega)), fun k s hk => ?_⟩
    have hk1 := (List.getElem?_eq_some_iff.1 hk).1
    have hk' : k < zs.length := by rw [List.length_take] at hk1; omega
    rw [hcc k hk']
    rw [List.getElem?_take] at hk
    split at hk
    · rw [List.getD_eq_getElem?_getD, hk]; rfl
    · cases hk

theorem open_rows {H : Type} {enc : TypeId × Value → H} {P : Program} {W : World} {b0 : Nat} {r : Reach} {t q e : TypeId} {v : Value} {d : DataW H} {ps : List MemPlace} (ht : P.underlying t = some (.slice q)) (hq : P.underlying q = some (.slice e)) (he : P.underlying e = some .string) (hc : P.cellsOf e = 1) (hc2 : P.cellsOf q = 1)
    (hval : Value.okWide P W r b0 t v) (h : DataW.Trod enc P W 0 (fun _ => true) true t v d ps) : ∃ rows, RowsIn W v rows := by
  obtain ⟨a, n, c, rfl⟩ := okWide_slice ht hval
  obtain ⟨fuel, hf⟩ := h
  rcases Go.Deep.open_slice ht hf with ⟨hcs, _⟩ | ⟨a', len, cap, m, k, D, Pl, hcs, _, hl, _, hm, hx, hi⟩
  · simp [Value.cells] at hcs
    obtain ⟨rfl, rfl, rfl⟩ := hcs
    exact ⟨[], none, 0, rfl, Nat.le_refl _, fun h => absurd rfl h⟩
  · simp [Value.cells] at hcs
    obtain ⟨rfl, rfl, rfl⟩ := hcs
    have hmn : n ≤ m := by rw [hm]; simp; omega
    have key : ∀ i, i < n → ∃ u ws, W.cell? (a'.add i) = some u ∧ StrsAt W u ws := by
      intro i hin
      obtain ⟨cs', hc', ht'⟩ := hi i (by omega)
      rw [hc2, Nat.mul_one] at hc'
      obtain ⟨u, ws, rfl, hs⟩ := strs_in hq he hc ht'
      obtain ⟨_, _, hat⟩ := World.cells?_some hc'
      refine ⟨u, ws, ?_, hs⟩
      have h9 := hat 0 (by decide)
      have h8 : W.cell? ((a'.add i).add 0) = some u := by simpa using h9
      have h7 : (a'.add i).add 0 = a'.add i := by simp [Addr.add]
      rwa [h7] at h8
    rcases Nat.eq_zero_or_pos n with h0 | hpos
    · subst h0
      exact ⟨[], some a', c, rfl, Nat.zero_le _, fun h => absurd rfl h⟩
    · have ⟨U, hU⟩ : ∃ U : Nat → Value, ∀ i, i < n → ∃ ws, W.cell? (a'.add i) = some (U i) ∧ StrsAt W (U i) ws :=
        ⟨fun i => if h : i < n then Classical.choose (key i h) else .nilIface, fun i h => by
          dsimp only; rw [dif_pos h]; exact Classical.choose_spec (key i h)⟩
      have ⟨R, hR⟩ : ∃ R : Nat → List ByteArray, ∀ i, i < n → W.cell? (a'.add i) = some (U i) ∧ StrsAt W (U i) (R i) :=
        ⟨fun i => if h : i < n then Classical.choose (hU i h) else [], fun i h => by
          dsimp only; rw [dif_pos h]; exact Classical.choose_spec (hU i h)⟩
      obtain ⟨B, o, mm⟩ := a'
      have h00 := (hR 0 hpos).1
      have hmm : mm = none := by simpa [Addr.add] using World.cell?_spot h00
      subst hmm
      · refine ⟨(List.range n).map R, some ⟨B, o, none⟩, c, by simp, by simp; exact hl, fun _ => ⟨B, o, rfl, World.block_lt_of_cell? W _ h00, fun k r hk => ?_⟩⟩
        have hkn : k < n := by have := (List.getElem?_eq_some_iff.1 hk).1; simpa using this
        have hr : r = R k := by
          rw [List.getElem?_map, List.getElem?_range hkn] at hk
          simpa using hk.symm
        subst hr
        obtain ⟨h1, h2⟩ := hR k hkn
        rw [addr_add] at h1
        exact ⟨_, h1, h2⟩
end Go.Proofs.Ytejigbhcpejijaa.Ln
