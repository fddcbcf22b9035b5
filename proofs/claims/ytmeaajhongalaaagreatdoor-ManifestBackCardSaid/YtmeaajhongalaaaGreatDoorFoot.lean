/-
  MEMORY BY ITS FOOTPRINT: what lies in blocks of F stays where nothing of F is written.
-/
import Derived.Test.YtmeaajhongalaaaGreatDoorIB
namespace Go.Proofs.YtmeaajhongalaaaGreatDoor
open Go.RowKit Go.Proofs.YtmeaajhongalaaaGreatDoor.Ln

/-- the blocks of F stay as they are -/
structure Kept (F : Nat → Prop) (w w' : World) : Prop where
  size : w.heap.size ≤ w'.heap.size
  block : ∀ b, b < w.heap.size → F b → w'.heap[b]? = w.heap[b]?

theorem Kept.refl (F : Nat → Prop) (w : World) : Kept F w w := ⟨Nat.le_refl _, fun _ _ _ => rfl⟩
theorem Kept.trans {F : Nat → Prop} {a b c : World} (h : Kept F a b) (k : Kept F b c) : Kept F a c :=
  ⟨Nat.le_trans h.size k.size, fun i hi hF => by rw [k.block i (Nat.lt_of_lt_of_le hi h.size) hF, h.block i hi hF]⟩
theorem Kept.mono {F G : Nat → Prop} {w w' : World} (h : Kept F w w') (hG : ∀ b, b < w.heap.size → G b → F b) : Kept G w w' :=
  ⟨h.size, fun b hb hg => h.block b hb (hG b hb hg)⟩
theorem Kept.of_only {S F : Nat → Prop} {w w' : World} (h : Only S w w') (hd : ∀ b, b < w.heap.size → F b → ¬ S b) : Kept F w w' :=
  ⟨h.size, fun b hb hF => h.block b hb (hd b hb hF)⟩
theorem Kept.of_below {F : Nat → Prop} {w w' : World} (h : Below w.heap.size w w') : Kept F w w' :=
  ⟨h.size, fun b hb _ => h.block b hb⟩
theorem Kept.alloc {F : Nat → Prop} {w w' : World} (h : Kept F w w') (o : Obj) : Kept F w (w'.alloc o) := h.trans (Kept.of_below ((Below.refl _ _).alloc (Nat.le_refl _) o))
theorem Kept.setCell {F : Nat → Prop} {w w' : World} (h : Kept F w w') {p : Addr} (hp : ¬ F p.block) (u : Value) : Kept F w (w'.setCell p u) := by
  refine h.trans ⟨by simp, fun b hb hF => ?_⟩
  exact Below.heap_setCell _ _ _ _ (by rintro rfl; exact hp hF)
theorem Kept.grown {F : Nat → Prop} {a w w' : World} {row : Option Nat} (h : Kept F a w) (hg : w.grownBy w' row) (hr : ∀ k, row = some k → ¬ F k) : Kept F a w' :=
  h.trans ⟨hg.size, fun b hb hF => hg.block b hb (by intro e; exact hr b e.symm hF)⟩
theorem Kept.cell {F : Nat → Prop} {w w' : World} (h : Kept F w w') {b k : Nat} {v : Value} (hF : F b) (hc : w.cell? ⟨b, k, none⟩ = some v) : w'.cell? ⟨b, k, none⟩ = some v := by
  have hb := World.block_lt_of_cell? w _ hc
  unfold World.cell? at hc ⊢
  simp only [h.block b hb hF] at hc ⊢; exact hc
theorem Kept.blk {F : Nat → Prop} {w w' : World} (h : Kept F w w') {b : Nat} {cs : List Value} {e : TypeId} (hF : F b) (hB : Blk w b cs e) : Blk w' b cs e := by
  have := hB.lt
  unfold Blk at *
  rw [h.block b this hF]; exact hB
theorem Kept.owns {F : Nat → Prop} {w w' : World} (h : Kept F w w') {base : Nat} {e : TypeId} {size : Nat} {v : Value} {n : Nat} {xs : List Value} (ho : w.ownsRow base e size v n xs) (hF : ∀ b, v.ownBlock = some b → F b) : w'.ownsRow base e size v n xs := by
  refine ⟨ho.1, ?_⟩
  rcases ho.2 with hn | ⟨g, cap, cur, rfl, hg, hh, rest⟩
  · exact .inl hn
  · exact .inr ⟨g, cap, cur, rfl, hg, by rw [h.block g (Array.getElem?_eq_some_iff.1 hh).1 (hF g rfl)]; exact hh, rest⟩

/-- texts in memory, in a block of F -/
def StrsF (F : Nat → Prop) (w : World) (v : Value) (ss : List (List UInt8)) : Prop :=
  ∃ a cp, v = .slice a ss.length cp ∧ ss.length ≤ cp ∧ cp ≤ maxLen ∧ (ss ≠ [] → ∃ B, a = some ⟨B, 0, none⟩ ∧ B < w.heap.size ∧ F B ∧ ∀ k (h : k < ss.length), w.cell? ⟨B, k, none⟩ = some (.string ⟨ss[k].toArray⟩))
theorem StrsF.kept {F : Nat → Prop} {w w' : World} {v : Value} {ss : List (List UInt8)} (h : StrsF F w v ss) (hk : Kept F w w') : StrsF F w' v ss := by
  obtain ⟨a, cp, h1, h2, h3, h4⟩ := h
  refine ⟨a, cp, h1, h2, h3, fun hne => ?_⟩
  obtain ⟨B, e, hl, hF, hc⟩ := h4 hne
  exact ⟨B, e, Nat.lt_of_lt_of_le hl hk.size, hF, fun k hk' => hk.cell hF (hc k hk')⟩
theorem StrsF.mono {F G : Nat → Prop} {w : World} {v : Value} {ss : List (List UInt8)} (h : StrsF F w v ss) (hG : ∀ b, b < w.heap.size → F b → G b) : StrsF G w v ss := by
  obtain ⟨a, cp, h1, h2, h3, h4⟩ := h
  refine ⟨a, cp, h1, h2, h3, fun hne => ?_⟩
  obtain ⟨B, e, hl, hF, hc⟩ := h4 hne
  exact ⟨B, e, hl, hG _ hl hF, hc⟩
theorem StrsF.nil (F : Nat → Prop) (w : World) : StrsF F w (.slice none 0 0) [] := ⟨none, 0, rfl, Nat.le_refl _, by unfold maxLen; omega, fun h => absurd rfl h⟩
end Go.Proofs.YtmeaajhongalaaaGreatDoor
