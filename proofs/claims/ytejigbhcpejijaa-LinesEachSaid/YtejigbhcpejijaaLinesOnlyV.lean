/-
  LAYER 1: lines stay where only other blocks are written.
-/
import Derived.Test.YtejigbhcpejijaaLinesRead
import Derived.Test.YtejigbhcpejijaaLinesOnly
namespace Go.Proofs.Ytejigbhcpejijaa.Ln
open Go.RowKit

theorem RowsAt.only {S : Nat → Prop} {w w' : World} {base : Nat} {ws : Words} {cs : List Nat} {wv cv : Value} (h : RowsAt w base ws cs wv cv) (hb : Only S w w') (hs : ∀ k, base ≤ k → k < w.heap.size → ¬ S k) : RowsAt w' base ws cs wv cv :=
  ⟨ownsRow_only h.1 hb hs, ownsRow_only h.2 hb hs⟩
theorem LinesV.only {S : Nat → Prop} {w w' : World} {T base : Nat} {v : Value} {xs : List LineS} (h : LinesV w T base v xs) (hb : Only S w w') (hs : ∀ k, base ≤ k → k < w.heap.size → ¬ S k) : LinesV w' T base v xs := by
  obtain ⟨cells, h1, h2⟩ := h
  refine ⟨cells, ownsRow_only h1 hb hs, fun i x hx => ?_⟩
  obtain ⟨wv, cv, a, b, c, d⟩ := h2 i x hx
  exact ⟨wv, cv, a, b, c, d.only hb hs⟩


end Go.Proofs.Ytejigbhcpejijaa.Ln
