/-
  LAYER 6: the one cell of Go's table of places that is read, out of what the rows list.
-/
import Derived.Test.YtmfmgenmnikhbaaDoorMarkLaws
import Derived.ProofKit
import Derived.OpenShut
import Derived.LaidMore
import Derived.Lay
import Derived.SevenTiedAt
import Derived.Stop.Joined
namespace Go.Proofs.YtmfmgenmnikhbaaDoor.Mk
open Go.RowKit

set_option maxRecDepth 100000 in
theorem tab_of {W : World} (h : laidMetH Tryd.prog Rows.markParsesRow.laid W) : Tab W := by
  rw [MakeChecks.laidMetH_plain _ _ _ (by kernel_rfl)] at h
  obtain ⟨ps, ⟨g0, t0, cs0, f0, p0, q0, hg0, ht0, hv0, hd0, ⟨g1, t1, cs1, f1, p1, q1, hg1, ht1, hv1, hd1, _, _⟩, _⟩, _, _⟩ := h
  have e1 : some g1 = some 7 := hg1.symm.trans (by kernel_rfl)
  obtain rfl := Option.some.inj e1
  have e2 : some t1 = some 126 := ht1.symm.trans (by kernel_rfl)
  obtain rfl := Option.some.inj e2
  obtain ⟨xs, m1, rfl, hx1, hlen, hn3, hel⟩ := DataW.trod_array Tryd.underlying126 hd1
  have c5 : Tryd.prog.cellsOf 5 = 1 := by kernel_rfl
  have hE := hel 15 (by decide)
  rw [c5, Nat.mul_one, List.getElem?_eq_getElem (by omega)] at hE
  obtain ⟨z, e3, e4, _⟩ := DataW.trod_int Tryd.underlying5 hE
  have e5 : (xs.map (·.1))[15]? = some (.lit (.int .u8 4)) := by
    have : xs.map (·.1) = _ := (DataW.agg.inj (Prod.mk.inj hx1).1).symm
    rw [this]; rfl
  rw [List.getElem?_map, List.getElem?_eq_getElem (by omega), e4] at e5
  have hz : z = 4 := by simpa using e5
  subst hz
  have hc := World.var?_cell hg1 hv1 15
  have h15 : cs1.toList[15]? = some (.int .u8 4) := by
    have h0 : ((cs1.toList.drop 15).take 1)[0]? = some (.int .u8 4) := by rw [e3]; rfl
    simpa using h0
  have hcell : W.cell? ⟨7, 15, none⟩ = some (.int .u8 4) := by
    rw [hc]; simpa using h15
  exact ⟨World.block_lt_of_cell? W _ hcell, hcell⟩
end Go.Proofs.YtmfmgenmnikhbaaDoor.Mk
