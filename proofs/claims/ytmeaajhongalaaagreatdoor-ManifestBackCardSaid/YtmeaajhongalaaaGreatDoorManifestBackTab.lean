/-
  LAYERS 7, 9: Go's table of powers of ten and the program's row of signs, out of what the rows list.
-/
import Derived.Test.YtmeaajhongalaaaGreatDoorSpecComp
import Derived.Test.YtmeaajhongalaaaGreatDoorVersionText
import Derived.Test.YtmeaajhongalaaaGreatDoorShaped
import Derived.ProofKit
import Derived.OpenShut
import Derived.LaidMore
import Derived.Lay
import Derived.SevenTiedAt
import Derived.Stop.Joined
namespace Go.Proofs.YtmeaajhongalaaaGreatDoor.Ix
open Go.RowKit
open Go.Proofs.YtmeaajhongalaaaGreatDoor Go.Proofs.YtmeaajhongalaaaGreatDoor.Vs Go.Proofs.YtmeaajhongalaaaGreatDoor.Sp

theorem signs_g : Tryz.prog.globalNamed "chandler/spec.signs" = some 0 := by kernel_rfl

set_option maxRecDepth 100000 in
theorem tabs_of {W : World} (h : laidMetH Tryz.prog Rows.manifestBackRow.laid W) : TenAt W ∧ SignsAt W := by
  rw [MakeChecks.laidMetH_plain _ _ _ (by kernel_rfl)] at h
  obtain ⟨ps, ⟨g0, t0, cs0, f0, p0, q0, hg0, ht0, hv0, hd0, ⟨g1, t1, cs1, f1, p1, q1, hg1, ht1, hv1, hd1, ⟨g2, t2, cs2, f2, p2, q2, hg2, ht2, hv2, hd2, ⟨g3, t3, cs3, f3, p3, q3, hg3, ht3, hv3, hd3, ⟨g4, t4, cs4, f4, p4, q4, hg4, ht4, hv4, hd4, ⟨g5, t5, cs5, f5, p5, q5, hg5, ht5, hv5, hd5, ⟨g6, t6, cs6, f6, p6, q6, hg6, ht6, hv6, hd6, _, _⟩, _⟩, _⟩, _⟩, _⟩, _⟩, _⟩, _, _⟩ := h
  constructor
  · obtain rfl := Option.some.inj (ten_g.symm.trans hg2)
    have e2 : some t2 = some 265 := ht2.symm.trans (by kernel_rfl)
    obtain rfl := Option.some.inj e2
    have hd : (Rows.laid_internal_strconv_uint64pow10 : DataW Unit) = Lib.tabData .u64 Lib.pow10Tab := by rfl
    rw [hd] at hd2
    unfold TenAt Lib.TabIs
    rw [hv2, ← Lib.cells_of_tab Tryz.underlying265 Tryz.underlying42 (by kernel_rfl) (by kernel_rfl) hd2]
  · obtain rfl := Option.some.inj (signs_g.symm.trans hg6)
    have e2 : some t6 = some 247 := ht6.symm.trans (by kernel_rfl)
    obtain rfl := Option.some.inj e2
    obtain ⟨xs, m1, rfl, hx1, hlen, hn3, hel⟩ := DataW.trod_array Tryz.underlying247 hd6
    have c5 : Tryz.prog.cellsOf 9 = 1 := by kernel_rfl
    have hmap : xs.map (·.1) = (List.range 9).map fun k => (.lit (.string (sgn k)) : DataW Unit) := (DataW.agg.inj (Prod.mk.inj hx1).1).symm
    have key : ∀ k, k < 9 → W.cell? ⟨0, k, none⟩ = some (.string ⟨(sgn k).toArray⟩) := by
      intro k hk
      have hE := hel k hk
      rw [c5, Nat.mul_one, List.getElem?_eq_getElem (by omega)] at hE
      obtain ⟨z, e3, e4, _⟩ := DataW.trod_string Tryz.underlying9 hE
      have e5 : (xs.map (·.1))[k]? = some (.lit (.string (sgn k))) := by
        rw [hmap, List.getElem?_map, List.getElem?_range hk]; rfl
      rw [List.getElem?_map, List.getElem?_eq_getElem (by omega), e4] at e5
      have hz : z.data.toList = sgn k := by simpa using e5
      have hz2 : z = ⟨(sgn k).toArray⟩ := by
        apply ByteArray.ext; apply Array.toList_inj.1; exact hz
      subst hz2
      have hc := World.var?_cell hg6 hv6 k
      have h15 : cs6.toList[k]? = some (.string ⟨(sgn k).toArray⟩) := by
        have h0 : ((cs6.toList.drop k).take 1)[0]? = some (.string ⟨(sgn k).toArray⟩) := by rw [e3]; rfl
        simpa using h0
      rw [hc]; simpa using h15
    exact ⟨World.block_lt_of_cell? W _ (key 0 (by decide)), key⟩
end Go.Proofs.YtmeaajhongalaaaGreatDoor.Ix
