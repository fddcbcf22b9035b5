/-
  LAYER 3: Go's table of powers of ten, out of what the rows list.
-/
import Derived.Test.YtiihhgdbgmplaaaDoorVersionLaw1
import Derived.Test.YtiihhgdbgmplaaaDoorShaped
import Derived.ProofKit
import Derived.OpenShut
import Derived.LaidMore
import Derived.Lay
import Derived.SevenTiedAt
import Derived.Stop.Joined
namespace Go.Proofs.YtiihhgdbgmplaaaDoor.Vs
open Go.RowKit

set_option maxRecDepth 100000 in
theorem ten_of {W : World} (h : laidMetH Tryd.prog Rows.versionParsesRow.laid W) : TenAt W := by
  rw [MakeChecks.laidMetH_plain _ _ _ (by kernel_rfl)] at h
  obtain ⟨ps, ⟨g0, t0, cs0, f0, p0, q0, hg0, ht0, hv0, hd0, ⟨g1, t1, cs1, f1, p1, q1, hg1, ht1, hv1, hd1, ⟨g2, t2, cs2, f2, p2, q2, hg2, ht2, hv2, hd2, _, _⟩, _⟩, _⟩, _, _⟩ := h
  obtain rfl := Option.some.inj (ten_g.symm.trans hg2)
  have e2 : some t2 = some 107 := ht2.symm.trans (by kernel_rfl)
  obtain rfl := Option.some.inj e2
  have hd : (Rows.laid_internal_strconv_uint64pow10 : DataW Unit) = Lib.tabData .u64 Lib.pow10Tab := by rfl
  rw [hd] at hd2
  unfold TenAt Lib.TabIs
  rw [hv2, ← Lib.cells_of_tab Tryd.underlying107 Tryd.underlying90 (by kernel_rfl) (by kernel_rfl) hd2]
end Go.Proofs.YtiihhgdbgmplaaaDoor.Vs
