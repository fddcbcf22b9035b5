/-
  TRUTH VALUES THAT COME IN, however many.
-/
import Derived.Test.YtnjfnlmnibflfaaCnfOpens
import Derived.Test.YtnjfnlmnibflfaaCnfTrue
import Derived.Deep.Grids
namespace Go.Proofs.Ytnjfnlmnibflfaa.Cf
open Go.RowKit Go.Proofs.Ytnjfnlmnibflfaa Go.Proofs.Ytnjfnlmnibflfaa.Ln
open Go.ChangeShapes Go.WideShapes Go.ChangeAt

theorem open_bits {H : Type} {enc : TypeId × Value → H} {P : Program} {W : World} {b0 : Nat} {r : Reach} {t e : TypeId} {v : Value} {d : DataW H} {ps : List MemPlace} (ht : P.underlying t = some (.slice e)) (he : P.underlying e = some .bool) (hc : P.cellsOf e = 1)
    (hval : Value.okWide P W r b0 t v) (h : DataW.Trod enc P W 0 (fun _ => true) true t v d ps) : ∃ l, RawC W v (boolsV l) := by
  obtain ⟨a, n, c, rfl⟩ := okWide_slice ht hval
  obtain ⟨fuel, hf⟩ := h
  rcases Go.Deep.open_bools ht he hc hf with ⟨hcs, _⟩ | ⟨a', n', c', Bf, hcs, _, hl, hm, hx, hcell⟩
  · simp [Value.cells] at hcs
    obtain ⟨rfl, rfl, rfl⟩ := hcs
    exact ⟨[], none, 0, rfl, Nat.le_refl _, fun h => absurd h (by decide)⟩
  · simp [Value.cells] at hcs
    obtain ⟨rfl, rfl, rfl⟩ := hcs
    refine ⟨(List.range n).map Bf, some a', c, by simp [boolsV], by simp [boolsV]; exact hl, fun hp => ?_⟩
    have hp' : 0 < n := by simpa [boolsV] using hp
    obtain ⟨B, o, mm⟩ := a'
    have h00 := hcell 0 (by omega)
    have hmm : mm = none := by simpa [Addr.add] using World.cell?_spot h00
    subst hmm
    refine ⟨B, o, rfl, World.block_lt_of_cell? W _ h00, fun k hk => ?_⟩
    have hkn : k < n := by simpa [boolsV] using hk
    have h1 := hcell k (by omega)
    rw [Go.WideShapes.add_plain] at h1
    rw [h1]; simp [boolsV]
end Go.Proofs.Ytnjfnlmnibflfaa.Cf
