/-
  LAYER 13: a slice of operations that comes in.
-/
import Derived.Test.YtbjllcjjibjgoaaOrderSame
import Derived.Deep.Slices
import Derived.Deep.Fields
import Derived.ChangeSame
namespace Go.Proofs.Ytbjllcjjibjgoaa.Hp
open Go.RowKit
open Go.ChangeShapes Go.WideShapes Go.ChangeAt

structure OpO where
  kind : Int
  v : Int
  by' : Int
def OpsAt (w : World) (B oo : Nat) (os : List OpO) : Prop :=
  ∀ i (h : i < os.length), w.cell? ⟨B, oo + i * 3, none⟩ = some (.int .i64 os[i].kind) ∧ w.cell? ⟨B, oo + i * 3 + 1, none⟩ = some (.int .i64 os[i].v) ∧ w.cell? ⟨B, oo + i * 3 + 2, none⟩ = some (.int .i64 os[i].by')

theorem trod_i64 {H : Type} {enc : TypeId × Value → H} {P : Program} {w : World} {base : Nat} {spare : Nat → Bool} {held : Bool} {fuel : Nat} {t : TypeId} {cs : List Value} {x : DataW H × List MemPlace} (ht : P.underlying t = some (.int .i64)) (h : DataW.trod enc P w base spare held fuel t cs = some x) : ∃ n, cs = [.int .i64 n] := by
  obtain ⟨n, h1, _⟩ := DataW.trod_int ht h
  exact ⟨n, h1⟩

set_option maxRecDepth 100000 in
theorem open_opo {H : Type} {enc : TypeId × Value → H} {W : World} {b0 : Nat} {r : Reach} {v : Value} {d : DataW H} {ps : List MemPlace}
    (hval : Value.okWide Try.prog W r b0 22 v) (h : DataW.Trod enc Try.prog W 0 (fun _ => true) true 22 v d ps) :
    ∃ a n c, v = .slice a n c ∧ ∃ (B oo : Nat) (os : List OpO), n = os.length ∧ (0 < n → a = some ⟨B, oo, none⟩ ∧ B < W.heap.size) ∧ B ≤ W.heap.size ∧ OpsAt W B oo os := by
  obtain ⟨a, n, c, rfl⟩ := okWide_slice Try.underlying22 hval
  refine ⟨a, n, c, rfl, ?_⟩
  rcases Nat.eq_zero_or_pos n with h0 | hpos
  · exact ⟨0, 0, [], by rw [h0]; rfl, fun h => by omega, Nat.zero_le _, fun i hi => by cases hi⟩
  obtain ⟨fuel, hf⟩ := h
  rcases Go.Deep.open_slice Try.underlying22 hf with ⟨hcs, _⟩ | ⟨a', len, cap, m, k, D, Pl, hcs, _, hl, _, hm, hx, hi⟩
  · simp [Value.cells] at hcs
    omega
  · simp [Value.cells] at hcs
    obtain ⟨rfl, rfl, rfl⟩ := hcs
    have hmn : n ≤ m := by rw [hm]; simp; omega
    have hu := Try.underlying31
    have hC : Try.prog.cellsOf 31 = 3 := by kernel_rfl
    have hone := Go.Deep.hone_of (P := Try.prog) (fs := Try.prog.fieldsOf 31) (by kernel_rfl)
    have hfs : Try.prog.underlying 31 = some (.struct (Try.prog.fieldsOf 31)) := by kernel_rfl
    have hsz : (Try.prog.fieldsOf 31).size = 3 := by kernel_rfl
    have t0 : ∀ f, (Try.prog.fieldsOf 31)[0]? = some f → f.type = 3 := by
      intro f hf
      have : (Try.prog.fieldsOf 31)[0]?.map (·.type) = some 3 := by kernel_rfl
      rw [hf] at this; simpa using this
    have t1 : ∀ f, (Try.prog.fieldsOf 31)[1]? = some f → f.type = 3 := by
      intro f hf
      have : (Try.prog.fieldsOf 31)[1]?.map (·.type) = some 3 := by kernel_rfl
      rw [hf] at this; simpa using this
    have t2 : ∀ f, (Try.prog.fieldsOf 31)[2]? = some f → f.type = 3 := by
      intro f hf
      have : (Try.prog.fieldsOf 31)[2]?.map (·.type) = some 3 := by kernel_rfl
      rw [hf] at this; simpa using this
    generalize Try.prog.fieldsOf 31 = fs at *
    clear hu
    have key : ∀ i, i < n → ∃ o : OpO, W.cell? (a'.add (i * 3)) = some (.int .i64 o.kind) ∧ W.cell? ((a'.add (i * 3)).add 1) = some (.int .i64 o.v) ∧ W.cell? ((a'.add (i * 3)).add 2) = some (.int .i64 o.by') := by
      intro i hin
      obtain ⟨cs', hc, ht'⟩ := hi i (by omega)
      rw [hC] at hc
      obtain ⟨ys, n', _, hy, hlen, hyl, hfl⟩ := DataW.trod_struct hfs ht'
      obtain ⟨_, hcl, hat⟩ := World.cells?_some hc
      obtain ⟨c0, c1, c2, rfl⟩ : ∃ c0 c1 c2, cs' = [c0, c1, c2] := by
        rw [hC] at hlen
        match cs', hlen with
        | [c0, c1, c2], _ => exact ⟨c0, c1, c2, rfl⟩
      have fld : ∀ j, j < 3 → ∃ f, fs[j]? = some f := fun j hj => ⟨fs[j]'(by omega), Array.getElem?_eq_getElem (by omega)⟩
      obtain ⟨f0, hf0⟩ := fld 0 (by decide)
      obtain ⟨f1, hf1⟩ := fld 1 (by decide)
      obtain ⟨f2, hf2⟩ := fld 2 (by decide)
      have g0 := hfl 0 f0 hf0
      have g1 := hfl 1 f1 hf1
      have g2 := hfl 2 f2 hf2
      rw [(hone 0 f0 hf0).1, (hone 0 f0 hf0).2, t0 f0 hf0] at g0
      rw [(hone 1 f1 hf1).1, (hone 1 f1 hf1).2, t1 f1 hf1] at g1
      rw [(hone 2 f2 hf2).1, (hone 2 f2 hf2).2, t2 f2 hf2] at g2
      have y0 : ys[0]? = some (ys[0]'(by omega)) := List.getElem?_eq_getElem (by omega)
      have y1 : ys[1]? = some (ys[1]'(by omega)) := List.getElem?_eq_getElem (by omega)
      have y2 : ys[2]? = some (ys[2]'(by omega)) := List.getElem?_eq_getElem (by omega)
      obtain ⟨k0, e0⟩ := trod_i64 Try.underlying3 (g0.trans y0)
      obtain ⟨k1, e1⟩ := trod_i64 Try.underlying3 (g1.trans y1)
      obtain ⟨s, e2⟩ := trod_i64 Try.underlying3 (g2.trans y2)
      have d0 : c0 = .int .i64 k0 := by simpa using e0
      have d1 : c1 = .int .i64 k1 := by simpa using e1
      have d2 : c2 = .int .i64 s := by simpa using e2
      clear e0 e1 e2 g0 g1 g2 y0 y1 y2
      subst d0; subst d1; subst d2
      refine ⟨⟨k0, k1, s⟩, ?_, ?_, ?_⟩
      · have := hat 0 (by simp)
        simpa [Addr.add] using this
      · simpa using hat 1 (by decide)
      · simpa using hat 2 (by decide)
    have hspot : a'.spot = none := by
      obtain ⟨o, h1, _⟩ := key 0 hpos
      have := World.cell?_spot h1
      simpa [Addr.add] using this
    obtain ⟨B, oo, sp⟩ := a'
    simp only at hspot
    subst hspot
    have hB : B < W.heap.size := by
      obtain ⟨o, h1, _⟩ := key 0 hpos
      exact World.block_lt_of_cell? W _ h1
    have key2 : ∀ i, ∃ o : OpO, i < n → W.cell? ⟨B, oo + i * 3, none⟩ = some (.int .i64 o.kind) ∧ W.cell? ⟨B, oo + i * 3 + 1, none⟩ = some (.int .i64 o.v) ∧ W.cell? ⟨B, oo + i * 3 + 2, none⟩ = some (.int .i64 o.by') := by
      intro i
      by_cases hin : i < n
      · obtain ⟨o, h1, h2, h3⟩ := key i hin
        rw [addr_add] at h1
        rw [addr_add, addr_add] at h2 h3
        exact ⟨o, fun _ => ⟨h1, h2, h3⟩⟩
      · exact ⟨⟨0, 0, 0⟩, fun h => absurd h hin⟩
    refine ⟨B, oo, (List.range n).map (fun i => Classical.choose (key2 i)), by simp, fun _ => ⟨rfl, hB⟩, Nat.le_of_lt hB, fun i hi => ?_⟩
    have hin : i < n := by simpa using hi
    have := Classical.choose_spec (key2 i) hin
    rw [List.getElem_map, List.getElem_range]
    exact this

end Go.Proofs.Ytbjllcjjibjgoaa.Hp
