/-
  LAYER 3: what VersionChecks is given: a struct of three numbers and a text that comes in.
-/
import Derived.Test.YtgboihojicgkdaaDoorRows
import Derived.Test.YtgboihojicgkdaaDoorKit
import Derived.Deep.Fields
import Derived.OpenShut
import Derived.SizedLaws
namespace Go.Proofs.YtgboihojicgkdaaDoor.Vs
open Go.RowKit Go.ChangeShapes Go.WideShapes Go.ChangeAt

theorem trod_i64 {H : Type} {enc : TypeId × Value → H} {P : Program} {w : World} {base : Nat} {spare : Nat → Bool} {held : Bool} {fuel : Nat} {t : TypeId} {cs : List Value} {x : DataW H × List MemPlace} (ht : P.underlying t = some (.int .i64)) (h : DataW.trod enc P w base spare held fuel t cs = some x) : ∃ n, cs = [.int .i64 n] := by
  obtain ⟨n, h1, _⟩ := DataW.trod_int ht h
  exact ⟨n, h1⟩

set_option maxRecDepth 100000 in
theorem open_case {H : Type} {enc : TypeId × Value → H} {W : World} {b0 : Nat} {r : Reach} {v : Value} {d : DataW H} {ps : List MemPlace}
    (hval : Value.okWide Tryd.prog W r b0 37 v) (h : DataW.Trod enc Tryd.prog W 0 (fun _ => true) true 37 v d ps) :
    ∃ a b c s, v = .agg #[.int .i64 a, .int .i64 b, .int .i64 c, .string s] := by
  have hC : Tryd.prog.cellsOf 37 = 4 := by kernel_rfl
  have hone := Go.Deep.hone_of (P := Tryd.prog) (fs := Tryd.prog.fieldsOf 37) (by kernel_rfl)
  have hfs : Tryd.prog.underlying 37 = some (.struct (Tryd.prog.fieldsOf 37)) := by kernel_rfl
  have hsz : (Tryd.prog.fieldsOf 37).size = 4 := by kernel_rfl
  have t0 : ∀ f, (Tryd.prog.fieldsOf 37)[0]? = some f → f.type = 3 := by
    intro f hf
    have : (Tryd.prog.fieldsOf 37)[0]?.map (·.type) = some 3 := by kernel_rfl
    rw [hf] at this; simpa using this
  have t1 : ∀ f, (Tryd.prog.fieldsOf 37)[1]? = some f → f.type = 3 := by
    intro f hf
    have : (Tryd.prog.fieldsOf 37)[1]?.map (·.type) = some 3 := by kernel_rfl
    rw [hf] at this; simpa using this
  have t2 : ∀ f, (Tryd.prog.fieldsOf 37)[2]? = some f → f.type = 3 := by
    intro f hf
    have : (Tryd.prog.fieldsOf 37)[2]?.map (·.type) = some 3 := by kernel_rfl
    rw [hf] at this; simpa using this
  have t3 : ∀ f, (Tryd.prog.fieldsOf 37)[3]? = some f → f.type = 9 := by
    intro f hf
    have : (Tryd.prog.fieldsOf 37)[3]?.map (·.type) = some 9 := by kernel_rfl
    rw [hf] at this; simpa using this
  obtain ⟨cs, rfl, _⟩ := okWide_struct hfs hval
  obtain ⟨fuel, hf⟩ := h
  generalize Tryd.prog.fieldsOf 37 = fs at *
  obtain ⟨ys, n', _, hy, hlen, hyl, hfl⟩ := DataW.trod_struct hfs hf
  simp only [Value.cells] at hlen hfl
  obtain ⟨c0, c1, c2, c3, hcs⟩ : ∃ c0 c1 c2 c3, cs.toList = [c0, c1, c2, c3] := by
    rw [hC] at hlen
    match hh : cs.toList, hlen with
    | [c0, c1, c2, c3], _ => exact ⟨c0, c1, c2, c3, rfl⟩
  rw [hcs] at hfl
  have fld : ∀ j, j < 4 → ∃ f, fs[j]? = some f := fun j hj => ⟨fs[j]'(by omega), Array.getElem?_eq_getElem (by omega)⟩
  obtain ⟨f0, hf0⟩ := fld 0 (by decide)
  have g0 := hfl 0 f0 hf0
  rw [(hone 0 f0 hf0).1, (hone 0 f0 hf0).2, t0 f0 hf0] at g0
  have y0 : ys[0]? = some (ys[0]'(by omega)) := List.getElem?_eq_getElem (by omega)
  obtain ⟨f1, hf1⟩ := fld 1 (by decide)
  have g1 := hfl 1 f1 hf1
  rw [(hone 1 f1 hf1).1, (hone 1 f1 hf1).2, t1 f1 hf1] at g1
  have y1 : ys[1]? = some (ys[1]'(by omega)) := List.getElem?_eq_getElem (by omega)
  obtain ⟨f2, hf2⟩ := fld 2 (by decide)
  have g2 := hfl 2 f2 hf2
  rw [(hone 2 f2 hf2).1, (hone 2 f2 hf2).2, t2 f2 hf2] at g2
  have y2 : ys[2]? = some (ys[2]'(by omega)) := List.getElem?_eq_getElem (by omega)
  obtain ⟨f3, hf3⟩ := fld 3 (by decide)
  have g3 := hfl 3 f3 hf3
  rw [(hone 3 f3 hf3).1, (hone 3 f3 hf3).2, t3 f3 hf3] at g3
  have y3 : ys[3]? = some (ys[3]'(by omega)) := List.getElem?_eq_getElem (by omega)
  obtain ⟨k0, e0⟩ := trod_i64 Tryd.underlying3 (g0.trans y0)
  have d0 : c0 = .int .i64 k0 := by simpa using e0
  obtain ⟨k1, e1⟩ := trod_i64 Tryd.underlying3 (g1.trans y1)
  have d1 : c1 = .int .i64 k1 := by simpa using e1
  obtain ⟨k2, e2⟩ := trod_i64 Tryd.underlying3 (g2.trans y2)
  have d2 : c2 = .int .i64 k2 := by simpa using e2
  obtain ⟨s, e3, _⟩ := DataW.trod_string Tryd.underlying9 (g3.trans y3)
  have d3 : c3 = .string s := by simpa using e3
  refine ⟨k0, k1, k2, s, ?_⟩
  rw [d0, d1, d2, d3] at hcs
  congr 1
  apply Array.toList_inj.1
  exact hcs
end Go.Proofs.YtgboihojicgkdaaDoor.Vs
