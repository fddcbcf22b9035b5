/-
  OrderDrains: what goes out of a heap, one behind the other, falls by its scores, of one score rises; each that was in goes out once. No condition.
-/
import Derived.Test.YtbjllcjjibjgoaaOrderDrains
import Derived.Carry
import Derived.ProofKit
import Derived.OpenShut

namespace Go.Proofs.Ytbjllcjjibjgoaa.orderDrains
open Go.ChangeShapes Go.WideShapes Go.ChangeAt Go.RowKit
open Go.ChangeMaps (open_string shut_string)
set_option linter.unusedVariables false

theorem nums_in {W : World} {a : Option Addr} {n : Nat} (h : n = 0 ∨ ∃ B o, ∃ ws : List Int, a = some ⟨B, o, none⟩ ∧ n = ws.length ∧ B < W.heap.size ∧ (∀ j (h : j < ws.length), W.cell? ⟨B, o + j, none⟩ = some (.int .i64 ws[j]))) : ∃ ws : List Int, Hp.NumsIn W a n ws := by
  rcases h with h | ⟨B, o, ws, ha, hn, hB, hc⟩
  · exact ⟨[], h, fun hp => by omega⟩
  · refine ⟨ws, hn, fun _ => ⟨B, o, ha, hB, fun j hj => ?_⟩⟩
    rw [hc j (by omega), List.getD_eq_getElem?_getD, List.getElem?_eq_getElem (by omega)]; rfl

theorem own : ownKnob Try.prog.godebug = none := by kernel_rfl

set_option maxRecDepth 100000 in
/-- what the call gives, whatever the arguments -/
theorem contract (H : Type) (enc : TypeId × Value → H) (W : World) (base : Nat) (args : Array Value) (ds gs : List (DataW H)) (before : List MemPlace)
    (hval : ∀ (j : Nat) t v, Try.f4.params[j]? = some t → args[j]? = some v → Value.okWide Try.prog W .any base t v)
    (hW : DataW.Whole enc Try.prog Try.f4.params.toList Rows.orderDrainsSpec.vars false W args.toList ds gs before) :
    Calls Try.prog 4 args W fun e W' => ∃ v, e = .returned v ∧ Rows.orderDrainsSpec.post enc Try.prog Try.f4 false true false false W args v W' := by
  have hW' := hW
  obtain ⟨p, q, hA0, hV, rfl, hfz, hnd⟩ := hW
  have hA : DataW.TrodAll enc Try.prog W 0 (fun _ => true) true Try.f4.params.toList args.toList ds p := hA0
  rw [Try.params4] at hA hval
  obtain ⟨v0, vs0, d0, ds0, p0, q0, hargs, rfl, rfl, h0, r0⟩ := trodAll_cons hA
  obtain ⟨v1, vs1, d1, ds1, p1, q1, rfl, rfl, rfl, h1, r1⟩ := trodAll_cons r0
  obtain ⟨rfl, rfl, rfl⟩ := trodAll_nil r1
  obtain rfl : args = #[v0, v1] := by cases args; simp_all
  obtain ⟨rfl, rfl⟩ := trodVars_none hV
  have hv0 := hval 0 34 v0 rfl rfl
  have hv1 := hval 1 34 v1 rfl rfl
  clear hA0
  obtain ⟨a, n, c, rfl, hcase⟩ := open_nums Try.underlying34 Try.underlying3 (by kernel_rfl) hv0 h0
  obtain ⟨ws, hN⟩ : ∃ ws : List Int, Hp.NumsIn W a n ws := nums_in hcase
  obtain ⟨b, k, d, rfl, hcase2⟩ := open_nums Try.underlying34 Try.underlying3 (by kernel_rfl) hv1 h1
  obtain ⟨us, hK⟩ : ∃ us : List Int, Hp.NumsIn W b k us := nums_in hcase2
  have key : Calls Try.prog 4 #[.slice a n c, .slice b k d] W fun e w' => e = .returned (.bool true) ∧ Below W.heap.size W w' := by
    by_cases hout : 200 < n ∨ 100 < k
    · exact Hp.law_drains_out a n c b k d hout W
    · exact Hp.law_drains a n c ws b k d us W hN hK (by omega) (by omega)
  refine (key).mono fun e W' ⟨he, hg⟩ => ?_
  subst he
  exact ⟨_, rfl, ⟨_, _, _, [], _, [], hW', trodAll_cons_mk (shut_bool Try.underlying4 _) trodAll_mk0, (trodAll_cons_mk (Below.trod (by kernel_rfl) (by kernel_rfl) (of_decide_eq_true (by kernel_rfl)) h0 hg (fun x hx => hW'.lt x (by simp [hx]))) (trodAll_cons_mk (Below.trod (by kernel_rfl) (by kernel_rfl) (of_decide_eq_true (by kernel_rfl)) h1 hg (fun x hx => hW'.lt x (by simp [hx]))) trodAll_mk0)), rfl, hg.frame _, fun h => by cases h⟩⟩

set_option maxRecDepth 100000 in
theorem lifted (os : Os) (started : os.Started) (H : Type) (enc : TypeId × Value → H) :
    ReturnsInHanded {} Try.checked os 4 .any (Rows.orderDrainsSpec.pre6 enc Try.prog Try.f4 Rows.orderDrainsRow.domain false) (Rows.orderDrainsSpec.post enc Try.prog Try.f4 false true false false) := by
  refine returnsInHanded_of_change (C := Try.checked) own started (by kernel_rfl) Try.func4
    (ChangeSpec.witness6 (enc := enc) (C := Try.checked) false ⟨#[], #[.slice none 0 0, .slice none 0 0], []⟩ 8 (by kernel_rfl) (by kernel_rfl) (by kernel_rfl) (by kernel_rfl)) ?_
  intro W base args ds gs before hval hW _ _
  exact contract H enc W base args ds gs before hval hW

theorem over : Rows.orderDrainsRow.holds Try.pinned (OpenSpec.ofChange Rows.orderDrainsSpec) :=
  OpenClaim.holds_of_wide 4 Try.f4 rfl rfl rfl rfl rfl rfl rfl ⟨rfl, rfl, rfl, rfl, rfl⟩ rfl rfl rfl rfl rfl (by kernel_rfl) Try.func4 (by kernel_rfl)
    (of_decide_eq_true (by kernel_rfl)) (by unfold Func.isWrapper; first | (rw [if_pos (by decide +kernel)]; kernel_rfl) | (rw [if_neg (by decide +kernel)]; exact ⟨rfl, rfl⟩))
    (fun os started H enc _ => lifted os started H enc)

theorem proved : Rows.OrderDrainsSaid :=
  over
end Go.Proofs.Ytbjllcjjibjgoaa.orderDrains
