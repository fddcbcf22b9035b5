/-
  A slice of texts that comes in: how long each may be.
-/
import Derived.Test.YtebhgcejcdgdbaaGreatDoorSpecUpto
import Derived.SizedLaws
namespace Go.Proofs.YtebhgcejcdgdbaaGreatDoor.Sh
open Go.RowKit Go.ChangeShapes Go.WideShapes Go.ChangeAt Go.Proofs.YtebhgcejcdgdbaaGreatDoor

theorem weights_strs {H : Type} {P : Program} {e : TypeId} : ∀ (ws : List ByteArray) (k : Nat) (h : k < ws.length), ws[k].size ∈ DataW.weightsAll P e (strs (H := H) ws) := by
  intro ws
  induction ws with
  | nil => intro k h; simp at h
  | cons x ws ih =>
    intro k h
    unfold strs at *
    rw [List.map_cons, DataW.weightsAll]
    have e : x.data.toList.length = x.size := Array.length_toList
    cases k with
    | zero => rw [List.getElem_cons_zero, ← e]; simp [DataW.weights]
    | succ k =>
      rw [List.getElem_cons_succ]
      exact List.mem_append_right _ (ih k (by simpa using h))
theorem words_small {H : Type} {P : Program} {ts : List TypeId} {ds : List (DataW H)} (h : (DataW.weightsEach P ts ds).all (· ≤ reachBytes) = true) {j : Nat} {t e : TypeId} {ws : List ByteArray} {spare : List (DataW H)} (ht : ts[j]? = some t) (hd : ds[j]? = some (.slice (strs ws) spare)) (hu : P.underlying t = some (.slice e))
    (k : Nat) (hk : k < ws.length) : ws[k].size ≤ 140737488355328 := by
  have := List.all_eq_true.1 h _ (DataW.weights_mem_each ht hd ws[k].size (by
    simp only [DataW.weights, hu]
    exact List.mem_cons_of_mem _ (List.mem_append_left _ (weights_strs ws k hk))))
  have h2 := reachBytes_lt
  have h3 : ws[k].size ≤ reachBytes := by simpa using this
  omega
end Go.Proofs.YtebhgcejcdgdbaaGreatDoor.Sh
