/-
  LAYER 12: Holds, Subsumes.
-/
import Derived.Test.YtopneceicamakaaCnfTrue
import Derived.Test.YtopneceicamakaaCnfCheckF
import Derived.Laws.EntriesVeiled
namespace Go.Proofs.Ytopneceicamakaa.Cf
open Go.RowKit Go.Proofs.Ytopneceicamakaa Go.Proofs.Ytopneceicamakaa.Ln

theorem holds2_any (cv : Value) (l : List Int) (hl : okL l) (v : Value) (m : List Bool) (b b2 : Nat) (w : World) (hi : Ints w cv l) (h : Bools w v m) (hc : w.cell? ⟨b, 0, none⟩ = some v)
    (hc2 : w.cell? ⟨b2, 0, none⟩ = some (.func (.func 50) #[] #[.pointer (some ⟨b, 0, none⟩)])) :
    Calls Try.prog 52 #[cv, .pointer (some ⟨b2, 0, none⟩)] w fun e w' => e = .returned (.bool (!someT l m)) ∧ Below w.heap.size w w' := by
  have HT := hid (holds1_any cv l hl v m b w hi h hc)
  obtain ⟨a, c, rfl, _, _, _⟩ := hi.shape
  clear hi h hl hc
  generalize someT l m = r at *
  go_enter Try.func52, Try.ntmps52
  go_wp2_with fail
  refine HT.out.mono ?_
  rintro e w2 ⟨rfl, hb2⟩
  go_wp2_with fail
  go_ret
  exact ⟨rfl, hb2⟩

theorem not_holds (ll : List (List Int)) (m : List Bool) : (ll.any fun l => !someT l m) = !holdsC ll m := by
  unfold holdsC; rw [List.all_eq_not_any_not, Bool.not_not]

set_option maxHeartbeats 1000000 in
theorem holds_any (N : Int) (cv : Value) (ll : List (List Int)) (hl : ∀ l ∈ ll, okL l) (v : Value) (m : List Bool) (w : World) (hi : Lists w cv ll) (h : Bools w v m) :
    Calls Try.prog 26 #[.agg #[.int .i64 N, cv], v] w fun e w' => e = .returned (.bool (holdsC ll m)) ∧ Below w.heap.size w w' := by
  obtain ⟨vs, hc, hlen, hin⟩ := lists_get hi
  have hany : (List.range vs.length).any (fun j => !someT (ll.getD j []) m) = !holdsC ll m := by rw [hlen, ← not_holds]; exact any_list ll [] (fun l => !someT l m)
  have CF := fun W (hB : Below w.heap.size w W) (b b2 : Nat) (hb : W.cell? ⟨b, 0, none⟩ = some v) (hb2 : W.cell? ⟨b2, 0, none⟩ = some (.func (.func 50) #[] #[.pointer (some ⟨b, 0, none⟩)])) =>
    hid (containsFunc2_any 52 #[.pointer (some ⟨b2, 0, none⟩)] (fun _ _ => by kernel_rfl) cv vs (fun j => !someT (ll.getD j []) m) W (hc.below hB) (by
      intro j hj W' hW'
      have h1 := World.block_lt_of_cell? W _ hb
      have h2 := World.block_lt_of_cell? W _ hb2
      refine holds2_any vs[j] (ll.getD j []) ?_ v m b b2 W' (((hin j hj).below hB).below hW') ((h.below hB).below hW') ((hW'.cell (p := ⟨b, 0, none⟩) h1).trans hb) ((hW'.cell (p := ⟨b2, 0, none⟩) h2).trans hb2)
      rw [List.getD_eq_getElem?_getD, List.getElem?_eq_getElem (by omega)]
      exact hl _ (List.getElem_mem _)))
  rw [hany] at CF
  obtain ⟨a, c, rfl, _, _, _⟩ := id hc
  obtain ⟨a', c', rfl, _, _, _⟩ := h.shape
  have HN := hid (Bool.not_not (holdsC ll m))
  clear hany hin hc h hi hlen hl
  generalize holdsC ll m = r at *
  go_enter Try.func26, Try.ntmps26
  go_wp2_with fail
  refine (CF _ ?h1 (w.heap.size + 1) (w.heap.size + 1 + 1) ?h2 ?h3).out.mono ?h4
  case h1 => exact below_alloc (below_alloc (below_alloc (Below.refl _ _) _) _) _
  case h2 => simp [go_sem]
  case h3 => simp [go_sem]
  rintro e w2 ⟨rfl, hb2⟩
  have hb3 := below_trans (below_alloc (below_alloc (below_alloc (Below.refl w.heap.size w) _) _) _) hb2
  clear CF hb2
  go_wp2_with fail
  go_ret
  exact ⟨ret_bool (by first | exact HN.out | simp), hb3⟩

def subC (a b : List Int) : Bool := a.all fun x => b.contains x

theorem sub1_any (x : Int) (v : Value) (l : List Int) (b : Nat) (w : World) (h : Ints w v l) (hc : w.cell? ⟨b, 0, none⟩ = some v) :
    Calls Try.prog 56 #[.int .i64 x, .pointer (some ⟨b, 0, none⟩)] w fun e w' => e = .returned (.bool (!l.contains x)) ∧ w = w' := by
  have HT := hid (contains_any v l x w h)
  obtain ⟨a, c, rfl, _, _, _⟩ := h.shape
  clear h
  generalize l.contains x = r at *
  go_enter Try.func56, Try.ntmps56
  go_wp2_with (go_at_call 47; (with_reducible refine (HT.out).mono ?_); rintro e w' ⟨rfl, rfl⟩)
  go_ret
  exact ⟨rfl, rfl⟩

theorem subsumes_any (va vb : Value) (a b : List Int) (w : World) (ha : Ints w va a) (hb : Ints w vb b) :
    Calls Try.prog 35 #[va, vb] w fun e w' => e = .returned (.bool (subC a b)) ∧ Below w.heap.size w w' := by
  have hany : (List.range (intsV a).length).any (fun j => !b.contains (a.getD j 0)) = !subC a b := by
    rw [show (intsV a).length = a.length from List.length_map _, any_list a 0 (fun x => !b.contains x)]
    unfold subC; rw [List.all_eq_not_any_not, Bool.not_not]
  have CF := fun W (hB : Below w.heap.size w W) (p : Nat) (hp : W.cell? ⟨p, 0, none⟩ = some vb) => hid (containsFunc_any 56 #[.pointer (some ⟨p, 0, none⟩)] (fun _ _ => by kernel_rfl) va (intsV a) (fun j => !b.contains (a.getD j 0)) W (ha.below hB) (by
    intro j hj W' hW'
    have hj' : j < a.length := by simpa [intsV] using hj
    have e1 : (intsV a)[j] = .int .i64 (a.getD j 0) := by simp [intsV, List.getD_eq_getElem?_getD, List.getElem?_eq_getElem hj']
    rw [e1]
    have h1 := World.block_lt_of_cell? W _ hp
    refine (sub1_any (a.getD j 0) vb b p W' ((hb.below hB).below hW') ((hW'.cell (p := ⟨p, 0, none⟩) h1).trans hp)).mono ?_
    rintro e w' ⟨rfl, rfl⟩
    exact ⟨rfl, Below.refl _ _⟩))
  rw [hany] at CF
  obtain ⟨a1, c1, rfl, _, _, _⟩ := ha.shape
  obtain ⟨a2, c2, rfl, _, _, _⟩ := hb.shape
  have HN := hid (Bool.not_not (subC a b))
  clear hany ha hb
  generalize subC a b = r at *
  go_enter Try.func35, Try.ntmps35
  go_wp2_with fail
  refine (CF _ (below_alloc (Below.refl _ _) _) w.heap.size (by simp [go_sem])).out.mono ?_
  rintro e w2 ⟨rfl, hb2⟩
  have hb3 := below_trans (below_alloc (Below.refl w.heap.size w) _) hb2
  clear CF hb2
  go_wp2_with fail
  go_ret
  exact ⟨ret_bool (by first | exact HN.out | simp), hb3⟩
end Go.Proofs.Ytopneceicamakaa.Cf
