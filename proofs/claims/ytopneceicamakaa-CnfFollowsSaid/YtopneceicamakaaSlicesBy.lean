/-
  THE LIBRARY's slices.IndexFunc, ContainsFunc, Index, Contains at []int and [][]int, whatever predicate that only makes new memory.
-/
import Derived.Test.YtopneceicamakaaRows
import Derived.Test.YtopneceicamakaaRowsMem
namespace Go.Proofs.Ytopneceicamakaa.Cf
open Go.RowKit Go.Proofs.Ytopneceicamakaa Go.Proofs.Ytopneceicamakaa.Ln

set_option maxHeartbeats 1000000 in
theorem indexFunc_any (g : Nat) (lb : Array Value) (eg : ∀ args w, (callFunc g args).run Try.prog w = .ok (.enter g args) w) (v : Value) (vs : List Value) (p : Nat → Bool) (w : World) (hc : Cells w v vs) (hp : PredB Try.prog g lb vs p w) :
    Calls Try.prog 58 #[v, .func (.func g) #[] lb] w fun e w' => e = .returned (.int .i64 (idxP p vs.length)) ∧ Below w.heap.size w w' := by
  obtain ⟨a, c, rfl, hc1, hc2, hc3⟩ := hc
  have HP := hid hp
  have HC := hid hc3
  have hn := hid (rfl : vs.length = vs.length)
  clear hp hc3
  go_enter Try.func58, Try.ntmps58
  go_wp2_with fail
  go_loopw [8, 5] (fun u _ wr => ∃ k : Nat, u = .int .i64 (k : Int) ∧ k ≤ vs.length ∧ Hid (Below w.heap.size w wr ∧ ∀ i, i < k → p i = false)) (fun u _ _ => vs.length - (intOf u).toNat)
  case atStart => exact ⟨0, rfl, by omega, hid ⟨Below.refl _ _, fun i h => by omega⟩⟩
  case round =>
    obtain ⟨k, rfl, hk, HH⟩ := hrel
    by_cases hlt : k < vs.length
    · obtain ⟨B, o, rfl, hB, hcell⟩ := HC.out (by omega)
      have ck : wr.cell? ⟨B, o + k, none⟩ = some vs[k] := (HH.out.1.cell (p := ⟨B, o + k, none⟩) hB).trans (hcell k hlt)
      have HQ := hid (HP.out k hlt wr HH.out.1)
      clear hcell
      generalize hx : vs[k] = x at *
      clear hx
      cases hpk : p k
      · rw [hpk] at HQ
        have HPK := hid hpk
        clear hpk
        go_wp2_with fail
        refine HQ.out.mono ?_
        rintro e w2 ⟨rfl, hb2⟩
        go_wp2_with fail
        go_roundw
        case rel =>
          refine ⟨k + 1, by go_num, by omega, hid ⟨HH.out.1.trans (hb2.mono HH.out.1.size), fun i hi => ?_⟩⟩
          by_cases e : i = k
          · subst e; exact HPK.out
          · exact HH.out.2 i (by omega)
        case measure => simp [intOf]; omega
      · rw [hpk] at HQ
        have HPK := hid (idxP_some (n := vs.length) hlt hpk HH.out.2)
        clear hpk
        go_wp2_with fail
        refine HQ.out.mono ?_
        rintro e w2 ⟨rfl, hb2⟩
        go_wp2_with fail
        go_ret
        exact ⟨ret_int HPK.out.symm, HH.out.1.trans (hb2.mono HH.out.1.size)⟩
    · have HPK := hid (idxP_none (p := p) (n := vs.length) (fun i hi => HH.out.2 i (by omega)))
      go_wp2_with fail
      go_ret
      exact ⟨ret_int HPK.out.symm, HH.out.1⟩
set_option maxHeartbeats 1000000 in
theorem indexFunc2_any (g : Nat) (lb : Array Value) (eg : ∀ args w, (callFunc g args).run Try.prog w = .ok (.enter g args) w) (v : Value) (vs : List Value) (p : Nat → Bool) (w : World) (hc : Cells w v vs) (hp : PredB Try.prog g lb vs p w) :
    Calls Try.prog 57 #[v, .func (.func g) #[] lb] w fun e w' => e = .returned (.int .i64 (idxP p vs.length)) ∧ Below w.heap.size w w' := by
  obtain ⟨a, c, rfl, hc1, hc2, hc3⟩ := hc
  have HP := hid hp
  have HC := hid hc3
  have hn := hid (rfl : vs.length = vs.length)
  clear hp hc3
  go_enter Try.func57, Try.ntmps57
  go_wp2_with fail
  go_loopw [8, 5] (fun u _ wr => ∃ k : Nat, u = .int .i64 (k : Int) ∧ k ≤ vs.length ∧ Hid (Below w.heap.size w wr ∧ ∀ i, i < k → p i = false)) (fun u _ _ => vs.length - (intOf u).toNat)
  case atStart => exact ⟨0, rfl, by omega, hid ⟨Below.refl _ _, fun i h => by omega⟩⟩
  case round =>
    obtain ⟨k, rfl, hk, HH⟩ := hrel
    by_cases hlt : k < vs.length
    · obtain ⟨B, o, rfl, hB, hcell⟩ := HC.out (by omega)
      have ck : wr.cell? ⟨B, o + k, none⟩ = some vs[k] := (HH.out.1.cell (p := ⟨B, o + k, none⟩) hB).trans (hcell k hlt)
      have HQ := hid (HP.out k hlt wr HH.out.1)
      clear hcell
      generalize hx : vs[k] = x at *
      clear hx
      cases hpk : p k
      · rw [hpk] at HQ
        have HPK := hid hpk
        clear hpk
        go_wp2_with fail
        refine HQ.out.mono ?_
        rintro e w2 ⟨rfl, hb2⟩
        go_wp2_with fail
        go_roundw
        case rel =>
          refine ⟨k + 1, by go_num, by omega, hid ⟨HH.out.1.trans (hb2.mono HH.out.1.size), fun i hi => ?_⟩⟩
          by_cases e : i = k
          · subst e; exact HPK.out
          · exact HH.out.2 i (by omega)
        case measure => simp [intOf]; omega
      · rw [hpk] at HQ
        have HPK := hid (idxP_some (n := vs.length) hlt hpk HH.out.2)
        clear hpk
        go_wp2_with fail
        refine HQ.out.mono ?_
        rintro e w2 ⟨rfl, hb2⟩
        go_wp2_with fail
        go_ret
        exact ⟨ret_int HPK.out.symm, HH.out.1.trans (hb2.mono HH.out.1.size)⟩
    · have HPK := hid (idxP_none (p := p) (n := vs.length) (fun i hi => HH.out.2 i (by omega)))
      go_wp2_with fail
      go_ret
      exact ⟨ret_int HPK.out.symm, HH.out.1⟩

theorem containsFunc_any (g : Nat) (lb : Array Value) (eg : ∀ args w, (callFunc g args).run Try.prog w = .ok (.enter g args) w) (v : Value) (vs : List Value) (p : Nat → Bool) (w : World) (hc : Cells w v vs) (hp : PredB Try.prog g lb vs p w) :
    Calls Try.prog 38 #[v, .func (.func g) #[] lb] w fun e w' => e = .returned (.bool ((List.range vs.length).any p)) ∧ Below w.heap.size w w' := by
  have HI := hid (indexFunc_any g lb eg v vs p w hc hp)
  have HA := hid (idxP_any p vs.length)
  obtain ⟨a, c, rfl, hc1, hc2, hc3⟩ := hc
  clear hp hc3
  generalize (List.range vs.length).any p = b at *
  generalize idxP p vs.length = x at *
  go_enter Try.func38, Try.ntmps38
  go_wp2_with fail
  refine HI.out.mono ?_
  rintro e w2 ⟨rfl, hb2⟩
  go_wp2_with fail
  go_ret
  exact ⟨ret_bool HA.out, hb2⟩

theorem containsFunc2_any (g : Nat) (lb : Array Value) (eg : ∀ args w, (callFunc g args).run Try.prog w = .ok (.enter g args) w) (v : Value) (vs : List Value) (p : Nat → Bool) (w : World) (hc : Cells w v vs) (hp : PredB Try.prog g lb vs p w) :
    Calls Try.prog 36 #[v, .func (.func g) #[] lb] w fun e w' => e = .returned (.bool ((List.range vs.length).any p)) ∧ Below w.heap.size w w' := by
  have HI := hid (indexFunc2_any g lb eg v vs p w hc hp)
  have HA := hid (idxP_any p vs.length)
  obtain ⟨a, c, rfl, hc1, hc2, hc3⟩ := hc
  clear hp hc3
  generalize (List.range vs.length).any p = b at *
  generalize idxP p vs.length = x at *
  go_enter Try.func36, Try.ntmps36
  go_wp2_with fail
  refine HI.out.mono ?_
  rintro e w2 ⟨rfl, hb2⟩
  go_wp2_with fail
  go_ret
  exact ⟨ret_bool HA.out, hb2⟩

set_option maxHeartbeats 1000000 in
theorem index_any (v : Value) (l : List Int) (x : Int) (w : World) (h : Ints w v l) :
    Calls Try.prog 62 #[v, .int .i64 x] w fun e w' => e = .returned (.int .i64 (idxP (fun j => x == l.getD j 0) l.length)) ∧ w = w' := by
  obtain ⟨a, c, rfl, hc1, hc2, hc3⟩ := h.shape
  have HC := hid hc3
  clear hc3 h
  go_enter Try.func62, Try.ntmps62
  go_wp2_with fail
  go_loop [8, 5] (fun u _ => ∃ k : Nat, u = .int .i64 (k : Int) ∧ k ≤ l.length ∧ Hid (∀ i, i < k → (x == l.getD i 0) = false)) (fun u _ => l.length - (intOf u).toNat)
  case atStart => exact ⟨0, rfl, by omega, hid (fun i h => by omega)⟩
  case round =>
    obtain ⟨k, rfl, hk, HH⟩ := hrel
    by_cases hlt : k < l.length
    · obtain ⟨B, o, rfl, hB, hcell⟩ := HC.out (by omega)
      have ck := hcell k hlt
      clear hcell
      obtain ⟨y, hy⟩ : ∃ y, y = l.getD k 0 := ⟨_, rfl⟩
      rw [← hy] at ck
      have HY := hid hy
      clear hy
      cases hpk : x == y
      · have HPK := hid (show (x == l.getD k 0) = false by rw [← HY.out]; exact hpk)
        go_wp2_with fail
        go_round
        case rel =>
          refine ⟨k + 1, by go_num, by omega, hid (fun i hi => ?_)⟩
          by_cases e : i = k
          · subst e; exact HPK.out
          · exact HH.out i (by omega)
        case measure => simp [intOf]; omega
      · have HPK := hid (idxP_some (p := fun j => x == l.getD j 0) (n := l.length) hlt (show (x == l.getD k 0) = true by rw [← HY.out]; exact hpk) HH.out)
        go_wp2_with fail
        go_ret
        exact ⟨ret_int HPK.out.symm, rfl⟩
    · have HPK := hid (idxP_none (p := fun j => x == l.getD j 0) (n := l.length) (fun i hi => HH.out i (by omega)))
      go_wp2_with fail
      go_ret
      exact ⟨ret_int HPK.out.symm, rfl⟩

theorem contains_any (v : Value) (l : List Int) (x : Int) (w : World) (h : Ints w v l) :
    Calls Try.prog 47 #[v, .int .i64 x] w fun e w' => e = .returned (.bool (l.contains x)) ∧ w = w' := by
  have HI := hid (index_any v l x w h)
  have HA := hid (show decide (0 ≤ idxP (fun j => x == l.getD j 0) l.length) = l.contains x by
    rw [idxP_any, any_list l 0 (fun y => x == y)]
    rw [List.contains_eq_any_beq])
  obtain ⟨a, c, rfl, hc1, hc2, hc3⟩ := h.shape
  clear hc3 h
  generalize l.contains x = b at *
  generalize idxP (fun j => x == l.getD j 0) l.length = y at *
  go_enter Try.func47, Try.ntmps47
  go_wp2_with fail
  refine HI.out.mono ?_
  rintro e w2 ⟨rfl, rfl⟩
  go_wp2_with fail
  go_ret
  exact ⟨ret_bool HA.out, rfl⟩
end Go.Proofs.Ytopneceicamakaa.Cf
