/-
  LAYER 12: open: the first literal of a clause that isn't false, and whether there is another one.
-/
import Derived.Test.YtopneceicamakaaCnfHolds
import Derived.Lib.QuietBelow
import Derived.Deep.DeepCutAuto
import Derived.IntWalk
namespace Go.Proofs.Ytopneceicamakaa.Cf
open Go.RowKit Go.Sort Go.Proofs.Ytopneceicamakaa Go.Proofs.Ytopneceicamakaa.Ln

/-- the first that isn't wrong, and whether another one isn't -/
def openC (c : List Int) (q : Int → Bool) : Int × Bool := match c.find? (fun x => !q x) with
  | none => (0, false)
  | some x => (x, c.any fun y => y != x && !q y)

/-- what a function value says of numbers, in whatever world has grown out of w -/
def Wrong (g : Nat) (lb : Array Value) (c : List Int) (q : Int → Bool) (w : World) : Prop :=
  ∀ x ∈ c, ∀ W, Go.RowKit.Below w.heap.size w W → Calls Try.prog g (#[.int .i64 x] ++ lb) W fun e w' => e = .returned (.bool (q x)) ∧ W = w'

theorem open1_any (g : Nat) (lb : Array Value) (eg : ∀ args w, (callFunc g args).run Try.prog w = .ok (.enter g args) w) (x : Int) (b : Bool) (p : Nat) (w : World) (hc : w.cell? ⟨p, 0, none⟩ = some (.func (.func g) #[] lb))
    (hq : Calls Try.prog g (#[.int .i64 x] ++ lb) w fun e w' => e = .returned (.bool b) ∧ w = w') :
    Calls Try.prog 65 #[.int .i64 x, .pointer (some ⟨p, 0, none⟩)] w fun e w' => e = .returned (.bool (!b)) ∧ w = w' := by
  have HQ := hid hq
  clear hq
  go_enter Try.func65, Try.ntmps65
  go_wp2_with fail
  refine HQ.out.mono ?_
  rintro e w1 ⟨rfl, rfl⟩
  go_wp2_with fail
  go_ret
  exact ⟨rfl, rfl⟩

theorem open2_any (g : Nat) (lb : Array Value) (eg : ∀ args w, (callFunc g args).run Try.prog w = .ok (.enter g args) w) (x y : Int) (b : Bool) (p p2 : Nat) (w : World) (hc : w.cell? ⟨p, 0, none⟩ = some (.int .i64 y)) (hc2 : w.cell? ⟨p2, 0, none⟩ = some (.func (.func g) #[] lb))
    (hq : Calls Try.prog g (#[.int .i64 x] ++ lb) w fun e w' => e = .returned (.bool b) ∧ w = w') :
    Calls Try.prog 66 #[.int .i64 x, .pointer (some ⟨p, 0, none⟩), .pointer (some ⟨p2, 0, none⟩)] w fun e w' => e = .returned (.bool (x != y && !b)) ∧ w = w' := by
  have HQ := hid hq
  clear hq
  cases hxy : x != y
  · go_enter Try.func66, Try.ntmps66
    go_wp2_with fail
    go_ret
    exact ⟨rfl, rfl⟩
  · go_enter Try.func66, Try.ntmps66
    go_wp2_with fail
    refine HQ.out.mono ?_
    rintro e w1 ⟨rfl, rfl⟩
    go_wp2_with fail
    go_ret
    exact ⟨rfl, rfl⟩

theorem find_idx {c : List Int} {p : Int → Bool} : (c.find? p = none ∧ idxP (fun j => p (c.getD j 0)) c.length = -1) ∨ ∃ k, k < c.length ∧ idxP (fun j => p (c.getD j 0)) c.length = (k : Int) ∧ c.find? p = some (c.getD k 0) ∧ p (c.getD k 0) = true ∧ ∀ i, i < k → p (c.getD i 0) = false := by
  cases h : (List.range c.length).find? (fun j => p (c.getD j 0)) with
  | none =>
    left
    have hno : ∀ i, i < c.length → p (c.getD i 0) = false := fun i hi => by
      have := List.find?_eq_none.1 h i (by simpa using hi)
      simpa using this
    refine ⟨?_, idxP_none hno⟩
    rw [List.find?_eq_none]
    intro x hx
    obtain ⟨j, hj, rfl⟩ := List.mem_iff_getElem.1 hx
    have := hno j hj
    rw [List.getD_eq_getElem?_getD, List.getElem?_eq_getElem hj] at this
    simpa using this
  | some k =>
    right
    have hk := List.find?_range_eq_some.1 h
    have hkl : k < c.length := by simpa using hk.2.1
    have hno : ∀ i, i < k → p (c.getD i 0) = false := fun i hi => by simpa using hk.2.2 i hi
    refine ⟨k, hkl, idxP_some hkl hk.1 hno, ?_, hk.1, hno⟩
    rw [List.find?_eq_some_iff_getElem]
    refine ⟨hk.1, k, hkl, ?_, fun j hj => ?_⟩
    · rw [List.getD_eq_getElem?_getD, List.getElem?_eq_getElem hkl]; rfl
    · have := hno j hj
      rw [List.getD_eq_getElem?_getD, List.getElem?_eq_getElem (by omega)] at this
      simpa using this

/-- what stands ahead of the first is wrong: the tail says all -/
theorem any_tail {c : List Int} {q : Int → Bool} {k : Nat} (hno : ∀ i, i < k → (!q (c.getD i 0)) = false) (y : Int) : (c.drop k).any (fun x => x != y && !q x) = c.any (fun x => x != y && !q x) := by
  rw [Bool.eq_iff_iff, List.any_eq_true, List.any_eq_true]
  constructor
  · rintro ⟨x, hx, h⟩
    exact ⟨x, List.mem_of_mem_drop hx, h⟩
  · rintro ⟨x, hx, h⟩
    obtain ⟨j, hj, rfl⟩ := List.mem_iff_getElem.1 hx
    by_cases hjk : j < k
    · exfalso
      have := hno j hjk
      rw [List.getD_eq_getElem?_getD, List.getElem?_eq_getElem hj] at this
      simp only [Option.getD_some] at this
      rw [this, Bool.and_false] at h; cases h
    · refine ⟨c[j], ?_, h⟩
      rw [List.mem_iff_getElem]
      exact ⟨j - k, by simp; omega, by rw [List.getElem_drop]; congr 1; omega⟩

theorem tail_ints {w : World} {B o c : Nat} {l : List Int} {k : Nat} (hl : l.length ≤ 17592186044416) (hlc : l.length ≤ c) (hk : k < l.length) (hB : B < w.heap.size) (hc : ∀ j, j < l.length → w.cell? ⟨B, o + j, none⟩ = some (.int .i64 (l.getD j 0))) : Ints w (.slice (some ⟨B, o + k, none⟩) (l.length - k) (c - k)) (l.drop k) := by
  refine ⟨some ⟨B, o + k, none⟩, c - k, by simp [intsV], by simp [intsV]; omega, by simp [intsV]; omega, fun _ => ⟨B, o + k, rfl, hB, fun j hj => ?_⟩⟩
  have hj' : j < l.length - k := by simpa [intsV] using hj
  rw [show o + k + j = o + (k + j) by omega, hc (k + j) (by omega)]
  simp [intsV, List.getD_eq_getElem?_getD, List.getElem?_eq_getElem (show k + j < l.length by omega)]

set_option maxHeartbeats 2000000 in
theorem open_any (v : Value) (c : List Int) (g : Nat) (lb : Array Value) (eg : ∀ args w, (callFunc g args).run Try.prog w = .ok (.enter g args) w) (q : Int → Bool) (w : World) (h : Ints w v c) (hq : Wrong g lb c q w) :
    Calls Try.prog 53 #[v, .func (.func g) #[] lb] w fun e w' => e = .returned (.tuple #[.int .i64 (openC c q).1, .bool (openC c q).2]) ∧ Go.RowKit.Below w.heap.size w w' := by
  have hel : ∀ j (hj : j < (intsV c).length), (intsV c)[j] = .int .i64 (c.getD j 0) ∧ c.getD j 0 ∈ c := fun j hj => by
    have hj' : j < c.length := by simpa [intsV] using hj
    refine ⟨by simp [intsV, List.getD_eq_getElem?_getD, List.getElem?_eq_getElem hj'], ?_⟩
    rw [List.getD_eq_getElem?_getD, List.getElem?_eq_getElem hj']; exact List.getElem_mem _
  have IX := hid (fun (W : World) (hW : Go.RowKit.Below w.heap.size w W) (p : Nat) (hp : W.cell? ⟨p, 0, none⟩ = some (.func (.func g) #[] lb)) => (indexFunc_any 65 #[.pointer (some ⟨p, 0, none⟩)] (fun _ _ => by kernel_rfl) v (intsV c) (fun j => !q (c.getD j 0)) W (h.below hW) (by
    intro j hj W' hW'
    obtain ⟨e1, e2⟩ := hel j hj
    rw [e1]
    have hlt := World.block_lt_of_cell? W _ hp
    refine (open1_any g lb eg (c.getD j 0) (q (c.getD j 0)) p W' ((hW'.cell (p := ⟨p, 0, none⟩) hlt).trans hp) (hq _ e2 W' (hW.trans (hW'.mono hW.size)))).mono ?_
    rintro e w' ⟨rfl, rfl⟩
    exact ⟨rfl, Go.RowKit.Below.refl _ _⟩)))
  rw [show (intsV c).length = c.length from List.length_map _] at IX
  obtain ⟨a, cp, rfl, hc1, hc2, hc3⟩ := h.shape
  rcases find_idx (c := c) (p := fun x => !q x) with ⟨hf, hi⟩ | ⟨k, hk, hi, hf, hp, hno⟩
  · have E := hid (show openC c q = (0, false) by unfold openC; rw [hf])
    rw [hi] at IX
    clear hi hf hc3 h hq hel
    go_enter Try.func53, Try.ntmps53
    go_wp2_with fail
    refine (IX.out _ (below_alloc (Go.RowKit.Below.refl _ _) _) _ (by simp [go_sem])).mono ?_
    rintro e w2 ⟨rfl, hb2⟩
    have hb3 := below_trans (below_alloc (Go.RowKit.Below.refl w.heap.size w) _) hb2
    clear hb2 IX
    go_wp2_with fail
    go_ret2
    exact ⟨by rw [E.out]; rfl, hb3⟩
  · have E := hid (show openC c q = (c.getD k 0, c.any fun y => y != c.getD k 0 && !q y) by unfold openC; rw [hf])
    obtain ⟨B, o, rfl, hB, hcell⟩ := hc3 (by omega)
    have ck := hcell k hk
    have HC := hid hcell
    have hlen := hid (rfl : c.length = c.length)
    have TA := hid (any_tail hno (c.getD k 0))
    have MEM := hid (show ∀ x ∈ c.drop k, x ∈ c from fun x hx => List.mem_of_mem_drop hx)
    have HQ := hid hq
    rw [hi] at IX
    have hk0 : decide ((k : Int) < 0) = false := decide_eq_false (by omega)
    clear hi hf hp hno hcell h hq hel
    generalize c.getD k 0 = y at *
    go_enter Try.func53, Try.ntmps53
    go_wp2_with fail
    refine (IX.out _ (below_alloc (Go.RowKit.Below.refl _ _) _) _ (by simp [go_sem])).mono ?_
    rintro e w2 ⟨rfl, hb2⟩
    have hb3 := hid (below_trans (below_alloc (Go.RowKit.Below.refl w.heap.size w) _) hb2)
    have cw : w2.cell? ⟨w.heap.size, 0, none⟩ = some (.func (.func g) #[] lb) := (hb2.cell (p := ⟨w.heap.size, 0, none⟩) (by simp)).trans (by simp [go_sem])
    have ck2 : w2.cell? ⟨B, o + k, none⟩ = some (.int .i64 y) := (hb3.out.cell (p := ⟨B, o + k, none⟩) hB).trans ck
    have hsz : w.heap.size + 1 ≤ w2.heap.size := by have := hb2.size; simpa using this
    clear hb2 IX
    go_wp2_with fail
    have f1 : (w2.alloc (.cells #[.int .i64 y] 3)).cell? ⟨w2.heap.size, 0, none⟩ = some (.int .i64 y) := by simp [go_sem]
    have f2 : (w2.alloc (.cells #[.int .i64 y] 3)).cell? ⟨w.heap.size, 0, none⟩ = some (.func (.func g) #[] lb) := (((Go.RowKit.Below.refl _ _).alloc (Nat.le_refl _) _).cell (p := ⟨w.heap.size, 0, none⟩) (by show w.heap.size < w2.heap.size; omega)).trans cw
    have hb4 := hid (below_alloc hb3.out (.cells #[.int .i64 y] 3))
    clear cw ck2 hb3
    generalize w2.alloc (.cells #[.int .i64 y] 3) = W3 at *
    generalize w2.heap.size = pf at *
    have TI := hid (tail_ints (w := W3) (B := B) (o := o) (c := cp) (l := c) (k := k) hc2 hc1 hk (by have := hb4.out.size; omega) (fun j hj => (hb4.out.cell (p := ⟨B, o + j, none⟩) hB).trans (HC.out j hj)))
    have CF := fun W (hW : Go.RowKit.Below W3.heap.size W3 W) => containsFunc_any 66 #[.pointer (some ⟨pf, 0, none⟩), .pointer (some ⟨w.heap.size, 0, none⟩)] (fun _ _ => by kernel_rfl) _ (intsV (c.drop k)) (fun j => (c.drop k).getD j 0 != y && !q ((c.drop k).getD j 0)) W (TI.out.below hW) (by
      intro j hj W' hW'
      have hj' : j < (c.drop k).length := by simpa [intsV] using hj
      have e1 : (intsV (c.drop k))[j] = .int .i64 ((c.drop k).getD j 0) := by simp only [intsV, List.getElem_map, List.getD_eq_getElem?_getD, List.getElem?_eq_getElem hj', Option.getD_some]
      have e2 : (c.drop k).getD j 0 ∈ c := MEM.out _ (by rw [List.getD_eq_getElem?_getD, List.getElem?_eq_getElem hj']; exact List.getElem_mem _)
      rw [e1]
      have l1 := World.block_lt_of_cell? W3 _ f1
      have l2 := World.block_lt_of_cell? W3 _ f2
      have hWW : Go.RowKit.Below W3.heap.size W3 W' := hW.trans (hW'.mono hW.size)
      refine (open2_any g lb eg _ y (q ((c.drop k).getD j 0)) pf w.heap.size W' ((hWW.cell (p := ⟨pf, 0, none⟩) l1).trans f1) ((hWW.cell (p := ⟨w.heap.size, 0, none⟩) l2).trans f2) (HQ.out _ e2 W' (hb4.out.trans (hWW.mono hb4.out.size)))).mono ?_
      rintro e w' ⟨rfl, rfl⟩
      exact ⟨rfl, Go.RowKit.Below.refl _ _⟩)
    have hany : (List.range (intsV (c.drop k)).length).any (fun j => (c.drop k).getD j 0 != y && !q ((c.drop k).getD j 0)) = c.any fun x => x != y && !q x := by
      rw [show (intsV (c.drop k)).length = (c.drop k).length from List.length_map _, any_list (c.drop k) 0 (fun x => x != y && !q x)]
      exact TA.out
    rw [hany] at CF
    have QC := hid (show ∀ d os, Calls Try.prog 38 #[.slice (some ⟨B, o + k, none⟩) (c.length - k) (cp - k), .func (.func 66) #[] #[.pointer (some ⟨pf, 0, none⟩), .pointer (some ⟨w.heap.size, 0, none⟩)]] (grow (redrawn W3 d) os) fun e w'' => e = .returned (.bool (c.any fun x => x != y && !q x)) ∧ ∃ p : Regrown, w'' = grow (redrawn W3 p.d) p.os from fun d os => Calls.regrown_of (CF _ (below_regrown W3 d os)))
    have s0 := fun d os => cell_regrown f1 d os
    have hcap : ¬ cp = k := by omega
    have hkc : k ≤ c.length := by omega
    clear CF hany TI HC HQ MEM TA f1 f2 ck hc3 hlen
    generalize (c.any fun x => x != y && !q x) = r at *
    refine wp_region_quiet_below (by kernel_rfl) (by kernel_rfl) ?_
    repeat (quiet_step (first | with_reducible exact QC.out _ _))
    refine wpQuiet_nil ?_
    intro _ hw'
    obtain ⟨⟨dq, osq⟩, hw''⟩ := hw'
    subst hw''
    have hbz := hb4.out.trans ((below_regrown W3 dq osq).mono hb4.out.size)
    show Exit.then _ _ Exit.normal _ (grow (redrawn W3 dq) osq)
    clear s0 QC hb4
    generalize grow (redrawn W3 dq) osq = W5 at hbz ⊢
    go_wp2_with fail
    go_ret2
    exact ⟨by rw [E.out]; rfl, hbz⟩
end Go.Proofs.Ytopneceicamakaa.Cf
