/-
  LAYER 12: Norm: what is cloned, sorted, each once.
-/
import Derived.Test.YtopneceicamakaaCnfCheck
import Derived.Test.YtopneceicamakaaNormSpec
import Derived.Test.YtopneceicamakaaShelf
import Derived.Lib.OwnBridge
import Derived.Shelf.SlSortCmp.Whole1
namespace Go.Proofs.Ytopneceicamakaa.Cf
open Go.RowKit Go.Proofs.Ytopneceicamakaa Go.Proofs.Ytopneceicamakaa.Ln

theorem var_raw (x : Int) (w : World) :
    Calls Try.prog 21 #[.int .i64 x] w fun e w' => e = .returned (.int .i64 (varR x)) ∧ w = w' := by
  go_enter Try.func21, Try.ntmps21
  go_wp2
  go_ret
  exact ⟨rfl, rfl⟩

def cmpI (a b : Int) : Int := if a < b then -1 else if b < a then 1 else 0
def cfL (x y : Int) : Int := if cmpI (varR x) (varR y) = 0 then cmpI x y else cmpI (varR x) (varR y)
theorem cfL_lt (x y : Int) : Go.Proofs.ltOf cfL x y = before x y := by
  unfold Go.Proofs.ltOf before
  rw [decide_eq_decide]
  unfold cfL cmpI
  repeat' split
  all_goals omega
theorem swoL : Go.Sort.SWO (Go.Proofs.ltOf cfL) where
  irrefl x := by rw [cfL_lt]; exact before_irr x
  trans x y z h1 h2 := by rw [cfL_lt] at *; exact before_trans h1 h2
  ntrans x y z h1 h2 := by
    rw [cfL_lt] at *
    rw [before_no] at *
    omega

theorem isNaN_any (x : Int) (w : World) : Calls Try.prog 61 #[.int .i64 x] w fun e w' => e = .returned (.bool false) ∧ w = w' := by
  have n1 : (x != x) = false := by simp
  go_enter Try.func61, Try.ntmps61
  go_wp2
  go_ret
  exact ⟨rfl, rfl⟩
theorem cmpInt_any (a b : Int) (w : World) :
    Calls Try.prog 44 #[.int .i64 a, .int .i64 b] w fun e w' => e = .returned (.int .i64 (cmpI a b)) ∧ w = w' := by
  rcases Int.lt_trichotomy a b with h | h | h
  · have E := hid (show cmpI a b = -1 by unfold cmpI; rw [if_pos h])
    go_enter Try.func44, Try.ntmps44
    go_wp2_with (go_at_call 61; (with_reducible refine (isNaN_any _ _).mono ?_); rintro e w' ⟨rfl, rfl⟩)
    go_ret
    exact ⟨ret_int E.out.symm, rfl⟩
  · subst h
    have E := hid (show cmpI a a = 0 by unfold cmpI; rw [if_neg (by omega), if_neg (by omega)])
    go_enter Try.func44, Try.ntmps44
    go_wp2_with (go_at_call 61; (with_reducible refine (isNaN_any _ _).mono ?_); rintro e w' ⟨rfl, rfl⟩)
    go_ret
    exact ⟨ret_int E.out.symm, rfl⟩
  · have E := hid (show cmpI a b = 1 by unfold cmpI; rw [if_neg (by omega), if_pos h])
    go_enter Try.func44, Try.ntmps44
    go_wp2_with (go_at_call 61; (with_reducible refine (isNaN_any _ _).mono ?_); rintro e w' ⟨rfl, rfl⟩)
    go_ret
    exact ⟨ret_int E.out.symm, rfl⟩

def orI (a b : Int) : Int := if a = 0 then b else a
set_option maxHeartbeats 1000000 in
/-- the first of two that isn't 0 -/
theorem or_two (a b : Int) (p c : Nat) (w : World) (h0 : w.cell? ⟨p, 0, none⟩ = some (.int .i64 a)) (h1 : w.cell? ⟨p, 1, none⟩ = some (.int .i64 b)) :
    Calls Try.prog 43 #[.slice (some ⟨p, 0, none⟩) 2 c] w fun e w' => e = .returned (.int .i64 (orI a b)) ∧ w = w' := by
  go_enter Try.func43, Try.ntmps43
  go_wp2_with fail
  go_loop [8, 5] (fun u _ => u = .int .i64 0 ∨ (u = .int .i64 1 ∧ Hid (a = 0)) ∨ (u = .int .i64 2 ∧ Hid (a = 0) ∧ Hid (b = 0))) (fun u _ => 2 - (intOf u).toNat)
  case atStart => exact .inl rfl
  case round =>
    rcases hrel with rfl | ⟨rfl, ha⟩ | ⟨rfl, ha, hb⟩
    · by_cases h : a = 0
      · have n1 : (a != 0) = false := by rw [h]; rfl
        have HH := hid h
        clear h
        go_wp2_with fail
        go_round
        case rel => exact .inr (.inl ⟨rfl, HH⟩)
        case measure => simp [intOf]
      · have n1 : (a != 0) = true := by rw [bne_iff_ne]; exact h
        have E := hid (show orI a b = a from if_neg h)
        clear h
        go_wp2_with fail
        go_ret
        exact ⟨ret_int E.out.symm, rfl⟩
    · by_cases h : b = 0
      · have n1 : (b != 0) = false := by rw [h]; rfl
        have HH := hid h
        clear h
        go_wp2_with fail
        go_round
        case rel => exact .inr (.inr ⟨rfl, ha, HH⟩)
        case measure => simp [intOf]
      · have n1 : (b != 0) = true := by rw [bne_iff_ne]; exact h
        have E := hid (show orI a b = b from if_pos ha.out)
        clear h
        go_wp2_with fail
        go_ret
        exact ⟨ret_int E.out.symm, rfl⟩
    · have E := hid (show orI a b = 0 from (if_pos ha.out).trans hb.out)
      go_wp2_with fail
      go_ret
      exact ⟨ret_int E.out.symm, rfl⟩

theorem cmp_lits (x y : Int) (w : World) :
    Calls Try.prog 42 #[.int .i64 x, .int .i64 y] w fun e w' => e = .returned (.int .i64 (cfL x y)) ∧ w' = w.alloc (.cells #[.int .i64 (cmpI (varR x) (varR y)), .int .i64 (cmpI x y)] 3) := by
  have E := hid (show cfL x y = orI (cmpI (varR x) (varR y)) (cmpI x y) from rfl)
  have HO := hid (or_two (cmpI (varR x) (varR y)) (cmpI x y) w.heap.size 2 (w.alloc (.cells #[.int .i64 (cmpI (varR x) (varR y)), .int .i64 (cmpI x y)] 3)) (by simp [go_sem]) (by simp [go_sem]))
  generalize orI (cmpI (varR x) (varR y)) (cmpI x y) = r at *
  go_enter Try.func42, Try.ntmps42
  go_wp2_with (first | (go_at_call 21; (with_reducible refine (var_raw _ _).mono ?_); rintro e w' ⟨rfl, rfl⟩) | (go_at_call 44; (with_reducible refine (cmpInt_any _ _ _).mono ?_); rintro e w' ⟨rfl, rfl⟩))
  refine HO.out.mono ?_
  rintro e w2 ⟨rfl, rfl⟩
  go_wp2_with fail
  go_ret
  exact ⟨ret_int E.out.symm, rfl⟩

open Go.Sort in
theorem cmp_lays (blk off size : Nat) (w : World) : Go.Proofs.CmpLays1 Try.prog 42 #[] (Value.int .i64) cfL blk off size w := by
  intro m os dk hd x y
  refine (cmp_lits x y _).mono ?_
  rintro e w' ⟨rfl, rfl⟩
  refine ⟨rfl, 0, #[.cells #[.int .i64 (cmpI (varR x) (varR y)), .int .i64 (cmpI x y)] 3], ?_⟩
  rw [show (Go.Proofs.sortWorld (Value.int .i64) w blk off m dk os).drewN 0 = Go.Proofs.sortWorld (Value.int .i64) w blk off m dk os from rfl]
  exact alloc_eq_grow _ _

/-- a row of the call's own -/
def Owned (base : Nat) (w : World) (v : Value) (l : List Int) : Prop := w.ownsRow base 3 1 v l.length (intsV l)
theorem Owned.ints {base : Nat} {w : World} {v : Value} {l : List Int} (h : Owned base w v l) (hl : l.length ≤ 17592186044416) : Ints w v l := by
  rcases ownsRow_one h with ⟨rfl, h1, h2⟩ | ⟨g, c, rfl, h1, h2, h3, h4, h5⟩
  · have : l = [] := List.eq_nil_of_length_eq_zero h1
    subst this
    exact Cells.nil w none 0
  · refine ⟨some ⟨g, 0, none⟩, c, by simp [intsV], by simpa [intsV] using h3, by simpa [intsV] using hl, fun _ => ⟨g, 0, rfl, h2, fun j hj => ?_⟩⟩
    rw [Nat.zero_add]
    exact h5 j _ (List.getElem?_eq_getElem hj)
theorem Owned.below {base : Nat} {w w' : World} {v : Value} {l : List Int} (h : Owned base w v l) (hb : Below w.heap.size w w') : Owned base w' v l := ownsRow_below h hb

theorem below_grow (w : World) (os : Array Obj) : Go.RowKit.Below w.heap.size w (Go.Sort.grow w os) :=
  ⟨rfl, rfl, rfl, by simp, fun _ hj => Go.Sort.heap_grow_old w os hj⟩

set_option maxHeartbeats 1000000 in
open Go.Sort Go.Lib in
/-- sorted in place, each once: what is in it, in order -/
theorem sort_any {base : Nat} {w : World} {v : Value} {l : List Int} (h : Owned base w v l) (hv : v ≠ .slice none 0 0) (hl : l.length ≤ 17592186044416) :
    Calls Try.prog 41 #[v, .func (.func 42) #[] #[]] w fun e w' => e = .returned (.tuple #[]) ∧ ∃ d, w'.ownsRow base 3 1 v l.length (intsV d) ∧ d.length = l.length ∧ (∀ x, x ∈ d ↔ x ∈ l) ∧ (∀ i j, i < j → j < d.length → before (d.getD j 0) (d.getD i 0) = false) ∧ (∀ B, B ≤ base → Below B w w') := by
  obtain ⟨g, cap, rfl, hb, hlt, hn, hm, hlen, hH⟩ := holds_of_ownsRow (enc := Value.int .i64) (zs := l) h hv
  have eg : ∀ args w, (callFunc 42 args).run Try.prog w = .ok (.enter 42 args) w := fun _ _ => by kernel_rfl
  have hcon := Go.Proofs.Any.slices_SortFunc Try.sortI (Value.int .i64) (fun _ => rfl) cfL swoL 42 #[] g 0 cap l.toArray w eg (cmp_lays g 0 _ w) hH hlt (by simp; omega)
  change Calls Try.prog 41 _ _ _ at hcon
  rw [List.size_toArray] at hcon
  refine hcon.mono ?_
  rintro e w' ⟨rfl, d', n, os, hp, hs, rfl⟩
  obtain ⟨p1, p2, p3⟩ := hp
  have p1' : d'.size = l.length := by simpa using p1
  have hd : d'.toList.length = l.length := by simpa using p1'
  have hperm : d'.toList.Perm l := by
    have e1 : d'.extract 0 l.length = d' := by rw [← p1']; simp
    have e2 : l.toArray.extract 0 l.length = l.toArray := by simp
    rw [e1, e2] at p3
    simpa using p3
  refine ⟨rfl, d'.toList, ?_, hd, fun x => hperm.mem_iff, ?_, ?_⟩
  · have h2 := ownsRow_putRow (enc := Value.int .i64) (q := n) (k := l.length) (ys := d'.toList) h hd (Nat.le_refl _)
    rw [List.take_of_length_le (by omega)] at h2
    have h3 := ownsRow_below h2 (below_grow (putRow (Value.int .i64) (Sort.ahead w n) g 0 d'.toList.toArray) os)
    exact h3
  · intro i j hij hj
    rw [hd] at hj
    have := hs i j (Nat.zero_le _) hij hj
    rw [cfL_lt] at this
    have gi : ∀ k, k < l.length → d'[k]! = d'.toList.getD k 0 := fun k hk => by
      rw [getElem!_pos d' k (by omega), List.getD_eq_getElem?_getD, List.getElem?_eq_getElem (by omega)]; simp
    rw [gi i (by omega), gi j hj] at this
    exact this
  · intro B hB
    have h1 := below_putRow (enc := Value.int .i64) (q := n) (d := d') (RowKit.Below.refl B w) (by omega : B ≤ g)
    refine h1.trans ?_
    exact (below_grow (putRow (Value.int .i64) (Sort.ahead w n) g 0 d') os).mono (Nat.le_trans (Nat.le_trans hB hb) (by have := h1.size; simp [putRow, mapBlock, Sort.ahead]; omega))
end Go.Proofs.Ytopneceicamakaa.Cf
