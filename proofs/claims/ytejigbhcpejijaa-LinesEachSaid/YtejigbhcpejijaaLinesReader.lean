/-
  LAYER 1: what a reader answers, or gives up with: Line, More, fault, giveUp, Fail, Word.
-/
import Derived.Test.YtejigbhcpejijaaLinesOnly
namespace Go.Proofs.Ytejigbhcpejijaa.Ln
open Go.RowKit

theorem RdAt.alloc {w : World} {r : Rd} {t : Nat} (h : RdAt w r t) (o : Obj) : RdAt (w.alloc o) r t := Blk.alloc h o
theorem RdAt.drewN {w : World} {r : Rd} {t : Nat} (h : RdAt w r t) (k : Nat) : RdAt (w.drewN k) r t := h
theorem RdAt.below {w w' : World} {r : Rd} {t : Nat} (h : RdAt w r t) (hb : Below w.heap.size w w') : RdAt w' r t := Blk.below h hb
theorem RdAt.take {w : World} {r : Rd} {t : Nat} (h : RdAt w r t) : RdAt (w.setCell ⟨r.p, 3, none⟩ (.int .i64 ((t : Int) + 1))) r (t + 1) := Blk.set h 3 _

set_option maxHeartbeats 400000 in
theorem line_any {w : World} {r : Rd} {t : Nat} (h : RdAt w r t) :
    Calls Try.prog 23 #[.pointer (some ⟨r.p, 0, none⟩)] w fun e w' => e = .returned (.int .i64 (r.no : Int)) ∧ w = w' := by
  have c0 := h.cell 0 rfl
  clear h
  go_enter Try.func23, Try.ntmps23
  go_wp2
  go_ret
  exact ⟨rfl, rfl⟩

/-- but for draws the same world -/
def Drawn (w w' : World) : Prop := ∃ k, w' = w.drewN k
theorem Drawn.refl (w : World) : Drawn w w := ⟨0, rfl⟩
theorem Drawn.only {S : Nat → Prop} {w w' : World} (h : Drawn w w') : Only S w w' := by obtain ⟨k, rfl⟩ := h; exact (Only.refl _ _).drewN k
theorem Drawn.below {w w' : World} (h : Drawn w w') : Below w.heap.size w w' := by obtain ⟨k, rfl⟩ := h; exact below_drewN' (Below.refl _ _) k
theorem Drawn.size {w w' : World} (h : Drawn w w') : w'.heap.size = w.heap.size := by obtain ⟨k, rfl⟩ := h; rfl

set_option maxHeartbeats 400000 in
theorem more_yes {w : World} {r : Rd} {t : Nat} (h : RdAt w r t) (ht : t < r.n) :
    Calls Try.prog 39 #[.pointer (some ⟨r.p, 0, none⟩)] w fun e w' => e = .returned (.bool true) ∧ Drawn w w' := by
  have c1 := h.cell 1 rfl
  have c3 := h.cell 3 rfl
  clear h
  have hd : decide (t < r.n) = true := decide_eq_true ht
  go_enter Try.func39, Try.ntmps39
  go_wp2_with fail
  go_quiet (fail)
  go_wp2
  go_ret
  exact ⟨rfl, ⟨_, rfl⟩⟩
set_option maxHeartbeats 400000 in
theorem more_no {w : World} {r : Rd} {t : Nat} (h : RdAt w r t) (ht : ¬ t < r.n) :
    Calls Try.prog 39 #[.pointer (some ⟨r.p, 0, none⟩)] w fun e w' => e = .returned (.bool false) ∧ Drawn w w' := by
  have c1 := h.cell 1 rfl
  have c3 := h.cell 3 rfl
  clear h
  have hd : decide (t < r.n) = false := decide_eq_false ht
  go_enter Try.func39, Try.ntmps39
  go_wp2_with fail
  go_quiet (fail)
  go_wp2
  go_ret
  exact ⟨rfl, ⟨_, rfl⟩⟩

set_option maxHeartbeats 1000000 in
theorem fault_in {w : World} {r : Rd} {t : Nat} (h : RdAt w r t) (c : Int) (k : Nat) (hk : k < r.n) (x : Nat) (hx : w.cell? ⟨r.cB, k, none⟩ = some (.int .i64 (x : Int))) :
    Calls Try.prog 40 #[.pointer (some ⟨r.p, 0, none⟩), .int .i64 c, .int .i64 (k : Int)] w (fun e w' => e = .returned (.agg #[.int .i64 c, .int .i64 (r.no : Int), .int .i64 (x : Int)]) ∧ Below w.heap.size w w') := by
  have c2 := h.cell 2 rfl
  have hd : decide (k < r.n) = true := decide_eq_true hk
  have hp := h.lt
  have H := hid h
  have Bz := World.block_lt_of_cell? w _ hx
  clear h
  go_enter Try.func40, Try.ntmps40
  go_wp2_with (go_at_call 23; (with_reducible refine (line_any (H.out.alloc _)).mono ?_); rintro e w' ⟨rfl, rfl⟩)
  refine bodyPost_ret (v := .agg #[.int .i64 c, .int .i64 (r.no : Int), .int .i64 (x : Int)]) (by simp [results, Try.results40, go_sem]) rfl ⟨rfl, ?_⟩
  (repeat (first | exact Below.refl _ _ | assumption | refine below_alloc ?_ _ | refine below_drew ?_ | refine below_trans ?_ (by assumption)))

theorem fault_out {w : World} {r : Rd} {t : Nat} (h : RdAt w r t) (c : Int) :
    Calls Try.prog 40 #[.pointer (some ⟨r.p, 0, none⟩), .int .i64 c, .int .i64 (-1)] w (fun e w' => e = .returned (.agg #[.int .i64 c, .int .i64 (r.no : Int), .int .i64 0]) ∧ Below w.heap.size w w') := by
  have hp := h.lt
  have H := hid h
  clear h
  go_enter Try.func40, Try.ntmps40
  go_wp2_with (go_at_call 23; (with_reducible refine (line_any (H.out.alloc _)).mono ?_); rintro e w' ⟨rfl, rfl⟩)
  refine bodyPost_ret (v := .agg #[.int .i64 c, .int .i64 (r.no : Int), .int .i64 0]) (by simp [results, Try.results40, go_sem]) rfl ⟨rfl, ?_⟩
  (repeat (first | exact Below.refl _ _ | assumption | refine below_alloc ?_ _ | refine below_drew ?_ | refine below_trans ?_ (by assumption)))

set_option maxHeartbeats 1000000 in
theorem giveUp_any {w : World} {r : Rd} {t : Nat} (h : RdAt w r t) (c l k : Int) :
    Calls Try.prog 46 #[.pointer (some ⟨r.p, 0, none⟩), .agg #[.int .i64 c, .int .i64 l, .int .i64 k]] w (Gives r ⟨c, l, k⟩ w) := by
  have H := hid h
  have c4 := h.cell 4 rfl
  have hp := h.lt
  clear h
  go_enter Try.func46, Try.ntmps46
  go_wp2_with fail
  go_region_dies
  all_goals exact ⟨rfl, rfl, ((Only.refl _ _).alloc _).drew⟩

/-- where it stands that gives up behind t words -/
def lastC (cs : List Nat) (t : Nat) : Nat := if t = 0 then 0 else cs.getD (t - 1) 0

theorem Gives.more {r : Rd} {f : Flt} {w w1 : World} {e : Ending} {w' : World} (h : Gives r f w1 e w') (ho : Only (· = r.p) w w1) : Gives r f w e w' := ⟨h.1, ho.trans h.2⟩

set_option maxHeartbeats 1000000 in
theorem fail_any {w : World} {r : Rd} {t : Nat} {ws : List (List UInt8)} {cs : List Nat} (h : RdAt w r t) (hl : RdL w r ws cs) (ht : t ≤ ws.length) (c : Int) :
    Calls Try.prog 43 #[.pointer (some ⟨r.p, 0, none⟩), .int .i64 c] w (Gives r ⟨c, r.no, (lastC cs t : Nat)⟩ w) := by
  have H := hid h
  have HL := hid hl
  have c3 := h.cell 3 rfl
  have hp := h.lt
  have hs := hl.small
  clear h hl
  cases t with
  | zero =>
    go_enter Try.func43, Try.ntmps43
    go_wp2_with fail
    refine (fault_out H.out c).mono ?_
    rintro e w1 ⟨rfl, hb⟩
    have HB := hid hb
    clear hb
    go_wp2_with fail
    refine (giveUp_any (H.out.below HB.out) _ _ _).mono ?_
    rintro e w2 ⟨rfl, ho⟩
    exact ⟨rfl, rfl, (Only.of_below HB.out).trans ho⟩
  | succ k =>
    have hn := HL.out.n
    have hm := HL.out.m
    have hx := HL.out.col k (by omega)
    have HX := hid hx
    have hwr : IntKind.i64.wrap ((k : Int) + 1 - 1) = (k : Int) := by rw [show (k : Int) + 1 - 1 = k by omega]; exact IntWalk.i64_in _ (by omega)
    have e1 : (((k + 1 : Nat) : Int)) = (k : Int) + 1 := by omega
    rw [e1] at c3
    have HN := hid hn
    have HM := hid hm
    clear hx hn hm e1
    go_enter Try.func43, Try.ntmps43
    go_wp2_with fail
    refine (fault_in H.out c k (by have := HN.out; omega) _ HX.out).mono ?_
    rintro e w1 ⟨rfl, hb⟩
    have HB := hid hb
    clear hb
    go_wp2_with fail
    refine (giveUp_any (H.out.below HB.out) _ _ _).mono ?_
    rintro e w2 ⟨rfl, ho⟩
    exact ⟨rfl, rfl, (Only.of_below HB.out).trans ho⟩

end Go.Proofs.Ytejigbhcpejijaa.Ln
