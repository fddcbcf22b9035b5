/-
  LAYER 13: New: all variables are in, without scores.
-/
import Derived.Test.YtbjllcjjibjgoaaHeapOps
import Derived.Deep.DeepCutAuto
import Derived.Deep.CutBlock
import Derived.RegionTactic
import Derived.BigRegion
namespace Go.Proofs.Ytbjllcjjibjgoaa.Hp
open Go.RowKit Go.Proofs.Ytbjllcjjibjgoaa.Ln

theorem four (w : World) (a b c d : List Value) (t t' : TypeId) :
    Blk ((((w.alloc (.cells a.toArray t)).alloc (.cells b.toArray t)).alloc (.cells c.toArray t)).alloc (.cells d.toArray t')) w.heap.size a t ∧
    Blk ((((w.alloc (.cells a.toArray t)).alloc (.cells b.toArray t)).alloc (.cells c.toArray t)).alloc (.cells d.toArray t')) (w.heap.size + 1) b t ∧
    Blk ((((w.alloc (.cells a.toArray t)).alloc (.cells b.toArray t)).alloc (.cells c.toArray t)).alloc (.cells d.toArray t')) (w.heap.size + 2) c t ∧
    Blk ((((w.alloc (.cells a.toArray t)).alloc (.cells b.toArray t)).alloc (.cells c.toArray t)).alloc (.cells d.toArray t')) (w.heap.size + 3) d t' ∧
    Below w.heap.size w ((((w.alloc (.cells a.toArray t)).alloc (.cells b.toArray t)).alloc (.cells c.toArray t)).alloc (.cells d.toArray t')) := by
  have n1 := Blk.new w a t
  have n2 := Blk.new (w.alloc (.cells a.toArray t)) b t
  have n3 := Blk.new ((w.alloc (.cells a.toArray t)).alloc (.cells b.toArray t)) c t
  have n4 := Blk.new (((w.alloc (.cells a.toArray t)).alloc (.cells b.toArray t)).alloc (.cells c.toArray t)) d t'
  simp only [World.size_alloc] at n2 n3 n4
  refine ⟨((n1.alloc _).alloc _).alloc _, ((n2.alloc _).alloc _), n3.alloc _, n4, ?_⟩
  exact below_alloc (below_alloc (below_alloc (below_alloc (Below.refl _ _) _) _) _) _

def zeros (n : Nat) : List Value := List.replicate n (.int .i64 0)

theorem made_zeros (n : Nat) : madeCells (Value.cells (.int .i64 0)) (n * 1) = (zeros n).toArray := by
  apply Array.ext
  · simp [madeCells, zeros]
  · intro i h1 h2
    simp [madeCells, zeros, Value.cells, Nat.mod_one]

theorem make_any (n : Nat) (hn : n ≤ 1000) (w : World) :
    (Instr.makeSlice 34 (.int .i64 (n : Int)) (.int .i64 (n : Int))).run Try.prog w = .ok (.slice (some ⟨w.heap.size, 0, none⟩) n n) (w.alloc (.cells (zeros n).toArray 3)) := by
  obtain ⟨i0, q1, q2, q3, q4⟩ := info_parts infoI
  have h := run_makeSlice (P := Try.prog) w 34 3 i0 (.int .i64 0) Try.underlying34 q1 q2 .i64 .i64 (n : Int) (n : Int) (by omega) (by omega) (by rw [q3]; omega) (by rw [q4]; omega) (by omega)
  rw [q3, Int.toNat_natCast, made_zeros] at h
  exact h

def New (N : Nat) (w : World) (v : Value) (w' : World) : Prop :=
  ∃ m : Hm, v = .pointer (some ⟨m.p, 0, none⟩) ∧ Below w.heap.size w w' ∧ (∀ b, m.own b → w.heap.size ≤ b) ∧ HMem w' m N (List.replicate (N + 1) 0) (List.replicate (N + 1) 0) (List.replicate N 0) N

theorem zeros_nat (n : Nat) : (List.replicate n 0).map natV = zeros n := by simp [zeros, natV]
theorem zeros_int (n : Nat) : (List.replicate n 0).map (Value.int .i64) = zeros n := by simp [zeros]

theorem New.mk {N : Nat} {w w' : World} (p s l t : Nat) (hs : N ≤ 400) (hb : Below w.heap.size w w') (ne : p ≠ s ∧ p ≠ l ∧ p ≠ t ∧ s ≠ l ∧ s ≠ t ∧ l ≠ t) (lo : w.heap.size ≤ p ∧ w.heap.size ≤ s ∧ w.heap.size ≤ l ∧ w.heap.size ≤ t)
    (h1 : Blk w' p [.slice (some ⟨s, 0, none⟩) (N + 1) (N + 1), .slice (some ⟨l, 0, none⟩) (N + 1) (N + 1), .slice (some ⟨t, 0, none⟩) N N] 49)
    (h2 : Blk w' s (zeros (N + 1)) 3) (h3 : Blk w' l (zeros (N + 1)) 3) (h4 : Blk w' t (zeros N) 3) : New N w (.pointer (some ⟨p, 0, none⟩)) w' := by
  refine ⟨⟨p, s, l, t⟩, rfl, hb, ?_, ⟨ne.1, ne.2.1, ne.2.2.1, ne.2.2.2.1, ne.2.2.2.2.1, ne.2.2.2.2.2, hs, by simp, by simp, by simp, Nat.le_refl _, h1, by rw [zeros_nat]; exact h2, by rw [zeros_int]; exact h3, by rw [zeros_nat]; exact h4⟩⟩
  rintro b (rfl | rfl | rfl | rfl)
  · exact lo.1
  · exact lo.2.1
  · exact lo.2.2.1
  · exact lo.2.2.2

/-- where all are in, in order -/
def allIn (N : Nat) : List Bool := false :: List.replicate N true
theorem cnt_all (N : Nat) : cnt (allIn N) = N := by
  simp [cnt, allIn]
theorem get_all (N v : Nat) (h1 : 1 ≤ v) (h2 : v ≤ N) : (allIn N).getD v false = true := by
  obtain ⟨k, rfl⟩ : ∃ k, v = k + 1 := ⟨v - 1, by omega⟩
  rw [List.getD_eq_getElem?_getD]
  show (List.replicate N true)[k]?.getD false = true
  rw [List.getElem?_replicate, if_pos (by omega)]; rfl
theorem get_zero (n v : Nat) : (List.replicate n 0).getD v 0 = (0 : Nat) := by
  rw [List.getD_eq_getElem?_getD, List.getElem?_replicate]; split <;> rfl
theorem new_laid {N : Nat} {P : List Int} {R : List Nat} (lP : P.length = N + 1) (lR : R.length = N) (hR : ∀ i, i < N → R.getD i 0 = i + 1) (hP : ∀ i, i < N → P.getD (i + 1) 0 = (i : Int)) :
    Pl N (allIn N) P R ∧ From (List.replicate (N + 1) 0) R 0 := by
  refine ⟨⟨by simp [allIn], lP, rfl, by rw [cnt_all, lR], ?_, ?_⟩, ?_⟩
  · intro i hi
    rw [hR i (by omega)]
    exact ⟨by omega, by omega, hP i (by omega)⟩
  · intro v h1 h2
    obtain ⟨k, rfl⟩ : ∃ k, v = k + 1 := ⟨v - 1, by omega⟩
    left
    rw [hP k (by omega), Int.toNat_natCast, lR]
    exact ⟨get_all N _ h1 h2, by omega, by omega, hR k (by omega)⟩
  · intro i h0 hi _
    have hp : par i < i := by unfold par; omega
    unfold ahead
    rw [get_zero, get_zero, hR i (by omega), hR (par i) (by omega)]
    omega

set_option maxHeartbeats 4000000 in
theorem new_any (N : Nat) (hN : N ≤ 400) (w : World) :
    Calls Try.prog 10 #[.int .i64 (N : Int)] w fun e w' => ∃ m : Hm, e = .returned (.tuple #[.pointer (some ⟨m.p, 0, none⟩), .int .i64 0]) ∧ Below w.heap.size w w' ∧ (∀ b, m.own b → w.heap.size ≤ b) ∧ Heap w' m N (List.replicate (N + 1) 0) (allIn N) := by
  have M1 := fun z => make_any (N + 1) (by omega) z
  have M0 := fun z => make_any N (by omega) z
  have e1 : ((N + 1 : Nat) : Int) = (N : Int) + 1 := by omega
  rw [e1] at M1
  go_enter Try.func10, Try.ntmps10
  go_upto_region 3 with (fail)
  go_cut [4] (fun v wx => New N w v wx)
  case first =>
    have F := fun a b c d => four w a b c d 3 49
    go_region
    all_goals
      go_wp2_with fail
      go_meet
      first
        | exact New.mk (w.heap.size + 3) w.heap.size (w.heap.size + 1) (w.heap.size + 2) hN (below_drew (F _ _ _ _).2.2.2.2) (by omega) (by omega) (F _ _ _ _).2.2.2.1 (F _ _ _ _).1 (F _ _ _ _).2.1 (F _ _ _ _).2.2.1
        | exact New.mk (w.heap.size + 3) w.heap.size (w.heap.size + 2) (w.heap.size + 1) hN (below_drew (F _ _ _ _).2.2.2.2) (by omega) (by omega) (F _ _ _ _).2.2.2.1 (F _ _ _ _).1 (F _ _ _ _).2.2.1 (F _ _ _ _).2.1
        | exact New.mk (w.heap.size + 3) (w.heap.size + 1) w.heap.size (w.heap.size + 2) hN (below_drew (F _ _ _ _).2.2.2.2) (by omega) (by omega) (F _ _ _ _).2.2.2.1 (F _ _ _ _).2.1 (F _ _ _ _).1 (F _ _ _ _).2.2.1
        | exact New.mk (w.heap.size + 3) (w.heap.size + 1) (w.heap.size + 2) w.heap.size hN (below_drew (F _ _ _ _).2.2.2.2) (by omega) (by omega) (F _ _ _ _).2.2.2.1 (F _ _ _ _).2.1 (F _ _ _ _).2.2.1 (F _ _ _ _).1
        | exact New.mk (w.heap.size + 3) (w.heap.size + 2) w.heap.size (w.heap.size + 1) hN (below_drew (F _ _ _ _).2.2.2.2) (by omega) (by omega) (F _ _ _ _).2.2.2.1 (F _ _ _ _).2.2.1 (F _ _ _ _).1 (F _ _ _ _).2.1
        | exact New.mk (w.heap.size + 3) (w.heap.size + 2) (w.heap.size + 1) w.heap.size hN (below_drew (F _ _ _ _).2.2.2.2) (by omega) (by omega) (F _ _ _ _).2.2.2.1 (F _ _ _ _).2.2.1 (F _ _ _ _).2.1 (F _ _ _ _).1
  case rest =>
    obtain ⟨m, rfl, hb, hown, hm⟩ := hcut
    have HM := hid hm
    have HB := hid (And.intro hb hown)
    have c2 := hm.head.cell 2 rfl
    clear hm hb hown M1 M0 e1
    go_wp2_with fail
    go_loopw [27, 5] (fun u _ wr => ∃ k : Nat, u = .int .i64 (k : Int) ∧ k ≤ N ∧ ∃ P R, Hid (Only m.own wc wr ∧ HMem wr m N (List.replicate (N + 1) 0) P R N ∧ (∀ i, i < k → R.getD i 0 = i + 1) ∧ (∀ i, i < k → P.getD (i + 1) 0 = (i : Int)))) (fun u _ _ => N - (intOf u).toNat)
    case atStart => exact ⟨0, rfl, by omega, _, _, hid ⟨Only.refl _ _, HM.out, fun i h => by omega, fun i h => by omega⟩⟩
    case round =>
      obtain ⟨k, rfl, hk, P, R, HH⟩ := hrel
      by_cases hlt : k < N
      · have PU := put_any HH.out.2.1 (k + 1) k (by omega) hlt
        rw [show ((k + 1 : Nat) : Int) = (k : Int) + 1 by omega] at PU
        replace PU := hid PU
        go_wp2_with fail
        refine PU.out.mono ?_
        rintro e w2 ⟨rfl, ho, hm⟩
        have HM2 := hid hm
        have HO := hid (HH.out.1.trans ho)
        clear ho hm
        go_wp2_with fail
        go_roundw
        case rel =>
          have lR := HH.out.2.1.lenR
          have lP := HH.out.2.1.lenP
          refine ⟨k + 1, by go_num, by omega, _, _, hid ⟨HO.out, HM2.out, fun i hi => ?_, fun i hi => ?_⟩⟩
          · rw [getD_set]
            by_cases e : k = i
            · subst e; rw [if_pos ⟨rfl, by omega⟩]
            · rw [if_neg (fun x => e x.1)]; exact HH.out.2.2.1 i (by omega)
          · rw [getD_set]
            by_cases e : k = i
            · subst e; rw [if_pos ⟨rfl, by omega⟩]
            · rw [if_neg (fun x => e (by omega))]; exact HH.out.2.2.2 i (by omega)
        case measure => simp [intOf]; omega
      · obtain rfl : k = N := by omega
        have lR := HH.out.2.1.lenR
        have lP := HH.out.2.1.lenP
        have hl := new_laid lP lR HH.out.2.2.1 HH.out.2.2.2
        have HL := hid (show Heap wr m k (List.replicate (k + 1) 0) (allIn k) from
          ⟨⟨P, R, by rw [cnt_all]; exact HH.out.2.1, by rw [cnt_all, List.take_of_length_le (by omega)]; exact hl.1, by rw [cnt_all, List.take_of_length_le (by omega)]; exact hl.2⟩, fun v => by rw [get_zero]; omega⟩)
        have HBe := hid (show Below w.heap.size w wr from HB.out.1.trans (HH.out.1.below (B := w.heap.size) HB.out.1.size (fun b hb ho => by have := HB.out.2 b ho; omega)))
        clear hl lR lP
        go_wp2_with fail
        go_ret2
        exact ⟨m, rfl, HBe.out, HB.out.2, HL.out⟩

theorem new_out (n : Int) (h : ¬ (0 ≤ n ∧ n ≤ 400)) (w : World) :
    Calls Try.prog 10 #[.int .i64 n] w fun e w' => e = .returned (.tuple #[.pointer none, .int .i64 8]) ∧ w = w' := by
  by_cases h0 : n < 0
  · go_enter Try.func10, Try.ntmps10
    go_wp2
    go_ret2
    exact ⟨rfl, rfl⟩
  · have h1 : 400 < n := by omega
    go_enter Try.func10, Try.ntmps10
    go_wp2
    go_ret2
    exact ⟨rfl, rfl⟩
end Go.Proofs.Ytbjllcjjibjgoaa.Hp
