/-
  LAYER 13: the document's bag: New.
-/
import Derived.Test.YtbjllcjjibjgoaaBagOps
namespace Go.Proofs.Ytbjllcjjibjgoaa.Hp
open Go.RowKit Go.Proofs.Ytbjllcjjibjgoaa.Ln

theorem three (w : World) (a b d : List Value) (t t' : TypeId) :
    Blk (((w.alloc (.cells a.toArray t)).alloc (.cells b.toArray t)).alloc (.cells d.toArray t')) w.heap.size a t ∧
    Blk (((w.alloc (.cells a.toArray t)).alloc (.cells b.toArray t)).alloc (.cells d.toArray t')) (w.heap.size + 1) b t ∧
    Blk (((w.alloc (.cells a.toArray t)).alloc (.cells b.toArray t)).alloc (.cells d.toArray t')) (w.heap.size + 2) d t' ∧
    Below w.heap.size w (((w.alloc (.cells a.toArray t)).alloc (.cells b.toArray t)).alloc (.cells d.toArray t')) := by
  have n1 := Blk.new w a t
  have n2 := Blk.new (w.alloc (.cells a.toArray t)) b t
  have n3 := Blk.new ((w.alloc (.cells a.toArray t)).alloc (.cells b.toArray t)) d t'
  simp only [World.size_alloc] at n2 n3
  refine ⟨(n1.alloc _).alloc _, n2.alloc _, n3, ?_⟩
  exact below_alloc (below_alloc (below_alloc (Below.refl _ _) _) _) _

def NewBag (N : Nat) (w : World) (v : Value) (w' : World) : Prop :=
  ∃ m : Bm, v = .pointer (some ⟨m.p, 0, none⟩) ∧ Below w.heap.size w w' ∧ (∀ b, m.own b → w.heap.size ≤ b) ∧ Bag w' m N (List.replicate (N + 1) 0) (List.replicate (N + 1) false)
theorem zeros_bit (n : Nat) : (List.replicate n false).map bitV = zeros n := by simp [zeros, bitV, natV, bitN]
theorem NewBag.mk {N : Nat} {w w' : World} (p s i : Nat) (hs : N ≤ 400) (hb : Below w.heap.size w w') (ne : p ≠ s ∧ p ≠ i ∧ s ≠ i) (lo : w.heap.size ≤ p ∧ w.heap.size ≤ s ∧ w.heap.size ≤ i)
    (h1 : Blk w' p [.slice (some ⟨s, 0, none⟩) (N + 1) (N + 1), .slice (some ⟨i, 0, none⟩) (N + 1) (N + 1)] 36)
    (h2 : Blk w' s (zeros (N + 1)) 3) (h3 : Blk w' i (zeros (N + 1)) 3) : NewBag N w (.pointer (some ⟨p, 0, none⟩)) w' := by
  refine ⟨⟨p, s, i⟩, rfl, hb, ?_, ⟨ne.1, ne.2.1, ne.2.2, hs, by simp, by simp, h1, by rw [zeros_nat]; exact h2, by rw [zeros_bit]; exact h3⟩⟩
  rintro b (rfl | rfl | rfl)
  · exact lo.1
  · exact lo.2.1
  · exact lo.2.2

/-- the first k variables are in -/
def firstIn (N k : Nat) : List Bool := false :: (List.replicate k true ++ List.replicate (N - k) false)
theorem firstIn_zero (N : Nat) : firstIn N 0 = List.replicate (N + 1) false := by simp [firstIn, List.replicate_succ]
theorem firstIn_all (N : Nat) : firstIn N N = allIn N := by simp [firstIn, allIn]
theorem firstIn_step {N k : Nat} (h : k < N) : (firstIn N k).set (k + 1) true = firstIn N (k + 1) := by
  unfold firstIn
  rw [List.set_cons_succ]
  congr 1
  rw [List.set_append_right _ _ (by simp)]
  obtain ⟨j, hj⟩ : ∃ j, N - k = j + 1 := ⟨N - k - 1, by omega⟩
  rw [hj, show N - (k + 1) = j by omega]
  have e : ∀ l : List Bool, List.replicate k true ++ true :: l = List.replicate (k + 1) true ++ l := fun l => by
    rw [List.replicate_succ', List.append_assoc]; rfl
  rw [← e]
  simp [List.replicate_succ]

set_option maxHeartbeats 4000000 in
theorem bagnew_any (N : Nat) (hN : N ≤ 400) (w : World) :
    Calls Try.prog 11 #[.int .i64 (N : Int)] w fun e w' => ∃ m : Bm, e = .returned (.pointer (some ⟨m.p, 0, none⟩)) ∧ Below w.heap.size w w' ∧ (∀ b, m.own b → w.heap.size ≤ b) ∧ Bag w' m N (List.replicate (N + 1) 0) (allIn N) := by
  have M1 := fun z => make_any (N + 1) (by omega) z
  have e1 : ((N + 1 : Nat) : Int) = (N : Int) + 1 := by omega
  rw [e1] at M1
  go_enter Try.func11, Try.ntmps11
  go_upto_region 1 with (fail)
  go_cut [3] (fun v wx => NewBag N w v wx)
  case first =>
    have F := fun a b d => three w a b d 3 36
    go_region
    all_goals
      go_wp2_with fail
      go_meet
      first
        | exact NewBag.mk (w.heap.size + 2) w.heap.size (w.heap.size + 1) hN (below_drew (F _ _ _).2.2.2) (by omega) (by omega) (F _ _ _).2.2.1 (F _ _ _).1 (F _ _ _).2.1
        | exact NewBag.mk (w.heap.size + 2) (w.heap.size + 1) w.heap.size hN (below_drew (F _ _ _).2.2.2) (by omega) (by omega) (F _ _ _).2.2.1 (F _ _ _).2.1 (F _ _ _).1
  case rest =>
    obtain ⟨m, rfl, hb, hown, hm⟩ := hcut
    have HM := hid (show Bag wc m N (List.replicate (N + 1) 0) (firstIn N 0) by rw [firstIn_zero]; exact hm)
    have HB := hid (And.intro hb hown)
    clear hm hb hown M1 e1
    go_wp2_with fail
    go_loopw [4] (fun u wr => ∃ k : Nat, u = .int .i64 ((k : Int) + 1) ∧ k ≤ N ∧ Hid (Only m.own wc wr ∧ Bag wr m N (List.replicate (N + 1) 0) (firstIn N k))) (fun u _ => N + 1 - (intOf u).toNat)
    case atStart => exact ⟨0, rfl, by omega, hid ⟨Only.refl _ _, HM.out⟩⟩
    case round =>
      obtain ⟨k, rfl, hk, HH⟩ := hrel
      have c1 := HH.out.2.head.cell 1 rfl
      by_cases hlt : k < N
      · have ci := HH.out.2.isin (show k + 1 ≤ N by omega)
        have fi := HH.out.2.ins.free (k + 1)
        have ik : k + 1 < N + 1 := by omega
        have d1 : decide ((k : Int) + 1 ≤ (N : Int)) = true := decide_eq_true (by omega)
        have d2 : decide (k + 1 ≤ N) = true := decide_eq_true (by omega)
        have HN := hid (show Bag (wr.setCell ⟨m.i, k + 1, none⟩ (.int .i64 1)) m N (List.replicate (N + 1) 0) (firstIn N (k + 1)) by
          have := HH.out.2.wrote_in (k + 1) true
          rwa [firstIn_step hlt] at this)
        go_wp2_with fail
        go_roundw
        case rel => exact ⟨k + 1, by go_num, by omega, hid ⟨HH.out.1.setCell (.inr (.inr rfl)) _, HN.out⟩⟩
        case measure => simp [intOf]; omega
      · obtain rfl : k = N := by omega
        have d1 : decide ((k : Int) + 1 ≤ (k : Int)) = false := decide_eq_false (by omega)
        have HBe := hid (show Below w.heap.size w wr from HB.out.1.trans (HH.out.1.below (B := w.heap.size) HB.out.1.size (fun b hb ho => by have := HB.out.2 b ho; omega)))
        have HF := hid (firstIn_all k)
        go_wp2_with fail
        go_ret
        exact ⟨m, rfl, HBe.out, HB.out.2, by rw [← HF.out]; exact HH.out.2⟩
end Go.Proofs.Ytbjllcjjibjgoaa.Hp
