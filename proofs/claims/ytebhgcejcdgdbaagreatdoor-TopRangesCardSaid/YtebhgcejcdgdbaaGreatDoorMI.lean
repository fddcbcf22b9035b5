/-
  SEVERAL TEXTS, one behind the other.
-/
import Derived.Test.YtebhgcejcdgdbaaGreatDoorMH
import Derived.RegionTactic
import Derived.Laws.IdiomCopy
/-
  LAYER 3, PACKAGE version: Next; LAYER 4: kept.
-/
namespace Go.Proofs.YtebhgcejcdgdbaaGreatDoor.Sp
open Go.RowKit
open Go.Proofs.YtebhgcejcdgdbaaGreatDoor Go.Proofs.YtebhgcejcdgdbaaGreatDoor.Nu Go.Proofs.YtebhgcejcdgdbaaGreatDoor.Vs

theorem copy_ints (w : World) (g b m : Nat) (ty : TypeId) (cs : List Int) (hm : cs.length = m) (h3 : m ≤ 3) (hsrc : ∀ j v, (cs.map (Value.int .i64))[j]? = some v → w.cell? ⟨g, j, none⟩ = some v) (hc : ∀ j, j < m → (w.cell? ⟨b, j, none⟩).isSome = true) (hf : ∀ j, w.frozen? ⟨b, j, none⟩ = false) :
    (Builtin.copy_ #[74, 74] ty #[.slice (some ⟨b, 0, none⟩) 3 3, .slice (some ⟨g, 0, none⟩) m 3]).run Tryz.prog w = .ok (goInt m) (w.setCells b 0 (cs.map (Value.int .i64))) := by
  have := run_copy_cells (P := Tryz.prog) w 74 74 ty 3 b 0 3 3 ⟨g, 0, none⟩ m 3 (cs.map (Value.int .i64)) Tryz.underlying74 (by kernel_rfl) (by rw [List.length_map, hm]; show m = min m 3; omega) (fun j v h => by rw [addr_add, Nat.zero_add]; exact hsrc j v h) (fun j hj => by rw [Nat.zero_add]; exact hc j (by rw [List.length_map, hm] at hj; exact hj)) (fun j _ => hf _) (by
    intro v hv
    obtain ⟨x, _, rfl⟩ := List.mem_map.1 hv
    rfl)
  rw [List.length_map, hm] at this
  exact this

set_option maxRecDepth 20000 in
set_option maxHeartbeats 2000000 in
theorem next0_any (a b c : Nat) (p : ByteArray) (ha : a < 1000000) (_ : b < 1000000) (_ : c < 1000000) (w : World) :
    Calls Tryz.prog 91 #[.agg #[.int .i64 (a : Int), .int .i64 (b : Int), .int .i64 (c : Int), .string p], .int .i64 0] w (Gives (.agg #[.int .i64 ((a + 1 : Nat) : Int), .int .i64 0, .int .i64 0, .string ⟨#[]⟩]) w) := by
  have hA := Blk.new w [.int .i64 (a : Int), .int .i64 (b : Int), .int .i64 (c : Int), .string p] 38
  have hA2 := (hA.alloc (.cells #[.int .i64 0, .int .i64 0, .int .i64 0, .string ⟨#[]⟩] 38)).alloc (.cells #[.int .i64 0, .int .i64 0, .int .i64 0, .string ⟨#[]⟩] 38)
  obtain ⟨hB, hC⟩ := two_blk (w.alloc (.cells #[.int .i64 (a : Int), .int .i64 (b : Int), .int .i64 (c : Int), .string p] 38)) [.int .i64 0, .int .i64 0, .int .i64 0, .string ⟨#[]⟩] [.int .i64 0, .int .i64 0, .int .i64 0, .string ⟨#[]⟩] 38 38
  have hz : (w.alloc (.cells #[.int .i64 (a : Int), .int .i64 (b : Int), .int .i64 (c : Int), .string p] 38)).heap.size = w.heap.size + 1 := by simp
  rw [hz] at hB hC
  have hbx := below_alloc (below_alloc (below_alloc (Below.refl w.heap.size w) (.cells #[.int .i64 (a : Int), .int .i64 (b : Int), .int .i64 (c : Int), .string p] 38)) (.cells #[.int .i64 0, .int .i64 0, .int .i64 0, .string ⟨#[]⟩] 38)) (.cells #[.int .i64 0, .int .i64 0, .int .i64 0, .string ⟨#[]⟩] 38)
  replace hA2 := hid hA2
  replace hB := hid hB
  replace hC := hid hC
  replace hbx := hid hbx
  clear hA hz
  have hne : w.heap.size + 1 ≠ w.heap.size + 1 + 1 := by omega
  go_enter Tryz.func91, Tryz.ntmps91
  go_wp2_with fail
  change Code.wp _ _ _ _ (((w.alloc (.cells #[.int .i64 (a : Int), .int .i64 (b : Int), .int .i64 (c : Int), .string p] 38)).alloc (.cells #[.int .i64 0, .int .i64 0, .int .i64 0, .string ⟨#[]⟩] 38)).alloc (.cells #[.int .i64 0, .int .i64 0, .int .i64 0, .string ⟨#[]⟩] 38))
  generalize ((w.alloc (.cells #[.int .i64 (a : Int), .int .i64 (b : Int), .int .i64 (c : Int), .string p] 38)).alloc (.cells #[.int .i64 0, .int .i64 0, .int .i64 0, .string ⟨#[]⟩] 38)).alloc (.cells #[.int .i64 0, .int .i64 0, .int .i64 0, .string ⟨#[]⟩] 38) = W at hA2 hB hC hbx ⊢
  have a0 := hA2.out.cell 0 rfl
  have a1 := hA2.out.cell 1 rfl
  have a2 := hA2.out.cell 2 rfl
  have c0 := hC.out.cell 0 rfl
  have c1 := hC.out.cell 1 rfl
  have c2 := hC.out.cell 2 rfl
  have cf := hC.out.free
  have hcopy := fun ty => copy_ints W.drew w.heap.size (w.heap.size + 1 + 1) 1 ty [(a : Int)] rfl (by decide) (by
    intro j v hj
    match j, hj with
    | 0, hj => cases hj; exact a0) (by
    intro j hj
    match j, hj with
    | 0, _ => rw [show W.drew.cell? ⟨w.heap.size + 1 + 1, 0, none⟩ = _ from c0]; rfl) cf
  simp only [List.map_cons, List.map_nil, World.setCells] at hcopy
  go_region
  have hC4 : Blk (W.setCell ⟨w.heap.size + 1 + 1, 0, none⟩ (.int .i64 (a : Int))).drew (w.heap.size + 1 + 1) [.int .i64 (a : Int), .int .i64 0, .int .i64 0, .string ⟨#[]⟩] 38 := (hC.out.set 0 (.int .i64 (a : Int)))
  have hB4 : Blk (W.setCell ⟨w.heap.size + 1 + 1, 0, none⟩ (.int .i64 (a : Int))).drew (w.heap.size + 1) [.int .i64 0, .int .i64 0, .int .i64 0, .string ⟨#[]⟩] 38 := (hB.out.other (a := ⟨w.heap.size + 1 + 1, 0, none⟩) hne (.int .i64 (a : Int)))
  have hb4 : Below w.heap.size w (W.setCell ⟨w.heap.size + 1 + 1, 0, none⟩ (.int .i64 (a : Int))).drew := (hbx.out.setCell (show w.heap.size ≤ w.heap.size + 1 + 1 by omega) (.int .i64 (a : Int))).drew
  clear a0 a1 a2 c0 c1 c2 cf hcopy hA2 hB hC hbx
  show Exit.then _ _ Exit.normal _ ((W.setCell ⟨w.heap.size + 1 + 1, 0, none⟩ (.int .i64 (a : Int))).drew)
  generalize (W.setCell ⟨w.heap.size + 1 + 1, 0, none⟩ (.int .i64 (a : Int))).drew = W4 at hC4 hB4 hb4 ⊢
  replace hb4 := hid hb4
  have c0 := hC4.cell 0 rfl
  have c1 := hC4.cell 1 rfl
  have c2 := hC4.cell 2 rfl
  have c3 := hC4.cell 3 rfl
  have cf := hC4.free
  have d0 := hB4.cell 0 rfl
  have d1 := hB4.cell 1 rfl
  have d2 := hB4.cell 2 rfl
  have d3 := hB4.cell 3 rfl
  have df := hB4.free
  have hC5 := hid hC4
  have hB5 := hid hB4
  clear hC4 hB4
  have l1 : (a : Int) < 1000000 := by omega
  have l0 : (0 : Int) ≤ (a : Int) := by omega
  go_wp2_with fail
  have hB6 := hB5.out.other (a := ⟨w.heap.size + 1 + 1, 0, none⟩) hne (.int .i64 ((a : Int) + 1))
  have hb5 : Below w.heap.size w (W4.setCell ⟨w.heap.size + 1 + 1, 0, none⟩ (.int .i64 ((a : Int) + 1))) := hb4.out.setCell (show w.heap.size ≤ w.heap.size + 1 + 1 by omega) _
  have hb6 := setCells4 (B := w.heap.size + 1) hb5 (by omega) (a := 0) (b := 1) (c := 2) (d := 3) (va := .int .i64 ((a : Int) + 1)) (vb := .int .i64 (0)) (vc := .int .i64 (0)) (vd := .string ⟨#[]⟩)
  obtain ⟨q0, q1, q2, q3⟩ := four_cells hB6 (.int .i64 ((a : Int) + 1)) (.int .i64 (0)) (.int .i64 (0)) (.string ⟨#[]⟩) _ rfl
  exact bodyPost_ret (v := .agg #[.int .i64 ((a : Int) + 1), .int .i64 (0), .int .i64 (0), .string ⟨#[]⟩]) (by simp [results, Tryz.results91, go_sem, q0, q1, q2, q3]) rfl (gives rfl rfl hb6)
set_option maxRecDepth 20000 in
set_option maxHeartbeats 2000000 in
theorem next1_any (a b c : Nat) (p : ByteArray) (_ : a < 1000000) (hb : b < 1000000) (_ : c < 1000000) (w : World) :
    Calls Tryz.prog 91 #[.agg #[.int .i64 (a : Int), .int .i64 (b : Int), .int .i64 (c : Int), .string p], .int .i64 1] w (Gives (.agg #[.int .i64 (a : Int), .int .i64 ((b + 1 : Nat) : Int), .int .i64 0, .string ⟨#[]⟩]) w) := by
  have hA := Blk.new w [.int .i64 (a : Int), .int .i64 (b : Int), .int .i64 (c : Int), .string p] 38
  have hA2 := (hA.alloc (.cells #[.int .i64 0, .int .i64 0, .int .i64 0, .string ⟨#[]⟩] 38)).alloc (.cells #[.int .i64 0, .int .i64 0, .int .i64 0, .string ⟨#[]⟩] 38)
  obtain ⟨hB, hC⟩ := two_blk (w.alloc (.cells #[.int .i64 (a : Int), .int .i64 (b : Int), .int .i64 (c : Int), .string p] 38)) [.int .i64 0, .int .i64 0, .int .i64 0, .string ⟨#[]⟩] [.int .i64 0, .int .i64 0, .int .i64 0, .string ⟨#[]⟩] 38 38
  have hz : (w.alloc (.cells #[.int .i64 (a : Int), .int .i64 (b : Int), .int .i64 (c : Int), .string p] 38)).heap.size = w.heap.size + 1 := by simp
  rw [hz] at hB hC
  have hbx := below_alloc (below_alloc (below_alloc (Below.refl w.heap.size w) (.cells #[.int .i64 (a : Int), .int .i64 (b : Int), .int .i64 (c : Int), .string p] 38)) (.cells #[.int .i64 0, .int .i64 0, .int .i64 0, .string ⟨#[]⟩] 38)) (.cells #[.int .i64 0, .int .i64 0, .int .i64 0, .string ⟨#[]⟩] 38)
  replace hA2 := hid hA2
  replace hB := hid hB
  replace hC := hid hC
  replace hbx := hid hbx
  clear hA hz
  have hne : w.heap.size + 1 ≠ w.heap.size + 1 + 1 := by omega
  go_enter Tryz.func91, Tryz.ntmps91
  go_wp2_with fail
  change Code.wp _ _ _ _ (((w.alloc (.cells #[.int .i64 (a : Int), .int .i64 (b : Int), .int .i64 (c : Int), .string p] 38)).alloc (.cells #[.int .i64 0, .int .i64 0, .int .i64 0, .string ⟨#[]⟩] 38)).alloc (.cells #[.int .i64 0, .int .i64 0, .int .i64 0, .string ⟨#[]⟩] 38))
  generalize ((w.alloc (.cells #[.int .i64 (a : Int), .int .i64 (b : Int), .int .i64 (c : Int), .string p] 38)).alloc (.cells #[.int .i64 0, .int .i64 0, .int .i64 0, .string ⟨#[]⟩] 38)).alloc (.cells #[.int .i64 0, .int .i64 0, .int .i64 0, .string ⟨#[]⟩] 38) = W at hA2 hB hC hbx ⊢
  have a0 := hA2.out.cell 0 rfl
  have a1 := hA2.out.cell 1 rfl
  have a2 := hA2.out.cell 2 rfl
  have c0 := hC.out.cell 0 rfl
  have c1 := hC.out.cell 1 rfl
  have c2 := hC.out.cell 2 rfl
  have cf := hC.out.free
  have hcopy := fun ty => copy_ints W.drew w.heap.size (w.heap.size + 1 + 1) 2 ty [(a : Int), (b : Int)] rfl (by decide) (by
    intro j v hj
    match j, hj with
    | 0, hj => cases hj; exact a0
    | 1, hj => cases hj; exact a1) (by
    intro j hj
    match j, hj with
    | 0, _ => rw [show W.drew.cell? ⟨w.heap.size + 1 + 1, 0, none⟩ = _ from c0]; rfl
    | 1, _ => rw [show W.drew.cell? ⟨w.heap.size + 1 + 1, 1, none⟩ = _ from c1]; rfl) cf
  simp only [List.map_cons, List.map_nil, World.setCells] at hcopy
  go_region
  have hC4 : Blk ((W.setCell ⟨w.heap.size + 1 + 1, 0, none⟩ (.int .i64 (a : Int))).setCell ⟨w.heap.size + 1 + 1, 1, none⟩ (.int .i64 (b : Int))).drew (w.heap.size + 1 + 1) [.int .i64 (a : Int), .int .i64 (b : Int), .int .i64 0, .string ⟨#[]⟩] 38 := ((hC.out.set 0 (.int .i64 (a : Int))).set 1 (.int .i64 (b : Int)))
  have hB4 : Blk ((W.setCell ⟨w.heap.size + 1 + 1, 0, none⟩ (.int .i64 (a : Int))).setCell ⟨w.heap.size + 1 + 1, 1, none⟩ (.int .i64 (b : Int))).drew (w.heap.size + 1) [.int .i64 0, .int .i64 0, .int .i64 0, .string ⟨#[]⟩] 38 := ((hB.out.other (a := ⟨w.heap.size + 1 + 1, 0, none⟩) hne (.int .i64 (a : Int))).other (a := ⟨w.heap.size + 1 + 1, 1, none⟩) hne (.int .i64 (b : Int)))
  have hb4 : Below w.heap.size w ((W.setCell ⟨w.heap.size + 1 + 1, 0, none⟩ (.int .i64 (a : Int))).setCell ⟨w.heap.size + 1 + 1, 1, none⟩ (.int .i64 (b : Int))).drew := ((hbx.out.setCell (show w.heap.size ≤ w.heap.size + 1 + 1 by omega) (.int .i64 (a : Int))).setCell (show w.heap.size ≤ w.heap.size + 1 + 1 by omega) (.int .i64 (b : Int))).drew
  clear a0 a1 a2 c0 c1 c2 cf hcopy hA2 hB hC hbx
  show Exit.then _ _ Exit.normal _ (((W.setCell ⟨w.heap.size + 1 + 1, 0, none⟩ (.int .i64 (a : Int))).setCell ⟨w.heap.size + 1 + 1, 1, none⟩ (.int .i64 (b : Int))).drew)
  generalize ((W.setCell ⟨w.heap.size + 1 + 1, 0, none⟩ (.int .i64 (a : Int))).setCell ⟨w.heap.size + 1 + 1, 1, none⟩ (.int .i64 (b : Int))).drew = W4 at hC4 hB4 hb4 ⊢
  replace hb4 := hid hb4
  have c0 := hC4.cell 0 rfl
  have c1 := hC4.cell 1 rfl
  have c2 := hC4.cell 2 rfl
  have c3 := hC4.cell 3 rfl
  have cf := hC4.free
  have d0 := hB4.cell 0 rfl
  have d1 := hB4.cell 1 rfl
  have d2 := hB4.cell 2 rfl
  have d3 := hB4.cell 3 rfl
  have df := hB4.free
  have hC5 := hid hC4
  have hB5 := hid hB4
  clear hC4 hB4
  have l1 : (b : Int) < 1000000 := by omega
  have l0 : (0 : Int) ≤ (b : Int) := by omega
  go_wp2_with fail
  have hB6 := hB5.out.other (a := ⟨w.heap.size + 1 + 1, 1, none⟩) hne (.int .i64 ((b : Int) + 1))
  have hb5 : Below w.heap.size w (W4.setCell ⟨w.heap.size + 1 + 1, 1, none⟩ (.int .i64 ((b : Int) + 1))) := hb4.out.setCell (show w.heap.size ≤ w.heap.size + 1 + 1 by omega) _
  have hb6 := setCells4 (B := w.heap.size + 1) hb5 (by omega) (a := 0) (b := 1) (c := 2) (d := 3) (va := .int .i64 ((a : Int))) (vb := .int .i64 ((b : Int) + 1)) (vc := .int .i64 (0)) (vd := .string ⟨#[]⟩)
  obtain ⟨q0, q1, q2, q3⟩ := four_cells hB6 (.int .i64 ((a : Int))) (.int .i64 ((b : Int) + 1)) (.int .i64 (0)) (.string ⟨#[]⟩) _ rfl
  exact bodyPost_ret (v := .agg #[.int .i64 ((a : Int)), .int .i64 ((b : Int) + 1), .int .i64 (0), .string ⟨#[]⟩]) (by simp [results, Tryz.results91, go_sem, q0, q1, q2, q3]) rfl (gives rfl rfl hb6)
set_option maxRecDepth 20000 in
set_option maxHeartbeats 2000000 in
theorem next2_any (a b c : Nat) (p : ByteArray) (_ : a < 1000000) (_ : b < 1000000) (hc : c < 1000000) (w : World) :
    Calls Tryz.prog 91 #[.agg #[.int .i64 (a : Int), .int .i64 (b : Int), .int .i64 (c : Int), .string p], .int .i64 2] w (Gives (.agg #[.int .i64 (a : Int), .int .i64 (b : Int), .int .i64 ((c + 1 : Nat) : Int), .string ⟨#[]⟩]) w) := by
  have hA := Blk.new w [.int .i64 (a : Int), .int .i64 (b : Int), .int .i64 (c : Int), .string p] 38
  have hA2 := (hA.alloc (.cells #[.int .i64 0, .int .i64 0, .int .i64 0, .string ⟨#[]⟩] 38)).alloc (.cells #[.int .i64 0, .int .i64 0, .int .i64 0, .string ⟨#[]⟩] 38)
  obtain ⟨hB, hC⟩ := two_blk (w.alloc (.cells #[.int .i64 (a : Int), .int .i64 (b : Int), .int .i64 (c : Int), .string p] 38)) [.int .i64 0, .int .i64 0, .int .i64 0, .string ⟨#[]⟩] [.int .i64 0, .int .i64 0, .int .i64 0, .string ⟨#[]⟩] 38 38
  have hz : (w.alloc (.cells #[.int .i64 (a : Int), .int .i64 (b : Int), .int .i64 (c : Int), .string p] 38)).heap.size = w.heap.size + 1 := by simp
  rw [hz] at hB hC
  have hbx := below_alloc (below_alloc (below_alloc (Below.refl w.heap.size w) (.cells #[.int .i64 (a : Int), .int .i64 (b : Int), .int .i64 (c : Int), .string p] 38)) (.cells #[.int .i64 0, .int .i64 0, .int .i64 0, .string ⟨#[]⟩] 38)) (.cells #[.int .i64 0, .int .i64 0, .int .i64 0, .string ⟨#[]⟩] 38)
  replace hA2 := hid hA2
  replace hB := hid hB
  replace hC := hid hC
  replace hbx := hid hbx
  clear hA hz
  have hne : w.heap.size + 1 ≠ w.heap.size + 1 + 1 := by omega
  go_enter Tryz.func91, Tryz.ntmps91
  go_wp2_with fail
  change Code.wp _ _ _ _ (((w.alloc (.cells #[.int .i64 (a : Int), .int .i64 (b : Int), .int .i64 (c : Int), .string p] 38)).alloc (.cells #[.int .i64 0, .int .i64 0, .int .i64 0, .string ⟨#[]⟩] 38)).alloc (.cells #[.int .i64 0, .int .i64 0, .int .i64 0, .string ⟨#[]⟩] 38))
  generalize ((w.alloc (.cells #[.int .i64 (a : Int), .int .i64 (b : Int), .int .i64 (c : Int), .string p] 38)).alloc (.cells #[.int .i64 0, .int .i64 0, .int .i64 0, .string ⟨#[]⟩] 38)).alloc (.cells #[.int .i64 0, .int .i64 0, .int .i64 0, .string ⟨#[]⟩] 38) = W at hA2 hB hC hbx ⊢
  have a0 := hA2.out.cell 0 rfl
  have a1 := hA2.out.cell 1 rfl
  have a2 := hA2.out.cell 2 rfl
  have c0 := hC.out.cell 0 rfl
  have c1 := hC.out.cell 1 rfl
  have c2 := hC.out.cell 2 rfl
  have cf := hC.out.free
  have hcopy := fun ty => copy_ints W.drew w.heap.size (w.heap.size + 1 + 1) 3 ty [(a : Int), (b : Int), (c : Int)] rfl (by decide) (by
    intro j v hj
    match j, hj with
    | 0, hj => cases hj; exact a0
    | 1, hj => cases hj; exact a1
    | 2, hj => cases hj; exact a2) (by
    intro j hj
    match j, hj with
    | 0, _ => rw [show W.drew.cell? ⟨w.heap.size + 1 + 1, 0, none⟩ = _ from c0]; rfl
    | 1, _ => rw [show W.drew.cell? ⟨w.heap.size + 1 + 1, 1, none⟩ = _ from c1]; rfl
    | 2, _ => rw [show W.drew.cell? ⟨w.heap.size + 1 + 1, 2, none⟩ = _ from c2]; rfl) cf
  simp only [List.map_cons, List.map_nil, World.setCells] at hcopy
  go_region
  have hC4 : Blk (((W.setCell ⟨w.heap.size + 1 + 1, 0, none⟩ (.int .i64 (a : Int))).setCell ⟨w.heap.size + 1 + 1, 1, none⟩ (.int .i64 (b : Int))).setCell ⟨w.heap.size + 1 + 1, 2, none⟩ (.int .i64 (c : Int))).drew (w.heap.size + 1 + 1) [.int .i64 (a : Int), .int .i64 (b : Int), .int .i64 (c : Int), .string ⟨#[]⟩] 38 := (((hC.out.set 0 (.int .i64 (a : Int))).set 1 (.int .i64 (b : Int))).set 2 (.int .i64 (c : Int)))
  have hB4 : Blk (((W.setCell ⟨w.heap.size + 1 + 1, 0, none⟩ (.int .i64 (a : Int))).setCell ⟨w.heap.size + 1 + 1, 1, none⟩ (.int .i64 (b : Int))).setCell ⟨w.heap.size + 1 + 1, 2, none⟩ (.int .i64 (c : Int))).drew (w.heap.size + 1) [.int .i64 0, .int .i64 0, .int .i64 0, .string ⟨#[]⟩] 38 := (((hB.out.other (a := ⟨w.heap.size + 1 + 1, 0, none⟩) hne (.int .i64 (a : Int))).other (a := ⟨w.heap.size + 1 + 1, 1, none⟩) hne (.int .i64 (b : Int))).other (a := ⟨w.heap.size + 1 + 1, 2, none⟩) hne (.int .i64 (c : Int)))
  have hb4 : Below w.heap.size w (((W.setCell ⟨w.heap.size + 1 + 1, 0, none⟩ (.int .i64 (a : Int))).setCell ⟨w.heap.size + 1 + 1, 1, none⟩ (.int .i64 (b : Int))).setCell ⟨w.heap.size + 1 + 1, 2, none⟩ (.int .i64 (c : Int))).drew := (((hbx.out.setCell (show w.heap.size ≤ w.heap.size + 1 + 1 by omega) (.int .i64 (a : Int))).setCell (show w.heap.size ≤ w.heap.size + 1 + 1 by omega) (.int .i64 (b : Int))).setCell (show w.heap.size ≤ w.heap.size + 1 + 1 by omega) (.int .i64 (c : Int))).drew
  clear a0 a1 a2 c0 c1 c2 cf hcopy hA2 hB hC hbx
  show Exit.then _ _ Exit.normal _ ((((W.setCell ⟨w.heap.size + 1 + 1, 0, none⟩ (.int .i64 (a : Int))).setCell ⟨w.heap.size + 1 + 1, 1, none⟩ (.int .i64 (b : Int))).setCell ⟨w.heap.size + 1 + 1, 2, none⟩ (.int .i64 (c : Int))).drew)
  generalize (((W.setCell ⟨w.heap.size + 1 + 1, 0, none⟩ (.int .i64 (a : Int))).setCell ⟨w.heap.size + 1 + 1, 1, none⟩ (.int .i64 (b : Int))).setCell ⟨w.heap.size + 1 + 1, 2, none⟩ (.int .i64 (c : Int))).drew = W4 at hC4 hB4 hb4 ⊢
  replace hb4 := hid hb4
  have c0 := hC4.cell 0 rfl
  have c1 := hC4.cell 1 rfl
  have c2 := hC4.cell 2 rfl
  have c3 := hC4.cell 3 rfl
  have cf := hC4.free
  have d0 := hB4.cell 0 rfl
  have d1 := hB4.cell 1 rfl
  have d2 := hB4.cell 2 rfl
  have d3 := hB4.cell 3 rfl
  have df := hB4.free
  have hC5 := hid hC4
  have hB5 := hid hB4
  clear hC4 hB4
  have l1 : (c : Int) < 1000000 := by omega
  have l0 : (0 : Int) ≤ (c : Int) := by omega
  go_wp2_with fail
  have hB6 := hB5.out.other (a := ⟨w.heap.size + 1 + 1, 2, none⟩) hne (.int .i64 ((c : Int) + 1))
  have hb5 : Below w.heap.size w (W4.setCell ⟨w.heap.size + 1 + 1, 2, none⟩ (.int .i64 ((c : Int) + 1))) := hb4.out.setCell (show w.heap.size ≤ w.heap.size + 1 + 1 by omega) _
  have hb6 := setCells4 (B := w.heap.size + 1) hb5 (by omega) (a := 0) (b := 1) (c := 2) (d := 3) (va := .int .i64 ((a : Int))) (vb := .int .i64 ((b : Int))) (vc := .int .i64 ((c : Int) + 1)) (vd := .string ⟨#[]⟩)
  obtain ⟨q0, q1, q2, q3⟩ := four_cells hB6 (.int .i64 ((a : Int))) (.int .i64 ((b : Int))) (.int .i64 ((c : Int) + 1)) (.string ⟨#[]⟩) _ rfl
  exact bodyPost_ret (v := .agg #[.int .i64 ((a : Int)), .int .i64 ((b : Int)), .int .i64 ((c : Int) + 1), .string ⟨#[]⟩]) (by simp [results, Tryz.results91, go_sem, q0, q1, q2, q3]) rfl (gives rfl rfl hb6)

set_option maxRecDepth 20000 in
set_option maxHeartbeats 1000000 in
theorem kept_any (a b c : Nat) (p : ByteArray) (w : World) :
    Calls Tryz.prog 92 #[.agg #[.int .i64 (a : Int), .int .i64 (b : Int), .int .i64 (c : Int), .string p]] w (Gives (.int .i64 (keptP a b : Int)) w) := by
  have hb0 := hid (below_alloc (Below.refl w.heap.size w) (.cells #[.int .i64 (a : Int), .int .i64 (b : Int), .int .i64 (c : Int), .string p] 38))
  have hK := hid (show keptP a b = if a ≠ 0 then 0 else if b ≠ 0 then 1 else 2 from rfl)
  generalize keptP a b = K at hK ⊢
  go_enter Tryz.func92, Tryz.ntmps92
  go_wp2_with fail
  go_loopw [3, 4, 7] (fun _ _ i wr => ∃ k : Nat, k ≤ 3 ∧ i = .int .i64 k ∧ Hid (Below w.heap.size w wr) ∧ Hid (0 < k → a = 0) ∧ Hid (1 < k → b = 0) ∧ Hid (2 < k → c = 0)) (fun _ _ i _ => 3 - (intOf i).toNat)
  case atStart => exact ⟨0, by omega, rfl, hb0, hid (fun h => by omega), hid (fun h => by omega), hid (fun h => by omega)⟩
  case round =>
    obtain ⟨k, hk, rfl, hb, h0, h1, h2⟩ := hrel
    clear hb0
    have ways : k = 0 ∨ k = 1 ∨ k = 2 ∨ k = 3 := by omega
    rcases ways with rfl | rfl | rfl | rfl
    · by_cases ha : a = 0
      · subst ha
        go_wp2_with fail
        go_roundw
        case rel => exact ⟨1, by omega, by go_num, hb, hid (fun _ => by first | rfl | trivial), hid (fun h => by omega), hid (fun h => by omega)⟩
        case measure => simp [intOf]
      · have e : ((a : Int) != 0) = true := by simp; omega
        have hr := hid (show ((K : Nat) : Int) = 0 by rw [hK.out, if_pos ha]; rfl)
        clear ha
        go_wp2_with fail
        go_ret
        exact gives rfl (int_eq hr.out.symm) hb.out
    · have ha := h0.out (by omega)
      by_cases hbb : b = 0
      · subst hbb
        go_wp2_with fail
        go_roundw
        case rel => exact ⟨2, by omega, by go_num, hb, hid (fun _ => by first | exact ha | trivial), hid (fun _ => by first | rfl | trivial), hid (fun h => by omega)⟩
        case measure => simp [intOf]
      · have e : ((b : Int) != 0) = true := by simp; omega
        have hr := hid (show ((K : Nat) : Int) = 1 by rw [hK.out, if_neg (by omega), if_pos hbb]; rfl)
        clear hbb
        go_wp2_with fail
        go_ret
        exact gives rfl (int_eq hr.out.symm) hb.out
    · have ha := h0.out (by omega)
      have hbb := h1.out (by omega)
      have hr := hid (show ((K : Nat) : Int) = 2 by rw [hK.out, if_neg (by omega), if_neg (by omega)]; rfl)
      by_cases hcc : c = 0
      · subst hcc
        go_wp2_with fail
        go_roundw
        case rel => exact ⟨3, by omega, by go_num, hb, hid (fun _ => by first | exact ha | trivial), hid (fun _ => by first | exact hbb | trivial), hid (fun _ => by first | rfl | trivial)⟩
        case measure => simp [intOf]
      · have e : ((c : Int) != 0) = true := by simp; omega
        clear hcc
        go_wp2_with fail
        go_ret
        exact gives rfl (int_eq hr.out.symm) hb.out
    · have ha := h0.out (by omega)
      have hbb := h1.out (by omega)
      have hr := hid (show ((K : Nat) : Int) = 2 by rw [hK.out, if_neg (by omega), if_neg (by omega)]; rfl)
      go_wp2_with fail
      go_ret
      exact gives rfl (int_eq hr.out.symm) hb.out
end Go.Proofs.YtebhgcejcdgdbaaGreatDoor.Sp

/-
  LAYER 4, PACKAGE spec: does a comparison hold?
-/
namespace Go.Proofs.YtebhgcejcdgdbaaGreatDoor.Sp
open Go.RowKit Go.Sort
open Go.Proofs.YtebhgcejcdgdbaaGreatDoor Go.Proofs.YtebhgcejcdgdbaaGreatDoor.Nu Go.Proofs.YtebhgcejcdgdbaaGreatDoor.Vs

theorem nextK_any (a b c : Nat) (p : ByteArray) (ha : a < 1000000) (hb : b < 1000000) (hc : c < 1000000) : ∃ n0 n1 n2 : Nat, nextL a b c (keptP a b) = [n0, n1, n2] ∧ ∀ w, Calls Tryz.prog 91 #[.agg #[.int .i64 (a : Int), .int .i64 (b : Int), .int .i64 (c : Int), .string p], .int .i64 (keptP a b : Int)] w (Gives (.agg #[.int .i64 (n0 : Int), .int .i64 (n1 : Int), .int .i64 (n2 : Int), .string ⟨#[]⟩]) w) := by
  unfold keptP
  by_cases h0 : a ≠ 0
  · rw [if_pos h0]; exact ⟨a + 1, 0, 0, rfl, fun w => next0_any a b c p ha hb hc w⟩
  · rw [if_neg h0]
    by_cases h1 : b ≠ 0
    · rw [if_pos h1]; exact ⟨a, b + 1, 0, rfl, fun w => next1_any a b c p ha hb hc w⟩
    · rw [if_neg h1]; exact ⟨a, b, c + 1, rfl, fun w => next2_any a b c p ha hb hc w⟩


set_option maxRecDepth 20000 in
set_option maxHeartbeats 1000000 in
theorem has0_w (a b c x y z k : Int) (p q : ByteArray) (w : World) (hm : MaxAt w) (HC : ∀ w, MaxAt w → Calls Tryz.prog 26 #[.agg #[.int .i64 x, .int .i64 y, .int .i64 z, .string q], .agg #[.int .i64 a, .int .i64 b, .int .i64 c, .string p]] w (Gives (.int .i64 k) w)) :
    Calls Tryz.prog 77 #[.agg #[.int .i64 0, .int .i64 a, .int .i64 b, .int .i64 c, .string p], .agg #[.int .i64 x, .int .i64 y, .int .i64 z, .string q]] w (Gives (.bool (k == 0)) w) := by
  replace HC := hid HC
  have hb0 := hid (below_alloc (below_alloc (Below.refl w.heap.size w) (.cells #[.int .i64 0, .int .i64 a, .int .i64 b, .int .i64 c, .string p] 40)) (.cells #[.int .i64 x, .int .i64 y, .int .i64 z, .string q] 38))
  obtain ⟨hA, hB⟩ := two_blk w [.int .i64 0, .int .i64 a, .int .i64 b, .int .i64 c, .string p] [.int .i64 x, .int .i64 y, .int .i64 z, .string q] 40 38
  replace hA := hid hA
  clear hB
  generalize hR : (k == 0) = R
  replace hR := hid hR
  go_enter Tryz.func77, Tryz.ntmps77
  go_wp2_with (go_at_call 26; (with_reducible refine (HC.out _ (hm.below hb0.out)).mono ?_); rintro e w1 ⟨rfl, hb1⟩; have c0 := (hA.out.below hb1).cell 0 rfl; have hb2 := hid (below_trans hb0.out hb1))
  go_ret
  exact gives rfl (bool_eq hR.out) hb2.out

set_option maxRecDepth 20000 in
set_option maxHeartbeats 1000000 in
theorem has1_w (a b c x y z k : Int) (p q : ByteArray) (w : World) (hm : MaxAt w) (HC : ∀ w, MaxAt w → Calls Tryz.prog 26 #[.agg #[.int .i64 x, .int .i64 y, .int .i64 z, .string q], .agg #[.int .i64 a, .int .i64 b, .int .i64 c, .string p]] w (Gives (.int .i64 k) w)) :
    Calls Tryz.prog 77 #[.agg #[.int .i64 1, .int .i64 a, .int .i64 b, .int .i64 c, .string p], .agg #[.int .i64 x, .int .i64 y, .int .i64 z, .string q]] w (Gives (.bool (k != 0)) w) := by
  replace HC := hid HC
  have hb0 := hid (below_alloc (below_alloc (Below.refl w.heap.size w) (.cells #[.int .i64 1, .int .i64 a, .int .i64 b, .int .i64 c, .string p] 40)) (.cells #[.int .i64 x, .int .i64 y, .int .i64 z, .string q] 38))
  obtain ⟨hA, hB⟩ := two_blk w [.int .i64 1, .int .i64 a, .int .i64 b, .int .i64 c, .string p] [.int .i64 x, .int .i64 y, .int .i64 z, .string q] 40 38
  replace hA := hid hA
  clear hB
  generalize hR : (k != 0) = R
  replace hR := hid hR
  go_enter Tryz.func77, Tryz.ntmps77
  go_wp2_with (go_at_call 26; (with_reducible refine (HC.out _ (hm.below hb0.out)).mono ?_); rintro e w1 ⟨rfl, hb1⟩; have c0 := (hA.out.below hb1).cell 0 rfl; have hb2 := hid (below_trans hb0.out hb1))
  go_ret
  exact gives rfl (bool_eq hR.out) hb2.out

set_option maxRecDepth 20000 in
set_option maxHeartbeats 1000000 in
theorem has2_w (a b c x y z k : Int) (p q : ByteArray) (w : World) (hm : MaxAt w) (HC : ∀ w, MaxAt w → Calls Tryz.prog 26 #[.agg #[.int .i64 x, .int .i64 y, .int .i64 z, .string q], .agg #[.int .i64 a, .int .i64 b, .int .i64 c, .string p]] w (Gives (.int .i64 k) w)) :
    Calls Tryz.prog 77 #[.agg #[.int .i64 2, .int .i64 a, .int .i64 b, .int .i64 c, .string p], .agg #[.int .i64 x, .int .i64 y, .int .i64 z, .string q]] w (Gives (.bool (decide (k < 0))) w) := by
  replace HC := hid HC
  have hb0 := hid (below_alloc (below_alloc (Below.refl w.heap.size w) (.cells #[.int .i64 2, .int .i64 a, .int .i64 b, .int .i64 c, .string p] 40)) (.cells #[.int .i64 x, .int .i64 y, .int .i64 z, .string q] 38))
  obtain ⟨hA, hB⟩ := two_blk w [.int .i64 2, .int .i64 a, .int .i64 b, .int .i64 c, .string p] [.int .i64 x, .int .i64 y, .int .i64 z, .string q] 40 38
  replace hA := hid hA
  clear hB
  generalize hR : (decide (k < 0)) = R
  replace hR := hid hR
  go_enter Tryz.func77, Tryz.ntmps77
  go_wp2_with (go_at_call 26; (with_reducible refine (HC.out _ (hm.below hb0.out)).mono ?_); rintro e w1 ⟨rfl, hb1⟩; have c0 := (hA.out.below hb1).cell 0 rfl; have hb2 := hid (below_trans hb0.out hb1))
  go_ret
  exact gives rfl (bool_eq hR.out) hb2.out

set_option maxRecDepth 20000 in
set_option maxHeartbeats 1000000 in
theorem has3_w (a b c x y z k : Int) (p q : ByteArray) (w : World) (hm : MaxAt w) (HC : ∀ w, MaxAt w → Calls Tryz.prog 26 #[.agg #[.int .i64 x, .int .i64 y, .int .i64 z, .string q], .agg #[.int .i64 a, .int .i64 b, .int .i64 c, .string p]] w (Gives (.int .i64 k) w)) :
    Calls Tryz.prog 77 #[.agg #[.int .i64 3, .int .i64 a, .int .i64 b, .int .i64 c, .string p], .agg #[.int .i64 x, .int .i64 y, .int .i64 z, .string q]] w (Gives (.bool (decide (k ≤ 0))) w) := by
  replace HC := hid HC
  have hb0 := hid (below_alloc (below_alloc (Below.refl w.heap.size w) (.cells #[.int .i64 3, .int .i64 a, .int .i64 b, .int .i64 c, .string p] 40)) (.cells #[.int .i64 x, .int .i64 y, .int .i64 z, .string q] 38))
  obtain ⟨hA, hB⟩ := two_blk w [.int .i64 3, .int .i64 a, .int .i64 b, .int .i64 c, .string p] [.int .i64 x, .int .i64 y, .int .i64 z, .string q] 40 38
  replace hA := hid hA
  clear hB
  generalize hR : (decide (k ≤ 0)) = R
  replace hR := hid hR
  go_enter Tryz.func77, Tryz.ntmps77
  go_wp2_with (go_at_call 26; (with_reducible refine (HC.out _ (hm.below hb0.out)).mono ?_); rintro e w1 ⟨rfl, hb1⟩; have c0 := (hA.out.below hb1).cell 0 rfl; have hb2 := hid (below_trans hb0.out hb1))
  go_ret
  exact gives rfl (bool_eq hR.out) hb2.out

set_option maxRecDepth 20000 in
set_option maxHeartbeats 1000000 in
theorem has4_w (a b c x y z k : Int) (p q : ByteArray) (w : World) (hm : MaxAt w) (HC : ∀ w, MaxAt w → Calls Tryz.prog 26 #[.agg #[.int .i64 x, .int .i64 y, .int .i64 z, .string q], .agg #[.int .i64 a, .int .i64 b, .int .i64 c, .string p]] w (Gives (.int .i64 k) w)) :
    Calls Tryz.prog 77 #[.agg #[.int .i64 4, .int .i64 a, .int .i64 b, .int .i64 c, .string p], .agg #[.int .i64 x, .int .i64 y, .int .i64 z, .string q]] w (Gives (.bool (decide (0 < k))) w) := by
  replace HC := hid HC
  have hb0 := hid (below_alloc (below_alloc (Below.refl w.heap.size w) (.cells #[.int .i64 4, .int .i64 a, .int .i64 b, .int .i64 c, .string p] 40)) (.cells #[.int .i64 x, .int .i64 y, .int .i64 z, .string q] 38))
  obtain ⟨hA, hB⟩ := two_blk w [.int .i64 4, .int .i64 a, .int .i64 b, .int .i64 c, .string p] [.int .i64 x, .int .i64 y, .int .i64 z, .string q] 40 38
  replace hA := hid hA
  clear hB
  generalize hR : (decide (0 < k)) = R
  replace hR := hid hR
  go_enter Tryz.func77, Tryz.ntmps77
  go_wp2_with (go_at_call 26; (with_reducible refine (HC.out _ (hm.below hb0.out)).mono ?_); rintro e w1 ⟨rfl, hb1⟩; have c0 := (hA.out.below hb1).cell 0 rfl; have hb2 := hid (below_trans hb0.out hb1))
  go_ret
  exact gives rfl (bool_eq hR.out) hb2.out

set_option maxRecDepth 20000 in
set_option maxHeartbeats 1000000 in
theorem has5_w (a b c x y z k : Int) (p q : ByteArray) (w : World) (hm : MaxAt w) (HC : ∀ w, MaxAt w → Calls Tryz.prog 26 #[.agg #[.int .i64 x, .int .i64 y, .int .i64 z, .string q], .agg #[.int .i64 a, .int .i64 b, .int .i64 c, .string p]] w (Gives (.int .i64 k) w)) :
    Calls Tryz.prog 77 #[.agg #[.int .i64 5, .int .i64 a, .int .i64 b, .int .i64 c, .string p], .agg #[.int .i64 x, .int .i64 y, .int .i64 z, .string q]] w (Gives (.bool (decide (0 ≤ k))) w) := by
  replace HC := hid HC
  have hb0 := hid (below_alloc (below_alloc (Below.refl w.heap.size w) (.cells #[.int .i64 5, .int .i64 a, .int .i64 b, .int .i64 c, .string p] 40)) (.cells #[.int .i64 x, .int .i64 y, .int .i64 z, .string q] 38))
  obtain ⟨hA, hB⟩ := two_blk w [.int .i64 5, .int .i64 a, .int .i64 b, .int .i64 c, .string p] [.int .i64 x, .int .i64 y, .int .i64 z, .string q] 40 38
  replace hA := hid hA
  clear hB
  generalize hR : (decide (0 ≤ k)) = R
  replace hR := hid hR
  go_enter Tryz.func77, Tryz.ntmps77
  go_wp2_with (go_at_call 26; (with_reducible refine (HC.out _ (hm.below hb0.out)).mono ?_); rintro e w1 ⟨rfl, hb1⟩; have c0 := (hA.out.below hb1).cell 0 rfl; have hb2 := hid (below_trans hb0.out hb1))
  go_ret
  exact gives rfl (bool_eq hR.out) hb2.out

set_option maxRecDepth 20000 in
set_option maxHeartbeats 1000000 in
theorem has8_w (a b c x y z k : Int) (p q : ByteArray) (w : World) (hm : MaxAt w) (HC : ∀ w, MaxAt w → Calls Tryz.prog 26 #[.agg #[.int .i64 x, .int .i64 y, .int .i64 z, .string q], .agg #[.int .i64 a, .int .i64 b, .int .i64 c, .string p]] w (Gives (.int .i64 k) w)) :
    Calls Tryz.prog 77 #[.agg #[.int .i64 8, .int .i64 a, .int .i64 b, .int .i64 c, .string p], .agg #[.int .i64 x, .int .i64 y, .int .i64 z, .string q]] w (Gives (.bool true) w) := by
  replace HC := hid HC
  have hb0 := hid (below_alloc (below_alloc (Below.refl w.heap.size w) (.cells #[.int .i64 8, .int .i64 a, .int .i64 b, .int .i64 c, .string p] 40)) (.cells #[.int .i64 x, .int .i64 y, .int .i64 z, .string q] 38))
  obtain ⟨hA, hB⟩ := two_blk w [.int .i64 8, .int .i64 a, .int .i64 b, .int .i64 c, .string p] [.int .i64 x, .int .i64 y, .int .i64 z, .string q] 40 38
  replace hA := hid hA
  clear hB
  generalize hR : true = R
  replace hR := hid hR
  go_enter Tryz.func77, Tryz.ntmps77
  go_wp2_with (go_at_call 26; (with_reducible refine (HC.out _ (hm.below hb0.out)).mono ?_); rintro e w1 ⟨rfl, hb1⟩; have c0 := (hA.out.below hb1).cell 0 rfl; have hb2 := hid (below_trans hb0.out hb1))
  go_ret
  exact gives rfl (bool_eq hR.out) hb2.out

set_option maxRecDepth 20000 in
set_option maxHeartbeats 2000000 in
theorem has6n_w (a b c x y z k : Int) (p q : ByteArray) (hk : ¬ 0 ≤ k) (w : World) (hm : MaxAt w) (HC : ∀ w, MaxAt w → Calls Tryz.prog 26 #[.agg #[.int .i64 x, .int .i64 y, .int .i64 z, .string q], .agg #[.int .i64 a, .int .i64 b, .int .i64 c, .string p]] w (Gives (.int .i64 k) w)) :
    Calls Tryz.prog 77 #[.agg #[.int .i64 6, .int .i64 a, .int .i64 b, .int .i64 c, .string p], .agg #[.int .i64 x, .int .i64 y, .int .i64 z, .string q]] w (Gives (.bool false) w) := by
  replace HC := hid HC
  have hk' : decide (0 ≤ k) = false := decide_eq_false hk
  clear hk
  have hb0 := hid (below_alloc (below_alloc (Below.refl w.heap.size w) (.cells #[.int .i64 6, .int .i64 a, .int .i64 b, .int .i64 c, .string p] 40)) (.cells #[.int .i64 x, .int .i64 y, .int .i64 z, .string q] 38))
  obtain ⟨hA, hB⟩ := two_blk w [.int .i64 6, .int .i64 a, .int .i64 b, .int .i64 c, .string p] [.int .i64 x, .int .i64 y, .int .i64 z, .string q] 40 38
  replace hA := hid hA
  replace hB := hid hB
  generalize hR : false = R
  replace hR := hid hR
  go_enter Tryz.func77, Tryz.ntmps77
  go_wp2_with (go_at_call 26; (with_reducible refine (HC.out _ (hm.below hb0.out)).mono ?_); rintro e w1 ⟨rfl, hb1⟩; have c0 := (hA.out.below hb1).cell 0 rfl; have hb2 := hid (below_trans hb0.out hb1); have hA1 := hid (hA.out.below hb1); have hB1 := hid (hB.out.below hb1))
  generalize w.heap.size + 1 = v2 at hB1 ⊢
  have hbw := hb2.out
  generalize w.heap.size = v1 at hA1 ⊢
  have i0 := cell_regrown (hA1.out.cell 0 rfl)
  have i1 := cell_regrown (hA1.out.cell 1 rfl)
  have i2 := cell_regrown (hA1.out.cell 2 rfl)
  have i3 := cell_regrown (hA1.out.cell 3 rfl)
  have i4 := cell_regrown (hA1.out.cell 4 rfl)
  have j0 := cell_regrown (hB1.out.cell 0 rfl)
  have j1 := cell_regrown (hB1.out.cell 1 rfl)
  have j2 := cell_regrown (hB1.out.cell 2 rfl)
  have j3 := cell_regrown (hB1.out.cell 3 rfl)
  clear i0 i1 i2 i3 i4 j0 j1 j2 j3 hA1 hB1
  go_quiet (fail)
  go_wp2_with fail
  go_ret
  exact gives rfl (bool_eq hR.out) (below_drewN' hbw _)

set_option maxRecDepth 20000 in
set_option maxHeartbeats 2000000 in
theorem has6y_w (a b c x y z k n0 n1 n2 k2 : Int) (p q : ByteArray) (hk : 0 ≤ k) (w : World) (hm : MaxAt w) (HC : ∀ w, MaxAt w → Calls Tryz.prog 26 #[.agg #[.int .i64 x, .int .i64 y, .int .i64 z, .string q], .agg #[.int .i64 a, .int .i64 b, .int .i64 c, .string p]] w (Gives (.int .i64 k) w)) (HN : ∀ w, Calls Tryz.prog 91 #[.agg #[.int .i64 a, .int .i64 b, .int .i64 c, .string p], .int .i64 1] w (Gives (.agg #[.int .i64 n0, .int .i64 n1, .int .i64 n2, .string ⟨#[]⟩]) w)) (HC2 : ∀ w, MaxAt w → Calls Tryz.prog 26 #[.agg #[.int .i64 x, .int .i64 y, .int .i64 z, .string q], .agg #[.int .i64 n0, .int .i64 n1, .int .i64 n2, .string ⟨#[]⟩]] w (Gives (.int .i64 k2) w)) :
    Calls Tryz.prog 77 #[.agg #[.int .i64 6, .int .i64 a, .int .i64 b, .int .i64 c, .string p], .agg #[.int .i64 x, .int .i64 y, .int .i64 z, .string q]] w (Gives (.bool (decide (k2 < 0))) w) := by
  replace HC := hid HC
  replace HN := hid HN
  replace HC2 := hid HC2
  have hb0 := hid (below_alloc (below_alloc (Below.refl w.heap.size w) (.cells #[.int .i64 6, .int .i64 a, .int .i64 b, .int .i64 c, .string p] 40)) (.cells #[.int .i64 x, .int .i64 y, .int .i64 z, .string q] 38))
  obtain ⟨hA, hB⟩ := two_blk w [.int .i64 6, .int .i64 a, .int .i64 b, .int .i64 c, .string p] [.int .i64 x, .int .i64 y, .int .i64 z, .string q] 40 38
  replace hA := hid hA
  replace hB := hid hB
  generalize hR : (decide (k2 < 0)) = R
  replace hR := hid hR
  go_enter Tryz.func77, Tryz.ntmps77
  go_wp2_with (go_at_call 26; (with_reducible refine (HC.out _ (hm.below hb0.out)).mono ?_); rintro e w1 ⟨rfl, hb1⟩; have c0 := (hA.out.below hb1).cell 0 rfl; have hb2 := hid (below_trans hb0.out hb1); have hA1 := hid (hA.out.below hb1); have hB1 := hid (hB.out.below hb1))
  generalize w.heap.size + 1 = v2 at hB1 ⊢
  have hbw := hb2.out
  generalize w.heap.size = v1 at hA1 ⊢
  have i0 := cell_regrown (hA1.out.cell 0 rfl)
  have i1 := cell_regrown (hA1.out.cell 1 rfl)
  have i2 := cell_regrown (hA1.out.cell 2 rfl)
  have i3 := cell_regrown (hA1.out.cell 3 rfl)
  have i4 := cell_regrown (hA1.out.cell 4 rfl)
  have j0 := cell_regrown (hB1.out.cell 0 rfl)
  have j1 := cell_regrown (hB1.out.cell 1 rfl)
  have j2 := cell_regrown (hB1.out.cell 2 rfl)
  have j3 := cell_regrown (hB1.out.cell 3 rfl)
  have qN := hid (show ∀ d os, Calls Tryz.prog 91 #[.agg #[.int .i64 a, .int .i64 b, .int .i64 c, .string p], .int .i64 1] (grow (redrawn w1 d) os) fun e w'' => e = .returned (.agg #[.int .i64 n0, .int .i64 n1, .int .i64 n2, .string ⟨#[]⟩]) ∧ ∃ p : Regrown, w'' = grow (redrawn w1 p.d) p.os from fun d os => Calls.regrown_of (HN.out _))
  have qC := hid (show ∀ d os, Calls Tryz.prog 26 #[.agg #[.int .i64 x, .int .i64 y, .int .i64 z, .string q], .agg #[.int .i64 n0, .int .i64 n1, .int .i64 n2, .string ⟨#[]⟩]] (grow (redrawn w1 d) os) fun e w'' => e = .returned (.int .i64 k2) ∧ ∃ p : Regrown, w'' = grow (redrawn w1 p.d) p.os from fun d os => Calls.regrown_of (HC2.out _ (hm.below (below_trans hbw (below_regrown w1 d os)))))
  refine wp_region_quiet_below (by kernel_rfl) (by kernel_rfl) ?_
  repeat (quiet_step (first | with_reducible exact qN.out _ _ | with_reducible exact qC.out _ _))
  refine wpQuiet_nil ?_
  intro _ hw'
  obtain ⟨⟨dq, osq⟩, hw''⟩ := hw'
  subst hw''
  show Exit.then _ _ Exit.normal _ (grow (redrawn w1 dq) osq)
  have hbz := hid (below_trans hbw (below_regrown w1 dq osq))
  clear i0 i1 i2 i3 i4 j0 j1 j2 j3 qN qC hA1 hB1
  generalize grow (redrawn w1 dq) osq = W5 at hbz ⊢
  go_wp2_with fail
  go_ret
  exact gives rfl (bool_eq hR.out) hbz.out

set_option maxRecDepth 20000 in
set_option maxHeartbeats 2000000 in
theorem has7n_w (a b c x y z k : Int) (p q : ByteArray) (hk : ¬ 0 ≤ k) (w : World) (hm : MaxAt w) (HC : ∀ w, MaxAt w → Calls Tryz.prog 26 #[.agg #[.int .i64 x, .int .i64 y, .int .i64 z, .string q], .agg #[.int .i64 a, .int .i64 b, .int .i64 c, .string p]] w (Gives (.int .i64 k) w)) :
    Calls Tryz.prog 77 #[.agg #[.int .i64 7, .int .i64 a, .int .i64 b, .int .i64 c, .string p], .agg #[.int .i64 x, .int .i64 y, .int .i64 z, .string q]] w (Gives (.bool false) w) := by
  replace HC := hid HC
  have hk' : decide (0 ≤ k) = false := decide_eq_false hk
  clear hk
  have hb0 := hid (below_alloc (below_alloc (Below.refl w.heap.size w) (.cells #[.int .i64 7, .int .i64 a, .int .i64 b, .int .i64 c, .string p] 40)) (.cells #[.int .i64 x, .int .i64 y, .int .i64 z, .string q] 38))
  obtain ⟨hA, hB⟩ := two_blk w [.int .i64 7, .int .i64 a, .int .i64 b, .int .i64 c, .string p] [.int .i64 x, .int .i64 y, .int .i64 z, .string q] 40 38
  replace hA := hid hA
  replace hB := hid hB
  generalize hR : false = R
  replace hR := hid hR
  go_enter Tryz.func77, Tryz.ntmps77
  go_wp2_with (go_at_call 26; (with_reducible refine (HC.out _ (hm.below hb0.out)).mono ?_); rintro e w1 ⟨rfl, hb1⟩; have c0 := (hA.out.below hb1).cell 0 rfl; have hb2 := hid (below_trans hb0.out hb1); have hA1 := hid (hA.out.below hb1); have hB1 := hid (hB.out.below hb1))
  generalize w.heap.size + 1 = v2 at hB1 ⊢
  have hbw := hb2.out
  generalize w.heap.size = v1 at hA1 ⊢
  have i0 := cell_regrown (hA1.out.cell 0 rfl)
  have i1 := cell_regrown (hA1.out.cell 1 rfl)
  have i2 := cell_regrown (hA1.out.cell 2 rfl)
  have i3 := cell_regrown (hA1.out.cell 3 rfl)
  have i4 := cell_regrown (hA1.out.cell 4 rfl)
  have j0 := cell_regrown (hB1.out.cell 0 rfl)
  have j1 := cell_regrown (hB1.out.cell 1 rfl)
  have j2 := cell_regrown (hB1.out.cell 2 rfl)
  have j3 := cell_regrown (hB1.out.cell 3 rfl)
  clear i0 i1 i2 i3 i4 j0 j1 j2 j3 hA1 hB1
  go_quiet (fail)
  go_wp2_with fail
  go_ret
  exact gives rfl (bool_eq hR.out) (below_drewN' hbw _)

set_option maxRecDepth 20000 in
set_option maxHeartbeats 2000000 in
theorem has7y_w (a b c x y z k n0 n1 n2 k2 K : Int) (p q : ByteArray) (hk : 0 ≤ k) (w : World) (hm : MaxAt w) (HC : ∀ w, MaxAt w → Calls Tryz.prog 26 #[.agg #[.int .i64 x, .int .i64 y, .int .i64 z, .string q], .agg #[.int .i64 a, .int .i64 b, .int .i64 c, .string p]] w (Gives (.int .i64 k) w)) (HK : ∀ w, Calls Tryz.prog 92 #[.agg #[.int .i64 a, .int .i64 b, .int .i64 c, .string p]] w (Gives (.int .i64 K) w)) (HN : ∀ w, Calls Tryz.prog 91 #[.agg #[.int .i64 a, .int .i64 b, .int .i64 c, .string p], .int .i64 K] w (Gives (.agg #[.int .i64 n0, .int .i64 n1, .int .i64 n2, .string ⟨#[]⟩]) w)) (HC2 : ∀ w, MaxAt w → Calls Tryz.prog 26 #[.agg #[.int .i64 x, .int .i64 y, .int .i64 z, .string q], .agg #[.int .i64 n0, .int .i64 n1, .int .i64 n2, .string ⟨#[]⟩]] w (Gives (.int .i64 k2) w)) :
    Calls Tryz.prog 77 #[.agg #[.int .i64 7, .int .i64 a, .int .i64 b, .int .i64 c, .string p], .agg #[.int .i64 x, .int .i64 y, .int .i64 z, .string q]] w (Gives (.bool (decide (k2 < 0))) w) := by
  replace HC := hid HC
  replace HN := hid HN
  replace HC2 := hid HC2
  replace HK := hid HK
  have hb0 := hid (below_alloc (below_alloc (Below.refl w.heap.size w) (.cells #[.int .i64 7, .int .i64 a, .int .i64 b, .int .i64 c, .string p] 40)) (.cells #[.int .i64 x, .int .i64 y, .int .i64 z, .string q] 38))
  obtain ⟨hA, hB⟩ := two_blk w [.int .i64 7, .int .i64 a, .int .i64 b, .int .i64 c, .string p] [.int .i64 x, .int .i64 y, .int .i64 z, .string q] 40 38
  replace hA := hid hA
  replace hB := hid hB
  generalize hR : (decide (k2 < 0)) = R
  replace hR := hid hR
  go_enter Tryz.func77, Tryz.ntmps77
  go_wp2_with (go_at_call 26; (with_reducible refine (HC.out _ (hm.below hb0.out)).mono ?_); rintro e w1 ⟨rfl, hb1⟩; have c0 := (hA.out.below hb1).cell 0 rfl; have hb2 := hid (below_trans hb0.out hb1); have hA1 := hid (hA.out.below hb1); have hB1 := hid (hB.out.below hb1))
  generalize w.heap.size + 1 = v2 at hB1 ⊢
  have hbw := hb2.out
  generalize w.heap.size = v1 at hA1 ⊢
  have i0 := cell_regrown (hA1.out.cell 0 rfl)
  have i1 := cell_regrown (hA1.out.cell 1 rfl)
  have i2 := cell_regrown (hA1.out.cell 2 rfl)
  have i3 := cell_regrown (hA1.out.cell 3 rfl)
  have i4 := cell_regrown (hA1.out.cell 4 rfl)
  have j0 := cell_regrown (hB1.out.cell 0 rfl)
  have j1 := cell_regrown (hB1.out.cell 1 rfl)
  have j2 := cell_regrown (hB1.out.cell 2 rfl)
  have j3 := cell_regrown (hB1.out.cell 3 rfl)
  have qK := hid (show ∀ d os, Calls Tryz.prog 92 #[.agg #[.int .i64 a, .int .i64 b, .int .i64 c, .string p]] (grow (redrawn w1 d) os) fun e w'' => e = .returned (.int .i64 K) ∧ ∃ p : Regrown, w'' = grow (redrawn w1 p.d) p.os from fun d os => Calls.regrown_of (HK.out _))
  have qN := hid (show ∀ d os, Calls Tryz.prog 91 #[.agg #[.int .i64 a, .int .i64 b, .int .i64 c, .string p], .int .i64 K] (grow (redrawn w1 d) os) fun e w'' => e = .returned (.agg #[.int .i64 n0, .int .i64 n1, .int .i64 n2, .string ⟨#[]⟩]) ∧ ∃ p : Regrown, w'' = grow (redrawn w1 p.d) p.os from fun d os => Calls.regrown_of (HN.out _))
  have qC := hid (show ∀ d os, Calls Tryz.prog 26 #[.agg #[.int .i64 x, .int .i64 y, .int .i64 z, .string q], .agg #[.int .i64 n0, .int .i64 n1, .int .i64 n2, .string ⟨#[]⟩]] (grow (redrawn w1 d) os) fun e w'' => e = .returned (.int .i64 k2) ∧ ∃ p : Regrown, w'' = grow (redrawn w1 p.d) p.os from fun d os => Calls.regrown_of (HC2.out _ (hm.below (below_trans hbw (below_regrown w1 d os)))))
  refine wp_region_quiet_below (by kernel_rfl) (by kernel_rfl) ?_
  repeat (quiet_step (first | with_reducible exact qK.out _ _ | with_reducible exact qN.out _ _ | with_reducible exact qC.out _ _))
  refine wpQuiet_nil ?_
  intro _ hw'
  obtain ⟨⟨dq, osq⟩, hw''⟩ := hw'
  subst hw''
  show Exit.then _ _ Exit.normal _ (grow (redrawn w1 dq) osq)
  have hbz := hid (below_trans hbw (below_regrown w1 dq osq))
  clear i0 i1 i2 i3 i4 j0 j1 j2 j3 qK qN qC hA1 hB1
  generalize grow (redrawn w1 dq) osq = W5 at hbz ⊢
  go_wp2_with fail
  go_ret
  exact gives rfl (bool_eq hR.out) hbz.out

end Go.Proofs.YtebhgcejcdgdbaaGreatDoor.Sp

/-
  LAYER 4, PACKAGE spec: Has.
-/
namespace Go.Proofs.YtebhgcejcdgdbaaGreatDoor.Sp
open Go.RowKit
open Go.Proofs.YtebhgcejcdgdbaaGreatDoor Go.Proofs.YtebhgcejcdgdbaaGreatDoor.Nu Go.Proofs.YtebhgcejcdgdbaaGreatDoor.Vs

theorem okPre_of {p : List UInt8} (h : p = [] ∨ preV p = true) : OkPre p := ⟨by have := pre_len h; omega, h⟩
theorem compHas_lt {op : Nat} {a b c : Nat} {p : List UInt8} {x y z : Nat} {q : List UInt8} (h : op < 6) : compHas ⟨op, a, b, c, p⟩ x y z q = okOp op (cmpV [x, y, z] [a, b, c] q p) := by
  unfold compHas
  rw [if_neg (by show ¬ op = 8; omega), if_neg (by show ¬ op = 6; omega), if_neg (by show ¬ op = 7; omega), Bool.and_true]
theorem compHas_6 {a b c : Nat} {p : List UInt8} {x y z : Nat} {q : List UInt8} : compHas ⟨6, a, b, c, p⟩ x y z q = (decide (0 ≤ cmpV [x, y, z] [a, b, c] q p) && decide (cmpV [x, y, z] (nextL a b c 1) q [] < 0)) := rfl
theorem compHas_7 {a b c : Nat} {p : List UInt8} {x y z : Nat} {q : List UInt8} : compHas ⟨7, a, b, c, p⟩ x y z q = (decide (0 ≤ cmpV [x, y, z] [a, b, c] q p) && decide (cmpV [x, y, z] (nextL a b c (keptP a b)) q [] < 0)) := rfl

theorem compHas_any (c : CompT) (hc : OkC c) (x y z : Nat) (q : List UInt8) (hq : q = [] ∨ preV q = true) (w : World) (hm : MaxAt w) :
    Calls Tryz.prog 77 #[.agg #[.int .i64 (c.op : Int), .int .i64 (c.a : Int), .int .i64 (c.b : Int), .int .i64 (c.c : Int), .string ⟨c.p.toArray⟩], .agg #[.int .i64 (x : Int), .int .i64 (y : Int), .int .i64 (z : Int), .string ⟨q.toArray⟩]] w (Gives (.bool (compHas c x y z q)) w) := by
  rcases hc with ⟨h8, ha, hb, hcc, hp⟩ | rfl
  · obtain ⟨op, a, b, c, p⟩ := c
    simp only at h8 ha hb hcc hp ⊢
    have HC := fun w hm => compare_any x y z a b c q p (okPre_of hq) (okPre_of hp) w hm
    have ways : op = 0 ∨ op = 1 ∨ op = 2 ∨ op = 3 ∨ op = 4 ∨ op = 5 ∨ op = 6 ∨ op = 7 := by omega
    rcases ways with rfl | rfl | rfl | rfl | rfl | rfl | rfl | rfl
    · rw [compHas_lt (by decide)]; exact has0_w a b c x y z _ ⟨p.toArray⟩ ⟨q.toArray⟩ w hm HC
    · rw [compHas_lt (by decide)]; exact has1_w a b c x y z _ ⟨p.toArray⟩ ⟨q.toArray⟩ w hm HC
    · rw [compHas_lt (by decide)]; exact has2_w a b c x y z _ ⟨p.toArray⟩ ⟨q.toArray⟩ w hm HC
    · rw [compHas_lt (by decide)]; exact has3_w a b c x y z _ ⟨p.toArray⟩ ⟨q.toArray⟩ w hm HC
    · rw [compHas_lt (by decide)]; exact has4_w a b c x y z _ ⟨p.toArray⟩ ⟨q.toArray⟩ w hm HC
    · rw [compHas_lt (by decide)]; exact has5_w a b c x y z _ ⟨p.toArray⟩ ⟨q.toArray⟩ w hm HC
    · rw [compHas_6]
      by_cases hk : 0 ≤ cmpV [x, y, z] [a, b, c] q p
      · rw [decide_eq_true hk, Bool.true_and]
        have HC2 := fun w hm => compare_any x y z a (b + 1) 0 q [] (okPre_of hq) ⟨by simp, .inl rfl⟩ w hm
        exact has6y_w a b c x y z _ a ((b + 1 : Nat) : Int) 0 _ ⟨p.toArray⟩ ⟨q.toArray⟩ hk w hm HC (fun w => next1_any a b c ⟨p.toArray⟩ ha hb hcc w) HC2
      · rw [decide_eq_false hk, Bool.false_and]
        exact has6n_w a b c x y z _ ⟨p.toArray⟩ ⟨q.toArray⟩ hk w hm HC
    · rw [compHas_7]
      by_cases hk : 0 ≤ cmpV [x, y, z] [a, b, c] q p
      · rw [decide_eq_true hk, Bool.true_and]
        obtain ⟨n0, n1, n2, hn, HN⟩ := nextK_any a b c ⟨p.toArray⟩ ha hb hcc
        rw [hn]
        have HC2 := fun w hm => compare_any x y z n0 n1 n2 q [] (okPre_of hq) ⟨by simp, .inl rfl⟩ w hm
        exact has7y_w a b c x y z _ n0 n1 n2 _ _ ⟨p.toArray⟩ ⟨q.toArray⟩ hk w hm HC (fun w => kept_any a b c ⟨p.toArray⟩ w) HN HC2
      · rw [decide_eq_false hk, Bool.false_and]
        exact has7n_w a b c x y z _ ⟨p.toArray⟩ ⟨q.toArray⟩ hk w hm HC
  · exact has8_w 0 0 0 x y z _ ⟨#[]⟩ ⟨q.toArray⟩ w hm (fun w hm => compare_any x y z 0 0 0 q [] (okPre_of hq) ⟨by simp, .inl rfl⟩ w hm)

theorem any_step {α : Type} {f : α → Bool} {l : List α} {k : Nat} {x : α} (h : l[k]? = some x) : (l.take (k + 1)).any f = ((l.take k).any f || f x) := by
  rw [List.take_add_one, h, List.any_append]; simp
theorem opens_val {c : CompT} {x y z : Nat} {pe t : Bool} (hp : ((⟨c.p.toArray⟩ : ByteArray).toList == []) = pe) (ht : ((c.a : Int) == (x : Int) && (c.b : Int) == (y : Int) && (c.c : Int) == (z : Int)) = t) : opens c x y z = (!pe && t) := by
  unfold opens
  rw [← hp, ← ht]
  have e1 : ((⟨c.p.toArray⟩ : ByteArray).toList == []) = decide (c.p = []) := by
    rw [ByteArray.toList_eq, Bool.eq_iff_iff]; simp
  have e2 : ((c.a : Int) == (x : Int) && (c.b : Int) == (y : Int) && (c.c : Int) == (z : Int)) = decide ([c.a, c.b, c.c] = [x, y, z]) := by
    rw [Bool.eq_iff_iff]
    simp only [Bool.and_eq_true, beq_iff_eq, decide_eq_true_eq, List.cons.injEq, and_true]
    omega
  rw [e1, e2]
  by_cases h : c.p = [] <;> simp [h]

set_option maxRecDepth 20000 in
set_option maxHeartbeats 4000000 in
theorem altHas_w (cs : List CompT) (v : Value) (h4 : cs.length ≤ 4) (x y z : Nat) (Q : ByteArray) (ob0 : Bool) (hQ : (Q.toList == []) = ob0) (F : CompT → Bool) (w : World) (hm : MaxAt w) (ha : AltAt w v cs)
    (HH : ∀ c, c ∈ cs → ∀ w, MaxAt w → Calls Tryz.prog 77 #[.agg #[.int .i64 (c.op : Int), .int .i64 (c.a : Int), .int .i64 (c.b : Int), .int .i64 (c.c : Int), .string ⟨c.p.toArray⟩], .agg #[.int .i64 (x : Int), .int .i64 (y : Int), .int .i64 (z : Int), .string Q]] w (Gives (.bool (F c)) w)) :
    Calls Tryz.prog 60 #[v, .agg #[.int .i64 (x : Int), .int .i64 (y : Int), .int .i64 (z : Int), .string Q]] w (Gives (.bool (cs.all F && (ob0 || cs.any fun c => opens c x y z))) w) := by
  obtain ⟨B, cp, rfl, hl, hcm, hB, hcells⟩ := ha
  replace HH := hid HH
  have hcs := hid hcells
  have hB' := hid hB
  clear hcells hB
  generalize hR : (cs.all F && (ob0 || cs.any fun c => opens c x y z)) = R
  replace hR := hid hR
  have TW := hid (fun (c : CompT) w => twin_any (c.a : Int) c.b c.c (x : Int) y z ⟨c.p.toArray⟩ Q w)
  have OV := hid (fun (c : CompT) (pe t : Bool) hp ht => @opens_val c x y z pe t hp ht)
  have hb0 := hid (below_alloc (Below.refl w.heap.size w) (.cells #[.int .i64 (x : Int), .int .i64 (y : Int), .int .i64 (z : Int), .string Q] 38))
  have hn0 := hid (Blk.new w [.int .i64 (x : Int), .int .i64 (y : Int), .int .i64 (z : Int), .string Q] 38)
  generalize (x : Int) = xi at HH TW OV hb0 hn0 ⊢
  generalize (y : Int) = yi at HH TW OV hb0 hn0 ⊢
  generalize (z : Int) = zi at HH TW OV hb0 hn0 ⊢
  go_enter Tryz.func60, Tryz.ntmps60
  go_wp2_with fail
  generalize w.alloc (.cells [.int .i64 xi, .int .i64 yi, .int .i64 zi, .string Q].toArray 38) = W at hb0 hn0 ⊢
  generalize w.heap.size = b at hn0 ⊢
  clear hQ
  go_loopw [5, 7, 13] (fun o _ i wr => ∃ (k : Nat) (ob : Bool), k ≤ cs.length ∧ i = .int .i64 k ∧ o = .bool ob ∧ Hid (Below w.heap.size w wr) ∧ Hid (Blk wr b [.int .i64 xi, .int .i64 yi, .int .i64 zi, .string Q] 38) ∧ Hid (ob = (ob0 || (cs.take k).any fun c => opens c x y z)) ∧ Hid ((cs.take k).all F = true)) (fun _ _ i _ => cs.length - (intOf i).toNat)
  case atStart => exact ⟨0, ob0, by omega, rfl, rfl, hb0, hn0, hid (by simp), hid rfl⟩
  case round =>
    obtain ⟨k, ob, hk, rfl, rfl, hb, hn, hob, hall⟩ := hrel
    clear hb0 hn0
    by_cases hlt : k < cs.length
    · have hx := hid (List.getElem?_eq_getElem hlt)
      generalize cs[k] = c at hx
      obtain ⟨c0, c1, c2, c3, c4⟩ := elem_cells (w := wr) (fun k x hk => by rw [hb.out.cell hB'.out]; exact hcs.out k x hk) hx.out
      have hbl := Nat.lt_of_lt_of_le hB'.out hb.out.size
      have HHc := hid (HH.out c (List.mem_of_getElem? hx.out))
      have TWc := hid (TW.out c)
      have OVc := hid (OV.out c)
      have k4 : k < 4 := Nat.lt_of_lt_of_le hlt h4
      have ANY := hid (@any_step _ (fun c => opens c x y z) cs k c hx.out)
      have ALL := hid (fun h => take_all hall.out hx.out h)
      have OFF := hid (fun h => all_off (p := F) hx.out h)
      clear HH TW OV hx hall
      generalize (c.op : Int) = o at *
      generalize (c.a : Int) = ai at *
      generalize (c.b : Int) = bi at *
      generalize (c.c : Int) = ci at *
      generalize (⟨c.p.toArray⟩ : ByteArray) = PP at *
      generalize opens c x y z = oc at OVc ANY
      generalize hPE : (PP.toList == []) = pe at OVc
      generalize hTW : (ai == xi && bi == yi && ci == zi) = tw at TWc OVc
      replace OVc := hid (OVc.out pe tw rfl rfl)
      replace hPE := hid hPE
      replace hTW := hid hTW
      have hb1 := hid (below_alloc hb.out (.cells #[.int .i64 o, .int .i64 ai, .int .i64 bi, .int .i64 ci, .string PP] 40))
      have hn1 := hid (hn.out.alloc (.cells #[.int .i64 o, .int .i64 ai, .int .i64 bi, .int .i64 ci, .string PP] 40))
      have hc1 := hid (Blk.new wr [.int .i64 o, .int .i64 ai, .int .i64 bi, .int .i64 ci, .string PP] 40)
      have n0 := hn.out.cell 0 rfl
      have n1 := hn.out.cell 1 rfl
      have n2 := hn.out.cell 2 rfl
      have n3 := hn.out.cell 3 rfl
      have nl := hn.out.lt
      cases hF : F c
      · rw [hF] at HHc
        have hr := hid (show R = false by rw [← hR.out, OFF.out hF]; rfl)
        clear ALL OFF hF ANY TWc OVc
        go_wp2_with (go_at_call 77; (with_reducible refine (HHc.out _ (hm.below hb1.out)).mono ?_); rintro e w1 ⟨rfl, hb2⟩)
        go_ret
        exact gives rfl (bool_eq hr.out.symm) (below_trans hb1.out hb2)
      · rw [hF] at HHc
        have hall := hid (ALL.out hF)
        clear ALL OFF hF n0 n1 n2 n3 nl
        have n0 := hn.out.cell 0 rfl
        have n1 := hn.out.cell 1 rfl
        have n2 := hn.out.cell 2 rfl
        have n3 := hn.out.cell 3 rfl
        have nl := hn.out.lt
        go_wp2_with fail
        generalize wr.alloc (.cells [.int .i64 o, .int .i64 ai, .int .i64 bi, .int .i64 ci, .string PP].toArray 40) = W1 at hb1 hn1 hc1 ⊢
        generalize wr.heap.size = bc at hc1 ⊢
        refine (HHc.out _ (hm.below hb1.out)).mono ?_
        rintro e w1 ⟨rfl, hb2⟩
        have hb3 := hid (below_trans hb1.out hb2)
        have hn2 := hid (hn1.out.below hb2)
        have hc2 := hid (hc1.out.below hb2)
        clear hb1 hn1 hc1 hb2 c0 c1 c2 c3 c4 n0 n1 n2 n3 nl hbl hn hb
        have d0 := hc2.out.cell 1 rfl
        have d1 := hc2.out.cell 2 rfl
        have d2 := hc2.out.cell 3 rfl
        have d3 := hc2.out.cell 4 rfl
        have e0 := hn2.out.cell 0 rfl
        have e1 := hn2.out.cell 1 rfl
        have e2 := hn2.out.cell 2 rfl
        have e3 := hn2.out.cell 3 rfl
        cases ob
        · cases pe
          · have hpe := hPE.out
            have hnew := hid (show tw = (ob0 || (cs.take (k + 1)).any fun c => opens c x y z) by
              rw [ANY.out, ← Bool.or_assoc, ← hob.out, OVc.out]; rfl)
            go_wp2_with (go_at_call 78; (with_reducible refine (TWc.out _).mono ?_); rintro e w2 ⟨rfl, hb4⟩)
            go_roundw
            case rel => exact ⟨k + 1, tw, by omega, by go_num, rfl, hid (below_trans hb3.out hb4), hid (hn2.out.below hb4), hnew, hall⟩
            case measure => simp [intOf]; omega
          · have hpe := hPE.out
            have hnew := hid (show false = (ob0 || (cs.take (k + 1)).any fun c => opens c x y z) by
              rw [ANY.out, ← Bool.or_assoc, ← hob.out, OVc.out]; rfl)
            go_wp2_with fail
            go_roundw
            case rel => exact ⟨k + 1, false, by omega, by go_num, rfl, hb3, hn2, hnew, hall⟩
            case measure => simp [intOf]; omega
        · have hnew := hid (show true = (ob0 || (cs.take (k + 1)).any fun c => opens c x y z) by
            rw [ANY.out, ← Bool.or_assoc, ← hob.out]; rfl)
          go_wp2_with fail
          go_roundw
          case rel => exact ⟨k + 1, true, by omega, by go_num, rfl, hb3, hn2, hnew, hall⟩
          case measure => simp [intOf]; omega
    · have hke : k = cs.length := by omega
      have hr := hid (show R = ob by
        have h1 := hall.out
        have h2 := hob.out
        rw [hke, List.take_length] at h1 h2
        rw [← hR.out, h1, h2]; rfl)
      clear hke HH TW OV
      go_wp2_with fail
      go_ret
      exact gives rfl (bool_eq hr.out.symm) hb.out

theorem list_nil (q : List UInt8) : ((⟨q.toArray⟩ : ByteArray).toList == []) = decide (q = []) := by
  rw [ByteArray.toList_eq, Bool.eq_iff_iff]; simp
theorem altHas_any (cs : List CompT) (v : Value) (h4 : cs.length ≤ 4) (hok : ∀ c, c ∈ cs → OkC c) (x y z : Nat) (q : List UInt8) (hq : q = [] ∨ preV q = true) (w : World) (hm : MaxAt w) (ha : AltAt w v cs) :
    Calls Tryz.prog 60 #[v, .agg #[.int .i64 (x : Int), .int .i64 (y : Int), .int .i64 (z : Int), .string ⟨q.toArray⟩]] w (Gives (.bool (altHas cs x y z q)) w) :=
  altHas_w cs v h4 x y z ⟨q.toArray⟩ (decide (q = [])) (list_nil q) (fun c => compHas c x y z q) w hm ha (fun c hc w hm => compHas_any c (hok c hc) x y z q hq w hm)
end Go.Proofs.YtebhgcejcdgdbaaGreatDoor.Sp

/-
  LAYER 4, PACKAGE spec: Has, of a range that may be one.
-/
namespace Go.Proofs.YtebhgcejcdgdbaaGreatDoor.Sp
open Go.RowKit
open Go.Proofs.YtebhgcejcdgdbaaGreatDoor Go.Proofs.YtebhgcejcdgdbaaGreatDoor.Nu Go.Proofs.YtebhgcejcdgdbaaGreatDoor.Vs

def verN (x y z : Nat) (q : List UInt8) : Value := .agg #[.int .i64 (x : Int), .int .i64 (y : Int), .int .i64 (z : Int), .string ⟨q.toArray⟩]
/-- a version that may be one -/
def OkV (x y z : Nat) (q : List UInt8) : Prop := x < 1000000 ∧ y < 1000000 ∧ z < 1000000 ∧ (q = [] ∨ preV q = true)

theorem any_off {α : Type} {f : α → Bool} {l : List α} {k : Nat} (h : (l.take k).any f = false) (hk : l.length ≤ k) : l.any f = false := by
  rwa [List.take_of_length_le hk] at h
theorem any_on {α : Type} {f : α → Bool} {l : List α} {k : Nat} {x : α} (h : l[k]? = some x) (hx : f x = true) : l.any f = true :=
  List.any_eq_true.2 ⟨x, List.mem_of_getElem? h, hx⟩

set_option maxRecDepth 20000 in
set_option maxHeartbeats 2000000 in
theorem has_any (rs : List (List CompT)) (v : Value) (h4 : rs.length ≤ 4) (hok : ∀ cs, cs ∈ rs → 1 ≤ cs.length ∧ cs.length ≤ 4 ∧ ∀ c, c ∈ cs → OkC c) (x y z : Nat) (q : List UInt8) (hv : OkV x y z q) (w : World) (hm : MaxAt w) (hr : RngAt w v rs) :
    Calls Tryz.prog 38 #[.agg #[v], .agg #[.int .i64 (x : Int), .int .i64 (y : Int), .int .i64 (z : Int), .string ⟨q.toArray⟩]] w (Gives (.bool (rngHas rs x y z q)) w) := by
  obtain ⟨G, cp, vs, rfl, hl, hcm, hG, hcells, hat⟩ := hr
  have HV := hid (fun w hm => verCheck x y z q hv.1 hv.2.1 hv.2.2.1 hv.2.2.2 w hm)
  have HA := hid (fun cs v h w hm ha => altHas_any cs v (hok cs h).2.1 (hok cs h).2.2 x y z q hv.2.2.2 w hm ha)
  clear hok hv
  replace hcells := hid hcells
  replace hat := hid hat
  replace hG := hid hG
  have hR := hid (show rngHas rs x y z q = rs.any (fun cs => altHas cs x y z q) from rfl)
  generalize rngHas rs x y z q = R at hR ⊢
  generalize hF : (fun cs => altHas cs x y z q) = F at hR
  replace HA := hid (show ∀ cs v, cs ∈ rs → ∀ w, MaxAt w → AltAt w v cs → Calls Tryz.prog 60 #[v, .agg #[.int .i64 (x : Int), .int .i64 (y : Int), .int .i64 (z : Int), .string ⟨q.toArray⟩]] w (Gives (.bool (F cs)) w) from by rw [← hF]; exact HA.out)
  clear hF
  generalize (x : Int) = xi at *
  generalize (y : Int) = yi at *
  generalize (z : Int) = zi at *
  generalize (⟨q.toArray⟩ : ByteArray) = Q at *
  obtain ⟨hA, hB⟩ := two_blk w [.slice (some ⟨G, 0, none⟩) rs.length cp] [.int .i64 xi, .int .i64 yi, .int .i64 zi, .string Q] 25 38
  have hb0 := hid (below_alloc (below_alloc (Below.refl w.heap.size w) (.cells #[.slice (some ⟨G, 0, none⟩) rs.length cp] 25)) (.cells #[.int .i64 xi, .int .i64 yi, .int .i64 zi, .string Q] 38))
  replace hA := hid hA
  replace hB := hid hB
  go_enter Tryz.func38, Tryz.ntmps38
  go_wp2_with fail
  generalize (w.alloc (.cells #[.slice (some ⟨G, 0, none⟩) rs.length cp] 25)).alloc (.cells #[.int .i64 xi, .int .i64 yi, .int .i64 zi, .string Q] 38) = W at hb0 hA hB ⊢
  generalize w.heap.size + 1 = b2 at hB ⊢
  refine (HV.out _ (hm.below hb0.out)).mono ?_
  rintro e w1 ⟨rfl, hb1⟩
  replace hA := hid (hA.out.below hb1)
  replace hB := hid (hB.out.below hb1)
  replace hb0 := hid (below_trans hb0.out hb1)
  have c0 := hA.out.cell 0 rfl
  clear hb1
  go_wp2_with fail
  clear c0 hA
  go_loopw [6, 13] (fun _ i wr => ∃ k : Nat, k ≤ rs.length ∧ i = .int .i64 k ∧ Hid (Below w.heap.size w wr) ∧ Hid (Blk wr b2 [.int .i64 xi, .int .i64 yi, .int .i64 zi, .string Q] 38) ∧ Hid ((rs.take k).any F = false)) (fun _ i _ => rs.length - (intOf i).toNat)
  case atStart => exact ⟨0, by omega, rfl, hb0, hB, hid rfl⟩
  case round =>
    obtain ⟨k, hk, rfl, hb, hn, hany⟩ := hrel
    clear hb0 hB
    by_cases hlt : k < rs.length
    · have hx := hid (List.getElem?_eq_getElem hlt)
      generalize rs[k] = cs at hx
      obtain ⟨_, v, hv, hva⟩ := hat.out.2 k cs hx.out
      have hce := hcells.out k _ hv
      rw [← hb.out.cell hG.out] at hce
      have hbl := Nat.lt_of_lt_of_le hG.out hb.out.size
      have HAc := hid (HA.out cs v (List.mem_of_getElem? hx.out))
      have hvb := hid (hva.below hb.out)
      have k4 : k < 4 := Nat.lt_of_lt_of_le hlt h4
      obtain ⟨Bk, cpk, rfl, _⟩ := hva
      have ANY := hid (@any_step _ F rs k cs hx.out)
      have ON := hid (fun h => @any_on _ F rs k cs hx.out h)
      clear hx hv
      generalize cs.length = cl at *
      have d0 := hn.out.cell 0 rfl
      have d1 := hn.out.cell 1 rfl
      have d2 := hn.out.cell 2 rfl
      have d3 := hn.out.cell 3 rfl
      cases hF : F cs
      · rw [hF] at HAc
        have hnew := hid (show (rs.take (k + 1)).any F = false by rw [ANY.out, hany.out, hF]; rfl)
        clear hF ANY ON HA
        go_wp2_with (go_at_call 60; (with_reducible refine (HAc.out _ (hm.below hb.out) hvb.out).mono ?_); rintro e w1 ⟨rfl, hb1⟩)
        go_roundw
        case rel => exact ⟨k + 1, by omega, by go_num, hid (below_trans hb.out hb1), hid (hn.out.below hb1), hnew⟩
        case measure => simp [intOf]; omega
      · rw [hF] at HAc
        have hr := hid (show R = true by rw [hR.out]; exact ON.out hF)
        clear hF ANY ON HA
        go_wp2_with (go_at_call 60; (with_reducible refine (HAc.out _ (hm.below hb.out) hvb.out).mono ?_); rintro e w1 ⟨rfl, hb1⟩)
        go_ret
        exact gives rfl (bool_eq hr.out.symm) (below_trans hb.out hb1)
    · have hr := hid (show R = false by rw [hR.out]; exact any_off hany.out (by omega))
      clear HA
      go_wp2_with fail
      go_ret
      exact gives rfl (bool_eq hr.out.symm) hb.out

set_option maxRecDepth 20000 in
set_option maxHeartbeats 1000000 in
theorem hasR_any (rs : List (List CompT)) (v : Value) (hok : OkR rs) (x y z : Nat) (q : List UInt8) (hv : OkV x y z q) (w : World) (hm : MaxAt w) (ht : TenAt w) (hg : SignsAt w) (hr : RngAt w v rs) :
    Calls Tryz.prog 19 #[.agg #[v], .agg #[.int .i64 (x : Int), .int .i64 (y : Int), .int .i64 (z : Int), .string ⟨q.toArray⟩]] w (Gives (.bool (rngHas rs x y z q)) w) := by
  have HC := hid (fun w hm ht hg hr => checkR_any rs v hok w hm ht hg hr)
  have HH := hid (fun w hm hr => has_any rs v hok.2.1 hok.2.2.1 x y z q hv w hm hr)
  have hr0 := hid hr
  obtain ⟨G, cp, vs, rfl, _⟩ := hr
  clear hok hv
  generalize rngHas rs x y z q = R at HH ⊢
  generalize (x : Int) = xi at *
  generalize (y : Int) = yi at *
  generalize (z : Int) = zi at *
  generalize (⟨q.toArray⟩ : ByteArray) = Q at *
  generalize hrl : rs.length = rl at *
  obtain ⟨hA, hB⟩ := two_blk w [.slice (some ⟨G, 0, none⟩) rl cp] [.int .i64 xi, .int .i64 yi, .int .i64 zi, .string Q] 25 38
  have hb0 := hid (below_alloc (below_alloc (Below.refl w.heap.size w) (.cells #[.slice (some ⟨G, 0, none⟩) rl cp] 25)) (.cells #[.int .i64 xi, .int .i64 yi, .int .i64 zi, .string Q] 38))
  replace hA := hid hA
  replace hB := hid hB
  go_enter Tryz.func19, Tryz.ntmps19
  go_wp2_with fail
  generalize (w.alloc (.cells #[.slice (some ⟨G, 0, none⟩) rl cp] 25)).alloc (.cells #[.int .i64 xi, .int .i64 yi, .int .i64 zi, .string Q] 38) = W at hb0 hA hB ⊢
  generalize w.heap.size + 1 = b2 at hB ⊢
  have hbw := hb0.out
  generalize w.heap.size = b1 at hA ⊢
  refine (HC.out _ (hm.below hbw) (ht.below hbw) (hg.below hbw) (hr0.out.below hbw)).mono ?_
  rintro e w1 ⟨rfl, hb1⟩
  have c0 := (hA.out.below hb1).cell 0 rfl
  have d0 := (hB.out.below hb1).cell 0 rfl
  have d1 := (hB.out.below hb1).cell 1 rfl
  have d2 := (hB.out.below hb1).cell 2 rfl
  have d3 := (hB.out.below hb1).cell 3 rfl
  have hb2 := hid (below_trans hbw hb1)
  clear hA hB hb1 hbw hb0
  go_wp2_with fail
  refine (HH.out _ (hm.below hb2.out) (hr0.out.below hb2.out)).mono ?_
  rintro e w2 ⟨rfl, hb3⟩
  go_wp2_with fail
  go_ret
  exact gives rfl rfl (below_trans hb2.out hb3)
end Go.Proofs.YtebhgcejcdgdbaaGreatDoor.Sp

/-
  LAYER 4: what the laws begin with (taken).
-/
namespace Go.Proofs.YtebhgcejcdgdbaaGreatDoor.Sp
open Go.RowKit
open Go.Proofs.YtebhgcejcdgdbaaGreatDoor Go.Proofs.YtebhgcejcdgdbaaGreatDoor.Nu Go.Proofs.YtebhgcejcdgdbaaGreatDoor.Vs

def SomeRng (n : Nat) (rs : List (List CompT)) (w : World) (e : Ending) (w' : World) : Prop :=
  ∃ G cp, e = .returned (.tuple #[.agg #[.slice (some ⟨G, 0, none⟩) n cp], .bool true]) ∧ Below w.heap.size w w' ∧ RngAt w' (.slice (some ⟨G, 0, none⟩) n cp) rs
theorem parse_some (s : ByteArray) (hs : s.size < 4294967281) {rs : List (List CompT)} (h : rngOf s.data.toList = some rs) (w : World) (hm : MaxAt w) (hg : SignsAt w) :
    Calls Tryz.prog 12 #[.string s] w (SomeRng rs.length rs w) := by
  refine (parse_rng s hs w hm hg).mono ?_
  rintro e w' ⟨hb, hc⟩
  rcases hc with ⟨h0, _⟩ | ⟨rs', v, h1, rfl, h2⟩
  · rw [h] at h0; cases h0
  · rw [h] at h1
    cases h1
    have h2' := h2
    obtain ⟨G, cp, _, rfl, _⟩ := h2
    exact ⟨G, cp, rfl, hb, h2'⟩
theorem parse_none (s : ByteArray) (hs : s.size < 4294967281) (h : rngOf s.data.toList = none) (w : World) (hm : MaxAt w) (hg : SignsAt w) :
    Calls Tryz.prog 12 #[.string s] w (Gives (.tuple #[.agg #[.slice none 0 0], .bool false]) w) := by
  refine (parse_rng s hs w hm hg).mono ?_
  rintro e w' ⟨hb, hc⟩
  rcases hc with ⟨_, rfl⟩ | ⟨rs', v, h1, _⟩
  · exact gives rfl rfl hb
  · rw [h] at h1; cases h1

def tT : ByteArray := ⟨#[94, 48, 46, 50, 46, 49, 124, 62, 61, 49, 46, 48, 46, 48, 45, 98, 44, 60, 50, 46, 48, 46, 48]⟩
def tR : List (List CompT) := [[⟨7, 0, 2, 1, []⟩], [⟨5, 1, 0, 0, [98]⟩, ⟨2, 2, 0, 0, []⟩]]
theorem tP : rngOf tT.data.toList = some tR := by kernel_rfl
theorem tH1 : rngHas tR 0 2 9 [] = true := by kernel_rfl
theorem tH2 : rngHas tR 0 3 0 [] = false := by kernel_rfl
theorem tH3 : rngHas tR 1 0 0 [99] = true := by kernel_rfl
theorem v1P : parseT (ByteArray.mk #[48, 46, 50, 46, 57]).data.toList = .tuple #[.agg #[.int .i64 0, .int .i64 2, .int .i64 9, .string ⟨#[]⟩], .bool true] := by kernel_rfl
theorem v2P : parseT (ByteArray.mk #[48, 46, 51, 46, 48]).data.toList = .tuple #[.agg #[.int .i64 0, .int .i64 3, .int .i64 0, .string ⟨#[]⟩], .bool true] := by kernel_rfl
theorem v3P : parseT (ByteArray.mk #[49, 46, 48, 46, 48, 45, 99]).data.toList = .tuple #[.agg #[.int .i64 1, .int .i64 0, .int .i64 0, .string ⟨#[99]⟩], .bool true] := by kernel_rfl

set_option maxRecDepth 20000 in
set_option maxHeartbeats 2000000 in
theorem taken_any (w : World) (hm : MaxAt w) (ht : TenAt w) (hg : SignsAt w) : Calls Tryz.prog 11 #[] w (Gives (.bool true) w) := by
  obtain ⟨tx, tok⟩ := rngOf_ok tP
  have H0 := hid (show ∀ w, MaxAt w → SignsAt w → Calls Tryz.prog 12 #[.string ⟨#[94, 48, 46, 50, 46, 49, 124, 62, 61, 49, 46, 48, 46, 48, 45, 98, 44, 60, 50, 46, 48, 46, 48]⟩] w (SomeRng 2 tR w) from fun w hm hg => parse_some tT (by decide) tP w hm hg)
  have H1 := hid (show ∀ w, MaxAt w → Calls Tryz.prog 24 #[.string ⟨#[48, 46, 50, 46, 57]⟩] w (Gives (.tuple #[.agg #[.int .i64 0, .int .i64 2, .int .i64 9, .string ⟨#[]⟩], .bool true]) w) from fun w h => by have := parse_any ⟨#[48, 46, 50, 46, 57]⟩ (by decide) w h; rw [v1P] at this; exact this)
  have H2 := hid (show ∀ w, MaxAt w → Calls Tryz.prog 24 #[.string ⟨#[48, 46, 51, 46, 48]⟩] w (Gives (.tuple #[.agg #[.int .i64 0, .int .i64 3, .int .i64 0, .string ⟨#[]⟩], .bool true]) w) from fun w h => by have := parse_any ⟨#[48, 46, 51, 46, 48]⟩ (by decide) w h; rw [v2P] at this; exact this)
  have H3 := hid (show ∀ w, MaxAt w → Calls Tryz.prog 24 #[.string ⟨#[49, 46, 48, 46, 48, 45, 99]⟩] w (Gives (.tuple #[.agg #[.int .i64 1, .int .i64 0, .int .i64 0, .string ⟨#[99]⟩], .bool true]) w) from fun w h => by have := parse_any ⟨#[49, 46, 48, 46, 48, 45, 99]⟩ (by decide) w h; rw [v3P] at this; exact this)
  have R1 := hid (show ∀ v w, MaxAt w → TenAt w → SignsAt w → RngAt w v tR → Calls Tryz.prog 19 #[.agg #[v], .agg #[.int .i64 0, .int .i64 2, .int .i64 9, .string ⟨#[]⟩]] w (Gives (.bool true) w) from fun v w h1 h2 h3 h4 => by
    have := hasR_any tR v tok 0 2 9 [] ⟨by decide, by decide, by decide, .inl rfl⟩ w h1 h2 h3 h4
    rw [tH1] at this; exact this)
  have R2 := hid (show ∀ v w, MaxAt w → TenAt w → SignsAt w → RngAt w v tR → Calls Tryz.prog 19 #[.agg #[v], .agg #[.int .i64 0, .int .i64 3, .int .i64 0, .string ⟨#[]⟩]] w (Gives (.bool false) w) from fun v w h1 h2 h3 h4 => by
    have := hasR_any tR v tok 0 3 0 [] ⟨by decide, by decide, by decide, .inl rfl⟩ w h1 h2 h3 h4
    rw [tH2] at this; exact this)
  have R3 := hid (show ∀ v w, MaxAt w → TenAt w → SignsAt w → RngAt w v tR → Calls Tryz.prog 19 #[.agg #[v], .agg #[.int .i64 1, .int .i64 0, .int .i64 0, .string ⟨#[99]⟩]] w (Gives (.bool true) w) from fun v w h1 h2 h3 h4 => by
    have := hasR_any tR v tok 1 0 0 [99] ⟨by decide, by decide, by decide, .inr (by kernel_rfl)⟩ w h1 h2 h3 h4
    rw [tH3] at this; exact this)
  have RX := hid (show ∀ v w, MaxAt w → TenAt w → SignsAt w → RngAt w v tR → Calls Tryz.prog 15 #[.agg #[v]] w (Gives (.string ⟨#[94, 48, 46, 50, 46, 49, 124, 62, 61, 49, 46, 48, 46, 48, 45, 98, 44, 60, 50, 46, 48, 46, 48]⟩) w) from fun v w h1 h2 h3 h4 => by
    have := textR_any tR v tok w h1 h2 h3 h4
    rw [tx] at this; exact this)
  clear tx tok
  go_enter Tryz.func11, Tryz.ntmps11
  go_wp2_with fail
  refine (H0.out _ hm hg).mono ?_
  rintro e w1 ⟨G, cp, rfl, hb1, hr1⟩
  have hr2 := hid (hr1.below (below_alloc (Below.refl _ _) (.cells #[.slice (some ⟨G, 0, none⟩) 2 cp] 25)))
  have hn2 := hid (Blk.new w1 [.slice (some ⟨G, 0, none⟩) 2 cp] 25)
  have hb2 := hid (below_alloc hb1 (.cells #[.slice (some ⟨G, 0, none⟩) 2 cp] 25))
  clear hb1 hr1
  go_wp2_with fail
  generalize w1.alloc (.cells [.slice (some ⟨G, 0, none⟩) 2 cp].toArray 25) = W1 at hr2 hn2 hb2 ⊢
  generalize w1.heap.size = b1 at hn2 ⊢
  refine (H1.out _ (hm.below hb2.out)).mono ?_
  rintro e w2 ⟨rfl, hb3⟩
  have hr3 := hid ((hr2.out.below hb3).below (below_alloc (Below.refl _ _) (.cells #[.int .i64 0, .int .i64 2, .int .i64 9, .string ⟨#[]⟩] 38)))
  have hn3 := hid ((hn2.out.below hb3).alloc (.cells #[.int .i64 0, .int .i64 2, .int .i64 9, .string ⟨#[]⟩] 38))
  have ha3 := hid (Blk.new w2 [.int .i64 0, .int .i64 2, .int .i64 9, .string ⟨#[]⟩] 38)
  have hbb3 := hid (below_alloc (below_trans hb2.out hb3) (.cells #[.int .i64 0, .int .i64 2, .int .i64 9, .string ⟨#[]⟩] 38))
  clear hr2 hn2 hb2 hb3
  go_wp2_with fail
  generalize w2.alloc (.cells [.int .i64 0, .int .i64 2, .int .i64 9, .string ⟨#[]⟩].toArray 38) = W2 at hr3 hn3 ha3 hbb3 ⊢
  generalize w2.heap.size = b2 at ha3 ⊢
  refine (H2.out _ (hm.below hbb3.out)).mono ?_
  rintro e w3 ⟨rfl, hb4⟩
  have hr4 := hid ((hr3.out.below hb4).below (below_alloc (Below.refl _ _) (.cells #[.int .i64 0, .int .i64 3, .int .i64 0, .string ⟨#[]⟩] 38)))
  have hn4 := hid ((hn3.out.below hb4).alloc (.cells #[.int .i64 0, .int .i64 3, .int .i64 0, .string ⟨#[]⟩] 38))
  have ha4 := hid ((ha3.out.below hb4).alloc (.cells #[.int .i64 0, .int .i64 3, .int .i64 0, .string ⟨#[]⟩] 38))
  have hc4 := hid (Blk.new w3 [.int .i64 0, .int .i64 3, .int .i64 0, .string ⟨#[]⟩] 38)
  have hbb4 := hid (below_alloc (below_trans hbb3.out hb4) (.cells #[.int .i64 0, .int .i64 3, .int .i64 0, .string ⟨#[]⟩] 38))
  clear hr3 hn3 ha3 hbb3 hb4
  go_wp2_with fail
  generalize w3.alloc (.cells [.int .i64 0, .int .i64 3, .int .i64 0, .string ⟨#[]⟩].toArray 38) = W3 at hr4 hn4 ha4 hc4 hbb4 ⊢
  generalize w3.heap.size = b3 at hc4 ⊢
  refine (H3.out _ (hm.below hbb4.out)).mono ?_
  rintro e w4 ⟨rfl, hb5⟩
  have hr5 := hid ((hr4.out.below hb5).below (below_alloc (Below.refl _ _) (.cells #[.int .i64 1, .int .i64 0, .int .i64 0, .string ⟨#[99]⟩] 38)))
  have hn5 := hid ((hn4.out.below hb5).alloc (.cells #[.int .i64 1, .int .i64 0, .int .i64 0, .string ⟨#[99]⟩] 38))
  have ha5 := hid ((ha4.out.below hb5).alloc (.cells #[.int .i64 1, .int .i64 0, .int .i64 0, .string ⟨#[99]⟩] 38))
  have hc5 := hid ((hc4.out.below hb5).alloc (.cells #[.int .i64 1, .int .i64 0, .int .i64 0, .string ⟨#[99]⟩] 38))
  have hd5 := hid (Blk.new w4 [.int .i64 1, .int .i64 0, .int .i64 0, .string ⟨#[99]⟩] 38)
  have hbb5 := hid (below_alloc (below_trans hbb4.out hb5) (.cells #[.int .i64 1, .int .i64 0, .int .i64 0, .string ⟨#[99]⟩] 38))
  have k0 := (hn4.out.below hb5).cell 0 rfl
  have k1 := (hn4.out.below hb5).lt
  have m0 := (ha4.out.below hb5).cell 0 rfl
  have m1 := (ha4.out.below hb5).cell 1 rfl
  have m2 := (ha4.out.below hb5).cell 2 rfl
  have m3 := (ha4.out.below hb5).cell 3 rfl
  have m4 := (ha4.out.below hb5).lt
  clear hr4 hn4 ha4 hc4 hbb4 hb5
  go_wp2_with fail
  clear k0 k1 m0 m1 m2 m3 m4
  generalize w4.alloc (.cells [.int .i64 1, .int .i64 0, .int .i64 0, .string ⟨#[99]⟩].toArray 38) = W4 at hr5 hn5 ha5 hc5 hd5 hbb5 ⊢
  generalize w4.heap.size = b4 at hd5 ⊢
  refine (R1.out _ _ (hm.below hbb5.out) (ht.below hbb5.out) (hg.below hbb5.out) hr5.out).mono ?_
  rintro e w5 ⟨rfl, hb6⟩
  have hr6 := hid (hr5.out.below hb6)
  have hn6 := hid (hn5.out.below hb6)
  have hc6 := hid (hc5.out.below hb6)
  have hd6 := hid (hd5.out.below hb6)
  have hbb6 := hid (below_trans hbb5.out hb6)
  have k0 := hn6.out.cell 0 rfl
  have m0 := hc6.out.cell 0 rfl
  have m1 := hc6.out.cell 1 rfl
  have m2 := hc6.out.cell 2 rfl
  have m3 := hc6.out.cell 3 rfl
  clear hr5 hn5 ha5 hc5 hd5 hbb5 hb6
  go_wp2_with fail
  clear k0 m0 m1 m2 m3
  refine (R2.out _ _ (hm.below hbb6.out) (ht.below hbb6.out) (hg.below hbb6.out) hr6.out).mono ?_
  rintro e w6 ⟨rfl, hb7⟩
  have hr7 := hid (hr6.out.below hb7)
  have hn7 := hid (hn6.out.below hb7)
  have hd7 := hid (hd6.out.below hb7)
  have hbb7 := hid (below_trans hbb6.out hb7)
  have k0 := hn7.out.cell 0 rfl
  have m0 := hd7.out.cell 0 rfl
  have m1 := hd7.out.cell 1 rfl
  have m2 := hd7.out.cell 2 rfl
  have m3 := hd7.out.cell 3 rfl
  clear hr6 hn6 hc6 hd6 hbb6 hb7
  go_wp2_with fail
  clear k0 m0 m1 m2 m3
  refine (R3.out _ _ (hm.below hbb7.out) (ht.below hbb7.out) (hg.below hbb7.out) hr7.out).mono ?_
  rintro e w7 ⟨rfl, hb8⟩
  have hr8 := hid (hr7.out.below hb8)
  have hn8 := hid (hn7.out.below hb8)
  have hbb8 := hid (below_trans hbb7.out hb8)
  have k0 := hn8.out.cell 0 rfl
  clear hr7 hn7 hd7 hbb7 hb8
  go_wp2_with fail
  clear k0
  refine (RX.out _ _ (hm.below hbb8.out) (ht.below hbb8.out) (hg.below hbb8.out) hr8.out).mono ?_
  rintro e w8 ⟨rfl, hb9⟩
  go_wp2_with fail
  go_ret
  exact gives rfl rfl (below_trans hbb8.out hb9)
end Go.Proofs.YtebhgcejcdgdbaaGreatDoor.Sp

/-
  LAYER 4: general contracts for the laws.
-/
namespace Go.Proofs.YtebhgcejcdgdbaaGreatDoor.Sp
open Go.RowKit Go.Sort
open Go.Proofs.YtebhgcejcdgdbaaGreatDoor Go.Proofs.YtebhgcejcdgdbaaGreatDoor.Nu Go.Proofs.YtebhgcejcdgdbaaGreatDoor.Vs

/-- what a range's text is parsed as: a range, or none -/
def RngO (o : Option (List (List CompT))) (f : Bool) (w : World) (e : Ending) (w' : World) : Prop :=
  ∃ oa n cp, e = .returned (.tuple #[.agg #[.slice oa n cp], .bool f]) ∧ Below w.heap.size w w' ∧ (o = none → oa = none ∧ n = 0 ∧ cp = 0) ∧ ∀ rs, o = some rs → n = rs.length ∧ RngAt w' (.slice oa n cp) rs
theorem parse_o (s : ByteArray) (hs : s.size < 4294967281) (w : World) (hm : MaxAt w) (hg : SignsAt w) :
    Calls Tryz.prog 12 #[.string s] w (RngO (rngOf s.data.toList) (rngOf s.data.toList).isSome w) := by
  cases h : rngOf s.data.toList with
  | none =>
    refine (parse_none s hs h w hm hg).mono ?_
    rintro e w' ⟨rfl, hb⟩
    exact ⟨none, 0, 0, rfl, hb, fun _ => ⟨rfl, rfl, rfl⟩, fun rs h => by cases h⟩
  | some rs =>
    refine (parse_some s hs h w hm hg).mono ?_
    rintro e w' ⟨G, cp, rfl, hb, hr⟩
    exact ⟨_, _, _, rfl, hb, (fun h => nomatch h), fun rs' h' => by injection h' with e; subst e; exact ⟨rfl, hr⟩⟩

theorem allOf_none_l {α β : Type} {f : α → Option β} {l m : List α} (h : allOf f l = none) : allOf f (l ++ m) = none := by rw [allOf_app, h]
theorem allOf_none_r {α β : Type} {f : α → Option β} {l m : List α} (h : allOf f m = none) : allOf f (l ++ m) = none := by
  rw [allOf_app, h]
  cases allOf f l <;> rfl
/-- what is joined by a stroke is a range only if both are -/
theorem rngOf_none {s t : List UInt8} (h : rngOf s = none ∨ rngOf t = none) : rngOf (s ++ 124 :: t) = none := by
  unfold rngOf at *
  rw [cutl_app t _ s (Nat.le_refl _)]
  by_cases hc : (s ++ 124 :: t).length ≤ 80 ∧ (cutl 124 s ++ cutl 124 t).length ≤ 4
  · rw [if_pos hc]
    simp only [List.length_append, List.length_cons] at hc
    rw [if_pos ⟨by omega, by omega⟩, if_pos ⟨by omega, by omega⟩] at h
    rcases h with h | h
    · exact allOf_none_l h
    · exact allOf_none_r h
  · rw [if_neg hc]
theorem rngOf_len {s : List UInt8} {rs : List (List CompT)} (h : rngOf s = some rs) : (cutl 124 s).length = rs.length := by
  unfold rngOf at h
  split at h
  · exact (allOf_len h).symm
  · cases h
theorem rngOf_both {s t : List UInt8} {xs ys : List (List CompT)} (hs : rngOf s = some xs) (ht : rngOf t = some ys) (hl : s.length + t.length ≤ 79) (h4 : xs.length + ys.length ≤ 4) : rngOf (s ++ 124 :: t) = some (xs ++ ys) := by
  rw [rngOf_join hl (by rw [rngOf_len hs, rngOf_len ht]; exact h4), hs, ht]
theorem cat_data (s t : ByteArray) (c : UInt8) : (s ++ ⟨#[c]⟩ ++ t).data.toList = s.data.toList ++ c :: t.data.toList := by
  simp [ByteArray.data_append]

set_option maxRecDepth 20000 in
set_option maxHeartbeats 8000000 in
theorem law_joins (s t u : ByteArray) (w : World) (hm : MaxAt w) (ht : TenAt w) (hg : SignsAt w) :
    Calls Tryz.prog 7 #[.string s, .string t, .string u] w fun e w' => e = .returned (.bool true) ∧ Below w.heap.size w w' := by
  have HPD := hid taken_any
  have BIG : ∀ (h : (100 : Int) < s.size ∨ ((s.size : Int) ≤ 100 ∧ (100 : Int) < t.size) ∨ ((s.size : Int) ≤ 100 ∧ (t.size : Int) ≤ 100 ∧ (100 : Int) < u.size)), Calls Tryz.prog 7 #[.string s, .string t, .string u] w fun e w' => e = .returned (.bool true) ∧ Below w.heap.size w w' := by
    intro h
    rcases h with h | ⟨h, k⟩ | ⟨h, k, j⟩
    all_goals
      go_enter Tryz.func7, Tryz.ntmps7
      go_wp2_with (go_at_call 11; (with_reducible refine (HPD.out _ hm ht hg).mono ?_); rintro e w1 ⟨rfl, hb1⟩)
      go_ret
      exact ⟨rfl, hb1⟩
  by_cases hbig : (100 : Int) < s.size ∨ ((s.size : Int) ≤ 100 ∧ (100 : Int) < t.size) ∨ ((s.size : Int) ≤ 100 ∧ (t.size : Int) ≤ 100 ∧ (100 : Int) < u.size)
  · exact BIG hbig
  · clear BIG
    have h100 : (s.size : Int) ≤ 100 := by omega
    have h101 : (t.size : Int) ≤ 100 := by omega
    have h102 : (u.size : Int) ≤ 100 := by omega
    clear hbig
    obtain ⟨x, y, z, q, lx, ly, lz, Kq, _, HV⟩ := of_v u (by omega)
    replace HV := hid HV
    have hOkV := hid (show OkV x y z q from ⟨lx, ly, lz, Kq.2⟩)
    have P1 := hid (parse_o s (by omega))
    have P2 := hid (parse_o t (by omega))
    have hXs : (s ++ ⟨#[124]⟩ ++ t).size = s.size + 1 + t.size := by
      rw [ByteArray.size_append, ByteArray.size_append]; rfl
    have P3 := hid (parse_o (s ++ ⟨#[124]⟩ ++ t) (by omega))
    rw [cat_data] at P3
    have hls := lenS s
    have hlt := lenS t
    have NO := hid (@rngOf_none s.data.toList t.data.toList)
    have YES := hid (fun xs ys hs ht hl h4 => @rngOf_both s.data.toList t.data.toList xs ys hs ht hl h4)
    rw [hls, hlt] at YES
    have OK1 := hid (fun rs (h : rngOf s.data.toList = some rs) => (rngOf_ok h).2)
    have OK2 := hid (fun rs (h : rngOf t.data.toList = some rs) => (rngOf_ok h).2)
    have OK3 := hid (fun rs (h : rngOf (s.data.toList ++ 124 :: t.data.toList) = some rs) => (rngOf_ok h).2)
    have n1 : ¬ 9223372036854775807 < s.size + 1 := by omega
    have n2 : ¬ 9223372036854775807 < s.size + 1 + t.size := by omega
    have HAS := hid (fun rs v hok w hm ht hg hr => hasR_any rs v hok x y z q hOkV.out w hm ht hg hr)
    clear hls hlt hXs lx ly lz Kq
    generalize rngOf (s.data.toList ++ 124 :: t.data.toList) = o3 at *
    generalize rngOf s.data.toList = o1 at *
    generalize rngOf t.data.toList = o2 at *
    generalize hf1 : o1.isSome = f1 at P1
    generalize hf2 : o2.isSome = f2 at P2
    generalize hf3 : o3.isSome = f3 at P3
    replace hf1 := hid hf1
    replace hf2 := hid hf2
    replace hf3 := hid hf3
    go_enter Tryz.func7, Tryz.ntmps7
    go_wp2_with fail
    refine (P1.out _ hm hg).mono ?_
    rintro e w1 ⟨oa1, m1, cp1, rfl, hb1, N1, hr1⟩
    have z1 := hid (below_alloc hb1 (.cells #[.slice oa1 m1 cp1] 25))
    have v1 := hid (Blk.new w1 [.slice oa1 m1 cp1] 25)
    have M1 := hid (fun rs h => (hr1 rs h).1)
    replace hr1 := hid (fun rs h => (hr1 rs h).2.below (below_alloc (Below.refl w1.heap.size w1) (.cells #[.slice oa1 m1 cp1] 25)))
    clear hb1 N1
    go_wp2_with fail
    generalize w1.alloc (.cells [.slice oa1 m1 cp1].toArray 25) = W1 at v1 hr1 z1 ⊢
    generalize w1.heap.size = b1' at v1 ⊢
    refine (P2.out _ (hm.below z1.out) (hg.below z1.out)).mono ?_
    rintro e w2 ⟨oa2, m2, cp2, rfl, hb2, N2, hr2⟩
    have z2 := hid (below_alloc (below_trans z1.out hb2) (.cells #[.slice oa2 m2 cp2] 25))
    have v2 := hid (Blk.new w2 [.slice oa2 m2 cp2] 25)
    have M2 := hid (fun rs h => (hr2 rs h).1)
    replace hr2 := hid (fun rs h => (hr2 rs h).2.below (below_alloc (Below.refl w2.heap.size w2) (.cells #[.slice oa2 m2 cp2] 25)))
    replace v1 := hid ((v1.out.below hb2).alloc (.cells #[.slice oa2 m2 cp2] 25))
    replace hr1 := hid (fun rs h => ((hr1.out rs h).below hb2).below (below_alloc (Below.refl w2.heap.size w2) (.cells #[.slice oa2 m2 cp2] 25)))
    clear hb2 N2 z1
    go_wp2_with fail
    generalize w2.alloc (.cells [.slice oa2 m2 cp2].toArray 25) = W2 at v1 hr1 v2 hr2 z2 ⊢
    generalize w2.heap.size = b2' at v2 ⊢
    refine (P3.out _ (hm.below z2.out) (hg.below z2.out)).mono ?_
    rintro e w3 ⟨oa3, m3, cp3, rfl, hb3, N3, hr3⟩
    have z3 := hid (below_alloc (below_trans z2.out hb3) (.cells #[.slice oa3 m3 cp3] 25))
    have v3 := hid (Blk.new w3 [.slice oa3 m3 cp3] 25)
    have M3 := hid (fun rs h => (hr3 rs h).1)
    replace hr3 := hid (fun rs h => (hr3 rs h).2.below (below_alloc (Below.refl w3.heap.size w3) (.cells #[.slice oa3 m3 cp3] 25)))
    replace v1 := hid ((v1.out.below hb3).alloc (.cells #[.slice oa3 m3 cp3] 25))
    replace hr1 := hid (fun rs h => ((hr1.out rs h).below hb3).below (below_alloc (Below.refl w3.heap.size w3) (.cells #[.slice oa3 m3 cp3] 25)))
    replace v2 := hid ((v2.out.below hb3).alloc (.cells #[.slice oa3 m3 cp3] 25))
    replace hr2 := hid (fun rs h => ((hr2.out rs h).below hb3).below (below_alloc (Below.refl w3.heap.size w3) (.cells #[.slice oa3 m3 cp3] 25)))
    clear hb3 N3 z2
    go_wp2_with fail
    generalize w3.alloc (.cells [.slice oa3 m3 cp3].toArray 25) = W3 at v1 hr1 v2 hr2 v3 hr3 z3 ⊢
    generalize w3.heap.size = b3' at v3 ⊢
    refine (HV.out _ (hm.below z3.out)).mono ?_
    rintro e w4 ⟨pa, pc, rfl, _, hb4⟩
    have z4 := hid (below_alloc (below_alloc (below_trans z3.out hb4) (.cells #[.int .i64 (x : Int), .int .i64 (y : Int), .int .i64 (z : Int), .string ⟨q.toArray⟩] 38)) (.cells #[.int .i64 (x : Int), .int .i64 (y : Int), .int .i64 (z : Int), .slice pa (rows q).length pc] 45))
    have al4 := hid (below_alloc (below_alloc (Below.refl w4.heap.size w4) (.cells #[.int .i64 (x : Int), .int .i64 (y : Int), .int .i64 (z : Int), .string ⟨q.toArray⟩] 38)) (.cells #[.int .i64 (x : Int), .int .i64 (y : Int), .int .i64 (z : Int), .slice pa (rows q).length pc] 45))
    have v4 := hid (two_blk w4 [.int .i64 (x : Int), .int .i64 (y : Int), .int .i64 (z : Int), .string ⟨q.toArray⟩] [.int .i64 (x : Int), .int .i64 (y : Int), .int .i64 (z : Int), .slice pa (rows q).length pc] 38 45).1
    replace v1 := hid ((v1.out.below hb4).below al4.out)
    replace hr1 := hid (fun rs h => ((hr1.out rs h).below hb4).below al4.out)
    replace v2 := hid ((v2.out.below hb4).below al4.out)
    replace hr2 := hid (fun rs h => ((hr2.out rs h).below hb4).below al4.out)
    replace v3 := hid ((v3.out.below hb4).below al4.out)
    replace hr3 := hid (fun rs h => ((hr3.out rs h).below hb4).below al4.out)
    clear hb4 al4 z3
    go_wp2_with fail
    generalize (w4.alloc (.cells #[.int .i64 (x : Int), .int .i64 (y : Int), .int .i64 (z : Int), .string ⟨q.toArray⟩] 38)).alloc (.cells #[.int .i64 (x : Int), .int .i64 (y : Int), .int .i64 (z : Int), .slice pa (rows q).length pc] 45) = W4 at v1 v2 v3 v4 hr1 hr2 hr3 z4 ⊢
    generalize w4.heap.size + 1 = b5' at *
    generalize w4.heap.size = b4' at v4 ⊢
    refine (HPD.out _ (hm.below z4.out) (ht.below z4.out) (hg.below z4.out)).mono ?_
    rintro e w5 ⟨rfl, hb5⟩
    replace v1 := hid (v1.out.below hb5)
    replace v2 := hid (v2.out.below hb5)
    replace v3 := hid (v3.out.below hb5)
    replace v4 := hid (v4.out.below hb5)
    replace hr1 := hid (fun rs h => (hr1.out rs h).below hb5)
    replace hr2 := hid (fun rs h => (hr2.out rs h).below hb5)
    replace hr3 := hid (fun rs h => (hr3.out rs h).below hb5)
    have z5 := hid (below_trans z4.out hb5)
    clear hb5 z4
    have TK := hid (HPD.out _ (hm.below z5.out) (ht.below z5.out) (hg.below z5.out))
    have g1 := v1.out.cell 0 rfl
    have g2 := v2.out.cell 0 rfl
    cases o1 with
    | none =>
      have e3 := NO.out (.inl rfl)
      subst e3
      obtain rfl : f1 = false := hf1.out.symm
      obtain rfl : f3 = false := hf3.out.symm
      clear YES OK1 OK2 OK3 hr1 hr2 hr3 M1 M2 M3 NO HPD HAS P1 P2 P3 HV
      go_wp2_with fail
      refine TK.out.mono ?_
      rintro e w6 ⟨rfl, hb6⟩
      go_wp2_with fail
      go_ret
      exact ⟨rfl, below_trans z5.out hb6⟩
    | some xs =>
      obtain rfl : f1 = true := hf1.out.symm
      cases o2 with
      | none =>
        have e3 := NO.out (.inr rfl)
        subst e3
        obtain rfl : f2 = false := hf2.out.symm
        obtain rfl : f3 = false := hf3.out.symm
        clear YES OK1 OK2 OK3 hr1 hr2 hr3 M1 M2 M3 NO HPD HAS P1 P2 P3 HV
        go_wp2_with fail
        refine TK.out.mono ?_
        rintro e w6 ⟨rfl, hb6⟩
        go_wp2_with fail
        go_ret
        exact ⟨rfl, below_trans z5.out hb6⟩
      | some ys =>
        obtain rfl : f2 = true := hf2.out.symm
        obtain rfl := M1.out xs rfl
        obtain rfl := M2.out ys rfl
        have lx4 := (OK1.out xs rfl).2.1
        have ly4 := (OK2.out ys rfl).2.1
        by_cases hl : (79 : Int) < (s.size : Int) + (t.size : Int)
        · clear YES OK1 OK2 OK3 hr1 hr2 hr3 M1 M2 M3 NO HPD HAS P1 P2 P3 HV hf1 hf2 hf3
          cases f3
          all_goals
            go_wp2_with fail
            refine TK.out.mono ?_
            rintro e w6 ⟨rfl, hb6⟩
            go_wp2_with fail
            go_ret
            exact ⟨rfl, below_trans z5.out hb6⟩
        · by_cases h4 : (4 : Int) < (xs.length : Int) + (ys.length : Int)
          · clear YES OK1 OK2 OK3 hr1 hr2 hr3 M1 M2 M3 NO HPD HAS P1 P2 P3 HV hf1 hf2 hf3
            cases f3
            all_goals
              go_wp2_with fail
              refine TK.out.mono ?_
              rintro e w6 ⟨rfl, hb6⟩
              go_wp2_with fail
              go_ret
              exact ⟨rfl, below_trans z5.out hb6⟩
          · have e3 := YES.out xs ys rfl rfl (by omega) (by omega)
            subst e3
            obtain rfl : f3 = true := hf3.out.symm
            have A1 := hid (fun w hm ht hg hr => HAS.out xs (.slice oa1 xs.length cp1) (OK1.out xs rfl) w hm ht hg hr)
            have A2 := hid (fun w hm ht hg hr => HAS.out ys (.slice oa2 ys.length cp2) (OK2.out ys rfl) w hm ht hg hr)
            have A3 := hid (fun w hm ht hg hr => HAS.out (xs ++ ys) (.slice oa3 m3 cp3) (OK3.out _ rfl) w hm ht hg hr)
            rw [rngHas_app] at A3
            replace hr1 := hid (hr1.out xs rfl)
            replace hr2 := hid (hr2.out ys rfl)
            replace hr3 := hid (hr3.out _ rfl)
            clear YES OK1 OK2 OK3 M1 M2 M3 NO HPD HAS P1 P2 P3 HV hf1 hf2 hf3 TK
            generalize rngHas xs x y z q = h1 at A1 A3
            generalize rngHas ys x y z q = h2 at A2 A3
            go_wp2_with fail
            have B := hid (fun d os => below_trans z5.out (below_regrown w5 d os))
            have q1 := hid (show ∀ d os, Calls Tryz.prog 19 #[.agg #[.slice oa1 xs.length cp1], .agg #[.int .i64 (x : Int), .int .i64 (y : Int), .int .i64 (z : Int), .string ⟨q.toArray⟩]] (grow (redrawn w5 d) os) fun e w'' => e = .returned (.bool h1) ∧ ∃ p : Regrown, w'' = grow (redrawn w5 p.d) p.os from fun d os => Calls.regrown_of (A1.out _ (hm.below (B.out d os)) (ht.below (B.out d os)) (hg.below (B.out d os)) (hr1.out.below (below_regrown w5 d os))))
            have q2 := hid (show ∀ d os, Calls Tryz.prog 19 #[.agg #[.slice oa2 ys.length cp2], .agg #[.int .i64 (x : Int), .int .i64 (y : Int), .int .i64 (z : Int), .string ⟨q.toArray⟩]] (grow (redrawn w5 d) os) fun e w'' => e = .returned (.bool h2) ∧ ∃ p : Regrown, w'' = grow (redrawn w5 p.d) p.os from fun d os => Calls.regrown_of (A2.out _ (hm.below (B.out d os)) (ht.below (B.out d os)) (hg.below (B.out d os)) (hr2.out.below (below_regrown w5 d os))))
            have q3 := hid (show ∀ d os, Calls Tryz.prog 19 #[.agg #[.slice oa3 m3 cp3], .agg #[.int .i64 (x : Int), .int .i64 (y : Int), .int .i64 (z : Int), .string ⟨q.toArray⟩]] (grow (redrawn w5 d) os) fun e w'' => e = .returned (.bool (h1 || h2)) ∧ ∃ p : Regrown, w'' = grow (redrawn w5 p.d) p.os from fun d os => Calls.regrown_of (A3.out _ (hm.below (B.out d os)) (ht.below (B.out d os)) (hg.below (B.out d os)) (hr3.out.below (below_regrown w5 d os))))
            have r1 := cell_regrown (v1.out.cell 0 rfl)
            have r2 := cell_regrown (v2.out.cell 0 rfl)
            have r3 := cell_regrown (v3.out.cell 0 rfl)
            have r4 := cell_regrown (v4.out.cell 0 rfl)
            have r5 := cell_regrown (v4.out.cell 1 rfl)
            have r6 := cell_regrown (v4.out.cell 2 rfl)
            have r7 := cell_regrown (v4.out.cell 3 rfl)
            clear g1 g2 A1 A2 A3 hr1 hr2 hr3 v1 v2 v3 v4
            cases h1 <;> cases h2
            all_goals
              refine wp_region_quiet_below (by kernel_rfl) (by kernel_rfl) ?_
              repeat (quiet_step (first | with_reducible exact q1.out _ _ | with_reducible exact q2.out _ _ | with_reducible exact q3.out _ _))
              refine wpQuiet_nil ?_
              intro _ hw'
              obtain ⟨⟨dq, osq⟩, hw''⟩ := hw'
              subst hw''
              show Exit.then _ _ Exit.normal _ (grow (redrawn w5 dq) osq)
              have hbz := B.out dq osq
              clear q1 q2 q3 r1 r2 r3 r4 r5 r6 r7 B
              generalize grow (redrawn w5 dq) osq = W6 at hbz ⊢
              go_wp2_with fail
              go_ret
              exact ⟨rfl, hbz⟩
end Go.Proofs.YtebhgcejcdgdbaaGreatDoor.Sp
