/-
  LAYER 3, PACKAGE version: Next; LAYER 4: kept.
-/
import Derived.Test.YtjiofenpalokoaaGreatDoorSpecCheck
import Derived.RegionTactic
import Derived.Laws.IdiomCopy
namespace Go.Proofs.YtjiofenpalokoaaGreatDoor.Sp
open Go.RowKit
open Go.Proofs.YtjiofenpalokoaaGreatDoor Go.Proofs.YtjiofenpalokoaaGreatDoor.Nu Go.Proofs.YtjiofenpalokoaaGreatDoor.Vs

theorem copy_ints (w : World) (g b m : Nat) (ty : TypeId) (cs : List Int) (hm : cs.length = m) (h3 : m ≤ 3) (hsrc : ∀ j v, (cs.map (Value.int .i64))[j]? = some v → w.cell? ⟨g, j, none⟩ = some v) (hc : ∀ j, j < m → (w.cell? ⟨b, j, none⟩).isSome = true) (hf : ∀ j, w.frozen? ⟨b, j, none⟩ = false) :
    (Builtin.copy_ #[74, 74] ty #[.slice (some ⟨b, 0, none⟩) 3 3, .slice (some ⟨g, 0, none⟩) m 3]).run Tryz.prog w = .ok (goInt m) (w.setCells b 0 (cs.map (Value.int .i64))) := by
  have := run_copy_cells (P := Tryz.prog) w 74 74 ty 3 b 0 3 3 ⟨g, 0, none⟩ m 3 (cs.map (Value.int .i64)) Tryz.underlying74 (by kernel_rfl) (by rw [List.length_map, hm]; show m = min m 3; omega) (fun j v h => by rw [addr_add, Nat.zero_add]; exact hsrc j v h) (fun j hj => by rw [Nat.zero_add]; exact hc j (by rw [List.length_map, hm] at hj; exact hj)) (fun j _ => hf _) (by
    intro v hv
    obtain ⟨x, _, rfl⟩ := List.mem_map.1 hv
    rfl)
  rw [List.length_map, hm] at this
  exact this

set_option maxRecDepth 20000 in
set_option maxHeartbeats 2000000 in
theorem next0_any (a b c : Nat) (p : ByteArray) (ha : a < 1000000) (_ : b < 1000000) (_ : c < 1000000) (w : World) :
    Calls Tryz.prog 91 #[.agg #[.int .i64 (a : Int), .int .i64 (b : Int), .int .i64 (c : Int), .string p], .int .i64 0] w (Gives (.agg #[.int .i64 ((a + 1 : Nat) : Int), .int .i64 0, .int .i64 0, .string ⟨#[]⟩]) w) := by
  have hA := Blk.new w [.int .i64 (a : Int), .int .i64 (b : Int), .int .i64 (c : Int), .string p] 38
  have hA2 := (hA.alloc (.cells #[.int .i64 0, .int .i64 0, .int .i64 0, .string ⟨#[]⟩] 38)).alloc (.cells #[.int .i64 0, .int .i64 0, .int .i64 0, .string ⟨#[]⟩] 38)
  obtain ⟨hB, hC⟩ := two_blk (w.alloc (.cells #[.int .i64 (a : Int), .int .i64 (b : Int), .int .i64 (c : Int), .string p] 38)) [.int .i64 0, .int .i64 0, .int .i64 0, .string ⟨#[]⟩] [.int .i64 0, .int .i64 0, .int .i64 0, .string ⟨#[]⟩] 38 38
  have hz : (w.alloc (.cells #[.int .i64 (a : Int), .int .i64 (b : Int), .int .i64 (c : Int), .string p] 38)).heap.size = w.heap.size + 1 := by simp
  rw [hz] at hB hC
  have hbx := below_alloc (below_alloc (below_alloc (Below.refl w.heap.size w) (.cells #[.int .i64 (a : Int), .int .i64 (b : Int), .int .i64 (c : Int), .string p] 38)) (.cells #[.int .i64 0, .int .i64 0, .int .i64 0, .string ⟨#[]⟩] 38)) (.cells #[.int .i64 0, .int .i64 0, .int .i64 0, .string ⟨#[]⟩] 38)
  replace hA2 := hid hA2
  replace hB := hid hB
  replace hC := hid hC
  replace hbx := hid hbx
  clear hA hz
  have hne : w.heap.size + 1 ≠ w.heap.size + 1 + 1 := by omega
  go_enter Tryz.func91, Tryz.ntmps91
  go_wp2_with fail
  change Code.wp _ _ _ _ (((w.alloc (.cells #[.int .i64 (a : Int), .int .i64 (b : Int), .int .i64 (c : Int), .string p] 38)).alloc (.cells #[.int .i64 0, .int .i64 0, .int .i64 0, .string ⟨#[]⟩] 38)).alloc (.cells #[.int .i64 0, .int .i64 0, .int .i64 0, .string ⟨#[]⟩] 38))
  generalize ((w.alloc (.cells #[.int .i64 (a : Int), .int .i64 (b : Int), .int .i64 (c : Int), .string p] 38)).alloc (.cells #[.int .i64 0, .int .i64 0, .int .i64 0, .string ⟨#[]⟩] 38)).alloc (.cells #[.int .i64 0, .int .i64 0, .int .i64 0, .string ⟨#[]⟩] 38) = W at hA2 hB hC hbx ⊢
  have a0 := hA2.out.cell 0 rfl
  have a1 := hA2.out.cell 1 rfl
  have a2 := hA2.out.cell 2 rfl
  have c0 := hC.out.cell 0 rfl
  have c1 := hC.out.cell 1 rfl
  have c2 := hC.out.cell 2 rfl
  have cf := hC.out.free
  have hcopy := fun ty => copy_ints W.drew w.heap.size (w.heap.size + 1 + 1) 1 ty [(a : Int)] rfl (by decide) (by
    intro j v hj
    match j, hj with
    | 0, hj => cases hj; exact a0) (by
    intro j hj
    match j, hj with
    | 0, _ => rw [show W.drew.cell? ⟨w.heap.size + 1 + 1, 0, none⟩ = _ from c0]; rfl) cf
  simp only [List.map_cons, List.map_nil, World.setCells] at hcopy
  go_region
  have hC4 : Blk (W.setCell ⟨w.heap.size + 1 + 1, 0, none⟩ (.int .i64 (a : Int))).drew (w.heap.size + 1 + 1) [.int .i64 (a : Int), .int .i64 0, .int .i64 0, .string ⟨#[]⟩] 38 := (hC.out.set 0 (.int .i64 (a : Int)))
  have hB4 : Blk (W.setCell ⟨w.heap.size + 1 + 1, 0, none⟩ (.int .i64 (a : Int))).drew (w.heap.size + 1) [.int .i64 0, .int .i64 0, .int .i64 0, .string ⟨#[]⟩] 38 := (hB.out.other (a := ⟨w.heap.size + 1 + 1, 0, none⟩) hne (.int .i64 (a : Int)))
  have hb4 : Below w.heap.size w (W.setCell ⟨w.heap.size + 1 + 1, 0, none⟩ (.int .i64 (a : Int))).drew := (hbx.out.setCell (show w.heap.size ≤ w.heap.size + 1 + 1 by omega) (.int .i64 (a : Int))).drew
  clear a0 a1 a2 c0 c1 c2 cf hcopy hA2 hB hC hbx
  show Exit.then _ _ Exit.normal _ ((W.setCell ⟨w.heap.size + 1 + 1, 0, none⟩ (.int .i64 (a : Int))).drew)
  generalize (W.setCell ⟨w.heap.size + 1 + 1, 0, none⟩ (.int .i64 (a : Int))).drew = W4 at hC4 hB4 hb4 ⊢
  replace hb4 := hid hb4
  have c0 := hC4.cell 0 rfl
  have c1 := hC4.cell 1 rfl
  have c2 := hC4.cell 2 rfl
  have c3 := hC4.cell 3 rfl
  have cf := hC4.free
  have d0 := hB4.cell 0 rfl
  have d1 := hB4.cell 1 rfl
  have d2 := hB4.cell 2 rfl
  have d3 := hB4.cell 3 rfl
  have df := hB4.free
  have hC5 := hid hC4
  have hB5 := hid hB4
  clear hC4 hB4
  have l1 : (a : Int) < 1000000 := by omega
  have l0 : (0 : Int) ≤ (a : Int) := by omega
  go_wp2_with fail
  have hB6 := hB5.out.other (a := ⟨w.heap.size + 1 + 1, 0, none⟩) hne (.int .i64 ((a : Int) + 1))
  have hb5 : Below w.heap.size w (W4.setCell ⟨w.heap.size + 1 + 1, 0, none⟩ (.int .i64 ((a : Int) + 1))) := hb4.out.setCell (show w.heap.size ≤ w.heap.size + 1 + 1 by omega) _
  have hb6 := setCells4 (B := w.heap.size + 1) hb5 (by omega) (a := 0) (b := 1) (c := 2) (d := 3) (va := .int .i64 ((a : Int) + 1)) (vb := .int .i64 (0)) (vc := .int .i64 (0)) (vd := .string ⟨#[]⟩)
  obtain ⟨q0, q1, q2, q3⟩ := four_cells hB6 (.int .i64 ((a : Int) + 1)) (.int .i64 (0)) (.int .i64 (0)) (.string ⟨#[]⟩) _ rfl
  exact bodyPost_ret (v := .agg #[.int .i64 ((a : Int) + 1), .int .i64 (0), .int .i64 (0), .string ⟨#[]⟩]) (by simp [results, Tryz.results91, go_sem, q0, q1, q2, q3]) rfl (gives rfl rfl hb6)
set_option maxRecDepth 20000 in
set_option maxHeartbeats 2000000 in
theorem next1_any (a b c : Nat) (p : ByteArray) (_ : a < 1000000) (hb : b < 1000000) (_ : c < 1000000) (w : World) :
    Calls Tryz.prog 91 #[.agg #[.int .i64 (a : Int), .int .i64 (b : Int), .int .i64 (c : Int), .string p], .int .i64 1] w (Gives (.agg #[.int .i64 (a : Int), .int .i64 ((b + 1 : Nat) : Int), .int .i64 0, .string ⟨#[]⟩]) w) := by
  have hA := Blk.new w [.int .i64 (a : Int), .int .i64 (b : Int), .int .i64 (c : Int), .string p] 38
  have hA2 := (hA.alloc (.cells #[.int .i64 0, .int .i64 0, .int .i64 0, .string ⟨#[]⟩] 38)).alloc (.cells #[.int .i64 0, .int .i64 0, .int .i64 0, .string ⟨#[]⟩] 38)
  obtain ⟨hB, hC⟩ := two_blk (w.alloc (.cells #[.int .i64 (a : Int), .int .i64 (b : Int), .int .i64 (c : Int), .string p] 38)) [.int .i64 0, .int .i64 0, .int .i64 0, .string ⟨#[]⟩] [.int .i64 0, .int .i64 0, .int .i64 0, .string ⟨#[]⟩] 38 38
  have hz : (w.alloc (.cells #[.int .i64 (a : Int), .int .i64 (b : Int), .int .i64 (c : Int), .string p] 38)).heap.size = w.heap.size + 1 := by simp
  rw [hz] at hB hC
  have hbx := below_alloc (below_alloc (below_alloc (Below.refl w.heap.size w) (.cells #[.int .i64 (a : Int), .int .i64 (b : Int), .int .i64 (c : Int), .string p] 38)) (.cells #[.int .i64 0, .int .i64 0, .int .i64 0, .string ⟨#[]⟩] 38)) (.cells #[.int .i64 0, .int .i64 0, .int .i64 0, .string ⟨#[]⟩] 38)
  replace hA2 := hid hA2
  replace hB := hid hB
  replace hC := hid hC
  replace hbx := hid hbx
  clear hA hz
  have hne : w.heap.size + 1 ≠ w.heap.size + 1 + 1 := by omega
  go_enter Tryz.func91, Tryz.ntmps91
  go_wp2_with fail
  change Code.wp _ _ _ _ (((w.alloc (.cells #[.int .i64 (a : Int), .int .i64 (b : Int), .int .i64 (c : Int), .string p] 38)).alloc (.cells #[.int .i64 0, .int .i64 0, .int .i64 0, .string ⟨#[]⟩] 38)).alloc (.cells #[.int .i64 0, .int .i64 0, .int .i64 0, .string ⟨#[]⟩] 38))
  generalize ((w.alloc (.cells #[.int .i64 (a : Int), .int .i64 (b : Int), .int .i64 (c : Int), .string p] 38)).alloc (.cells #[.int .i64 0, .int .i64 0, .int .i64 0, .string ⟨#[]⟩] 38)).alloc (.cells #[.int .i64 0, .int .i64 0, .int .i64 0, .string ⟨#[]⟩] 38) = W at hA2 hB hC hbx ⊢
  have a0 := hA2.out.cell 0 rfl
  have a1 := hA2.out.cell 1 rfl
  have a2 := hA2.out.cell 2 rfl
  have c0 := hC.out.cell 0 rfl
  have c1 := hC.out.cell 1 rfl
  have c2 := hC.out.cell 2 rfl
  have cf := hC.out.free
  have hcopy := fun ty => copy_ints W.drew w.heap.size (w.heap.size + 1 + 1) 2 ty [(a : Int), (b : Int)] rfl (by decide) (by
    intro j v hj
    match j, hj with
    | 0, hj => cases hj; exact a0
    | 1, hj => cases hj; exact a1) (by
    intro j hj
    match j, hj with
    | 0, _ => rw [show W.drew.cell? ⟨w.heap.size + 1 + 1, 0, none⟩ = _ from c0]; rfl
    | 1, _ => rw [show W.drew.cell? ⟨w.heap.size + 1 + 1, 1, none⟩ = _ from c1]; rfl) cf
  simp only [List.map_cons, List.map_nil, World.setCells] at hcopy
  go_region
  have hC4 : Blk ((W.setCell ⟨w.heap.size + 1 + 1, 0, none⟩ (.int .i64 (a : Int))).setCell ⟨w.heap.size + 1 + 1, 1, none⟩ (.int .i64 (b : Int))).drew (w.heap.size + 1 + 1) [.int .i64 (a : Int), .int .i64 (b : Int), .int .i64 0, .string ⟨#[]⟩] 38 := ((hC.out.set 0 (.int .i64 (a : Int))).set 1 (.int .i64 (b : Int)))
  have hB4 : Blk ((W.setCell ⟨w.heap.size + 1 + 1, 0, none⟩ (.int .i64 (a : Int))).setCell ⟨w.heap.size + 1 + 1, 1, none⟩ (.int .i64 (b : Int))).drew (w.heap.size + 1) [.int .i64 0, .int .i64 0, .int .i64 0, .string ⟨#[]⟩] 38 := ((hB.out.other (a := ⟨w.heap.size + 1 + 1, 0, none⟩) hne (.int .i64 (a : Int))).other (a := ⟨w.heap.size + 1 + 1, 1, none⟩) hne (.int .i64 (b : Int)))
  have hb4 : Below w.heap.size w ((W.setCell ⟨w.heap.size + 1 + 1, 0, none⟩ (.int .i64 (a : Int))).setCell ⟨w.heap.size + 1 + 1, 1, none⟩ (.int .i64 (b : Int))).drew := ((hbx.out.setCell (show w.heap.size ≤ w.heap.size + 1 + 1 by omega) (.int .i64 (a : Int))).setCell (show w.heap.size ≤ w.heap.size + 1 + 1 by omega) (.int .i64 (b : Int))).drew
  clear a0 a1 a2 c0 c1 c2 cf hcopy hA2 hB hC hbx
  show Exit.then _ _ Exit.normal _ (((W.setCell ⟨w.heap.size + 1 + 1, 0, none⟩ (.int .i64 (a : Int))).setCell ⟨w.heap.size + 1 + 1, 1, none⟩ (.int .i64 (b : Int))).drew)
  generalize ((W.setCell ⟨w.heap.size + 1 + 1, 0, none⟩ (.int .i64 (a : Int))).setCell ⟨w.heap.size + 1 + 1, 1, none⟩ (.int .i64 (b : Int))).drew = W4 at hC4 hB4 hb4 ⊢
  replace hb4 := hid hb4
  have c0 := hC4.cell 0 rfl
  have c1 := hC4.cell 1 rfl
  have c2 := hC4.cell 2 rfl
  have c3 := hC4.cell 3 rfl
  have cf := hC4.free
  have d0 := hB4.cell 0 rfl
  have d1 := hB4.cell 1 rfl
  have d2 := hB4.cell 2 rfl
  have d3 := hB4.cell 3 rfl
  have df := hB4.free
  have hC5 := hid hC4
  have hB5 := hid hB4
  clear hC4 hB4
  have l1 : (b : Int) < 1000000 := by omega
  have l0 : (0 : Int) ≤ (b : Int) := by omega
  go_wp2_with fail
  have hB6 := hB5.out.other (a := ⟨w.heap.size + 1 + 1, 1, none⟩) hne (.int .i64 ((b : Int) + 1))
  have hb5 : Below w.heap.size w (W4.setCell ⟨w.heap.size + 1 + 1, 1, none⟩ (.int .i64 ((b : Int) + 1))) := hb4.out.setCell (show w.heap.size ≤ w.heap.size + 1 + 1 by omega) _
  have hb6 := setCells4 (B := w.heap.size + 1) hb5 (by omega) (a := 0) (b := 1) (c := 2) (d := 3) (va := .int .i64 ((a : Int))) (vb := .int .i64 ((b : Int) + 1)) (vc := .int .i64 (0)) (vd := .string ⟨#[]⟩)
  obtain ⟨q0, q1, q2, q3⟩ := four_cells hB6 (.int .i64 ((a : Int))) (.int .i64 ((b : Int) + 1)) (.int .i64 (0)) (.string ⟨#[]⟩) _ rfl
  exact bodyPost_ret (v := .agg #[.int .i64 ((a : Int)), .int .i64 ((b : Int) + 1), .int .i64 (0), .string ⟨#[]⟩]) (by simp [results, Tryz.results91, go_sem, q0, q1, q2, q3]) rfl (gives rfl rfl hb6)
set_option maxRecDepth 20000 in
set_option maxHeartbeats 2000000 in
theorem next2_any (a b c : Nat) (p : ByteArray) (_ : a < 1000000) (_ : b < 1000000) (hc : c < 1000000) (w : World) :
    Calls Tryz.prog 91 #[.agg #[.int .i64 (a : Int), .int .i64 (b : Int), .int .i64 (c : Int), .string p], .int .i64 2] w (Gives (.agg #[.int .i64 (a : Int), .int .i64 (b : Int), .int .i64 ((c + 1 : Nat) : Int), .string ⟨#[]⟩]) w) := by
  have hA := Blk.new w [.int .i64 (a : Int), .int .i64 (b : Int), .int .i64 (c : Int), .string p] 38
  have hA2 := (hA.alloc (.cells #[.int .i64 0, .int .i64 0, .int .i64 0, .string ⟨#[]⟩] 38)).alloc (.cells #[.int .i64 0, .int .i64 0, .int .i64 0, .string ⟨#[]⟩] 38)
  obtain ⟨hB, hC⟩ := two_blk (w.alloc (.cells #[.int .i64 (a : Int), .int .i64 (b : Int), .int .i64 (c : Int), .string p] 38)) [.int .i64 0, .int .i64 0, .int .i64 0, .string ⟨#[]⟩] [.int .i64 0, .int .i64 0, .int .i64 0, .string ⟨#[]⟩] 38 38
  have hz : (w.alloc (.cells #[.int .i64 (a : Int), .int .i64 (b : Int), .int .i64 (c : Int), .string p] 38)).heap.size = w.heap.size + 1 := by simp
  rw [hz] at hB hC
  have hbx := below_alloc (below_alloc (below_alloc (Below.refl w.heap.size w) (.cells #[.int .i64 (a : Int), .int .i64 (b : Int), .int .i64 (c : Int), .string p] 38)) (.cells #[.int .i64 0, .int .i64 0, .int .i64 0, .string ⟨#[]⟩] 38)) (.cells #[.int .i64 0, .int .i64 0, .int .i64 0, .string ⟨#[]⟩] 38)
  replace hA2 := hid hA2
  replace hB := hid hB
  replace hC := hid hC
  replace hbx := hid hbx
  clear hA hz
  have hne : w.heap.size + 1 ≠ w.heap.size + 1 + 1 := by omega
  go_enter Tryz.func91, Tryz.ntmps91
  go_wp2_with fail
  change Code.wp _ _ _ _ (((w.alloc (.cells #[.int .i64 (a : Int), .int .i64 (b : Int), .int .i64 (c : Int), .string p] 38)).alloc (.cells #[.int .i64 0, .int .i64 0, .int .i64 0, .string ⟨#[]⟩] 38)).alloc (.cells #[.int .i64 0, .int .i64 0, .int .i64 0, .string ⟨#[]⟩] 38))
  generalize ((w.alloc (.cells #[.int .i64 (a : Int), .int .i64 (b : Int), .int .i64 (c : Int), .string p] 38)).alloc (.cells #[.int .i64 0, .int .i64 0, .int .i64 0, .string ⟨#[]⟩] 38)).alloc (.cells #[.int .i64 0, .int .i64 0, .int .i64 0, .string ⟨#[]⟩] 38) = W at hA2 hB hC hbx ⊢
  have a0 := hA2.out.cell 0 rfl
  have a1 := hA2.out.cell 1 rfl
  have a2 := hA2.out.cell 2 rfl
  have c0 := hC.out.cell 0 rfl
  have c1 := hC.out.cell 1 rfl
  have c2 := hC.out.cell 2 rfl
  have cf := hC.out.free
  have hcopy := fun ty => copy_ints W.drew w.heap.size (w.heap.size + 1 + 1) 3 ty [(a : Int), (b : Int), (c : Int)] rfl (by decide) (by
    intro j v hj
    match j, hj with
    | 0, hj => cases hj; exact a0
    | 1, hj => cases hj; exact a1
    | 2, hj => cases hj; exact a2) (by
    intro j hj
    match j, hj with
    | 0, _ => rw [show W.drew.cell? ⟨w.heap.size + 1 + 1, 0, none⟩ = _ from c0]; rfl
    | 1, _ => rw [show W.drew.cell? ⟨w.heap.size + 1 + 1, 1, none⟩ = _ from c1]; rfl
    | 2, _ => rw [show W.drew.cell? ⟨w.heap.size + 1 + 1, 2, none⟩ = _ from c2]; rfl) cf
  simp only [List.map_cons, List.map_nil, World.setCells] at hcopy
  go_region
  have hC4 : Blk (((W.setCell ⟨w.heap.size + 1 + 1, 0, none⟩ (.int .i64 (a : Int))).setCell ⟨w.heap.size + 1 + 1, 1, none⟩ (.int .i64 (b : Int))).setCell ⟨w.heap.size + 1 + 1, 2, none⟩ (.int .i64 (c : Int))).drew (w.heap.size + 1 + 1) [.int .i64 (a : Int), .int .i64 (b : Int), .int .i64 (c : Int), .string ⟨#[]⟩] 38 := (((hC.out.set 0 (.int .i64 (a : Int))).set 1 (.int .i64 (b : Int))).set 2 (.int .i64 (c : Int)))
  have hB4 : Blk (((W.setCell ⟨w.heap.size + 1 + 1, 0, none⟩ (.int .i64 (a : Int))).setCell ⟨w.heap.size + 1 + 1, 1, none⟩ (.int .i64 (b : Int))).setCell ⟨w.heap.size + 1 + 1, 2, none⟩ (.int .i64 (c : Int))).drew (w.heap.size + 1) [.int .i64 0, .int .i64 0, .int .i64 0, .string ⟨#[]⟩] 38 := (((hB.out.other (a := ⟨w.heap.size + 1 + 1, 0, none⟩) hne (.int .i64 (a : Int))).other (a := ⟨w.heap.size + 1 + 1, 1, none⟩) hne (.int .i64 (b : Int))).other (a := ⟨w.heap.size + 1 + 1, 2, none⟩) hne (.int .i64 (c : Int)))
  have hb4 : Below w.heap.size w (((W.setCell ⟨w.heap.size + 1 + 1, 0, none⟩ (.int .i64 (a : Int))).setCell ⟨w.heap.size + 1 + 1, 1, none⟩ (.int .i64 (b : Int))).setCell ⟨w.heap.size + 1 + 1, 2, none⟩ (.int .i64 (c : Int))).drew := (((hbx.out.setCell (show w.heap.size ≤ w.heap.size + 1 + 1 by omega) (.int .i64 (a : Int))).setCell (show w.heap.size ≤ w.heap.size + 1 + 1 by omega) (.int .i64 (b : Int))).setCell (show w.heap.size ≤ w.heap.size + 1 + 1 by omega) (.int .i64 (c : Int))).drew
  clear a0 a1 a2 c0 c1 c2 cf hcopy hA2 hB hC hbx
  show Exit.then _ _ Exit.normal _ ((((W.setCell ⟨w.heap.size + 1 + 1, 0, none⟩ (.int .i64 (a : Int))).setCell ⟨w.heap.size + 1 + 1, 1, none⟩ (.int .i64 (b : Int))).setCell ⟨w.heap.size + 1 + 1, 2, none⟩ (.int .i64 (c : Int))).drew)
  generalize (((W.setCell ⟨w.heap.size + 1 + 1, 0, none⟩ (.int .i64 (a : Int))).setCell ⟨w.heap.size + 1 + 1, 1, none⟩ (.int .i64 (b : Int))).setCell ⟨w.heap.size + 1 + 1, 2, none⟩ (.int .i64 (c : Int))).drew = W4 at hC4 hB4 hb4 ⊢
  replace hb4 := hid hb4
  have c0 := hC4.cell 0 rfl
  have c1 := hC4.cell 1 rfl
  have c2 := hC4.cell 2 rfl
  have c3 := hC4.cell 3 rfl
  have cf := hC4.free
  have d0 := hB4.cell 0 rfl
  have d1 := hB4.cell 1 rfl
  have d2 := hB4.cell 2 rfl
  have d3 := hB4.cell 3 rfl
  have df := hB4.free
  have hC5 := hid hC4
  have hB5 := hid hB4
  clear hC4 hB4
  have l1 : (c : Int) < 1000000 := by omega
  have l0 : (0 : Int) ≤ (c : Int) := by omega
  go_wp2_with fail
  have hB6 := hB5.out.other (a := ⟨w.heap.size + 1 + 1, 2, none⟩) hne (.int .i64 ((c : Int) + 1))
  have hb5 : Below w.heap.size w (W4.setCell ⟨w.heap.size + 1 + 1, 2, none⟩ (.int .i64 ((c : Int) + 1))) := hb4.out.setCell (show w.heap.size ≤ w.heap.size + 1 + 1 by omega) _
  have hb6 := setCells4 (B := w.heap.size + 1) hb5 (by omega) (a := 0) (b := 1) (c := 2) (d := 3) (va := .int .i64 ((a : Int))) (vb := .int .i64 ((b : Int))) (vc := .int .i64 ((c : Int) + 1)) (vd := .string ⟨#[]⟩)
  obtain ⟨q0, q1, q2, q3⟩ := four_cells hB6 (.int .i64 ((a : Int))) (.int .i64 ((b : Int))) (.int .i64 ((c : Int) + 1)) (.string ⟨#[]⟩) _ rfl
  exact bodyPost_ret (v := .agg #[.int .i64 ((a : Int)), .int .i64 ((b : Int)), .int .i64 ((c : Int) + 1), .string ⟨#[]⟩]) (by simp [results, Tryz.results91, go_sem, q0, q1, q2, q3]) rfl (gives rfl rfl hb6)

set_option maxRecDepth 20000 in
set_option maxHeartbeats 1000000 in
theorem kept_any (a b c : Nat) (p : ByteArray) (w : World) :
    Calls Tryz.prog 92 #[.agg #[.int .i64 (a : Int), .int .i64 (b : Int), .int .i64 (c : Int), .string p]] w (Gives (.int .i64 (keptP a b : Int)) w) := by
  have hb0 := hid (below_alloc (Below.refl w.heap.size w) (.cells #[.int .i64 (a : Int), .int .i64 (b : Int), .int .i64 (c : Int), .string p] 38))
  have hK := hid (show keptP a b = if a ≠ 0 then 0 else if b ≠ 0 then 1 else 2 from rfl)
  generalize keptP a b = K at hK ⊢
  go_enter Tryz.func92, Tryz.ntmps92
  go_wp2_with fail
  go_loopw [3, 4, 7] (fun _ _ i wr => ∃ k : Nat, k ≤ 3 ∧ i = .int .i64 k ∧ Hid (Below w.heap.size w wr) ∧ Hid (0 < k → a = 0) ∧ Hid (1 < k → b = 0) ∧ Hid (2 < k → c = 0)) (fun _ _ i _ => 3 - (intOf i).toNat)
  case atStart => exact ⟨0, by omega, rfl, hb0, hid (fun h => by omega), hid (fun h => by omega), hid (fun h => by omega)⟩
  case round =>
    obtain ⟨k, hk, rfl, hb, h0, h1, h2⟩ := hrel
    clear hb0
    have ways : k = 0 ∨ k = 1 ∨ k = 2 ∨ k = 3 := by omega
    rcases ways with rfl | rfl | rfl | rfl
    · by_cases ha : a = 0
      · subst ha
        go_wp2_with fail
        go_roundw
        case rel => exact ⟨1, by omega, by go_num, hb, hid (fun _ => by first | rfl | trivial), hid (fun h => by omega), hid (fun h => by omega)⟩
        case measure => simp [intOf]
      · have e : ((a : Int) != 0) = true := by simp; omega
        have hr := hid (show ((K : Nat) : Int) = 0 by rw [hK.out, if_pos ha]; rfl)
        clear ha
        go_wp2_with fail
        go_ret
        exact gives rfl (int_eq hr.out.symm) hb.out
    · have ha := h0.out (by omega)
      by_cases hbb : b = 0
      · subst hbb
        go_wp2_with fail
        go_roundw
        case rel => exact ⟨2, by omega, by go_num, hb, hid (fun _ => by first | exact ha | trivial), hid (fun _ => by first | rfl | trivial), hid (fun h => by omega)⟩
        case measure => simp [intOf]
      · have e : ((b : Int) != 0) = true := by simp; omega
        have hr := hid (show ((K : Nat) : Int) = 1 by rw [hK.out, if_neg (by omega), if_pos hbb]; rfl)
        clear hbb
        go_wp2_with fail
        go_ret
        exact gives rfl (int_eq hr.out.symm) hb.out
    · have ha := h0.out (by omega)
      have hbb := h1.out (by omega)
      have hr := hid (show ((K : Nat) : Int) = 2 by rw [hK.out, if_neg (by omega), if_neg (by omega)]; rfl)
      by_cases hcc : c = 0
      · subst hcc
        go_wp2_with fail
        go_roundw
        case rel => exact ⟨3, by omega, by go_num, hb, hid (fun _ => by first | exact ha | trivial), hid (fun _ => by first | exact hbb | trivial), hid (fun _ => by first | rfl | trivial)⟩
        case measure => simp [intOf]
      · have e : ((c : Int) != 0) = true := by simp; omega
        clear hcc
        go_wp2_with fail
        go_ret
        exact gives rfl (int_eq hr.out.symm) hb.out
    · have ha := h0.out (by omega)
      have hbb := h1.out (by omega)
      have hr := hid (show ((K : Nat) : Int) = 2 by rw [hK.out, if_neg (by omega), if_neg (by omega)]; rfl)
      go_wp2_with fail
      go_ret
      exact gives rfl (int_eq hr.out.symm) hb.out
end Go.Proofs.YtjiofenpalokoaaGreatDoor.Sp
