/-
  LAYER 3, PACKAGE version: Compare; Twin.
-/
import Derived.Test.YtjiofenpalokoaaGreatDoorVersionCmpF
import Derived.Test.YtjiofenpalokoaaGreatDoorVersionEq
namespace Go.Proofs.YtjiofenpalokoaaGreatDoor.Vs
open Go.RowKit
open Go.Proofs.YtjiofenpalokoaaGreatDoor Go.Proofs.YtjiofenpalokoaaGreatDoor.Nu

theorem ints_blk {w : World} {B : Nat} {a b c : Int} {v : Value} {e : TypeId} (h : Blk w B [.int .i64 a, .int .i64 b, .int .i64 c, v] e) : IntsAt w B 0 [a, b, c] := by
  refine ⟨h.lt, fun k hk => ?_⟩
  rw [Nat.zero_add]
  match k, hk with
  | 0, _ => exact h.cell 0 rfl
  | 1, _ => exact h.cell 1 rfl
  | 2, _ => exact h.cell 2 rfl
/-- two blocks laid one behind the other -/
theorem two_blk (w : World) (xs ys : List Value) (e e' : TypeId) :
    Blk ((w.alloc (.cells xs.toArray e)).alloc (.cells ys.toArray e')) w.heap.size xs e ∧ Blk ((w.alloc (.cells xs.toArray e)).alloc (.cells ys.toArray e')) (w.heap.size + 1) ys e' := by
  refine ⟨(Blk.new w xs e).alloc _, ?_⟩
  have h := Blk.new (w.alloc (.cells xs.toArray e)) ys e'
  have hz : (w.alloc (.cells xs.toArray e)).heap.size = w.heap.size + 1 := by simp
  rw [hz] at h; exact h

set_option maxRecDepth 20000 in
set_option maxHeartbeats 2000000 in
theorem compare_num (a b c a' b' c' : Int) (s t : ByteArray) (h : (a == a') = false ∨ ((a == a') = true ∧ (b == b') = false) ∨ ((a == a') = true ∧ (b == b') = true ∧ (c == c') = false)) (w : World) :
    Calls Tryz.prog 26 #[.agg #[.int .i64 a, .int .i64 b, .int .i64 c, .string s], .agg #[.int .i64 a', .int .i64 b', .int .i64 c', .string t]] w (Gives (.int .i64 (cmpL cz [a, b, c] [a', b', c'])) w) := by
  have g1 : Tryz.prog.eqGuardType Tryz.prog.depth 36 = false := by kernel_rfl
  have HC : Hid (∀ (W : World) (B B' : Nat), IntsAt W B 0 [a, b, c] → IntsAt W B' 0 [a', b', c'] → Calls Tryz.prog 46 #[.slice (some ⟨B, 0, none⟩) 3 3, .slice (some ⟨B', 0, none⟩) 3 3] W (GivesE (.int .i64 (cmpL cz [a, b, c] [a', b', c'])) W)) :=
    hid (fun W B B' h1 h2 => cmpInts_any [a, b, c] [a', b', c'] (by simp) (by simp) B 0 3 B' 0 3 W h1 h2)
  generalize cmpL cz [a, b, c] [a', b', c'] = R at HC ⊢
  obtain ⟨hA, hB⟩ := two_blk w [.int .i64 a, .int .i64 b, .int .i64 c, .string s] [.int .i64 a', .int .i64 b', .int .i64 c', .string t] 38 38
  have hbx := below_alloc (below_alloc (Below.refl w.heap.size w) (.cells #[.int .i64 a, .int .i64 b, .int .i64 c, .string s] 38)) (.cells #[.int .i64 a', .int .i64 b', .int .i64 c', .string t] 38)
  replace hA := hid hA
  replace hB := hid hB
  replace hbx := hid hbx
  rcases h with h | ⟨h, k⟩ | ⟨h, k, j⟩
  all_goals
    go_enter Tryz.func26, Tryz.ntmps26
    go_wp2_with fail
    replace hA := hA.out
    replace hB := hB.out
    replace hbx := hbx.out
    generalize ((w.alloc (.cells #[.int .i64 a, .int .i64 b, .int .i64 c, .string s] 38)).alloc (.cells #[.int .i64 a', .int .i64 b', .int .i64 c', .string t] 38)) = W at hA hB hbx ⊢
    have i1 := hid (fun n => (ints_blk hA).below (below_drewN (Below.refl _ W) n))
    have i2 := hid (fun n => (ints_blk hB).below (below_drewN (Below.refl _ W) n))
    go_quiet (((with_reducible refine (HC.out _ _ _ (i1.out _) (i2.out _)).mono ?_); rintro e w3 ⟨rfl, rfl⟩; exact ⟨rfl, _, rfl⟩))
    go_wp2_with fail
    go_ret
    exact gives rfl rfl (below_drewN' hbx _)
end Go.Proofs.YtjiofenpalokoaaGreatDoor.Vs
