/-
  LAYER 1: what Each defers: it takes what a reader of its own gave up with.
-/
import Derived.Test.YtejigbhcpejijaaLinesNum2
import Derived.Lib.Builder
namespace Go.Proofs.Ytejigbhcpejijaa.Ln
open Go.RowKit

@[go_sem] theorem nilEq (w : World) : (binOp .eql 20 .nilIface .nilIface).run Try.prog w = .ok (.bool true) w := by kernel_rfl
@[go_sem] theorem someEq (t : TypeId) (v : Value) (w : World) : (binOp .eql 20 (.iface t v) .nilIface).run Try.prog w = .ok (.bool false) w := by kernel_rfl

@[go_sem] theorem isStop (v : Value) (w : World) : (Instr.typeAssert (.iface 83 v) 20 83 true).run Try.prog w = .ok (.tuple #[v, .bool true]) w := by kernel_rfl

theorem only_at {f : Nat} {w w' : World} (h : Only (· = f) w w') (o : Nat) (v : Value) : Only (· = f) w (w'.setCell ⟨f, o, none⟩ v) := h.setCell (p := ⟨f, o, none⟩) rfl v

theorem infoFault : (Try.prog.info? 25).isSome = true := by kernel_rfl
@[go_sem] theorem ptrNe (a : Addr) (w : World) : (binOp .neq 81 (.pointer (some a)) (.pointer (some a))).run Try.prog w = .ok (.bool false) w := by
  obtain ⟨j, hj⟩ := Option.isSome_iff_exists.1 infoFault
  exact Lib.run_neq_ptr_same w a Try.underlying81 hj

set_option maxRecDepth 100000 in
theorem catch_idle (f : Nat) (w : World) :
    CallsD Try.prog 38 #[.pointer (some ⟨f, 0, none⟩)] .returning w fun e u' w' => e = .returned (.tuple #[]) ∧ u' = .returning ∧ w = w' := by
  refine callsD_of_wpS Try.func38 rfl fun c₀ cs hu => ?_
  apply wpS_seq
  apply wpS_region
  simp [wpOpsS, go_sem, recoverD, hu, Try.ntmps38, Exit.thenS]
  refine wpS_of_wp ?_
  generalize hQ : (fun e a' w' => bodyPostS Try.prog Try.f38 c₀ cs _ e a' (c₀ :: cs) w') = Q
  have HQ := hid hQ
  clear hQ
  have HU := hid hu
  clear hu
  show Code.wp _ _ _ { tmps := #[.pointer (some ⟨f, 0, none⟩), undef, undef, undef, .nilIface, undef, undef, undef, undef, undef, undef, undef, undef, undef, undef, undef, undef], defers := [] } _
  go_wp2
  rw [← HQ.out]
  exact ⟨rfl, .returning, by rw [← HU.out], .tuple #[], by simp [results, Try.results38, go_sem], rfl, rfl, rfl⟩

set_option maxRecDepth 100000 in
theorem catch_stop (f : Nat) (c l k x y z : Int) (w : World) (hf : Blk w f [.int .i64 x, .int .i64 y, .int .i64 z] 25) :
    CallsD Try.prog 38 #[.pointer (some ⟨f, 0, none⟩)] (.panicking [{ v := stopV f ⟨c, l, k⟩, recovered := false }]) w fun e u' w' =>
      e = .returned (.tuple #[]) ∧ u' = .panicking [{ v := stopV f ⟨c, l, k⟩, recovered := true }] ∧ Only (· = f) w w' ∧ Blk w' f [.int .i64 c, .int .i64 l, .int .i64 k] 25 := by
  refine callsD_of_wpS Try.func38 rfl fun c₀ cs hu => ?_
  unfold stopV at *
  apply wpS_seq
  apply wpS_region
  simp [wpOpsS, go_sem, recoverD, hu, Try.ntmps38, Exit.thenS]
  refine wpS_of_wp ?_
  generalize hQ : (fun e a' w' => bodyPostS Try.prog Try.f38 c₀ cs _ e a' _ w') = Q
  have HQ := hid hQ
  clear hQ
  have HU := hid hu
  clear hu
  show Code.wp _ _ _ { tmps := #[.pointer (some ⟨f, 0, none⟩), undef, undef, undef, .iface 83 (.agg #[.pointer (some ⟨f, 0, none⟩), .int .i64 c, .int .i64 l, .int .i64 k]), undef, undef, undef, undef, undef, undef, undef, undef, undef, undef, undef, undef], defers := [] } _
  have HF := hid hf
  have f0 := hf.cell 0 rfl
  have f1 := hf.cell 1 rfl
  have f2 := hf.cell 2 rfl
  have ff := hf.free
  have hlt := hf.lt
  clear hf
  go_wp2
  rw [← HQ.out]
  have hB := ((((HF.out.set 0 (.int .i64 c)).set 1 (.int .i64 l)).set 2 (.int .i64 k)).alloc (.cells #[.pointer (some ⟨f, 0, none⟩), .int .i64 c, .int .i64 l, .int .i64 k] 83))
  have hO : Only (· = f) w ((((w.setCell ⟨f, 0, none⟩ (.int .i64 c)).setCell ⟨f, 1, none⟩ (.int .i64 l)).setCell ⟨f, 2, none⟩ (.int .i64 k)).alloc (.cells #[.pointer (some ⟨f, 0, none⟩), .int .i64 c, .int .i64 l, .int .i64 k] 83)) :=
    (only_at (only_at (only_at (Only.refl _ _) _ _) _ _) _ _).alloc _
  exact ⟨rfl, _, rfl, .tuple #[], by simp [results, Try.results38, go_sem], rfl, rfl, hO, hB⟩

end Go.Proofs.Ytejigbhcpejijaa.Ln
