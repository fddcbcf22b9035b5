/-
  LAYER 3: what the laws begin with (parsed).
-/
import Derived.Test.YtiihhgdbgmplaaaDoorVersionEq
import Derived.Test.YtiihhgdbgmplaaaDoorVersionRefParse
namespace Go.Proofs.YtiihhgdbgmplaaaDoor.Vs
open Go.RowKit
open Go.Proofs.YtiihhgdbgmplaaaDoor Go.Proofs.YtiihhgdbgmplaaaDoor.Nu

set_option maxRecDepth 20000 in
set_option maxHeartbeats 400000 in
theorem compare_rel (a b c : Int) (s : ByteArray) (h : s.size ≠ 0) (w : World) :
    Calls Tryd.prog 15 #[.agg #[.int .i64 a, .int .i64 b, .int .i64 c, .string s], .agg #[.int .i64 a, .int .i64 b, .int .i64 c, .string ⟨#[]⟩]] w (Gives (.int .i64 (-1)) w) := by
  have hq := empty_eq s h
  have g1 : Tryd.prog.eqGuardType Tryd.prog.depth 23 = false := by kernel_rfl
  clear h
  go_enter Tryd.func15, Tryd.ntmps15
  go_wp2_with fail
  go_ret
  exact gives rfl rfl (below_alloc (below_alloc (Below.refl _ _) _) _)

def t1 : ByteArray := ⟨#[49, 46, 50, 46, 48, 45, 114, 99, 46, 49, 48]⟩
def t2 : ByteArray := ⟨#[49, 46, 50, 46, 48]⟩
def t3 : ByteArray := ⟨#[49, 46, 48, 50, 46, 48]⟩
theorem p1 : parseT t1.data.toList = .tuple #[.agg #[.int .i64 1, .int .i64 2, .int .i64 0, .string ⟨#[114, 99, 46, 49, 48]⟩], .bool true] := by kernel_rfl
theorem p2 : parseT t2.data.toList = .tuple #[.agg #[.int .i64 1, .int .i64 2, .int .i64 0, .string ⟨#[]⟩], .bool true] := by kernel_rfl
theorem p3 : parseT t3.data.toList = .tuple #[.agg #[.int .i64 0, .int .i64 0, .int .i64 0, .string ⟨#[]⟩], .bool false] := by kernel_rfl

set_option maxRecDepth 20000 in
set_option maxHeartbeats 1000000 in
theorem parsed_any (w : World) (hm : MaxAt w) (ht : TenAt w) :
    Calls Tryd.prog 8 #[] w (Gives (.bool true) w) := by
  have P1 : Hid (∀ w, MaxAt w → Calls Tryd.prog 9 #[.string ⟨#[49, 46, 50, 46, 48, 45, 114, 99, 46, 49, 48]⟩] w (Gives (.tuple #[.agg #[.int .i64 1, .int .i64 2, .int .i64 0, .string ⟨#[114, 99, 46, 49, 48]⟩], .bool true]) w)) := hid (fun w h => by have := parse_any t1 (by decide) w h; rw [p1] at this; exact this)
  have P2 : Hid (∀ w, MaxAt w → Calls Tryd.prog 9 #[.string ⟨#[49, 46, 50, 46, 48]⟩] w (Gives (.tuple #[.agg #[.int .i64 1, .int .i64 2, .int .i64 0, .string ⟨#[]⟩], .bool true]) w)) := hid (fun w h => by have := parse_any t2 (by decide) w h; rw [p2] at this; exact this)
  have P3 : Hid (∀ w, MaxAt w → Calls Tryd.prog 9 #[.string ⟨#[49, 46, 48, 50, 46, 48]⟩] w (Gives (.tuple #[.agg #[.int .i64 0, .int .i64 0, .int .i64 0, .string ⟨#[]⟩], .bool false]) w)) := hid (fun w h => by have := parse_any t3 (by decide) w h; rw [p3] at this; exact this)
  have C1 : Hid (∀ w, Calls Tryd.prog 15 #[.agg #[.int .i64 1, .int .i64 2, .int .i64 0, .string ⟨#[114, 99, 46, 49, 48]⟩], .agg #[.int .i64 1, .int .i64 2, .int .i64 0, .string ⟨#[]⟩]] w (Gives (.int .i64 (-1)) w)) := hid (compare_rel 1 2 0 ⟨#[114, 99, 46, 49, 48]⟩ (by decide))
  have T1 : Hid (∀ w, MaxAt w → TenAt w → Calls Tryd.prog 12 #[.agg #[.int .i64 1, .int .i64 2, .int .i64 0, .string ⟨#[]⟩]] w (Gives (.string ⟨#[49, 46, 50, 46, 48]⟩) w)) := hid (fun w h h' => by
    have := text_yes 1 2 0 [] (by decide) (by decide) (by decide) (by decide) (.inl rfl) w h h'
    have e : (⟨(textV 1 2 0 []).toArray⟩ : ByteArray) = ⟨#[49, 46, 50, 46, 48]⟩ := by
      have : textV 1 2 0 [] = [49, 46, 50, 46, 48] := by unfold textV textN; rw [decS_small (by decide), decS_small (by decide), decS_small (by decide)]; rfl
      rw [this]
    rw [e] at this; exact this)
  go_enter Tryd.func8, Tryd.ntmps8
  go_wp2_with (go_at_call 9; ((with_reducible refine (P1.out _ hm).mono ?_); rintro e w1 ⟨rfl, hb1⟩))
  have hv : Blk (w1.alloc (.cells #[.int .i64 1, .int .i64 2, .int .i64 0, .string ⟨#[114, 99, 46, 49, 48]⟩] 25)) w1.heap.size [.int .i64 1, .int .i64 2, .int .i64 0, .string ⟨#[114, 99, 46, 49, 48]⟩] 25 := Blk.new w1 _ _
  have hA := below_alloc hb1 (.cells #[.int .i64 1, .int .i64 2, .int .i64 0, .string ⟨#[114, 99, 46, 49, 48]⟩] 25)
  generalize w1.alloc (.cells #[.int .i64 1, .int .i64 2, .int .i64 0, .string ⟨#[114, 99, 46, 49, 48]⟩] 25) = W1 at hv hA ⊢
  generalize w1.heap.size = v at hv ⊢
  refine (P2.out _ (hm.below hA)).mono ?_
  rintro e w2 ⟨rfl, hb2⟩
  have hv2 := hv.below hb2
  have hA2 := below_trans hA hb2
  clear hv hA hb2 hb1
  go_wp2_with fail
  have g2 : Tryd.prog.eqGuardType Tryd.prog.depth 25 = false := by kernel_rfl
  have hw : Blk (w2.alloc (.cells #[.int .i64 1, .int .i64 2, .int .i64 0, .string ⟨#[]⟩] 25)) w2.heap.size [.int .i64 1, .int .i64 2, .int .i64 0, .string ⟨#[]⟩] 25 := Blk.new w2 _ _
  have hA3 := below_alloc hA2 (.cells #[.int .i64 1, .int .i64 2, .int .i64 0, .string ⟨#[]⟩] 25)
  have hv3 := hv2.alloc (.cells #[.int .i64 1, .int .i64 2, .int .i64 0, .string ⟨#[]⟩] 25)
  generalize w2.alloc (.cells #[.int .i64 1, .int .i64 2, .int .i64 0, .string ⟨#[]⟩] 25) = W2 at hw hA3 hv3 ⊢
  generalize w2.heap.size = u at hw ⊢
  refine (P3.out _ (hm.below hA3)).mono ?_
  rintro e w3 ⟨rfl, hb3⟩
  have hv4 := hv3.below hb3
  have hw4 := hw.below hb3
  have hA4 := below_trans hA3 hb3
  clear hv2 hv3 hw hA2 hA3 hb3
  have v0 : ∀ o, (w3.alloc o).cell? ⟨v, 0, none⟩ = some _ := fun o => (hv4.alloc o).cell 0 rfl
  have v1 : ∀ o, (w3.alloc o).cell? ⟨v, 1, none⟩ = some _ := fun o => (hv4.alloc o).cell 1 rfl
  have v2 : ∀ o, (w3.alloc o).cell? ⟨v, 2, none⟩ = some _ := fun o => (hv4.alloc o).cell 2 rfl
  have v3 : ∀ o, (w3.alloc o).cell? ⟨v, 3, none⟩ = some _ := fun o => (hv4.alloc o).cell 3 rfl
  have u0 : ∀ o, (w3.alloc o).cell? ⟨u, 0, none⟩ = some _ := fun o => (hw4.alloc o).cell 0 rfl
  have u1 : ∀ o, (w3.alloc o).cell? ⟨u, 1, none⟩ = some _ := fun o => (hw4.alloc o).cell 1 rfl
  have u2 : ∀ o, (w3.alloc o).cell? ⟨u, 2, none⟩ = some _ := fun o => (hw4.alloc o).cell 2 rfl
  have u3 : ∀ o, (w3.alloc o).cell? ⟨u, 3, none⟩ = some _ := fun o => (hw4.alloc o).cell 3 rfl
  go_wp2_with fail
  have hA5 := below_alloc hA4 (.cells #[.int .i64 0, .int .i64 0, .int .i64 0, .string ⟨#[]⟩] 25)
  have hw5 := hw4.alloc (.cells #[.int .i64 0, .int .i64 0, .int .i64 0, .string ⟨#[]⟩] 25)
  clear v0 v1 v2 v3 u0 u1 u2 u3
  generalize w3.alloc (.cells #[.int .i64 0, .int .i64 0, .int .i64 0, .string ⟨#[]⟩] 25) = W5 at hA5 hw5 ⊢
  refine (C1.out _).mono ?_
  rintro e w4 ⟨rfl, hb4⟩
  have hw6 := hw5.below hb4
  have hA6 := below_trans hA5 hb4
  have u0 := hw6.cell 0 rfl
  have u1 := hw6.cell 1 rfl
  have u2 := hw6.cell 2 rfl
  have u3 := hw6.cell 3 rfl
  go_wp2_with (go_at_call 12; (with_reducible refine (T1.out _ (hm.below hA6) (ht.below hA6)).mono ?_); rintro e w7 ⟨rfl, hb7⟩)
  go_ret
  exact gives rfl rfl (below_trans hA6 hb7)
end Go.Proofs.YtiihhgdbgmplaaaDoor.Vs
