/-
  LAYER 4: what the laws begin with (taken).
-/
import Derived.Test.YtjiofenpalokoaaGreatDoorSpecHasR
namespace Go.Proofs.YtjiofenpalokoaaGreatDoor.Sp
open Go.RowKit
open Go.Proofs.YtjiofenpalokoaaGreatDoor Go.Proofs.YtjiofenpalokoaaGreatDoor.Nu Go.Proofs.YtjiofenpalokoaaGreatDoor.Vs

def SomeRng (n : Nat) (rs : List (List CompT)) (w : World) (e : Ending) (w' : World) : Prop :=
  ∃ G cp, e = .returned (.tuple #[.agg #[.slice (some ⟨G, 0, none⟩) n cp], .bool true]) ∧ Below w.heap.size w w' ∧ RngAt w' (.slice (some ⟨G, 0, none⟩) n cp) rs
theorem parse_some (s : ByteArray) (hs : s.size < 4294967281) {rs : List (List CompT)} (h : rngOf s.data.toList = some rs) (w : World) (hm : MaxAt w) (hg : SignsAt w) :
    Calls Tryz.prog 12 #[.string s] w (SomeRng rs.length rs w) := by
  refine (parse_rng s hs w hm hg).mono ?_
  rintro e w' ⟨hb, hc⟩
  rcases hc with ⟨h0, _⟩ | ⟨rs', v, h1, rfl, h2⟩
  · rw [h] at h0; cases h0
  · rw [h] at h1
    cases h1
    have h2' := h2
    obtain ⟨G, cp, _, rfl, _⟩ := h2
    exact ⟨G, cp, rfl, hb, h2'⟩
theorem parse_none (s : ByteArray) (hs : s.size < 4294967281) (h : rngOf s.data.toList = none) (w : World) (hm : MaxAt w) (hg : SignsAt w) :
    Calls Tryz.prog 12 #[.string s] w (Gives (.tuple #[.agg #[.slice none 0 0], .bool false]) w) := by
  refine (parse_rng s hs w hm hg).mono ?_
  rintro e w' ⟨hb, hc⟩
  rcases hc with ⟨_, rfl⟩ | ⟨rs', v, h1, _⟩
  · exact gives rfl rfl hb
  · rw [h] at h1; cases h1

def tT : ByteArray := ⟨#[94, 48, 46, 50, 46, 49, 124, 62, 61, 49, 46, 48, 46, 48, 45, 98, 44, 60, 50, 46, 48, 46, 48]⟩
def tR : List (List CompT) := [[⟨7, 0, 2, 1, []⟩], [⟨5, 1, 0, 0, [98]⟩, ⟨2, 2, 0, 0, []⟩]]
theorem tP : rngOf tT.data.toList = some tR := by kernel_rfl
theorem tH1 : rngHas tR 0 2 9 [] = true := by kernel_rfl
theorem tH2 : rngHas tR 0 3 0 [] = false := by kernel_rfl
theorem tH3 : rngHas tR 1 0 0 [99] = true := by kernel_rfl
theorem v1P : parseT (ByteArray.mk #[48, 46, 50, 46, 57]).data.toList = .tuple #[.agg #[.int .i64 0, .int .i64 2, .int .i64 9, .string ⟨#[]⟩], .bool true] := by kernel_rfl
theorem v2P : parseT (ByteArray.mk #[48, 46, 51, 46, 48]).data.toList = .tuple #[.agg #[.int .i64 0, .int .i64 3, .int .i64 0, .string ⟨#[]⟩], .bool true] := by kernel_rfl
theorem v3P : parseT (ByteArray.mk #[49, 46, 48, 46, 48, 45, 99]).data.toList = .tuple #[.agg #[.int .i64 1, .int .i64 0, .int .i64 0, .string ⟨#[99]⟩], .bool true] := by kernel_rfl

set_option maxRecDepth 20000 in
set_option maxHeartbeats 2000000 in
theorem taken_any (w : World) (hm : MaxAt w) (ht : TenAt w) (hg : SignsAt w) : Calls Tryz.prog 11 #[] w (Gives (.bool true) w) := by
  obtain ⟨tx, tok⟩ := rngOf_ok tP
  have H0 := hid (show ∀ w, MaxAt w → SignsAt w → Calls Tryz.prog 12 #[.string ⟨#[94, 48, 46, 50, 46, 49, 124, 62, 61, 49, 46, 48, 46, 48, 45, 98, 44, 60, 50, 46, 48, 46, 48]⟩] w (SomeRng 2 tR w) from fun w hm hg => parse_some tT (by decide) tP w hm hg)
  have H1 := hid (show ∀ w, MaxAt w → Calls Tryz.prog 24 #[.string ⟨#[48, 46, 50, 46, 57]⟩] w (Gives (.tuple #[.agg #[.int .i64 0, .int .i64 2, .int .i64 9, .string ⟨#[]⟩], .bool true]) w) from fun w h => by have := parse_any ⟨#[48, 46, 50, 46, 57]⟩ (by decide) w h; rw [v1P] at this; exact this)
  have H2 := hid (show ∀ w, MaxAt w → Calls Tryz.prog 24 #[.string ⟨#[48, 46, 51, 46, 48]⟩] w (Gives (.tuple #[.agg #[.int .i64 0, .int .i64 3, .int .i64 0, .string ⟨#[]⟩], .bool true]) w) from fun w h => by have := parse_any ⟨#[48, 46, 51, 46, 48]⟩ (by decide) w h; rw [v2P] at this; exact this)
  have H3 := hid (show ∀ w, MaxAt w → Calls Tryz.prog 24 #[.string ⟨#[49, 46, 48, 46, 48, 45, 99]⟩] w (Gives (.tuple #[.agg #[.int .i64 1, .int .i64 0, .int .i64 0, .string ⟨#[99]⟩], .bool true]) w) from fun w h => by have := parse_any ⟨#[49, 46, 48, 46, 48, 45, 99]⟩ (by decide) w h; rw [v3P] at this; exact this)
  have R1 := hid (show ∀ v w, MaxAt w → TenAt w → SignsAt w → RngAt w v tR → Calls Tryz.prog 19 #[.agg #[v], .agg #[.int .i64 0, .int .i64 2, .int .i64 9, .string ⟨#[]⟩]] w (Gives (.bool true) w) from fun v w h1 h2 h3 h4 => by
    have := hasR_any tR v tok 0 2 9 [] ⟨by decide, by decide, by decide, .inl rfl⟩ w h1 h2 h3 h4
    rw [tH1] at this; exact this)
  have R2 := hid (show ∀ v w, MaxAt w → TenAt w → SignsAt w → RngAt w v tR → Calls Tryz.prog 19 #[.agg #[v], .agg #[.int .i64 0, .int .i64 3, .int .i64 0, .string ⟨#[]⟩]] w (Gives (.bool false) w) from fun v w h1 h2 h3 h4 => by
    have := hasR_any tR v tok 0 3 0 [] ⟨by decide, by decide, by decide, .inl rfl⟩ w h1 h2 h3 h4
    rw [tH2] at this; exact this)
  have R3 := hid (show ∀ v w, MaxAt w → TenAt w → SignsAt w → RngAt w v tR → Calls Tryz.prog 19 #[.agg #[v], .agg #[.int .i64 1, .int .i64 0, .int .i64 0, .string ⟨#[99]⟩]] w (Gives (.bool true) w) from fun v w h1 h2 h3 h4 => by
    have := hasR_any tR v tok 1 0 0 [99] ⟨by decide, by decide, by decide, .inr (by kernel_rfl)⟩ w h1 h2 h3 h4
    rw [tH3] at this; exact this)
  have RX := hid (show ∀ v w, MaxAt w → TenAt w → SignsAt w → RngAt w v tR → Calls Tryz.prog 15 #[.agg #[v]] w (Gives (.string ⟨#[94, 48, 46, 50, 46, 49, 124, 62, 61, 49, 46, 48, 46, 48, 45, 98, 44, 60, 50, 46, 48, 46, 48]⟩) w) from fun v w h1 h2 h3 h4 => by
    have := textR_any tR v tok w h1 h2 h3 h4
    rw [tx] at this; exact this)
  clear tx tok
  go_enter Tryz.func11, Tryz.ntmps11
  go_wp2_with fail
  refine (H0.out _ hm hg).mono ?_
  rintro e w1 ⟨G, cp, rfl, hb1, hr1⟩
  have hr2 := hid (hr1.below (below_alloc (Below.refl _ _) (.cells #[.slice (some ⟨G, 0, none⟩) 2 cp] 25)))
  have hn2 := hid (Blk.new w1 [.slice (some ⟨G, 0, none⟩) 2 cp] 25)
  have hb2 := hid (below_alloc hb1 (.cells #[.slice (some ⟨G, 0, none⟩) 2 cp] 25))
  clear hb1 hr1
  go_wp2_with fail
  generalize w1.alloc (.cells [.slice (some ⟨G, 0, none⟩) 2 cp].toArray 25) = W1 at hr2 hn2 hb2 ⊢
  generalize w1.heap.size = b1 at hn2 ⊢
  refine (H1.out _ (hm.below hb2.out)).mono ?_
  rintro e w2 ⟨rfl, hb3⟩
  have hr3 := hid ((hr2.out.below hb3).below (below_alloc (Below.refl _ _) (.cells #[.int .i64 0, .int .i64 2, .int .i64 9, .string ⟨#[]⟩] 38)))
  have hn3 := hid ((hn2.out.below hb3).alloc (.cells #[.int .i64 0, .int .i64 2, .int .i64 9, .string ⟨#[]⟩] 38))
  have ha3 := hid (Blk.new w2 [.int .i64 0, .int .i64 2, .int .i64 9, .string ⟨#[]⟩] 38)
  have hbb3 := hid (below_alloc (below_trans hb2.out hb3) (.cells #[.int .i64 0, .int .i64 2, .int .i64 9, .string ⟨#[]⟩] 38))
  clear hr2 hn2 hb2 hb3
  go_wp2_with fail
  generalize w2.alloc (.cells [.int .i64 0, .int .i64 2, .int .i64 9, .string ⟨#[]⟩].toArray 38) = W2 at hr3 hn3 ha3 hbb3 ⊢
  generalize w2.heap.size = b2 at ha3 ⊢
  refine (H2.out _ (hm.below hbb3.out)).mono ?_
  rintro e w3 ⟨rfl, hb4⟩
  have hr4 := hid ((hr3.out.below hb4).below (below_alloc (Below.refl _ _) (.cells #[.int .i64 0, .int .i64 3, .int .i64 0, .string ⟨#[]⟩] 38)))
  have hn4 := hid ((hn3.out.below hb4).alloc (.cells #[.int .i64 0, .int .i64 3, .int .i64 0, .string ⟨#[]⟩] 38))
  have ha4 := hid ((ha3.out.below hb4).alloc (.cells #[.int .i64 0, .int .i64 3, .int .i64 0, .string ⟨#[]⟩] 38))
  have hc4 := hid (Blk.new w3 [.int .i64 0, .int .i64 3, .int .i64 0, .string ⟨#[]⟩] 38)
  have hbb4 := hid (below_alloc (below_trans hbb3.out hb4) (.cells #[.int .i64 0, .int .i64 3, .int .i64 0, .string ⟨#[]⟩] 38))
  clear hr3 hn3 ha3 hbb3 hb4
  go_wp2_with fail
  generalize w3.alloc (.cells [.int .i64 0, .int .i64 3, .int .i64 0, .string ⟨#[]⟩].toArray 38) = W3 at hr4 hn4 ha4 hc4 hbb4 ⊢
  generalize w3.heap.size = b3 at hc4 ⊢
  refine (H3.out _ (hm.below hbb4.out)).mono ?_
  rintro e w4 ⟨rfl, hb5⟩
  have hr5 := hid ((hr4.out.below hb5).below (below_alloc (Below.refl _ _) (.cells #[.int .i64 1, .int .i64 0, .int .i64 0, .string ⟨#[99]⟩] 38)))
  have hn5 := hid ((hn4.out.below hb5).alloc (.cells #[.int .i64 1, .int .i64 0, .int .i64 0, .string ⟨#[99]⟩] 38))
  have ha5 := hid ((ha4.out.below hb5).alloc (.cells #[.int .i64 1, .int .i64 0, .int .i64 0, .string ⟨#[99]⟩] 38))
  have hc5 := hid ((hc4.out.below hb5).alloc (.cells #[.int .i64 1, .int .i64 0, .int .i64 0, .string ⟨#[99]⟩] 38))
  have hd5 := hid (Blk.new w4 [.int .i64 1, .int .i64 0, .int .i64 0, .string ⟨#[99]⟩] 38)
  have hbb5 := hid (below_alloc (below_trans hbb4.out hb5) (.cells #[.int .i64 1, .int .i64 0, .int .i64 0, .string ⟨#[99]⟩] 38))
  have k0 := (hn4.out.below hb5).cell 0 rfl
  have k1 := (hn4.out.below hb5).lt
  have m0 := (ha4.out.below hb5).cell 0 rfl
  have m1 := (ha4.out.below hb5).cell 1 rfl
  have m2 := (ha4.out.below hb5).cell 2 rfl
  have m3 := (ha4.out.below hb5).cell 3 rfl
  have m4 := (ha4.out.below hb5).lt
  clear hr4 hn4 ha4 hc4 hbb4 hb5
  go_wp2_with fail
  clear k0 k1 m0 m1 m2 m3 m4
  generalize w4.alloc (.cells [.int .i64 1, .int .i64 0, .int .i64 0, .string ⟨#[99]⟩].toArray 38) = W4 at hr5 hn5 ha5 hc5 hd5 hbb5 ⊢
  generalize w4.heap.size = b4 at hd5 ⊢
  refine (R1.out _ _ (hm.below hbb5.out) (ht.below hbb5.out) (hg.below hbb5.out) hr5.out).mono ?_
  rintro e w5 ⟨rfl, hb6⟩
  have hr6 := hid (hr5.out.below hb6)
  have hn6 := hid (hn5.out.below hb6)
  have hc6 := hid (hc5.out.below hb6)
  have hd6 := hid (hd5.out.below hb6)
  have hbb6 := hid (below_trans hbb5.out hb6)
  have k0 := hn6.out.cell 0 rfl
  have m0 := hc6.out.cell 0 rfl
  have m1 := hc6.out.cell 1 rfl
  have m2 := hc6.out.cell 2 rfl
  have m3 := hc6.out.cell 3 rfl
  clear hr5 hn5 ha5 hc5 hd5 hbb5 hb6
  go_wp2_with fail
  clear k0 m0 m1 m2 m3
  refine (R2.out _ _ (hm.below hbb6.out) (ht.below hbb6.out) (hg.below hbb6.out) hr6.out).mono ?_
  rintro e w6 ⟨rfl, hb7⟩
  have hr7 := hid (hr6.out.below hb7)
  have hn7 := hid (hn6.out.below hb7)
  have hd7 := hid (hd6.out.below hb7)
  have hbb7 := hid (below_trans hbb6.out hb7)
  have k0 := hn7.out.cell 0 rfl
  have m0 := hd7.out.cell 0 rfl
  have m1 := hd7.out.cell 1 rfl
  have m2 := hd7.out.cell 2 rfl
  have m3 := hd7.out.cell 3 rfl
  clear hr6 hn6 hc6 hd6 hbb6 hb7
  go_wp2_with fail
  clear k0 m0 m1 m2 m3
  refine (R3.out _ _ (hm.below hbb7.out) (ht.below hbb7.out) (hg.below hbb7.out) hr7.out).mono ?_
  rintro e w7 ⟨rfl, hb8⟩
  have hr8 := hid (hr7.out.below hb8)
  have hn8 := hid (hn7.out.below hb8)
  have hbb8 := hid (below_trans hbb7.out hb8)
  have k0 := hn8.out.cell 0 rfl
  clear hr7 hn7 hd7 hbb7 hb8
  go_wp2_with fail
  clear k0
  refine (RX.out _ _ (hm.below hbb8.out) (ht.below hbb8.out) (hg.below hbb8.out) hr8.out).mono ?_
  rintro e w8 ⟨rfl, hb9⟩
  go_wp2_with fail
  go_ret
  exact gives rfl rfl (below_trans hbb8.out hb9)
end Go.Proofs.YtjiofenpalokoaaGreatDoor.Sp
