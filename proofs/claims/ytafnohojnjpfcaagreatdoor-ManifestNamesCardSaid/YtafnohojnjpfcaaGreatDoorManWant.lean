/-
  LAYER 9: the statements' own example.
-/
import Derived.Test.YtafnohojnjpfcaaGreatDoorManParse
namespace Go.Proofs.YtafnohojnjpfcaaGreatDoor.Ix
open Go.RowKit
open Go.Proofs.YtafnohojnjpfcaaGreatDoor Go.Proofs.YtafnohojnjpfcaaGreatDoor.Ln Go.Proofs.YtafnohojnjpfcaaGreatDoor.Vs Go.Proofs.YtafnohojnjpfcaaGreatDoor.Sp Go.Proofs.YtafnohojnjpfcaaGreatDoor.Sf

def wantT : List UInt8 := [109, 97, 110, 105, 102, 101, 115, 116, 10, 114, 111, 111, 116, 32, 97, 112, 112, 32, 94, 49, 46, 48, 46, 48, 32, 116, 108, 115, 10]
def wantU : List UInt8 := [114, 111, 111, 116, 32, 97, 112, 112, 32, 42, 10]
def wantN : NeedS := ⟨[97, 112, 112], [94, 49, 46, 48, 46, 48], [[116, 108, 115]]⟩
theorem want_one : manP wantT = .ok [wantN] := by kernel_rfl
theorem want_two : manP wantU = .error (1, 1, 1) := by kernel_rfl

/-- a law comes to true, and makes memory of its own at most -/
def LawOk (w : World) (e : Ending) (w' : World) : Prop := e = .returned (.bool true) ∧ Below w.heap.size w w'
/-- Parse of a text that is a manifest, and of one that is none -/
def ManYes (ns : List NeedS) (w : World) (e : Ending) (w' : World) : Prop := ∃ a cp, e = .returned (.tuple #[.agg #[.slice a ns.length cp], .agg #[.int .i64 0, .int .i64 0, .int .i64 0]]) ∧ Below w.heap.size w w' ∧ NeedsV w' (.slice a ns.length cp) ns
def ManNo (c no col : Nat) (w : World) (e : Ending) (w' : World) : Prop := e = .returned (.tuple #[.agg #[.slice none 0 0], .agg #[.int .i64 (c : Int), .int .i64 (no : Int), .int .i64 (col : Int)]]) ∧ Below w.heap.size w w'
theorem manParse_yes {l : List UInt8} {ns : List NeedS} (h : manP l = .ok ns) (hs : l.length ≤ 1099511627776) (w : World) (hm : MaxAt w) (hg : SignsAt w) : Calls Tryz.prog 47 #[.string ⟨l.toArray⟩] w (ManYes ns w) :=
  (manParse_any l hs w hm hg).mono fun e w' ⟨hb, hc⟩ => by
    rw [h] at hc
    obtain ⟨mv, he, hv⟩ := hc
    obtain ⟨a, cp, rfl, h2⟩ := hv
    exact ⟨a, cp, he, hb, a, cp, rfl, h2⟩
theorem manParse_no {l : List UInt8} {c no col : Nat} (h : manP l = .error (c, no, col)) (hs : l.length ≤ 1099511627776) (w : World) (hm : MaxAt w) (hg : SignsAt w) : Calls Tryz.prog 47 #[.string ⟨l.toArray⟩] w (ManNo c no col w) :=
  (manParse_any l hs w hm hg).mono fun e w' ⟨hb, hc⟩ => by
    rw [h] at hc
    exact ⟨hc, hb⟩

set_option maxRecDepth 100000 in
set_option maxHeartbeats 4000000 in
theorem wanted_any (w : World) (hm : MaxAt w) (hg : SignsAt w) : Calls Tryz.prog 49 #[] w (LawOk w) := by
  have C1 := hid (fun w hm hg => show Calls Tryz.prog 47 #[.string ⟨#[109, 97, 110, 105, 102, 101, 115, 116, 10, 114, 111, 111, 116, 32, 97, 112, 112, 32, 94, 49, 46, 48, 46, 48, 32, 116, 108, 115, 10]⟩] w (ManYes [wantN] w) from manParse_yes want_one (by decide) w hm hg)
  have C2 := hid (fun w hm hg => show Calls Tryz.prog 47 #[.string ⟨#[114, 111, 111, 116, 32, 97, 112, 112, 32, 42, 10]⟩] w (ManNo 1 1 1 w) from manParse_no want_two (by decide) w hm hg)
  unfold ManYes at C1
  unfold ManNo at C2
  go_enter Tryz.func49, Tryz.ntmps49
  go_wp2_with fail
  refine (C1.out w hm hg).mono ?_
  rintro e w1 ⟨a, cp, rfl, hb1, hv⟩
  obtain ⟨a', cp', he, hne⟩ := hv
  injection he with e1 e2 e3
  subst e1
  subst e3
  obtain ⟨G, cells, rfl, hG, hc, hN⟩ := hne (by simp)
  obtain ⟨n0, r0, f0, h0, h1, h2, hnm, hrg, hft⟩ := hN.2 0 wantN rfl
  subst hnm
  obtain ⟨fa, fcp, rfl, _, _, hfs⟩ := hft
  obtain ⟨FB, rfl, hFB, _, hfc⟩ := hfs (by simp [wantN])
  have g0 := hc 0 _ h0
  have g2 := hc 2 _ h2
  have k0 := hfc 0 (by decide)
  have z1 := hid (below_alloc (below_alloc hb1 (.cells #[.slice (some ⟨G, 0, none⟩) 1 cp] 106)) (.cells #[.int .i64 0, .int .i64 0, .int .i64 0] 27))
  have y1 := hid (below_alloc (below_alloc (Below.refl w1.heap.size w1) (.cells #[.slice (some ⟨G, 0, none⟩) 1 cp] 106)) (.cells #[.int .i64 0, .int .i64 0, .int .i64 0] 27))
  have eM : (w1.alloc (.cells #[.slice (some ⟨G, 0, none⟩) 1 cp] 106)).heap.size = w1.heap.size + 1 := by simp
  have m1 := (Blk.new w1 [.slice (some ⟨G, 0, none⟩) 1 cp] 106).alloc (.cells #[.int .i64 0, .int .i64 0, .int .i64 0] 27)
  have f1 := Blk.new (w1.alloc (.cells #[.slice (some ⟨G, 0, none⟩) 1 cp] 106)) [.int .i64 0, .int .i64 0, .int .i64 0] 27
  rw [eM] at f1
  replace g0 := hid (bcell y1.out g0)
  replace g2 := hid (bcell y1.out g2)
  replace k0 := hid (bcell y1.out k0)
  replace m1 := hid m1
  replace f1 := hid f1
  clear hb1 y1 eM h0 h1 h2 hc hN hrg hfs hfc hne hG hFB
  go_wp2_with fail
  generalize (w1.alloc (.cells #[.slice (some ⟨G, 0, none⟩) 1 cp] 106)).alloc (.cells #[.int .i64 0, .int .i64 0, .int .i64 0] 27) = W1 at z1 m1 f1 g0 g2 k0 ⊢
  change Hid (Blk W1 w1.heap.size [.slice (some ⟨G, 0, none⟩) 1 cp] 106) at m1
  change Hid (Blk W1 (w1.heap.size + 1) [.int .i64 0, .int .i64 0, .int .i64 0] 27) at f1
  generalize w1.heap.size = b1 at m1 f1 ⊢
  refine (C2.out W1 (hm.below z1.out) (hg.below z1.out)).mono ?_
  rintro e w2 ⟨rfl, hb2⟩
  have z2 := hid (below_trans z1.out hb2)
  have m2 := m1.out.below hb2
  have f2 := f1.out.below hb2
  have p0 := m2.cell 0 rfl
  have p1 := m2.lt
  have q0 := f2.cell 0 rfl
  have q1 := f2.cell 1 rfl
  have q2 := f2.cell 2 rfl
  have q3 := f2.lt
  have g02 := bcell hb2 g0.out
  have g22 := bcell hb2 g2.out
  have gl := World.block_lt_of_cell? w2 _ g02
  have k02 := hid (bcell hb2 k0.out)
  have kl := hid (World.block_lt_of_cell? w2 _ k02.out)
  clear m2 f2 hb2 m1 f1 g0 g2 k0 z1 C1 C2
  change w2.cell? ⟨G, 0, none⟩ = some (.string ⟨#[97, 112, 112]⟩) at g02
  change w2.cell? ⟨G, 2, none⟩ = some (.slice (some ⟨FB, 0, none⟩) 1 fcp) at g22
  change Hid (w2.cell? ⟨FB, 0, none⟩ = some (.string ⟨#[116, 108, 115]⟩)) at k02
  have e1 : (w2.alloc (.cells #[.slice none 0 0] 106)).heap.size = w2.heap.size + 1 := by simp
  have e2 : ((w2.alloc (.cells #[.slice none 0 0] 106)).alloc (.cells #[.int .i64 1, .int .i64 1, .int .i64 1] 27)).heap.size = w2.heap.size + 1 + 1 := by simp
  have n1 := (Blk.new (w2.alloc (.cells #[.slice none 0 0] 106)) [.int .i64 1, .int .i64 1, .int .i64 1] 27).alloc (.cells #[.string ⟨#[116, 108, 115]⟩] 9)
  have r2 := rowIs_new ((w2.alloc (.cells #[.slice none 0 0] 106)).alloc (.cells #[.int .i64 1, .int .i64 1, .int .i64 1] 27)) [.string ⟨#[116, 108, 115]⟩] 9 _ e2.symm
  rw [e1] at n1
  have z3 := hid (below_alloc (below_alloc (below_alloc z2.out (.cells #[.slice none 0 0] 106)) (.cells #[.int .i64 1, .int .i64 1, .int .i64 1] 27)) (.cells #[.string ⟨#[116, 108, 115]⟩] 9))
  have y3 := below_alloc (below_alloc (below_alloc (Below.refl w2.heap.size w2) (.cells #[.slice none 0 0] 106)) (.cells #[.int .i64 1, .int .i64 1, .int .i64 1] 27)) (.cells #[.string ⟨#[116, 108, 115]⟩] 9)
  have r1 : RowIs (((w2.alloc (.cells #[.slice none 0 0] 106)).alloc (.cells #[.int .i64 1, .int .i64 1, .int .i64 1] 27)).alloc (.cells #[.string ⟨#[116, 108, 115]⟩] 9)) (.slice (some ⟨FB, 0, none⟩) 1 fcp) (Ln.strs [[116, 108, 115]]) :=
    .inr ⟨FB, 0, fcp, rfl, fun k x hk => by
      cases k with
      | zero => cases hk; exact bcell y3 k02.out
      | succ k => cases hk⟩
  have TX := hid (texts_eq [[116, 108, 115]] (by decide) _ _ _ r1 r2)
  replace n1 := hid n1
  clear e1 e2 r1 r2 y3
  go_wp2_with fail
  generalize ((w2.alloc (.cells #[.slice none 0 0] 106)).alloc (.cells #[.int .i64 1, .int .i64 1, .int .i64 1] 27)).alloc (.cells #[.string ⟨#[116, 108, 115]⟩] 9) = W3 at z3 n1 TX ⊢
  refine (show Calls Tryz.prog 56 #[.slice (some ⟨FB, 0, none⟩) 1 fcp, .slice (some ⟨w2.heap.size + 1 + 1, 0, none⟩) 1 1] W3 (TrueQ W3) from TX.out).mono ?_
  rintro e w4 ⟨rfl, m, rfl⟩
  have n1' : Blk (W3.drewN m) (w2.heap.size + 1) [.int .i64 1, .int .i64 1, .int .i64 1] 27 := n1.out
  have x0 := n1'.cell 0 rfl
  have x1 := n1'.cell 1 rfl
  have x2 := n1'.cell 2 rfl
  go_wp2_with fail
  go_ret
  exact ⟨rfl, below_drewN' z3.out m⟩
end Go.Proofs.YtafnohojnjpfcaaGreatDoor.Ix
