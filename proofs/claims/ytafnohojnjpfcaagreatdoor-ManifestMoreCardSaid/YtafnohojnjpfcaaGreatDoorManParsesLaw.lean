/-
  LAYER 9, ManifestParses: every text is a manifest, or none, and why and where is told, as the chapter says.
-/
import Derived.Test.YtafnohojnjpfcaaGreatDoorManOf
import Derived.Test.YtafnohojnjpfcaaGreatDoorIF
import Derived.Test.YtafnohojnjpfcaaGreatDoorDocParse
namespace Go.Proofs.YtafnohojnjpfcaaGreatDoor.Ix
open Go.RowKit
open Go.Proofs.YtafnohojnjpfcaaGreatDoor Go.Proofs.YtafnohojnjpfcaaGreatDoor.Ln Go.Proofs.YtafnohojnjpfcaaGreatDoor.Vs Go.Proofs.YtafnohojnjpfcaaGreatDoor.Sp Go.Proofs.YtafnohojnjpfcaaGreatDoor.Sf

theorem featsP_len {ws : Words} {cs : List Nat} : ∀ (f t : Nat) (fs r : Words), fs.length ≤ 4 → featsP 4 ws cs f t fs = .ok r → r.length ≤ 4 := by
  intro f
  induction f with
  | zero => intro t fs r h e; unfold featsP at e; cases e; exact h
  | succ f ih =>
    intro t fs r h e
    unfold featsP at e
    split at e
    · cases e; exact h
    · split at e
      · cases e
      · split at e
        · cases e
        · split at e
          · cases e
          · exact ih _ _ _ (by rw [List.length_append]; simp; omega) e
theorem needP_len {ws : Words} {cs : List Nat} {t t' : Nat} {n : NeedS} (h : needP 4 ws cs t = .ok (n, t')) : n.feats.length ≤ 4 := by
  unfold needP at h
  split at h
  · cases h
  · split at h
    · cases h
    · rw [if_pos (by decide)] at h
      split at h
      · cases h
      · rename_i he
        cases h
        exact featsP_len _ _ _ _ (by simp) he
/-- few roots of few features -/
def Few (out : List NeedS) : Prop := out.length ≤ 8 ∧ ∀ n, n ∈ out → n.feats.length ≤ 4
theorem manLine_few {b : Bool} {ws : Words} {cs : List Nat} {out out' : List NeedS} (h0 : Few out) (h : manLine b ws cs out = .ok out') : Few out' := by
  unfold manLine at h
  cases b with
  | true =>
    rw [if_pos rfl] at h
    split at h
    · cases h
    · split at h
      · cases h
      · rename_i h8
        split at h
        · cases h
        · rename_i n t hn
          unfold endW at h
          split at h
          · cases h
          · cases h
            refine ⟨by rw [List.length_append]; have := h0.1; simp; omega, fun x hx => ?_⟩
            rcases List.mem_append.1 hx with hx | hx
            · exact h0.2 x hx
            · rw [List.mem_singleton.1 hx]; exact needP_len hn
  | false =>
    rw [if_neg (by simp)] at h
    split at h
    · cases h
    · unfold endW at h
      split at h
      · cases h
      · cases h; exact h0
theorem manGo_few : ∀ (xs : List LineS) (b : Bool) (out : List NeedS) {ns : List NeedS}, Few out → manGo xs b out = .ok ns → Few ns := by
  intro xs
  induction xs with
  | nil => intro b out ns h0 h; unfold manGo at h; cases h; exact h0
  | cons x xs ih =>
    intro b out ns h0 h
    obtain ⟨n, ws, cs⟩ := x
    unfold manGo at h
    split at h
    · cases h
    · rename_i he; exact ih _ _ (manLine_few h0 he) h
theorem manP_few {l : List UInt8} {ns : List NeedS} (h : manP l = .ok ns) : Few ns := by
  unfold manP at h
  split at h
  · cases h
  · unfold manL at h
    split at h
    · cases h
    · exact manGo_few _ _ _ ⟨by simp, fun n hn => by cases hn⟩ h

def LawM (ns : List NeedS) (c no col : Int) (w : World) (e : Ending) (w' : World) : Prop := ∃ a cp, e = .returned (.tuple #[.agg #[.slice a ns.length cp], .agg #[.int .i64 c, .int .i64 no, .int .i64 col]]) ∧ Below w.heap.size w w' ∧ NeedsV w' (.slice a ns.length cp) ns
def LawD (ns : List NeedS) (c no col : Int) (w : World) (e : Ending) (w' : World) : Prop := ∃ a cp, e = .returned (.tuple #[.slice a ns.length cp, .agg #[.int .i64 c, .int .i64 no, .int .i64 col]]) ∧ Below w.heap.size w w' ∧ DNeedsV w' (.slice a ns.length cp) ns

/-- both readings of one text -/
theorem both (l : List UInt8) (hs : l.length ≤ 140737488355328) : ∃ (ns : List NeedS) (c no col : Int), Few ns ∧ (∀ w, MaxAt w → SignsAt w → Calls Tryz.prog 47 #[.string ⟨l.toArray⟩] w (LawM ns c no col w)) ∧ ∀ w, Calls Tryz.prog 48 #[.string ⟨l.toArray⟩] w (LawD ns c no col w) := by
  have h1 := manParse_any l hs
  have h2 := docParse_any l hs
  unfold ManIs at h1
  unfold DocIs at h2
  cases hp : manP l with
  | ok ns =>
    rw [hp] at h1 h2
    refine ⟨ns, 0, 0, 0, manP_few hp, fun w hm hg => (h1 w hm hg).mono ?_, fun w => (h2 w).mono ?_⟩
    · rintro e w' ⟨hb, mv, rfl, hv⟩
      obtain ⟨a, cp, rfl, h3⟩ := hv
      exact ⟨a, cp, rfl, hb, a, cp, rfl, h3⟩
    · rintro e w' ⟨hb, mv, rfl, hv⟩
      obtain ⟨a, cp, rfl, h3⟩ := hv
      exact ⟨a, cp, rfl, hb, a, cp, rfl, h3⟩
  | error x =>
    obtain ⟨c, no, col⟩ := x
    rw [hp] at h1 h2
    refine ⟨[], c, no, col, ⟨by simp, fun n hn => by cases hn⟩, fun w hm hg => (h1 w hm hg).mono ?_, fun w => (h2 w).mono ?_⟩
    · rintro e w' ⟨hb, rfl⟩
      exact ⟨none, 0, rfl, hb, none, 0, rfl, fun h => absurd rfl h⟩
    · rintro e w' ⟨hb, rfl⟩
      exact ⟨none, 0, rfl, hb, none, 0, rfl, fun h => absurd rfl h⟩

set_option maxRecDepth 100000 in
set_option maxHeartbeats 8000000 in
theorem law_manParses (l : List UInt8) (hs : l.length ≤ 140737488355328) (w : World) (hm : MaxAt w) (ht : TenAt w) (hg : SignsAt w) : Calls Tryz.prog 10 #[.string ⟨l.toArray⟩] w (LawOk w) := by
  obtain ⟨ns, c, no, col, hf, h1, h2⟩ := both l hs
  have HF := hid hf
  have H1 := hid h1
  have H2 := hid h2
  have HW := hid (fun w hm hg => show Calls Tryz.prog 49 #[] w (fun e w' => e = .returned (.bool true) ∧ Below w.heap.size w w') from wanted_any w hm hg)
  have HO := hid (fun v w hm ht hg hv => show Calls Tryz.prog 50 #[.agg #[v]] w (OfM ns w) from manOf_any ns (by have := hf.1; omega) v w hm ht hg hv)
  have HS := hid (fun va vb w ha hb => show Calls Tryz.prog 46 #[va, vb] w (TrueQ w) from sameNeeds_any ns (by have := hf.1; omega) va vb w ha hb (fun n hn => by have := hf.2 n hn; omega))
  unfold LawM at H1
  unfold LawD at H2
  unfold OfM at HO
  unfold TrueQ at HS
  clear hf h1 h2 hs
  generalize (⟨l.toArray⟩ : ByteArray) = S at H1 H2 ⊢
  clear HF
  obtain ⟨n, hn⟩ : ∃ n, ns.length = n := ⟨_, rfl⟩
  rw [hn] at H1 H2
  clear hn
  go_enter Tryz.func10, Tryz.ntmps10
  go_wp2_with fail
  refine (H1.out w hm hg).mono ?_
  rintro e w1 ⟨a, cp, rfl, hb1, hv1⟩
  have A1 := below_alloc (below_alloc (Below.refl w1.heap.size w1) (.cells #[.slice a n cp] 106)) (.cells #[.int .i64 c, .int .i64 no, .int .i64 col] 27)
  have P1 := hid ((Blk.new w1 [.slice a n cp] 106).alloc (.cells #[.int .i64 c, .int .i64 no, .int .i64 col] 27))
  have P2 := hid (show Blk ((w1.alloc (.cells #[.slice a n cp] 106)).alloc (.cells #[.int .i64 c, .int .i64 no, .int .i64 col] 27)) (w1.heap.size + 1) [.int .i64 c, .int .i64 no, .int .i64 col] 27 from by
    have h := Blk.new (w1.alloc (.cells #[.slice a n cp] 106)) [.int .i64 c, .int .i64 no, .int .i64 col] 27
    rwa [show (w1.alloc (.cells #[.slice a n cp] 106)).heap.size = w1.heap.size + 1 by simp] at h)
  have ZX := hid (below_trans hb1 A1)
  have VX := hid (hv1.below A1)
  clear hb1 hv1 A1
  go_wp2_with fail
  generalize (w1.alloc (.cells #[.slice a n cp] 106)).alloc (.cells #[.int .i64 c, .int .i64 no, .int .i64 col] 27) = wx at P1 P2 ZX VX ⊢
  change Hid (Blk wx w1.heap.size [.slice a n cp] 106) at P1
  generalize w1.heap.size = p1 at P1 P2 ⊢
  refine (H2.out _).mono ?_
  rintro e w2 ⟨b, bp, rfl, hb2, hv2⟩
  have A2 := below_alloc (Below.refl w2.heap.size w2) (.cells #[.int .i64 c, .int .i64 no, .int .i64 col] 34)
  have P3 := hid (Blk.new w2 [.int .i64 c, .int .i64 no, .int .i64 col] 34)
  have Q1 := hid (P1.out.below (below_trans hb2 A2))
  have Q2 := hid (P2.out.below (below_trans hb2 A2))
  have ZY := hid (below_trans ZX.out (below_trans hb2 A2))
  have VY := hid (VX.out.below (below_trans hb2 A2))
  have DY := hid (hv2.below A2)
  clear hb2 hv2 A2 P1 P2 ZX VX H1 H2
  go_wp2_with fail
  generalize w2.alloc (.cells #[.int .i64 c, .int .i64 no, .int .i64 col] 34) = wy at P3 Q1 Q2 ZY VY DY ⊢
  change Hid (Blk wy w2.heap.size [.int .i64 c, .int .i64 no, .int .i64 col] 34) at P3
  generalize w2.heap.size = p3 at P3 ⊢
  refine (HW.out _ (hm.below ZY.out) (hg.below ZY.out)).mono ?_
  rintro e w4 ⟨rfl, hb4⟩
  have z0 := (Q1.out.below hb4).cell 0 rfl
  have x0 := (Q2.out.below hb4).cell 0 rfl
  have x1 := (Q2.out.below hb4).cell 1 rfl
  have x2 := (Q2.out.below hb4).cell 2 rfl
  have y0 := (P3.out.below hb4).cell 0 rfl
  have y1 := (P3.out.below hb4).cell 1 rfl
  have y2 := (P3.out.below hb4).cell 2 rfl
  have Z4 := hid (below_trans ZY.out hb4)
  have V4 := hid (VY.out.below hb4)
  have D4 := hid (DY.out.below hb4)
  clear hb4 Q1 Q2 P3 ZY VY DY HW
  go_wp2_with fail
  refine (HO.out _ _ (hm.below Z4.out) (ht.below Z4.out) (hg.below Z4.out) V4.out).mono ?_
  rintro e w5 ⟨v, rfl, hb5, hv5⟩
  have Z5 := hid (below_trans Z4.out hb5)
  have V5 := hid hv5
  have D5 := hid (D4.out.below hb5)
  clear hb5 hv5
  go_wp2_with fail
  refine (HS.out _ _ _ V5.out D5.out).mono ?_
  rintro e w6 ⟨rfl, m, rfl⟩
  go_wp2_with fail
  go_ret
  exact ⟨rfl, below_drewN' Z5.out m⟩
end Go.Proofs.YtafnohojnjpfcaaGreatDoor.Ix
