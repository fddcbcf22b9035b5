/-
  LAYER 9: the law's own Of: a manifest's roots by their texts.
-/
import Derived.Test.YtafnohojnjpfcaaGreatDoorSameNeeds
namespace Go.Proofs.YtafnohojnjpfcaaGreatDoor.Ix
open Go.RowKit
open Go.Proofs.YtafnohojnjpfcaaGreatDoor Go.Proofs.YtafnohojnjpfcaaGreatDoor.Ln Go.Proofs.YtafnohojnjpfcaaGreatDoor.Vs Go.Proofs.YtafnohojnjpfcaaGreatDoor.Sp Go.Proofs.YtafnohojnjpfcaaGreatDoor.Sf

/-- one need more, whose memory is old -/
theorem DGrow.push_old {w1 w3 : World} {base : Nat} {a : Option Addr} {c' m : Nat} {cells : List Value} {ns : List NeedS} {x y z : Value} {n : NeedS} {g cap : Nat} {T : TypeId} (h1 : DGrow w1 base (fun b => b < base) (.slice a m c') cells ns) (hm : ns.length = m)
    (hn : DNeedV (fun b => b < base) w1 x y z n)
    (hown3 : w3.ownsRow base 83 3 (.slice (some ⟨g, 0, none⟩) (m + 1) cap) (m + 1) (cells ++ [x, y, z]))
    (hgrow : (w1.alloc (.cells #[x, y, z] T)).grownBy w3 (Value.slice a m c').ownBlock) :
    DGrow w3 base (fun b => b < base) (.slice (some ⟨g, 0, none⟩) (m + 1) cap) (cells ++ [x, y, z]) (ns ++ [n]) := by
  have hK : Kept (fun b => b < base) w1 w3 := Kept.grown ((Kept.refl _ _).alloc _) hgrow (fun k hk hf => by
    have := (h1.own.lt k hk).1; omega)
  refine ⟨?_, (h1.needs.push hn).kept hK, fun k hk hf => ?_⟩
  · rw [show (ns ++ [n]).length = m + 1 by rw [List.length_append, hm]; rfl]
    exact hown3
  · have := (hown3.lt k hk).1; omega

def OfM (ns : List NeedS) (w : World) (e : Ending) (w' : World) : Prop := ∃ v, e = .returned v ∧ Below w.heap.size w w' ∧ DNeedsV w' v ns
theorem DGrow.nil (w : World) (base : Nat) (F : Nat → Prop) : DGrow w base F (.slice none 0 0) [] [] := ⟨World.ownsRow_nil _ _ _ _, ⟨rfl, fun i n h => by simp at h⟩, fun _ h => by cases h⟩

set_option maxRecDepth 100000 in
set_option maxHeartbeats 4000000 in
theorem manOf_any (ns : List NeedS) (hl : ns.length ≤ 1000) (v : Value) (w : World) (hm : MaxAt w) (ht : TenAt w) (hg : SignsAt w) (hv : NeedsV w v ns) :
    Calls Tryz.prog 50 #[.agg #[v]] w (OfM ns w) := by
  obtain ⟨a, cp, rfl, hne⟩ := hv
  obtain ⟨n, hn⟩ : ∃ n, ns.length = n := ⟨_, rfl⟩
  rw [hn] at hl ⊢
  have HN := hid hn
  have HNE := hid hne
  have BW := hid (below_alloc (Below.refl w.heap.size w) (.cells #[.slice a n cp] 106))
  have BB := hid (Blk.new w [.slice a n cp] 106)
  have L1 := hid (show (w.alloc (.cells #[.slice a n cp] 106)).heap.size = w.heap.size + 1 by simp)
  clear hn hne
  go_enter Tryz.func50, Tryz.ntmps50
  go_wp2_with fail
  generalize w.alloc (.cells #[.slice a n cp] 106) = w1 at BW BB L1 ⊢
  change Hid (Blk w1 w.heap.size [.slice a n cp] 106) at BB
  go_loopw [3, 4, 5] (fun v i _ wr => ∃ (k : Nat) (b : Option Addr) (c : Nat) (cls : List Value), k ≤ n ∧ i = .int .i64 k ∧ v = .slice b k c ∧ Hid (Below w1.heap.size w1 wr) ∧ Hid (DGrow wr w1.heap.size (fun x => x < w1.heap.size) (.slice b k c) cls (ns.take k))) (fun _ i _ _ => n - (intOf i).toNat)
  case atStart => exact ⟨0, none, 0, [], by omega, rfl, rfl, hid (Below.refl _ _), hid (by rw [List.take_zero]; exact DGrow.nil _ _ _)⟩
  case round =>
    obtain ⟨k, b, c, cls, hk, rfl, rfl, hb, hgr⟩ := hrel
    have hbb := BB.out.below hb.out
    have m0 := hbb.cell 0 rfl
    have ml := hbb.lt
    by_cases hlt : k < n
    · have hkn : k < ns.length := by have := HN.out; omega
      obtain ⟨G, cells, rfl, hG, hc, hN⟩ := HNE.out (fun e => by rw [e] at hkn; simp at hkn)
      have hnk : ns[k]? = some ns[k] := List.getElem?_eq_getElem hkn
      obtain ⟨a0, a1, a2, e0, e1, e2, hnv⟩ := hN.2 k _ hnk
      have htk := hid (show ns.take (k + 1) = ns.take k ++ [ns[k]] from List.take_succ_eq_append_getElem hkn)
      generalize ns[k] = N at *
      obtain ⟨ba, bn, bc, ca, cn, cc, rfl, rfl⟩ := NeedV.shape hnv
      obtain ⟨rfl, ⟨rs, hrs, hR⟩, hS⟩ := hnv
      have BX := hid (below_trans BW.out hb.out)
      have c0 := bcell BX.out (hc _ _ e0)
      have c1 := bcell BX.out (hc _ _ e1)
      have c2 := bcell BX.out (hc _ _ e2)
      have gl := World.block_lt_of_cell? wr _ c0
      have hts := (rngOf_ok hrs).1
      have A2 := hid (below_alloc (Below.refl wr.heap.size wr) (.cells #[.string ⟨N.name.toArray⟩, .slice ba bn bc, .slice ca cn cc] 78))
      have P2 := hid (Blk.new wr [.string ⟨N.name.toArray⟩, .slice ba bn bc, .slice ca cn cc] 78)
      have B2 := hid (below_trans BX.out A2.out)
      have TX := hid (show Calls Tryz.prog 96 #[.agg #[.slice ba bn bc]] (wr.alloc (.cells #[.string ⟨N.name.toArray⟩, .slice ba bn bc, .slice ca cn cc] 78)).drew (fun e w' => e = .returned (.string ⟨N.rng.toArray⟩) ∧ Below (wr.alloc (.cells #[.string ⟨N.name.toArray⟩, .slice ba bn bc, .slice ca cn cc] 78)).heap.size (wr.alloc (.cells #[.string ⟨N.name.toArray⟩, .slice ba bn bc, .slice ca cn cc] 78)).drew w') from by
        have h9 := textR_any rs (.slice ba bn bc) (rngOf_ok hrs).2 (wr.alloc (.cells #[.string ⟨N.name.toArray⟩, .slice ba bn bc, .slice ca cn cc] 78)).drew (hm.below B2.out.drew) (ht.below B2.out.drew) (hg.below B2.out.drew) (RngF.at' (RngF.below (RngF.below hR B2.out) (Below.refl _ _).drew))
        rw [hts] at h9
        exact h9)
      have HS := hid (StrsF.kept (StrsF.mono (G := fun x => x < w1.heap.size) hS (fun x hx _ => by have := L1.out; omega)) (Kept.of_below B2.out))
      have LA := hid (show (wr.alloc (.cells #[.string ⟨N.name.toArray⟩, .slice ba bn bc, .slice ca cn cc] 78)).heap.size = wr.heap.size + 1 by simp)
      have GA := hid (hgr.out.below A2.out)
      have ZA := hid (below_trans hb.out A2.out)
      have HP8 := hid (show w1.heap.size ≤ wr.heap.size from hb.out.size)
      have OTH := hid (show some wr.heap.size ≠ (Value.slice b k c).ownBlock from fun e => by have := (hgr.out.own.lt _ e.symm).2; omega)
      have HLT := hid (show (ns.take k).length = k by rw [List.length_take]; omega)
      clear hgr hc hN e0 e1 e2 hnk hS hR hrs hts hbb A2 B2
      go_wp2_with fail
      generalize wr.alloc (.cells #[.string ⟨N.name.toArray⟩, .slice ba bn bc, .slice ca cn cc] 78) = Wa at P2 TX HS LA GA ZA ⊢
      change Hid (Blk Wa wr.heap.size [.string ⟨N.name.toArray⟩, .slice ba bn bc, .slice ca cn cc] 78) at P2
      clear BX c0 c1 c2 gl hb ml m0
      generalize wr.heap.size = p8 at P2 LA HP8 OTH ⊢
      generalize ns.take k = T0 at GA HLT htk
      obtain ⟨iC, hi, hz0, hz1, hz2⟩ := info_parts infoRN
      have hi := hid hi
      have hz0 := hid hz0
      have hz1 := hid hz1
      have hz2 := hid hz2
      have AL := hid (fun (Wc : World) (hbt : Below Wa.heap.size Wa.drew Wc) => show (Wc.alloc (.cells #[.string ⟨N.name.toArray⟩, .string ⟨N.rng.toArray⟩, .slice ca cn cc] 83)).ownsRow w1.heap.size 83 3 (.slice b k c) k cls from by
        have h := ownsRow_below (ownsRow_below GA.out.own (below_trans (Below.refl Wa.heap.size Wa).drew hbt)) (below_alloc (Below.refl Wc.heap.size Wc) (.cells #[.string ⟨N.name.toArray⟩, .string ⟨N.rng.toArray⟩, .slice ca cn cc] 83))
        rw [HLT.out] at h
        exact h)
      have KP := hid (fun (Wc : World) (hbt : Below Wa.heap.size Wa.drew Wc) => show Blk Wc p8 [.string ⟨N.name.toArray⟩, .slice ba bn bc, .slice ca cn cc] 78 from P2.out.below (below_trans (Below.refl Wa.heap.size Wa).drew hbt))
      have KG := hid (fun (Wc w3 : World) (hbt : Below Wa.heap.size Wa.drew Wc) (hg : (Wc.alloc (.cells #[.string ⟨N.name.toArray⟩, .string ⟨N.rng.toArray⟩, .slice ca cn cc] 83)).grownBy w3 (Value.slice b k c).ownBlock) => show Blk w3 p8 [.string ⟨N.name.toArray⟩, .slice ba bn bc, .slice ca cn cc] 78 from ((KP.out Wc hbt).alloc _).grown hg (fun e => OTH.out e))
      have SZ := hid (fun (Wc : World) (hbt : Below Wa.heap.size Wa.drew Wc) => show w1.heap.size ≤ Wc.heap.size from Nat.le_trans ZA.out.size hbt.size)
      have FIN := hid (fun (Wc w3 : World) (g cap : Nat) (hbt : Below Wa.heap.size Wa.drew Wc)
          (hown3 : w3.ownsRow w1.heap.size 83 3 (.slice (some ⟨g, 0, none⟩) (k + 1) cap) (k + 1) (cls ++ [.string ⟨N.name.toArray⟩, .string ⟨N.rng.toArray⟩, .slice ca cn cc]))
          (hgrow : (Wc.alloc (.cells #[.string ⟨N.name.toArray⟩, .string ⟨N.rng.toArray⟩, .slice ca cn cc] 83)).grownBy w3 (Value.slice b k c).ownBlock) =>
        show Below w1.heap.size w1 w3 ∧ DGrow w3 w1.heap.size (fun x => x < w1.heap.size) (.slice (some ⟨g, 0, none⟩) (k + 1) cap) (cls ++ [.string ⟨N.name.toArray⟩, .string ⟨N.rng.toArray⟩, .slice ca cn cc]) (T0 ++ [N]) from by
          have hW := below_trans (Below.refl Wa.heap.size Wa).drew hbt
          have hG1 := GA.out.below hW
          refine ⟨((below_trans ZA.out hW).alloc (SZ.out Wc hbt) _).grown hgrow (by have := SZ.out Wc hbt; simp; omega) (fun q hq => (((AL.out Wc hbt).lt q hq)).1), ?_⟩
          exact hG1.push_old HLT.out ⟨rfl, rfl, HS.out.kept (Kept.of_below hW)⟩ hown3 hgrow)
      have q0 := P2.out.cell 0 rfl
      have q1 := P2.out.cell 1 rfl
      have q2 := P2.out.cell 2 rfl
      clear GA HS
      go_region_held3 (fun w' => w'.cell? ⟨p8, 0, none⟩ = some (.string ⟨N.name.toArray⟩) ∧ w'.cell? ⟨p8, 1, none⟩ = some (.slice ba bn bc) ∧ w'.cell? ⟨p8, 2, none⟩ = some (.slice ca cn cc))
        (first | (exact ⟨q0, q1, q2⟩) | (with_reducible exact ⟨hb3.cell 0 rfl, hb3.cell 1 rfl, hb3.cell 2 rfl⟩) | (exact ⟨hb2.cell 0 rfl, hb2.cell 1 rfl, hb2.cell 2 rfl⟩) | (exact ⟨(hb2.alloc _).cell 0 rfl, (hb2.alloc _).cell 1 rfl, (hb2.alloc _).cell 2 rfl⟩))
        (first
          | (refine step_append_lies _ rfl _ _ 50 rfl w1.heap.size 83 iC (.agg #[.string ⟨#[]⟩, .string ⟨#[]⟩, .slice none 0 0]) 3 56 Tryz.underlying50 hi.out hz0.out hz1.out hz2.out rfl (by decide) _ _ _ rfl (AL.out _ hbt) ⟨_, 0, none⟩ 1 1 [.string ⟨N.name.toArray⟩, .string ⟨N.rng.toArray⟩, .slice ca cn cc] rfl rfl (cells_new _ [_, _, _] _ _ rfl) (by intro u hu; simp at hu; rcases hu with rfl | rfl | rfl <;> rfl) (by decide) (by unfold maxLen; omega) (by omega) (by have := SZ.out _ hbt; simp; omega) _ rfl ?_; intro g cap w3 hown3 hgrow hat hlt3; have hb3 := KG.out _ _ hbt hgrow)
          | (go_at_call 96; (with_reducible refine TX.out.mono ?_); rintro e wc ⟨rfl, hbt⟩; have hb2 := KP.out _ hbt))
      all_goals
        obtain ⟨F1, F2⟩ := FIN.out _ _ _ _ hbt hown3 hgrow
        rw [← htk.out] at F2
        have F1 := hid F1
        have F2 := hid F2
        clear hown3 hgrow hat hlt3 hb3 hb2
        go_wp2_with fail
        go_roundw
        case rel => exact ⟨k + 1, some ⟨g, 0, none⟩, cap, _, by omega, by go_num, rfl, F1, F2⟩
        case measure => simp [intOf]; omega
    · have E := hid (show ns.take k = ns from List.take_of_length_le (by have := HN.out; omega))
      rw [E.out] at hgr
      have V := hid (hgr.out.v)
      have BX := hid (below_trans BW.out hb.out)
      clear hgr HNE
      go_wp2_with fail
      go_ret
      exact ⟨_, rfl, BX.out, V.out⟩
end Go.Proofs.YtafnohojnjpfcaaGreatDoor.Ix
