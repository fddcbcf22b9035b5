/-
  LAYER 4, PACKAGE spec: Check, Text of a range that may be one.
-/
import Derived.Test.YtmeaajhongalaaaGreatDoorSpecText
namespace Go.Proofs.YtmeaajhongalaaaGreatDoor.Sp
open Go.RowKit
open Go.Proofs.YtmeaajhongalaaaGreatDoor Go.Proofs.YtmeaajhongalaaaGreatDoor.Nu Go.Proofs.YtmeaajhongalaaaGreatDoor.Vs

set_option maxRecDepth 20000 in
set_option maxHeartbeats 2000000 in
theorem checkR_any (rs : List (List CompT)) (v : Value) (hok : OkR rs) (w : World) (hm : MaxAt w) (ht : TenAt w) (hg : SignsAt w) (hr : RngAt w v rs) :
    Calls Tryz.prog 69 #[.agg #[v]] w (Gives (.bool true) w) := by
  have hr0 := hid hr
  obtain ⟨G, cp, vs, rfl, hl, hcm, hG, hcells, hat⟩ := hr
  obtain ⟨h1, h4, hall, h80⟩ := hok
  have HW := hid (fun w hm ht hg hr => write_any rs (.slice (some ⟨G, 0, none⟩) rs.length cp) h4 hall w hm ht hg hr)
  have HA := hid (fun cs v h w hm ha => checkAlt_any cs v (hall cs h).1 (hall cs h).2.1 (hall cs h).2.2 w hm ha)
  have hsz := hid (show ((⟨(rngText rs).toArray⟩ : ByteArray).size : Int) ≤ 80 by
    have e : (⟨(rngText rs).toArray⟩ : ByteArray).size = (rngText rs).length := by show (rngText rs).toArray.size = _; simp
    omega)
  replace hall := hid hall
  replace hcells := hid hcells
  replace hat := hid hat
  replace hG := hid hG
  have e1 : ¬ (rs.length : Int) < 1 := by omega
  have e2 : ¬ (4 : Int) < (rs.length : Int) := by omega
  have hb0 := hid (below_alloc (Below.refl w.heap.size w) (.cells #[.slice (some ⟨G, 0, none⟩) rs.length cp] 61))
  have hn0 := hid (Blk.new w [.slice (some ⟨G, 0, none⟩) rs.length cp] 61)
  generalize (⟨(rngText rs).toArray⟩ : ByteArray) = RT at HW hsz
  go_enter Tryz.func69, Tryz.ntmps69
  go_wp2_with fail
  generalize w.alloc (.cells [.slice (some ⟨G, 0, none⟩) rs.length cp].toArray 61) = W at hb0 hn0 ⊢
  generalize w.heap.size = b at hn0 ⊢
  clear e1 e2
  go_loopw [4, 18] (fun _ i wr => ∃ k : Nat, k ≤ rs.length ∧ i = .int .i64 k ∧ Hid (Below w.heap.size w wr) ∧ Hid (Blk wr b [.slice (some ⟨G, 0, none⟩) rs.length cp] 61)) (fun _ i _ => rs.length - (intOf i).toNat)
  case atStart => exact ⟨0, by omega, rfl, hb0, hn0⟩
  case round =>
    obtain ⟨k, hk, rfl, hb, hn⟩ := hrel
    clear hb0 hn0
    by_cases hlt : k < rs.length
    · have hx := hid (List.getElem?_eq_getElem hlt)
      generalize rs[k] = cs at hx
      obtain ⟨_, v, hv, hva⟩ := hat.out.2 k cs hx.out
      have hce := hcells.out k _ hv
      rw [← hb.out.cell hG.out] at hce
      have hbl := Nat.lt_of_lt_of_le hG.out hb.out.size
      have HAc := hid (HA.out cs v (List.mem_of_getElem? hx.out))
      have hvb := hid (hva.below hb.out)
      have k4 : k < 4 := Nat.lt_of_lt_of_le hlt h4
      obtain ⟨Bk, cpk, rfl, _⟩ := hva
      clear hx hv
      generalize cs.length = cl at *
      go_wp2_with (go_at_call 123; (with_reducible refine (HAc.out _ (hm.below hb.out) hvb.out).mono ?_); rintro e w1 ⟨rfl, hb1⟩)
      go_roundw
      case rel => exact ⟨k + 1, by omega, by go_num, hid (below_trans hb.out hb1), hid (hn.out.below hb1)⟩
      case measure => simp [intOf]; omega
    · have c0 := hn.out.cell 0 rfl
      have hsz' := hsz.out
      go_wp2_with (go_at_call 124; (with_reducible refine (HW.out _ (hm.below hb.out) (ht.below hb.out) (hg.below hb.out) (hr0.out.below hb.out)).mono ?_); rintro e w1 ⟨rfl, hb1⟩)
      go_ret
      exact gives rfl rfl (below_trans hb.out hb1)

set_option maxRecDepth 20000 in
set_option maxHeartbeats 1000000 in
theorem textR_any (rs : List (List CompT)) (v : Value) (hok : OkR rs) (w : World) (hm : MaxAt w) (ht : TenAt w) (hg : SignsAt w) (hr : RngAt w v rs) :
    Calls Tryz.prog 72 #[.agg #[v]] w (Gives (.string ⟨(rngText rs).toArray⟩) w) := by
  have HC := hid (fun w hm ht hg hr => checkR_any rs v hok w hm ht hg hr)
  have HW := hid (fun w hm ht hg hr => write_any rs v hok.2.1 hok.2.2.1 w hm ht hg hr)
  have hr0 := hid hr
  obtain ⟨G, cp, vs, rfl, _⟩ := hr
  clear hok
  generalize (⟨(rngText rs).toArray⟩ : ByteArray) = RT at HW ⊢
  have hb0 := hid (below_alloc (Below.refl w.heap.size w) (.cells #[.slice (some ⟨G, 0, none⟩) rs.length cp] 61))
  have hn0 := hid (Blk.new w [.slice (some ⟨G, 0, none⟩) rs.length cp] 61)
  generalize hrl : rs.length = rl at *
  go_enter Tryz.func72, Tryz.ntmps72
  go_wp2_with (go_at_call 69; (with_reducible refine (HC.out _ (hm.below hb0.out) (ht.below hb0.out) (hg.below hb0.out) (hr0.out.below hb0.out)).mono ?_); rintro e w1 ⟨rfl, hb1⟩; have hb2 := hid (below_trans hb0.out hb1); have c0 := (hn0.out.below hb1).cell 0 rfl)
  refine (HW.out _ (hm.below hb2.out) (ht.below hb2.out) (hg.below hb2.out) (hr0.out.below hb2.out)).mono ?_
  rintro e w2 ⟨rfl, hb3⟩
  go_wp2_with fail
  go_ret
  exact gives rfl rfl (below_trans hb2.out hb3)
end Go.Proofs.YtmeaajhongalaaaGreatDoor.Sp
