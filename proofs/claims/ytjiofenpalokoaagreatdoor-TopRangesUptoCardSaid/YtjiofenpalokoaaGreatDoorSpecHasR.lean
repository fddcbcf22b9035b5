/-
  LAYER 4, PACKAGE spec: Has, of a range that may be one.
-/
import Derived.Test.YtjiofenpalokoaaGreatDoorSpecHas
namespace Go.Proofs.YtjiofenpalokoaaGreatDoor.Sp
open Go.RowKit
open Go.Proofs.YtjiofenpalokoaaGreatDoor Go.Proofs.YtjiofenpalokoaaGreatDoor.Nu Go.Proofs.YtjiofenpalokoaaGreatDoor.Vs

def verN (x y z : Nat) (q : List UInt8) : Value := .agg #[.int .i64 (x : Int), .int .i64 (y : Int), .int .i64 (z : Int), .string ⟨q.toArray⟩]
/-- a version that may be one -/
def OkV (x y z : Nat) (q : List UInt8) : Prop := x < 1000000 ∧ y < 1000000 ∧ z < 1000000 ∧ (q = [] ∨ preV q = true)

theorem any_off {α : Type} {f : α → Bool} {l : List α} {k : Nat} (h : (l.take k).any f = false) (hk : l.length ≤ k) : l.any f = false := by
  rwa [List.take_of_length_le hk] at h
theorem any_on {α : Type} {f : α → Bool} {l : List α} {k : Nat} {x : α} (h : l[k]? = some x) (hx : f x = true) : l.any f = true :=
  List.any_eq_true.2 ⟨x, List.mem_of_getElem? h, hx⟩

set_option maxRecDepth 20000 in
set_option maxHeartbeats 2000000 in
theorem has_any (rs : List (List CompT)) (v : Value) (h4 : rs.length ≤ 4) (hok : ∀ cs, cs ∈ rs → 1 ≤ cs.length ∧ cs.length ≤ 4 ∧ ∀ c, c ∈ cs → OkC c) (x y z : Nat) (q : List UInt8) (hv : OkV x y z q) (w : World) (hm : MaxAt w) (hr : RngAt w v rs) :
    Calls Tryz.prog 38 #[.agg #[v], .agg #[.int .i64 (x : Int), .int .i64 (y : Int), .int .i64 (z : Int), .string ⟨q.toArray⟩]] w (Gives (.bool (rngHas rs x y z q)) w) := by
  obtain ⟨G, cp, vs, rfl, hl, hcm, hG, hcells, hat⟩ := hr
  have HV := hid (fun w hm => verCheck x y z q hv.1 hv.2.1 hv.2.2.1 hv.2.2.2 w hm)
  have HA := hid (fun cs v h w hm ha => altHas_any cs v (hok cs h).2.1 (hok cs h).2.2 x y z q hv.2.2.2 w hm ha)
  clear hok hv
  replace hcells := hid hcells
  replace hat := hid hat
  replace hG := hid hG
  have hR := hid (show rngHas rs x y z q = rs.any (fun cs => altHas cs x y z q) from rfl)
  generalize rngHas rs x y z q = R at hR ⊢
  generalize hF : (fun cs => altHas cs x y z q) = F at hR
  replace HA := hid (show ∀ cs v, cs ∈ rs → ∀ w, MaxAt w → AltAt w v cs → Calls Tryz.prog 60 #[v, .agg #[.int .i64 (x : Int), .int .i64 (y : Int), .int .i64 (z : Int), .string ⟨q.toArray⟩]] w (Gives (.bool (F cs)) w) from by rw [← hF]; exact HA.out)
  clear hF
  generalize (x : Int) = xi at *
  generalize (y : Int) = yi at *
  generalize (z : Int) = zi at *
  generalize (⟨q.toArray⟩ : ByteArray) = Q at *
  obtain ⟨hA, hB⟩ := two_blk w [.slice (some ⟨G, 0, none⟩) rs.length cp] [.int .i64 xi, .int .i64 yi, .int .i64 zi, .string Q] 25 38
  have hb0 := hid (below_alloc (below_alloc (Below.refl w.heap.size w) (.cells #[.slice (some ⟨G, 0, none⟩) rs.length cp] 25)) (.cells #[.int .i64 xi, .int .i64 yi, .int .i64 zi, .string Q] 38))
  replace hA := hid hA
  replace hB := hid hB
  go_enter Tryz.func38, Tryz.ntmps38
  go_wp2_with fail
  generalize (w.alloc (.cells #[.slice (some ⟨G, 0, none⟩) rs.length cp] 25)).alloc (.cells #[.int .i64 xi, .int .i64 yi, .int .i64 zi, .string Q] 38) = W at hb0 hA hB ⊢
  generalize w.heap.size + 1 = b2 at hB ⊢
  refine (HV.out _ (hm.below hb0.out)).mono ?_
  rintro e w1 ⟨rfl, hb1⟩
  replace hA := hid (hA.out.below hb1)
  replace hB := hid (hB.out.below hb1)
  replace hb0 := hid (below_trans hb0.out hb1)
  have c0 := hA.out.cell 0 rfl
  clear hb1
  go_wp2_with fail
  clear c0 hA
  go_loopw [6, 13] (fun _ i wr => ∃ k : Nat, k ≤ rs.length ∧ i = .int .i64 k ∧ Hid (Below w.heap.size w wr) ∧ Hid (Blk wr b2 [.int .i64 xi, .int .i64 yi, .int .i64 zi, .string Q] 38) ∧ Hid ((rs.take k).any F = false)) (fun _ i _ => rs.length - (intOf i).toNat)
  case atStart => exact ⟨0, by omega, rfl, hb0, hB, hid rfl⟩
  case round =>
    obtain ⟨k, hk, rfl, hb, hn, hany⟩ := hrel
    clear hb0 hB
    by_cases hlt : k < rs.length
    · have hx := hid (List.getElem?_eq_getElem hlt)
      generalize rs[k] = cs at hx
      obtain ⟨_, v, hv, hva⟩ := hat.out.2 k cs hx.out
      have hce := hcells.out k _ hv
      rw [← hb.out.cell hG.out] at hce
      have hbl := Nat.lt_of_lt_of_le hG.out hb.out.size
      have HAc := hid (HA.out cs v (List.mem_of_getElem? hx.out))
      have hvb := hid (hva.below hb.out)
      have k4 : k < 4 := Nat.lt_of_lt_of_le hlt h4
      obtain ⟨Bk, cpk, rfl, _⟩ := hva
      have ANY := hid (@any_step _ F rs k cs hx.out)
      have ON := hid (fun h => @any_on _ F rs k cs hx.out h)
      clear hx hv
      generalize cs.length = cl at *
      have d0 := hn.out.cell 0 rfl
      have d1 := hn.out.cell 1 rfl
      have d2 := hn.out.cell 2 rfl
      have d3 := hn.out.cell 3 rfl
      cases hF : F cs
      · rw [hF] at HAc
        have hnew := hid (show (rs.take (k + 1)).any F = false by rw [ANY.out, hany.out, hF]; rfl)
        clear hF ANY ON HA
        go_wp2_with (go_at_call 60; (with_reducible refine (HAc.out _ (hm.below hb.out) hvb.out).mono ?_); rintro e w1 ⟨rfl, hb1⟩)
        go_roundw
        case rel => exact ⟨k + 1, by omega, by go_num, hid (below_trans hb.out hb1), hid (hn.out.below hb1), hnew⟩
        case measure => simp [intOf]; omega
      · rw [hF] at HAc
        have hr := hid (show R = true by rw [hR.out]; exact ON.out hF)
        clear hF ANY ON HA
        go_wp2_with (go_at_call 60; (with_reducible refine (HAc.out _ (hm.below hb.out) hvb.out).mono ?_); rintro e w1 ⟨rfl, hb1⟩)
        go_ret
        exact gives rfl (bool_eq hr.out.symm) (below_trans hb.out hb1)
    · have hr := hid (show R = false by rw [hR.out]; exact any_off hany.out (by omega))
      clear HA
      go_wp2_with fail
      go_ret
      exact gives rfl (bool_eq hr.out.symm) hb.out

set_option maxRecDepth 20000 in
set_option maxHeartbeats 1000000 in
theorem hasR_any (rs : List (List CompT)) (v : Value) (hok : OkR rs) (x y z : Nat) (q : List UInt8) (hv : OkV x y z q) (w : World) (hm : MaxAt w) (ht : TenAt w) (hg : SignsAt w) (hr : RngAt w v rs) :
    Calls Tryz.prog 19 #[.agg #[v], .agg #[.int .i64 (x : Int), .int .i64 (y : Int), .int .i64 (z : Int), .string ⟨q.toArray⟩]] w (Gives (.bool (rngHas rs x y z q)) w) := by
  have HC := hid (fun w hm ht hg hr => checkR_any rs v hok w hm ht hg hr)
  have HH := hid (fun w hm hr => has_any rs v hok.2.1 hok.2.2.1 x y z q hv w hm hr)
  have hr0 := hid hr
  obtain ⟨G, cp, vs, rfl, _⟩ := hr
  clear hok hv
  generalize rngHas rs x y z q = R at HH ⊢
  generalize (x : Int) = xi at *
  generalize (y : Int) = yi at *
  generalize (z : Int) = zi at *
  generalize (⟨q.toArray⟩ : ByteArray) = Q at *
  generalize hrl : rs.length = rl at *
  obtain ⟨hA, hB⟩ := two_blk w [.slice (some ⟨G, 0, none⟩) rl cp] [.int .i64 xi, .int .i64 yi, .int .i64 zi, .string Q] 25 38
  have hb0 := hid (below_alloc (below_alloc (Below.refl w.heap.size w) (.cells #[.slice (some ⟨G, 0, none⟩) rl cp] 25)) (.cells #[.int .i64 xi, .int .i64 yi, .int .i64 zi, .string Q] 38))
  replace hA := hid hA
  replace hB := hid hB
  go_enter Tryz.func19, Tryz.ntmps19
  go_wp2_with fail
  generalize (w.alloc (.cells #[.slice (some ⟨G, 0, none⟩) rl cp] 25)).alloc (.cells #[.int .i64 xi, .int .i64 yi, .int .i64 zi, .string Q] 38) = W at hb0 hA hB ⊢
  generalize w.heap.size + 1 = b2 at hB ⊢
  have hbw := hb0.out
  generalize w.heap.size = b1 at hA ⊢
  refine (HC.out _ (hm.below hbw) (ht.below hbw) (hg.below hbw) (hr0.out.below hbw)).mono ?_
  rintro e w1 ⟨rfl, hb1⟩
  have c0 := (hA.out.below hb1).cell 0 rfl
  have d0 := (hB.out.below hb1).cell 0 rfl
  have d1 := (hB.out.below hb1).cell 1 rfl
  have d2 := (hB.out.below hb1).cell 2 rfl
  have d3 := (hB.out.below hb1).cell 3 rfl
  have hb2 := hid (below_trans hbw hb1)
  clear hA hB hb1 hbw hb0
  go_wp2_with fail
  refine (HH.out _ (hm.below hb2.out) (hr0.out.below hb2.out)).mono ?_
  rintro e w2 ⟨rfl, hb3⟩
  go_wp2_with fail
  go_ret
  exact gives rfl rfl (below_trans hb2.out hb3)
end Go.Proofs.YtjiofenpalokoaaGreatDoor.Sp
