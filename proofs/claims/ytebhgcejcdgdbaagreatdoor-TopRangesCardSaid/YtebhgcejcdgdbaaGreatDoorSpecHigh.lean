/-
  LAYER 4, PACKAGE spec: Highest.
-/
import Derived.Test.YtebhgcejcdgdbaaGreatDoorMI
namespace Go.Proofs.YtebhgcejcdgdbaaGreatDoor.Sp
open Go.RowKit Go.Sort
open Go.Proofs.YtebhgcejcdgdbaaGreatDoor Go.Proofs.YtebhgcejcdgdbaaGreatDoor.Nu Go.Proofs.YtebhgcejcdgdbaaGreatDoor.Vs

/-- a version: three numbers, and what stands behind them -/
structure VerT where
  a : Nat
  b : Nat
  c : Nat
  p : List UInt8
def zeroT : VerT := ⟨0, 0, 0, []⟩
def VerT.ok (v : VerT) : Prop := OkV v.a v.b v.c v.p
def cmpT (v u : VerT) : Int := cmpV [v.a, v.b, v.c] [u.a, u.b, u.c] v.p u.p
def hasT (rs : List (List CompT)) (v : VerT) : Bool := rngHas rs v.a v.b v.c v.p
/-- the place of the first of the highest of the first so many that a range has; none -/
def hiT (rs : List (List CompT)) (vs : List VerT) : Nat → Option Nat
  | 0 => none
  | k + 1 => if hasT rs (vs.getD k zeroT) = true then
      match hiT rs vs k with
      | none => some k
      | some h => if 0 < cmpT (vs.getD k zeroT) (vs.getD h zeroT) then some k else some h
    else hiT rs vs k
def hiI : Option Nat → Int
  | none => -1
  | some h => (h : Int)
theorem hiT_lt (rs : List (List CompT)) (vs : List VerT) : ∀ (k h : Nat), hiT rs vs k = some h → h < k := by
  intro k
  induction k with
  | zero => intro h e; cases e
  | succ k ih =>
    intro h e
    unfold hiT at e
    split at e
    · split at e
      · injection e with e; omega
      · rename_i g hg
        split at e
        · injection e with e; omega
        · injection e with e
          have := ih g hg; omega
    · have := ih h e; omega
/-- versions in memory, one behind the other -/
def VersAt (w : World) (B o : Nat) (vs : List VerT) : Prop := B < w.heap.size ∧ ∀ k, k < vs.length → w.cell? ⟨B, o + k * 4, none⟩ = some (.int .i64 ((vs.getD k zeroT).a : Int)) ∧ w.cell? ⟨B, o + k * 4 + 1, none⟩ = some (.int .i64 ((vs.getD k zeroT).b : Int)) ∧ w.cell? ⟨B, o + k * 4 + 2, none⟩ = some (.int .i64 ((vs.getD k zeroT).c : Int)) ∧ w.cell? ⟨B, o + k * 4 + 3, none⟩ = some (.string ⟨(vs.getD k zeroT).p.toArray⟩)
theorem VersAt.below {w w' : World} {B o : Nat} {vs : List VerT} (h : VersAt w B o vs) (hb : RowKit.Below w.heap.size w w') : VersAt w' B o vs :=
  ⟨Nat.lt_of_lt_of_le h.1 hb.size, fun k hk => by
    rw [hb.cell h.1, hb.cell h.1, hb.cell h.1, hb.cell h.1]; exact h.2 k hk⟩

theorem hiT_none {rs : List (List CompT)} {vs : List VerT} : ∀ {k : Nat}, hiT rs vs k = none → ∀ j, j < k → hasT rs (vs.getD j zeroT) = false := by
  intro k
  induction k with
  | zero => intro _ j hj; omega
  | succ k ih =>
    intro e j hj
    unfold hiT at e
    split at e
    · split at e
      · cases e
      · split at e <;> cases e
    · rename_i hf
      by_cases hjk : j = k
      · subst hjk; simpa using hf
      · exact ih e j (by omega)
def VerT.pr (v : VerT) : List Nat × List UInt8 := ([v.a, v.b, v.c], v.p)
theorem cmpT_anti (x y : VerT) : cmpT y x = - cmpT x y := cmpV_cmp.anti x.pr y.pr
theorem cmpT_self (x : VerT) : cmpT x x = 0 := cmpV_cmp.self x.pr
theorem cmpT_lt {x y z : VerT} (h1 : cmpT x y ≤ 0) (h2 : cmpT y z < 0) : cmpT x z < 0 :=
  cmpV_cmp.le_lt (x := x.pr) (y := y.pr) (z := z.pr) trivial trivial trivial h1 h2
/-- what stands there is the first of the highest -/
theorem hiT_some {rs : List (List CompT)} {vs : List VerT} : ∀ {k h : Nat}, hiT rs vs k = some h → hasT rs (vs.getD h zeroT) = true ∧ ∀ j, j < k → hasT rs (vs.getD j zeroT) = true → cmpT (vs.getD j zeroT) (vs.getD h zeroT) ≤ 0 ∧ (j < h → cmpT (vs.getD j zeroT) (vs.getD h zeroT) < 0) := by
  intro k
  induction k with
  | zero => intro h e; cases e
  | succ k ih =>
    intro h e
    unfold hiT at e
    by_cases hk : hasT rs (vs.getD k zeroT) = true
    · rw [if_pos hk] at e
      cases hg : hiT rs vs k with
      | none =>
        rw [hg] at e
        simp only [Option.some.injEq] at e
        subst e
        refine ⟨hk, fun j hj hh => ?_⟩
        by_cases hjk : j = k
        · subst hjk; exact ⟨by rw [cmpT_self]; decide, fun h => by omega⟩
        · rw [hiT_none hg j (by omega)] at hh; cases hh
      | some g =>
        rw [hg] at e
        obtain ⟨i1, i2⟩ := ih hg
        by_cases hc : 0 < cmpT (vs.getD k zeroT) (vs.getD g zeroT)
        · simp only [if_pos hc, Option.some.injEq] at e
          subst e
          have hlt : cmpT (vs.getD g zeroT) (vs.getD k zeroT) < 0 := by have := cmpT_anti (vs.getD k zeroT) (vs.getD g zeroT); omega
          refine ⟨hk, fun j hj hh => ?_⟩
          by_cases hjk : j = k
          · subst hjk; exact ⟨by rw [cmpT_self]; decide, fun h => by omega⟩
          · have := cmpT_lt (i2 j (by omega) hh).1 hlt
            exact ⟨by omega, fun _ => this⟩
        · simp only [if_neg hc, Option.some.injEq] at e
          subst e
          have hgk := hiT_lt rs vs k g hg
          refine ⟨i1, fun j hj hh => ?_⟩
          by_cases hjk : j = k
          · subst hjk; exact ⟨by omega, fun h => by omega⟩
          · exact i2 j (by omega) hh
    · rw [if_neg hk] at e
      obtain ⟨i1, i2⟩ := ih e
      refine ⟨i1, fun j hj hh => ?_⟩
      by_cases hjk : j = k
      · subst hjk; exact absurd hh hk
      · exact i2 j (by omega) hh

set_option maxRecDepth 20000 in
set_option maxHeartbeats 4000000 in
theorem highest_any (rs : List (List CompT)) (v : Value) (hok : OkR rs) (vs : List VerT) (hn : vs.length ≤ 1000) (hvs : ∀ k, k < vs.length → (vs.getD k zeroT).ok) (B cp : Nat) (a : Option Addr) (ha : vs.length ≠ 0 → a = some ⟨B, 0, none⟩) (w : World) (hm : MaxAt w) (ht : TenAt w) (hg : SignsAt w) (hr : RngAt w v rs) (hv : vs.length ≠ 0 → VersAt w B 0 vs) :
    Calls Tryz.prog 23 #[.agg #[v], .slice a vs.length cp] w (Gives (.int .i64 (hiI (hiT rs vs vs.length))) w) := by
  have HC := hid (fun w hm ht hg hr => checkR_any rs v hok w hm ht hg hr)
  have HH := hid (fun k hk w hm hr => has_any rs v hok.2.1 hok.2.2.1 (vs.getD k zeroT).a (vs.getD k zeroT).b (vs.getD k zeroT).c (vs.getD k zeroT).p (hvs k hk) w hm hr)
  have HM := hid (fun k h hk hh w hm => compare_any (vs.getD k zeroT).a (vs.getD k zeroT).b (vs.getD k zeroT).c (vs.getD h zeroT).a (vs.getD h zeroT).b (vs.getD h zeroT).c (vs.getD k zeroT).p (vs.getD h zeroT).p (okPre_of (hvs k hk).2.2.2) (okPre_of (hvs h hh).2.2.2) w hm)
  have hr0 := hid hr
  obtain ⟨G, c0, vv, rfl, _⟩ := hr
  clear hok hvs
  generalize hrl : rs.length = rl at *
  replace hv := hid hv
  replace ha := hid ha
  have LT := hid (hiT_lt rs vs)
  have hb0 := hid (below_alloc (Below.refl w.heap.size w) (.cells #[.slice (some ⟨G, 0, none⟩) rl c0] 25))
  have hA := hid (Blk.new w [.slice (some ⟨G, 0, none⟩) rl c0] 25)
  go_enter Tryz.func23, Tryz.ntmps23
  go_wp2_with fail
  generalize w.alloc (.cells [.slice (some ⟨G, 0, none⟩) rl c0].toArray 25) = W at hb0 hA ⊢
  have hbw := hb0.out
  generalize w.heap.size = b1 at hA ⊢
  refine (HC.out _ (hm.below hbw) (ht.below hbw) (hg.below hbw) (hr0.out.below hbw)).mono ?_
  rintro e w1 ⟨rfl, hb1⟩
  replace hA := hid (hA.out.below hb1)
  have hb2 := hid (below_trans hbw hb1)
  clear hb1 hbw hb0
  go_wp2_with fail
  go_loopw [5, 6, 7, 14] (fun h _ _ i wr => ∃ k : Nat, k ≤ vs.length ∧ i = .int .i64 k ∧ h = .int .i64 (hiI (hiT rs vs k)) ∧ Hid (Below w.heap.size w wr) ∧ Hid (Blk wr b1 [.slice (some ⟨G, 0, none⟩) rl c0] 25)) (fun _ _ _ i _ => vs.length - (intOf i).toNat)
  case atStart => exact ⟨0, by omega, rfl, rfl, hb2, hA⟩
  case round =>
    obtain ⟨k, hk, rfl, rfl, hb, hA⟩ := hrel
    clear hb2
    by_cases hlt : k < vs.length
    · obtain rfl := ha.out (by omega)
      have hvr := hid ((hv.out (by omega)).below hb.out)
      obtain ⟨x0, x1, x2, x3⟩ := hvr.out.2 k hlt
      rw [Nat.zero_add] at x0 x1 x2 x3
      have hbl := hvr.out.1
      have HHk := hid (HH.out k hlt)
      have k3 : k < 1000 := Nat.lt_of_lt_of_le hlt hn
      have NX := hid (show hiT rs vs (k + 1) = if hasT rs (vs.getD k zeroT) = true then (match hiT rs vs k with
        | none => some k
        | some h => if 0 < cmpT (vs.getD k zeroT) (vs.getD h zeroT) then some k else some h) else hiT rs vs k from rfl)
      have hHT := hid (show hasT rs (vs.getD k zeroT) = rngHas rs (vs.getD k zeroT).a (vs.getD k zeroT).b (vs.getD k zeroT).c (vs.getD k zeroT).p from rfl)
      have LTk := hid (LT.out k)
      generalize hnx : hiT rs vs (k + 1) = nx at NX ⊢
      replace hnx := hid hnx
      have HMk := hid (fun h (hh : h < k) => show ∀ w, MaxAt w → Calls Tryz.prog 26 #[.agg #[.int .i64 ((vs.getD k zeroT).a : Int), .int .i64 ((vs.getD k zeroT).b : Int), .int .i64 ((vs.getD k zeroT).c : Int), .string ⟨(vs.getD k zeroT).p.toArray⟩], .agg #[.int .i64 ((vs.getD h zeroT).a : Int), .int .i64 ((vs.getD h zeroT).b : Int), .int .i64 ((vs.getD h zeroT).c : Int), .string ⟨(vs.getD h zeroT).p.toArray⟩]] w (Gives (.int .i64 (cmpT (vs.getD k zeroT) (vs.getD h zeroT))) w) from fun w hm => HM.out k h hlt (by omega) w hm)
      have NX0 := hid (fun (h : hasT rs (vs.getD k zeroT) = false) => show nx = hiT rs vs k by rw [NX.out, h]; rfl)
      have NX1 := hid (fun (h : hasT rs (vs.getD k zeroT) = true) => NX.out.trans (if_pos h))
      rw [hHT.out] at NX0 NX1
      clear NX hHT HM HH HC LT ht hg hv
      generalize hok : rngHas rs (vs.getD k zeroT).a (vs.getD k zeroT).b (vs.getD k zeroT).c (vs.getD k zeroT).p = f at HHk NX0 NX1
      clear hok
      generalize vs.getD k zeroT = vk at *
      generalize ho : hiT rs vs k = o at *
      go_wp2_with fail
      have hbz := hid (below_alloc hb.out (.cells #[.int .i64 (vk.a : Int), .int .i64 (vk.b : Int), .int .i64 (vk.c : Int), .string ⟨vk.p.toArray⟩] 38))
      have al := below_alloc (Below.refl wr.heap.size wr) (.cells #[.int .i64 (vk.a : Int), .int .i64 (vk.b : Int), .int .i64 (vk.c : Int), .string ⟨vk.p.toArray⟩] 38)
      have vv1 := hid (Blk.new wr [.int .i64 (vk.a : Int), .int .i64 (vk.b : Int), .int .i64 (vk.c : Int), .string ⟨vk.p.toArray⟩] 38)
      replace hA := hid (hA.out.below al)
      replace hvr := hid (hvr.out.below al)
      clear al hb
      generalize wr.alloc (.cells #[.int .i64 (vk.a : Int), .int .i64 (vk.b : Int), .int .i64 (vk.c : Int), .string ⟨vk.p.toArray⟩] 38) = W5 at hbz vv1 hA hvr ⊢
      generalize wr.heap.size = b2 at vv1 ⊢
      have B := hid (fun d os => below_trans hbz.out (below_regrown W5 d os))
      have qH := hid (show ∀ d os, Calls Tryz.prog 38 #[.agg #[.slice (some ⟨G, 0, none⟩) rl c0], .agg #[.int .i64 (vk.a : Int), .int .i64 (vk.b : Int), .int .i64 (vk.c : Int), .string ⟨vk.p.toArray⟩]] (grow (redrawn W5 d) os) fun e w'' => e = .returned (.bool f) ∧ ∃ p : Regrown, w'' = grow (redrawn W5 p.d) p.os from fun d os => Calls.regrown_of (HHk.out _ (hm.below (B.out d os)) (hr0.out.below (B.out d os))))
      have y := cell_regrown (hA.out.cell 0 rfl)
      have z0 := cell_regrown (vv1.out.cell 0 rfl)
      have z1 := cell_regrown (vv1.out.cell 1 rfl)
      have z2 := cell_regrown (vv1.out.cell 2 rfl)
      have z3 := cell_regrown (vv1.out.cell 3 rfl)
      clear HHk vv1 x0 x1 x2 x3
      cases f with
      | false =>
        have e := hid (NX0.out rfl)
        clear HMk LTk NX0 NX1 hvr
        refine wp_region_quiet_below (by kernel_rfl) (by kernel_rfl) ?_
        repeat (go_big_quiet_step (with_reducible exact qH.out _ _))
        refine wpQuiet_nil ?_
        intro _ hw'
        obtain ⟨⟨dq, osq⟩, hw''⟩ := hw'
        subst hw''
        show Exit.then _ _ Exit.normal _ (grow (redrawn W5 dq) osq)
        have hbz := hid (B.out dq osq)
        replace hA := hid (hA.out.below (below_regrown W5 dq osq))
        clear qH y z0 z1 z2 z3 B
        generalize grow (redrawn W5 dq) osq = W6 at hbz hA ⊢
        go_wp2_with fail
        go_roundw
        case rel => exact ⟨k + 1, by omega, by go_num, by rw [hnx.out, e.out], hbz, hA⟩
        case measure => simp [intOf]; omega
      | true =>
        cases o with
        | none =>
          have e := hid (show nx = some k from NX1.out rfl)
          clear HMk LTk NX0 NX1 hvr
          rw [show hiI (none : Option Nat) = -1 from rfl]
          refine wp_region_quiet_below (by kernel_rfl) (by kernel_rfl) ?_
          repeat (go_big_quiet_step (with_reducible exact qH.out _ _))
          refine wpQuiet_nil ?_
          intro _ hw'
          obtain ⟨⟨dq, osq⟩, hw''⟩ := hw'
          subst hw''
          show Exit.then _ _ Exit.normal _ (grow (redrawn W5 dq) osq)
          have hbz := hid (B.out dq osq)
          replace hA := hid (hA.out.below (below_regrown W5 dq osq))
          clear qH y z0 z1 z2 z3 B
          generalize grow (redrawn W5 dq) osq = W6 at hbz hA ⊢
          go_wp2_with fail
          go_roundw
          case rel => exact ⟨k + 1, by omega, by go_num, by rw [hnx.out, e.out]; rfl, hbz, hA⟩
          case measure => simp [intOf]; omega
        | some h =>
          have hlk := LTk.out h rfl
          have HMh := hid (HMk.out h hlk)
          obtain ⟨x0, x1, x2, x3⟩ := hvr.out.2 h (by omega)
          have hbl5 := hvr.out.1
          have e := hid (show nx = if 0 < cmpT vk (vs.getD h zeroT) then some k else some h from NX1.out rfl)
          clear HMk LTk NX0 NX1 hvr
          generalize vs.getD h zeroT = vh at *
          generalize cmpT vk vh = ck at *
          rw [Nat.zero_add] at x0 x1 x2 x3
          replace x0 := cell_regrown x0
          replace x1 := cell_regrown x1
          replace x2 := cell_regrown x2
          replace x3 := cell_regrown x3
          have qC := hid (show ∀ d os, Calls Tryz.prog 26 #[.agg #[.int .i64 (vk.a : Int), .int .i64 (vk.b : Int), .int .i64 (vk.c : Int), .string ⟨vk.p.toArray⟩], .agg #[.int .i64 (vh.a : Int), .int .i64 (vh.b : Int), .int .i64 (vh.c : Int), .string ⟨vh.p.toArray⟩]] (grow (redrawn W5 d) os) fun e w'' => e = .returned (.int .i64 ck) ∧ ∃ p : Regrown, w'' = grow (redrawn W5 p.d) p.os from fun d os => Calls.regrown_of (HMh.out _ (hm.below (B.out d os))))
          rw [show hiI (some h) = (h : Int) from rfl]
          have h0 : decide ((h : Int) < 0) = false := decide_eq_false (by omega)
          have h1 : h < vs.length := by omega
          clear HMh
          by_cases hc : 0 < ck
          · have hc' := decide_eq_true hc
            rw [if_pos hc] at e
            refine wp_region_quiet_below (by kernel_rfl) (by kernel_rfl) ?_
            repeat (go_big_quiet_step (first | with_reducible exact qH.out _ _ | with_reducible exact qC.out _ _))
            refine wpQuiet_nil ?_
            intro _ hw'
            obtain ⟨⟨dq, osq⟩, hw''⟩ := hw'
            subst hw''
            show Exit.then _ _ Exit.normal _ (grow (redrawn W5 dq) osq)
            have hbz := hid (B.out dq osq)
            replace hA := hid (hA.out.below (below_regrown W5 dq osq))
            clear qH qC y z0 z1 z2 z3 x0 x1 x2 x3 B
            generalize grow (redrawn W5 dq) osq = W6 at hbz hA ⊢
            go_wp2_with fail
            go_roundw
            case rel => exact ⟨k + 1, by omega, by go_num, by rw [hnx.out, e.out]; rfl, hbz, hA⟩
            case measure => simp [intOf]; omega
          · have hc' := decide_eq_false hc
            rw [if_neg hc] at e
            refine wp_region_quiet_below (by kernel_rfl) (by kernel_rfl) ?_
            repeat (go_big_quiet_step (first | with_reducible exact qH.out _ _ | with_reducible exact qC.out _ _))
            refine wpQuiet_nil ?_
            intro _ hw'
            obtain ⟨⟨dq, osq⟩, hw''⟩ := hw'
            subst hw''
            show Exit.then _ _ Exit.normal _ (grow (redrawn W5 dq) osq)
            have hbz := hid (B.out dq osq)
            replace hA := hid (hA.out.below (below_regrown W5 dq osq))
            clear qH qC y z0 z1 z2 z3 x0 x1 x2 x3 B
            generalize grow (redrawn W5 dq) osq = W6 at hbz hA ⊢
            go_wp2_with fail
            go_roundw
            case rel => exact ⟨k + 1, by omega, by go_num, by rw [hnx.out, e.out]; rfl, hbz, hA⟩
            case measure => simp [intOf]; omega
    · have hke : k = vs.length := by omega
      subst hke
      clear HH HM LT
      go_wp2_with fail
      go_ret
      exact gives rfl rfl hb.out
end Go.Proofs.YtebhgcejcdgdbaaGreatDoor.Sp
