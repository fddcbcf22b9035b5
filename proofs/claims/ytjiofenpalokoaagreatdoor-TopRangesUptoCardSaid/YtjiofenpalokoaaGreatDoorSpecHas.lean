/-
  LAYER 4, PACKAGE spec: Has.
-/
import Derived.Test.YtjiofenpalokoaaGreatDoorSpecHasW
namespace Go.Proofs.YtjiofenpalokoaaGreatDoor.Sp
open Go.RowKit
open Go.Proofs.YtjiofenpalokoaaGreatDoor Go.Proofs.YtjiofenpalokoaaGreatDoor.Nu Go.Proofs.YtjiofenpalokoaaGreatDoor.Vs

theorem okPre_of {p : List UInt8} (h : p = [] ∨ preV p = true) : OkPre p := ⟨by have := pre_len h; omega, h⟩
theorem compHas_lt {op : Nat} {a b c : Nat} {p : List UInt8} {x y z : Nat} {q : List UInt8} (h : op < 6) : compHas ⟨op, a, b, c, p⟩ x y z q = okOp op (cmpV [x, y, z] [a, b, c] q p) := by
  unfold compHas
  rw [if_neg (by show ¬ op = 8; omega), if_neg (by show ¬ op = 6; omega), if_neg (by show ¬ op = 7; omega), Bool.and_true]
theorem compHas_6 {a b c : Nat} {p : List UInt8} {x y z : Nat} {q : List UInt8} : compHas ⟨6, a, b, c, p⟩ x y z q = (decide (0 ≤ cmpV [x, y, z] [a, b, c] q p) && decide (cmpV [x, y, z] (nextL a b c 1) q [] < 0)) := rfl
theorem compHas_7 {a b c : Nat} {p : List UInt8} {x y z : Nat} {q : List UInt8} : compHas ⟨7, a, b, c, p⟩ x y z q = (decide (0 ≤ cmpV [x, y, z] [a, b, c] q p) && decide (cmpV [x, y, z] (nextL a b c (keptP a b)) q [] < 0)) := rfl

theorem compHas_any (c : CompT) (hc : OkC c) (x y z : Nat) (q : List UInt8) (hq : q = [] ∨ preV q = true) (w : World) (hm : MaxAt w) :
    Calls Tryz.prog 77 #[.agg #[.int .i64 (c.op : Int), .int .i64 (c.a : Int), .int .i64 (c.b : Int), .int .i64 (c.c : Int), .string ⟨c.p.toArray⟩], .agg #[.int .i64 (x : Int), .int .i64 (y : Int), .int .i64 (z : Int), .string ⟨q.toArray⟩]] w (Gives (.bool (compHas c x y z q)) w) := by
  rcases hc with ⟨h8, ha, hb, hcc, hp⟩ | rfl
  · obtain ⟨op, a, b, c, p⟩ := c
    simp only at h8 ha hb hcc hp ⊢
    have HC := fun w hm => compare_any x y z a b c q p (okPre_of hq) (okPre_of hp) w hm
    have ways : op = 0 ∨ op = 1 ∨ op = 2 ∨ op = 3 ∨ op = 4 ∨ op = 5 ∨ op = 6 ∨ op = 7 := by omega
    rcases ways with rfl | rfl | rfl | rfl | rfl | rfl | rfl | rfl
    · rw [compHas_lt (by decide)]; exact has0_w a b c x y z _ ⟨p.toArray⟩ ⟨q.toArray⟩ w hm HC
    · rw [compHas_lt (by decide)]; exact has1_w a b c x y z _ ⟨p.toArray⟩ ⟨q.toArray⟩ w hm HC
    · rw [compHas_lt (by decide)]; exact has2_w a b c x y z _ ⟨p.toArray⟩ ⟨q.toArray⟩ w hm HC
    · rw [compHas_lt (by decide)]; exact has3_w a b c x y z _ ⟨p.toArray⟩ ⟨q.toArray⟩ w hm HC
    · rw [compHas_lt (by decide)]; exact has4_w a b c x y z _ ⟨p.toArray⟩ ⟨q.toArray⟩ w hm HC
    · rw [compHas_lt (by decide)]; exact has5_w a b c x y z _ ⟨p.toArray⟩ ⟨q.toArray⟩ w hm HC
    · rw [compHas_6]
      by_cases hk : 0 ≤ cmpV [x, y, z] [a, b, c] q p
      · rw [decide_eq_true hk, Bool.true_and]
        have HC2 := fun w hm => compare_any x y z a (b + 1) 0 q [] (okPre_of hq) ⟨by simp, .inl rfl⟩ w hm
        exact has6y_w a b c x y z _ a ((b + 1 : Nat) : Int) 0 _ ⟨p.toArray⟩ ⟨q.toArray⟩ hk w hm HC (fun w => next1_any a b c ⟨p.toArray⟩ ha hb hcc w) HC2
      · rw [decide_eq_false hk, Bool.false_and]
        exact has6n_w a b c x y z _ ⟨p.toArray⟩ ⟨q.toArray⟩ hk w hm HC
    · rw [compHas_7]
      by_cases hk : 0 ≤ cmpV [x, y, z] [a, b, c] q p
      · rw [decide_eq_true hk, Bool.true_and]
        obtain ⟨n0, n1, n2, hn, HN⟩ := nextK_any a b c ⟨p.toArray⟩ ha hb hcc
        rw [hn]
        have HC2 := fun w hm => compare_any x y z n0 n1 n2 q [] (okPre_of hq) ⟨by simp, .inl rfl⟩ w hm
        exact has7y_w a b c x y z _ n0 n1 n2 _ _ ⟨p.toArray⟩ ⟨q.toArray⟩ hk w hm HC (fun w => kept_any a b c ⟨p.toArray⟩ w) HN HC2
      · rw [decide_eq_false hk, Bool.false_and]
        exact has7n_w a b c x y z _ ⟨p.toArray⟩ ⟨q.toArray⟩ hk w hm HC
  · exact has8_w 0 0 0 x y z _ ⟨#[]⟩ ⟨q.toArray⟩ w hm (fun w hm => compare_any x y z 0 0 0 q [] (okPre_of hq) ⟨by simp, .inl rfl⟩ w hm)

theorem any_step {α : Type} {f : α → Bool} {l : List α} {k : Nat} {x : α} (h : l[k]? = some x) : (l.take (k + 1)).any f = ((l.take k).any f || f x) := by
  rw [List.take_add_one, h, List.any_append]; simp
theorem opens_val {c : CompT} {x y z : Nat} {pe t : Bool} (hp : ((⟨c.p.toArray⟩ : ByteArray).toList == []) = pe) (ht : ((c.a : Int) == (x : Int) && (c.b : Int) == (y : Int) && (c.c : Int) == (z : Int)) = t) : opens c x y z = (!pe && t) := by
  unfold opens
  rw [← hp, ← ht]
  have e1 : ((⟨c.p.toArray⟩ : ByteArray).toList == []) = decide (c.p = []) := by
    rw [ByteArray.toList_eq, Bool.eq_iff_iff]; simp
  have e2 : ((c.a : Int) == (x : Int) && (c.b : Int) == (y : Int) && (c.c : Int) == (z : Int)) = decide ([c.a, c.b, c.c] = [x, y, z]) := by
    rw [Bool.eq_iff_iff]
    simp only [Bool.and_eq_true, beq_iff_eq, decide_eq_true_eq, List.cons.injEq, and_true]
    omega
  rw [e1, e2]
  by_cases h : c.p = [] <;> simp [h]

set_option maxRecDepth 20000 in
set_option maxHeartbeats 4000000 in
theorem altHas_w (cs : List CompT) (v : Value) (h4 : cs.length ≤ 4) (x y z : Nat) (Q : ByteArray) (ob0 : Bool) (hQ : (Q.toList == []) = ob0) (F : CompT → Bool) (w : World) (hm : MaxAt w) (ha : AltAt w v cs)
    (HH : ∀ c, c ∈ cs → ∀ w, MaxAt w → Calls Tryz.prog 77 #[.agg #[.int .i64 (c.op : Int), .int .i64 (c.a : Int), .int .i64 (c.b : Int), .int .i64 (c.c : Int), .string ⟨c.p.toArray⟩], .agg #[.int .i64 (x : Int), .int .i64 (y : Int), .int .i64 (z : Int), .string Q]] w (Gives (.bool (F c)) w)) :
    Calls Tryz.prog 60 #[v, .agg #[.int .i64 (x : Int), .int .i64 (y : Int), .int .i64 (z : Int), .string Q]] w (Gives (.bool (cs.all F && (ob0 || cs.any fun c => opens c x y z))) w) := by
  obtain ⟨B, cp, rfl, hl, hcm, hB, hcells⟩ := ha
  replace HH := hid HH
  have hcs := hid hcells
  have hB' := hid hB
  clear hcells hB
  generalize hR : (cs.all F && (ob0 || cs.any fun c => opens c x y z)) = R
  replace hR := hid hR
  have TW := hid (fun (c : CompT) w => twin_any (c.a : Int) c.b c.c (x : Int) y z ⟨c.p.toArray⟩ Q w)
  have OV := hid (fun (c : CompT) (pe t : Bool) hp ht => @opens_val c x y z pe t hp ht)
  have hb0 := hid (below_alloc (Below.refl w.heap.size w) (.cells #[.int .i64 (x : Int), .int .i64 (y : Int), .int .i64 (z : Int), .string Q] 38))
  have hn0 := hid (Blk.new w [.int .i64 (x : Int), .int .i64 (y : Int), .int .i64 (z : Int), .string Q] 38)
  generalize (x : Int) = xi at HH TW OV hb0 hn0 ⊢
  generalize (y : Int) = yi at HH TW OV hb0 hn0 ⊢
  generalize (z : Int) = zi at HH TW OV hb0 hn0 ⊢
  go_enter Tryz.func60, Tryz.ntmps60
  go_wp2_with fail
  generalize w.alloc (.cells [.int .i64 xi, .int .i64 yi, .int .i64 zi, .string Q].toArray 38) = W at hb0 hn0 ⊢
  generalize w.heap.size = b at hn0 ⊢
  clear hQ
  go_loopw [5, 7, 13] (fun o _ i wr => ∃ (k : Nat) (ob : Bool), k ≤ cs.length ∧ i = .int .i64 k ∧ o = .bool ob ∧ Hid (Below w.heap.size w wr) ∧ Hid (Blk wr b [.int .i64 xi, .int .i64 yi, .int .i64 zi, .string Q] 38) ∧ Hid (ob = (ob0 || (cs.take k).any fun c => opens c x y z)) ∧ Hid ((cs.take k).all F = true)) (fun _ _ i _ => cs.length - (intOf i).toNat)
  case atStart => exact ⟨0, ob0, by omega, rfl, rfl, hb0, hn0, hid (by simp), hid rfl⟩
  case round =>
    obtain ⟨k, ob, hk, rfl, rfl, hb, hn, hob, hall⟩ := hrel
    clear hb0 hn0
    by_cases hlt : k < cs.length
    · have hx := hid (List.getElem?_eq_getElem hlt)
      generalize cs[k] = c at hx
      obtain ⟨c0, c1, c2, c3, c4⟩ := elem_cells (w := wr) (fun k x hk => by rw [hb.out.cell hB'.out]; exact hcs.out k x hk) hx.out
      have hbl := Nat.lt_of_lt_of_le hB'.out hb.out.size
      have HHc := hid (HH.out c (List.mem_of_getElem? hx.out))
      have TWc := hid (TW.out c)
      have OVc := hid (OV.out c)
      have k4 : k < 4 := Nat.lt_of_lt_of_le hlt h4
      have ANY := hid (@any_step _ (fun c => opens c x y z) cs k c hx.out)
      have ALL := hid (fun h => take_all hall.out hx.out h)
      have OFF := hid (fun h => all_off (p := F) hx.out h)
      clear HH TW OV hx hall
      generalize (c.op : Int) = o at *
      generalize (c.a : Int) = ai at *
      generalize (c.b : Int) = bi at *
      generalize (c.c : Int) = ci at *
      generalize (⟨c.p.toArray⟩ : ByteArray) = PP at *
      generalize opens c x y z = oc at OVc ANY
      generalize hPE : (PP.toList == []) = pe at OVc
      generalize hTW : (ai == xi && bi == yi && ci == zi) = tw at TWc OVc
      replace OVc := hid (OVc.out pe tw rfl rfl)
      replace hPE := hid hPE
      replace hTW := hid hTW
      have hb1 := hid (below_alloc hb.out (.cells #[.int .i64 o, .int .i64 ai, .int .i64 bi, .int .i64 ci, .string PP] 40))
      have hn1 := hid (hn.out.alloc (.cells #[.int .i64 o, .int .i64 ai, .int .i64 bi, .int .i64 ci, .string PP] 40))
      have hc1 := hid (Blk.new wr [.int .i64 o, .int .i64 ai, .int .i64 bi, .int .i64 ci, .string PP] 40)
      have n0 := hn.out.cell 0 rfl
      have n1 := hn.out.cell 1 rfl
      have n2 := hn.out.cell 2 rfl
      have n3 := hn.out.cell 3 rfl
      have nl := hn.out.lt
      cases hF : F c
      · rw [hF] at HHc
        have hr := hid (show R = false by rw [← hR.out, OFF.out hF]; rfl)
        clear ALL OFF hF ANY TWc OVc
        go_wp2_with (go_at_call 77; (with_reducible refine (HHc.out _ (hm.below hb1.out)).mono ?_); rintro e w1 ⟨rfl, hb2⟩)
        go_ret
        exact gives rfl (bool_eq hr.out.symm) (below_trans hb1.out hb2)
      · rw [hF] at HHc
        have hall := hid (ALL.out hF)
        clear ALL OFF hF n0 n1 n2 n3 nl
        have n0 := hn.out.cell 0 rfl
        have n1 := hn.out.cell 1 rfl
        have n2 := hn.out.cell 2 rfl
        have n3 := hn.out.cell 3 rfl
        have nl := hn.out.lt
        go_wp2_with fail
        generalize wr.alloc (.cells [.int .i64 o, .int .i64 ai, .int .i64 bi, .int .i64 ci, .string PP].toArray 40) = W1 at hb1 hn1 hc1 ⊢
        generalize wr.heap.size = bc at hc1 ⊢
        refine (HHc.out _ (hm.below hb1.out)).mono ?_
        rintro e w1 ⟨rfl, hb2⟩
        have hb3 := hid (below_trans hb1.out hb2)
        have hn2 := hid (hn1.out.below hb2)
        have hc2 := hid (hc1.out.below hb2)
        clear hb1 hn1 hc1 hb2 c0 c1 c2 c3 c4 n0 n1 n2 n3 nl hbl hn hb
        have d0 := hc2.out.cell 1 rfl
        have d1 := hc2.out.cell 2 rfl
        have d2 := hc2.out.cell 3 rfl
        have d3 := hc2.out.cell 4 rfl
        have e0 := hn2.out.cell 0 rfl
        have e1 := hn2.out.cell 1 rfl
        have e2 := hn2.out.cell 2 rfl
        have e3 := hn2.out.cell 3 rfl
        cases ob
        · cases pe
          · have hpe := hPE.out
            have hnew := hid (show tw = (ob0 || (cs.take (k + 1)).any fun c => opens c x y z) by
              rw [ANY.out, ← Bool.or_assoc, ← hob.out, OVc.out]; rfl)
            go_wp2_with (go_at_call 78; (with_reducible refine (TWc.out _).mono ?_); rintro e w2 ⟨rfl, hb4⟩)
            go_roundw
            case rel => exact ⟨k + 1, tw, by omega, by go_num, rfl, hid (below_trans hb3.out hb4), hid (hn2.out.below hb4), hnew, hall⟩
            case measure => simp [intOf]; omega
          · have hpe := hPE.out
            have hnew := hid (show false = (ob0 || (cs.take (k + 1)).any fun c => opens c x y z) by
              rw [ANY.out, ← Bool.or_assoc, ← hob.out, OVc.out]; rfl)
            go_wp2_with fail
            go_roundw
            case rel => exact ⟨k + 1, false, by omega, by go_num, rfl, hb3, hn2, hnew, hall⟩
            case measure => simp [intOf]; omega
        · have hnew := hid (show true = (ob0 || (cs.take (k + 1)).any fun c => opens c x y z) by
            rw [ANY.out, ← Bool.or_assoc, ← hob.out]; rfl)
          go_wp2_with fail
          go_roundw
          case rel => exact ⟨k + 1, true, by omega, by go_num, rfl, hb3, hn2, hnew, hall⟩
          case measure => simp [intOf]; omega
    · have hke : k = cs.length := by omega
      have hr := hid (show R = ob by
        have h1 := hall.out
        have h2 := hob.out
        rw [hke, List.take_length] at h1 h2
        rw [← hR.out, h1, h2]; rfl)
      clear hke HH TW OV
      go_wp2_with fail
      go_ret
      exact gives rfl (bool_eq hr.out.symm) hb.out

theorem list_nil (q : List UInt8) : ((⟨q.toArray⟩ : ByteArray).toList == []) = decide (q = []) := by
  rw [ByteArray.toList_eq, Bool.eq_iff_iff]; simp
theorem altHas_any (cs : List CompT) (v : Value) (h4 : cs.length ≤ 4) (hok : ∀ c, c ∈ cs → OkC c) (x y z : Nat) (q : List UInt8) (hq : q = [] ∨ preV q = true) (w : World) (hm : MaxAt w) (ha : AltAt w v cs) :
    Calls Tryz.prog 60 #[v, .agg #[.int .i64 (x : Int), .int .i64 (y : Int), .int .i64 (z : Int), .string ⟨q.toArray⟩]] w (Gives (.bool (altHas cs x y z q)) w) :=
  altHas_w cs v h4 x y z ⟨q.toArray⟩ (decide (q = [])) (list_nil q) (fun c => compHas c x y z q) w hm ha (fun c hc w hm => compHas_any c (hok c hc) x y z q hq w hm)
end Go.Proofs.YtjiofenpalokoaaGreatDoor.Sp
