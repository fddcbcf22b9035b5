/-
  LAYER 4, PACKAGE spec: comparisons checked, and written.
-/
import Derived.Test.YtmeaajhongalaaaGreatDoorSpecParse
import Derived.Test.YtmeaajhongalaaaGreatDoorVersionText2
import Derived.Test.YtmeaajhongalaaaGreatDoorVersionRefText
import Derived.Test.YtmeaajhongalaaaGreatDoorBuilderS
namespace Go.Proofs.YtmeaajhongalaaaGreatDoor.Sp
open Go.RowKit Go.Sort
open Go.Proofs.YtmeaajhongalaaaGreatDoor Go.Proofs.YtmeaajhongalaaaGreatDoor.Nu Go.Proofs.YtmeaajhongalaaaGreatDoor.Vs

theorem joinl_len {c : UInt8} {n : Nat} : ∀ {ps : List (List UInt8)}, (∀ p, p ∈ ps → p.length ≤ n) → (joinl c ps).length ≤ (n + 1) * ps.length := by
  intro ps
  induction ps with
  | nil => intro _; simp [joinl]
  | cons p ps ih =>
    intro h
    have h1 := h p (by simp)
    have h2 := ih (fun q hq => h q (by simp [hq]))
    by_cases hp : ps = []
    · subst hp
      have : joinl c [p] = p := rfl
      rw [this]; simp; omega
    · rw [joinl_cons hp, List.length_append, List.length_cons, List.length_cons, Nat.mul_succ]; omega
theorem preV_len {p : List UInt8} (h : preV p = true) : p.length ≤ 36 := by
  unfold preV at h
  simp only [Bool.and_eq_true, decide_eq_true_eq] at h
  have hl := joinl_len (c := 46) (n := 8) (ps := cutl 46 p) (fun q hq => by
    have := List.all_eq_true.1 h.2 q hq
    unfold partV at this
    simp only [Bool.and_eq_true, decide_eq_true_eq] at this
    exact this.1.1.2)
  rw [join_cutl] at hl
  omega
theorem pre_len {p : List UInt8} (h : p = [] ∨ preV p = true) : p.length ≤ 36 := by
  rcases h with rfl | h
  · simp
  · exact preV_len h
theorem verCheck (a b c : Nat) (p : List UInt8) (ha : a < 1000000) (hb : b < 1000000) (hc : c < 1000000) (hp : p = [] ∨ preV p = true) (w : World) (hm : MaxAt w) :
    Calls Tryz.prog 62 #[.agg #[.int .i64 (a : Int), .int .i64 (b : Int), .int .i64 (c : Int), .string ⟨p.toArray⟩]] w (Gives (.bool true) w) := by
  have hl := pre_len hp
  have := check_any a b c p (by omega) w hm
  rw [check_nat _ _ _ _ ha hb hc] at this
  rcases hp with hp | hp
  · rw [decide_eq_true hp] at this; exact this
  · rw [hp, Bool.or_true] at this; exact this

set_option maxRecDepth 20000 in
set_option maxHeartbeats 1000000 in
theorem compCheck_any (c : CompT) (hc : OkC c) (w : World) (hm : MaxAt w) :
    Calls Tryz.prog 157 #[.agg #[.int .i64 (c.op : Int), .int .i64 (c.a : Int), .int .i64 (c.b : Int), .int .i64 (c.c : Int), .string ⟨c.p.toArray⟩]] w (Gives (.bool true) w) := by
  rcases hc with ⟨h8, ha, hb, hcc, hp⟩ | rfl
  · have HV := hid (verCheck c.a c.b c.c c.p ha hb hcc hp)
    have e1 : ((c.op : Int) == 8) = false := by rw [beq_eq_false_iff_ne]; omega
    have e2 : (0 : Int) ≤ (c.op : Int) := by omega
    have e3 : (c.op : Int) < 8 := by omega
    clear h8 ha hb hcc hp
    generalize (c.op : Int) = o at e1 e2 e3 ⊢
    generalize (c.a : Int) = x at HV ⊢
    generalize (c.b : Int) = y at HV ⊢
    generalize (c.c : Int) = z at HV ⊢
    generalize (⟨c.p.toArray⟩ : ByteArray) = p at HV ⊢
    have hb0 := below_alloc (Below.refl w.heap.size w) (.cells #[.int .i64 o, .int .i64 x, .int .i64 y, .int .i64 z, .string p] 217)
    go_enter Tryz.func157, Tryz.ntmps157
    go_wp2_with (go_at_call 62; (with_reducible refine (HV.out _ (hm.below hb0)).mono ?_); rintro e w1 ⟨rfl, hb1⟩)
    go_ret
    exact gives rfl rfl (below_trans hb0 hb1)
  · have g2 : Tryz.prog.eqGuardType Tryz.prog.depth 41 = false := by kernel_rfl
    show Calls Tryz.prog 157 #[.agg #[.int .i64 8, .int .i64 0, .int .i64 0, .int .i64 0, .string ⟨#[]⟩]] w (Gives (.bool true) w)
    go_enter Tryz.func157, Tryz.ntmps157
    go_wp2_with fail
    go_ret
    exact gives rfl rfl (below_alloc (Below.refl _ _) _)

theorem elem_cells {w : World} {B : Nat} {cs : List CompT} (h : ∀ k x, (cellsC cs)[k]? = some x → w.cell? ⟨B, k, none⟩ = some x) {k : Nat} {c : CompT} (hk : cs[k]? = some c) :
    w.cell? ⟨B, k * 5, none⟩ = some (.int .i64 (c.op : Int)) ∧ w.cell? ⟨B, k * 5 + 1, none⟩ = some (.int .i64 (c.a : Int)) ∧ w.cell? ⟨B, k * 5 + 2, none⟩ = some (.int .i64 (c.b : Int)) ∧ w.cell? ⟨B, k * 5 + 3, none⟩ = some (.int .i64 (c.c : Int)) ∧ w.cell? ⟨B, k * 5 + 4, none⟩ = some (.string ⟨c.p.toArray⟩) :=
  ⟨h _ _ (cellsC_at hk 0 _ rfl), h _ _ (cellsC_at hk 1 _ rfl), h _ _ (cellsC_at hk 2 _ rfl), h _ _ (cellsC_at hk 3 _ rfl), h _ _ (cellsC_at hk 4 _ rfl)⟩

set_option maxRecDepth 20000 in
set_option maxHeartbeats 1000000 in
theorem checkAlt_any (cs : List CompT) (v : Value) (h1 : 1 ≤ cs.length) (h4 : cs.length ≤ 4) (hok : ∀ c, c ∈ cs → OkC c) (w : World) (hm : MaxAt w) (ha : AltAt w v cs) :
    Calls Tryz.prog 123 #[v] w (Gives (.bool true) w) := by
  obtain ⟨B, cp, rfl, hl, hcm, hB, hcells⟩ := ha
  have HK := hid (fun c hc w hm => compCheck_any c (hok c hc) w hm)
  have hcs := hid hcells
  replace hok := hid hok
  clear hcells
  have hB' := hid hB
  clear hB
  go_enter Tryz.func123, Tryz.ntmps123
  go_wp2_with fail
  go_loopw [4, 15] (fun _ i wr => ∃ k : Nat, k ≤ cs.length ∧ i = .int .i64 k ∧ Hid (Below w.heap.size w wr)) (fun _ i _ => cs.length - (intOf i).toNat)
  case atStart => exact ⟨0, by omega, rfl, hid (Below.refl _ _)⟩
  case round =>
    obtain ⟨k, hk, rfl, hb⟩ := hrel
    by_cases hlt : k < cs.length
    · have hx := hid (List.getElem?_eq_getElem hlt)
      generalize cs[k] = c at hx
      have hce := elem_cells (w := wr) (fun k x hk => by rw [hb.out.cell hB'.out]; exact hcs.out k x hk) hx.out
      obtain ⟨c0, c1, c2, c3, c4⟩ := hce
      have hbl := Nat.lt_of_lt_of_le hB'.out hb.out.size
      have HKc := hid (HK.out c (List.mem_of_getElem? hx.out))
      have k4 : k < 4 := Nat.lt_of_lt_of_le hlt h4
      clear HK hok hx
      generalize (c.op : Int) = o at *
      generalize (c.a : Int) = x at *
      generalize (c.b : Int) = y at *
      generalize (c.c : Int) = z at *
      generalize (⟨c.p.toArray⟩ : ByteArray) = p at *
      have hb0 := hid (below_alloc hb.out (.cells #[.int .i64 o, .int .i64 x, .int .i64 y, .int .i64 z, .string p] 217))
      go_wp2_with (go_at_call 157; (with_reducible refine (HKc.out _ (hm.below hb0.out)).mono ?_); rintro e w1 ⟨rfl, hb1⟩)
      go_roundw
      case rel => exact ⟨k + 1, by omega, by go_num, hid (below_trans hb0.out hb1)⟩
      case measure => simp [intOf]; omega
    · go_wp2_with fail
      go_ret
      exact gives rfl rfl hb.out

theorem text_len (n : Nat) (h : n < 1000000) : (decS n).length ≤ 6 := by
  have := dec_six n h
  have e : (⟨(decS n).toArray⟩ : ByteArray).size = (decS n).length := by show (decS n).toArray.size = _; simp
  omega
theorem compText_len {c : CompT} (h : OkC c) : (compText c).length ≤ 59 := by
  rcases h with ⟨h8, ha, hb, hc, hp⟩ | rfl
  · have h1 := text_len _ ha
    have h2 := text_len _ hb
    have h3 := text_len _ hc
    have h4 := pre_len hp
    have hs : (sgn c.op).length ≤ 2 := by
      unfold sgn; split <;> simp
    unfold compText textV textN
    rw [if_neg (by omega)]
    split <;> simp <;> omega
  · decide

set_option maxRecDepth 20000 in
set_option maxHeartbeats 1000000 in
theorem compWrite_any (c : CompT) (hc : OkC c) (w : World) (hm : MaxAt w) (ht : TenAt w) (hg : SignsAt w) :
    Calls Tryz.prog 158 #[.agg #[.int .i64 (c.op : Int), .int .i64 (c.a : Int), .int .i64 (c.b : Int), .int .i64 (c.c : Int), .string ⟨c.p.toArray⟩]] w (Gives (.string ⟨(compText c).toArray⟩) w) := by
  rcases hc with ⟨h8, ha, hb, hcc, hp⟩ | rfl
  · have hsl := pre_len hp
    have HT := hid (fun w hm ht => text_yes c.a c.b c.c c.p (by omega) ha hb hcc hp w hm ht)
    have e1 : ((c.op : Int) == 8) = false := by rw [beq_eq_false_iff_ne]; omega
    have e2 : (0 : Int) ≤ (c.op : Int) := by omega
    have e3 : (c.op : Int) < 9 := by omega
    have hs : (sgn c.op).length ≤ 2 := by unfold sgn; split <;> simp
    have hsz1 : (⟨(sgn c.op).toArray⟩ : ByteArray).size ≤ 2 := by show (sgn c.op).toArray.size ≤ 2; simpa using hs
    have hsz2 : (⟨(textV c.a c.b c.c c.p).toArray⟩ : ByteArray).size ≤ 60 := by
      show (textV c.a c.b c.c c.p).toArray.size ≤ 60
      have h1 := text_len _ ha
      have h2 := text_len _ hb
      have h3 := text_len _ hcc
      unfold textV textN
      split <;> simp <;> omega
    have HR := hid (show (⟨(compText c).toArray⟩ : ByteArray) = ⟨(sgn c.op).toArray⟩ ++ ⟨(textV c.a c.b c.c c.p).toArray⟩ by
      rw [bytes_append]; unfold compText; rw [if_neg (by omega)])
    have hb0 := below_alloc (Below.refl w.heap.size w) (.cells #[.int .i64 (c.op : Int), .int .i64 (c.a : Int), .int .i64 (c.b : Int), .int .i64 (c.c : Int), .string ⟨c.p.toArray⟩] 217)
    have hg1 := hg.below hb0
    have g1 := hg1.1
    have g2 := hg1.2 c.op (by omega)
    have hn := Blk.new w [.int .i64 (c.op : Int), .int .i64 (c.a : Int), .int .i64 (c.b : Int), .int .i64 (c.c : Int), .string ⟨c.p.toArray⟩] 217
    clear h8 ha hb hcc hp hs hsl
    generalize (⟨(compText c).toArray⟩ : ByteArray) = RT at HR ⊢
    generalize (⟨(sgn c.op).toArray⟩ : ByteArray) = SG at HR g2 hsz1
    generalize (⟨(textV c.a c.b c.c c.p).toArray⟩ : ByteArray) = TX at HR HT hsz2
    generalize (c.a : Int) = x at *
    generalize (c.b : Int) = y at *
    generalize (c.c : Int) = z at *
    generalize (⟨c.p.toArray⟩ : ByteArray) = p at *
    replace hn := hid hn
    replace hb0 := hid hb0
    replace hg1 := hid hg1
    go_enter Tryz.func158, Tryz.ntmps158
    go_wp2_with fail
    generalize w.alloc (.cells [.int .i64 (c.op : Int), .int .i64 x, .int .i64 y, .int .i64 z, .string p].toArray 217) = W at hn hb0 hg1 g1 g2 ⊢
    generalize w.heap.size = b at hn ⊢
    have k0 := cell_regrown (hn.out.cell 0 rfl)
    have k1 := cell_regrown (hn.out.cell 1 rfl)
    have k2 := cell_regrown (hn.out.cell 2 rfl)
    have k3 := cell_regrown (hn.out.cell 3 rfl)
    have k4 := cell_regrown (hn.out.cell 4 rfl)
    have k5 := cell_regrown g2
    have q0 := hid (show ∀ d os, Calls Tryz.prog 58 #[.agg #[.int .i64 x, .int .i64 y, .int .i64 z, .string p]] (grow (redrawn W d) os) fun e w'' => e = .returned (.string TX) ∧ ∃ p : Regrown, w'' = grow (redrawn W p.d) p.os from fun d os => Calls.regrown_of (HT.out _ (hm.below (below_trans hb0.out (below_regrown W d os))) (ht.below (below_trans hb0.out (below_regrown W d os)))))
    have n1 : ¬ 9223372036854775807 < SG.size + TX.size := by omega
    refine wp_region_quiet_below (by kernel_rfl) (by kernel_rfl) ?_
    repeat (quiet_step (first | with_reducible exact q0.out _ _))
    refine wpQuiet_nil ?_
    intro _ hw'
    obtain ⟨⟨dq, osq⟩, hw''⟩ := hw'
    subst hw''
    have hbz := below_trans hb0.out (below_regrown W dq osq)
    clear k0 k1 k2 k3 k4 k5 q0
    show Exit.then _ _ Exit.normal _ (grow (redrawn W dq) osq)
    generalize grow (redrawn W dq) osq = W5 at hbz ⊢
    go_wp2_with fail
    go_ret
    exact gives rfl (Cb.str_eq HR.out.symm) hbz
  · have hb0 := below_alloc (Below.refl w.heap.size w) (.cells #[.int .i64 8, .int .i64 0, .int .i64 0, .int .i64 0, .string ⟨#[]⟩] 217)
    have hg1 := hg.below hb0
    have g1 := hg1.1
    have g2 := hg1.2 8 (by omega)
    rw [show (sgn 8) = [42] from rfl] at g2
    show Calls Tryz.prog 158 #[.agg #[.int .i64 8, .int .i64 0, .int .i64 0, .int .i64 0, .string ⟨#[]⟩]] w (Gives (.string ⟨#[42]⟩) w)
    replace hg1 := hid hg1
    replace hb0 := hid hb0
    go_enter Tryz.func158, Tryz.ntmps158
    go_wp2_with fail
    go_ret
    exact gives rfl rfl hb0.out
end Go.Proofs.YtmeaajhongalaaaGreatDoor.Sp
