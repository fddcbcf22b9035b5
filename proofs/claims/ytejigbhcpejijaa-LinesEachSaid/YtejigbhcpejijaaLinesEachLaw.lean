/-
  LAYER 1: LinesEach.
-/
import Derived.Test.YtejigbhcpejijaaLinesPlayW
import Derived.Test.YtejigbhcpejijaaLinesOpsOpen
import Derived.Test.YtejigbhcpejijaaLinesEachBy
import Derived.Test.YtejigbhcpejijaaLinesEach3
import Derived.Deep.DeepCutAuto
import Derived.Deep.CutBlock
import Derived.Deep.RegionHeld3
namespace Go.Proofs.Ytejigbhcpejijaa.Ln
open Go.RowKit

set_option maxRecDepth 100000 in
set_option maxHeartbeats 1000000 in
/-- Each of no lines -/
theorem eachNone_any (F : FuncId) (cap : Array Value) (a : Option Addr) (c : Nat) (w : World) :
    Calls Try.prog 21 #[.slice a 0 c, .func (.func F) #[] cap] w fun e w' => e = .returned (.agg #[.int .i64 0, .int .i64 0, .int .i64 0]) ∧ Below w.heap.size w w' := by
  have hmf : ∀ (fn : Fn) (first cap : Array Value) (w : World), (Instr.makeFunc fn first cap).run Try.prog w = .ok (.func fn first cap) w := fun _ _ _ _ => rfl
  go_enter_defers Try.func21, Try.ntmps21
  go_wp2
  go_rounds 1
  refine leaves_cons (f := 38) (args := #[.pointer (some ⟨w.heap.size, 0, none⟩)]) (by simp) (by simp [go_sem]) ?_
  refine (catch_idle w.heap.size _).mono ?_
  rintro e u' w'' ⟨rfl, rfl, rfl⟩
  refine ⟨.agg #[.int .i64 0, .int .i64 0, .int .i64 0], by simp [results, Try.results21, go_sem], rfl, ?_⟩
  (repeat (first | exact Below.refl _ _ | assumption | refine below_alloc ?_ _ | refine below_drew ?_ | refine below_trans ?_ (by assumption)))

theorem keepB {wr c : World} {g i q : Nat} {x0 x1 x2 x3 : Value} (k : Below wr.heap.size wr c) (c0 : wr.cell? ⟨g, i * 3, none⟩ = some x0) (c1 : wr.cell? ⟨g, i * 3 + 1, none⟩ = some x1) (c2 : wr.cell? ⟨g, i * 3 + 2, none⟩ = some x2) (o3 : wr.cell? ⟨q, 0, none⟩ = some x3) :
    c.cell? ⟨g, i * 3, none⟩ = some x0 ∧ c.cell? ⟨g, i * 3 + 1, none⟩ = some x1 ∧ c.cell? ⟨g, i * 3 + 2, none⟩ = some x2 ∧ c.cell? ⟨q, 0, none⟩ = some x3 := ⟨bcell k c0, bcell k c1, bcell k c2, bcell k o3⟩
/-- the guard says no: nothing but the example is asked -/
theorem law_each_out (s : ByteArray) (oa : Option Addr) (n c : Nat) (hs : 2000 < s.size ∨ 30 < n) (hs2 : s.size ≤ maxLen) (w : World) :
    Calls Try.prog 5 #[.string s, .slice oa n c] w fun e w' => e = .returned (.bool true) ∧ Below w.heap.size w w' := by
  unfold maxLen at hs2
  by_cases h1 : 2000 < s.size
  · have g1 : (2000 : Int) < (s.size : Int) := by omega
    clear hs
    go_enter Try.func5, Try.ntmps5
    go_wp2_with fail
    refine (readTrue_any _).mono ?_
    rintro e w1 ⟨rfl, hb1⟩
    have HB1 := hid hb1
    clear hb1
    go_wp2_with fail
    refine (readTrue_any _).mono ?_
    rintro e w2 ⟨rfl, hb2⟩
    have HB2 := hid hb2
    clear hb2
    go_wp2_with fail
    go_ret
    exact ⟨rfl, below_trans (below_trans (below_alloc (Below.refl _ _) _) HB1.out) HB2.out⟩
  · have g1 : ¬ (2000 : Int) < (s.size : Int) := by omega
    have g2 : (30 : Int) < (n : Int) := by omega
    clear hs
    go_enter Try.func5, Try.ntmps5
    go_wp2_with fail
    refine (readTrue_any _).mono ?_
    rintro e w1 ⟨rfl, hb1⟩
    have HB1 := hid hb1
    have o0 := ((Blk.new w [.slice oa n c] 47).below hb1).cell 0 rfl
    clear hb1
    go_wp2_with fail
    refine (readTrue_any _).mono ?_
    rintro e w2 ⟨rfl, hb2⟩
    have HB2 := hid hb2
    clear hb2
    go_wp2_with fail
    go_ret
    exact ⟨rfl, below_trans (below_trans (below_alloc (Below.refl _ _) _) HB1.out) HB2.out⟩

theorem not0 {f1 f2 f3 : Int} (h : (f1, f2, f3) ≠ ((0, 0, 0) : Int × Int × Int)) : (f1 == 0 && f2 == 0 && f3 == 0) = false := by
  rw [Bool.eq_false_iff]
  intro h'
  simp only [Bool.and_eq_true, beq_iff_eq] at h'
  exact h (by rw [h'.1.1, h'.1.2, h'.2])

theorem each_meas {N i : Nat} {z : Int} (h : i < N) (hz : z = ((i + 1 : Nat) : Int)) : N - (intOf (.int .i64 z)).toNat < N - (intOf (.int .i64 ((i : Nat) : Int))).toNat := by
  subst hz
  simp only [intOf]
  omega

theorem three_ne {f1 f2 f3 : Int} (h : ¬ (f1, f2, f3) = ((0, 0, 0) : Int × Int × Int)) : (f1 == 0) = false ∨ (f2 == 0) = false ∨ (f3 == 0) = false := by
  by_cases h1 : f1 = 0
  · by_cases h2 : f2 = 0
    · right; right
      exact beq_eq_false_iff_ne.2 (fun h3 => h (by rw [h1, h2, h3]))
    · right; left
      exact beq_eq_false_iff_ne.2 h2
  · left
    exact beq_eq_false_iff_ne.2 h1

/-- what holds at the head of a round of the document's walk over the lines -/
structure DocAt (os : List OpD) (xs : List LineS) (w2 : World) (i seen : Nat) (out : List (List UInt8)) (f1 f2 f3 : Int) (v : Value) (wr : World) : Prop where
  row : wr.ownsRow (w2.heap.size + 2) 9 1 v out.length (strs out)
  len : out.length ≤ 30 * i
  below : Below w2.heap.size w2 wr
  res : Blk wr (w2.heap.size + 1) [.int .i64 f1, .int .i64 f2, .int .i64 f3] 30
  run : ((f1, f2, f3) = ((0, 0, 0) : Int × Int × Int) ∧ eachW os xs [] 0 = eachW os (xs.drop i) out seen) ∨ ((f1, f2, f3) ≠ ((0, 0, 0) : Int × Int × Int) ∧ eachW os xs [] 0 = (out, seen, (f1, f2, f3)))

theorem eachI_only {os : List OpD} {xs : List LineS} {oB lB gB base n c k f : Nat} {oa : Option Addr} {wa wb : World} (h : eachI os xs oB lB gB base oa n c k wa) (ho : Only (· = f) wa wb) (h1 : oB ≠ f) (h2 : lB ≠ f) (h3 : gB ≠ f) (h4 : f < base) : eachI os xs oB lB gB base oa n c k wb := by
  obtain ⟨a, out, seen, b, ⟨v, c1, c2⟩, d, e⟩ := h
  exact ⟨Blk.only a ho h1, out, seen, Blk.only b ho h2, ⟨v, Blk.only c1 ho h3, ownsRow_only c2 ho (fun k hk _ h => by omega)⟩, d, e⟩
theorem eachD_only {os : List OpD} {xs : List LineS} {lB f : Nat} {g : Flt} {wa wb : World} (h : eachD os xs lB g wa) (ho : Only (· = f) wa wb) (h2 : lB ≠ f) : eachD os xs lB g wb := by
  obtain ⟨out, seen, b, e, d⟩ := h
  exact ⟨out, seen, Blk.only b ho h2, e, d⟩

theorem each_set {wr M w3 : World} {v : Value} {n : Nat} {xs : List Value} {a b c : Value} (hr : w3.ownsRow M.heap.size 9 1 v n xs) (hM : M.heap.size = wr.heap.size + 1) :
    (((w3.setCell ⟨wr.heap.size, 0, none⟩ a).setCell ⟨wr.heap.size, 1, none⟩ b).setCell ⟨wr.heap.size, 2, none⟩ c).ownsRow wr.heap.size 9 1 v n xs := by
  have h1 : wr.heap.size < M.heap.size := by omega
  exact ownsRow_mono (ownsRow_setCell_below (ownsRow_setCell_below (ownsRow_setCell_below hr (a := ⟨_, 0, none⟩) h1 _) (a := ⟨_, 1, none⟩) h1 _) (a := ⟨_, 2, none⟩) h1 _) (by omega)
theorem each_set2 {wr M w3 : World} {a b c : Value} (hb : Below M.heap.size M w3) (h2 : Below wr.heap.size wr M) :
    Below wr.heap.size wr (((w3.setCell ⟨wr.heap.size, 0, none⟩ a).setCell ⟨wr.heap.size, 1, none⟩ b).setCell ⟨wr.heap.size, 2, none⟩ c) := by
  have h3 : wr.heap.size ≤ wr.heap.size := Nat.le_refl _
  exact (((below_trans h2 hb).setCell (p := ⟨wr.heap.size, 0, none⟩) h3 _).setCell (p := ⟨wr.heap.size, 1, none⟩) h3 _).setCell (p := ⟨wr.heap.size, 2, none⟩) h3 _

theorem doc_next {os : List OpD} {xs : List LineS} {i no seen : Nat} {ws : List (List UInt8)} {cs : List Nat} {out o : List (List UInt8)} {p1 p2 p3 : Int} (hx : xs[i]? = some (no, ws, cs)) (hpl : playR no ws cs os = (o, (p1, p2, p3))) (hrun : eachW os xs [] 0 = eachW os (xs.drop i) out seen) :
    ((p1, p2, p3) = ((0, 0, 0) : Int × Int × Int) ∧ eachW os xs [] 0 = eachW os (xs.drop (i + 1)) (out ++ o) no) ∨ ((p1, p2, p3) ≠ ((0, 0, 0) : Int × Int × Int) ∧ eachW os xs [] 0 = (out ++ o, no, (p1, p2, p3))) := by
  by_cases h : (p1, p2, p3) = ((0, 0, 0) : Int × Int × Int)
  · left
    have := hrun.trans (each_next hx (by show (playR no ws cs os).2 = _; rw [hpl]; exact h))
    dsimp only at this
    rw [hpl] at this
    exact ⟨h, this⟩
  · right
    have := hrun.trans (each_stop hx (by show (playR no ws cs os).2 ≠ _; rw [hpl]; exact h))
    dsimp only at this
    rw [hpl] at this
    exact ⟨h, this⟩

theorem doc_set {os : List OpD} {xs : List LineS} {w2 wx : World} {i seen : Nat} {out : List (List UInt8)} {q1 q2 q3 p1 p2 p3 : Int} {v : Value} (hrow : wx.ownsRow (w2.heap.size + 2) 9 1 v out.length (strs out)) (hlen : out.length ≤ 30 * i) (hb : Below w2.heap.size w2 wx) (hres : Blk wx (w2.heap.size + 1) [.int .i64 q1, .int .i64 q2, .int .i64 q3] 30)
    (hrun : ((p1, p2, p3) = ((0, 0, 0) : Int × Int × Int) ∧ eachW os xs [] 0 = eachW os (xs.drop i) out seen) ∨ ((p1, p2, p3) ≠ ((0, 0, 0) : Int × Int × Int) ∧ eachW os xs [] 0 = (out, seen, (p1, p2, p3)))) :
    DocAt os xs w2 i seen out p1 p2 p3 v (((wx.setCell ⟨w2.heap.size + 1, 0, none⟩ (.int .i64 p1)).setCell ⟨w2.heap.size + 1, 1, none⟩ (.int .i64 p2)).setCell ⟨w2.heap.size + 1, 2, none⟩ (.int .i64 p3)) := by
  have h1 : w2.heap.size + 1 < w2.heap.size + 2 := Nat.lt_succ_self _
  have h2 : w2.heap.size ≤ w2.heap.size + 1 := Nat.le_succ _
  exact ⟨ownsRow_setCell_below (ownsRow_setCell_below (ownsRow_setCell_below hrow (a := ⟨_, 0, none⟩) h1 _) (a := ⟨_, 1, none⟩) h1 _) (a := ⟨_, 2, none⟩) h1 _, hlen,
    ((hb.setCell (p := ⟨w2.heap.size + 1, 0, none⟩) h2 _).setCell (p := ⟨w2.heap.size + 1, 1, none⟩) h2 _).setCell (p := ⟨w2.heap.size + 1, 2, none⟩) h2 _, three_cells hres _ _ _, hrun⟩

set_option maxRecDepth 100000 in
set_option maxHeartbeats 32000000 in
theorem law_each (l : List UInt8) (hl : l.length ≤ 2000) (oa : Option Addr) (c B oo : Nat) (os : List OpD) (hn30 : os.length ≤ 30) (w : World) (hoa : 0 < os.length → oa = some ⟨B, oo, none⟩) (hBw : B ≤ w.heap.size) (hops : OpsAt w B oo os) :
    Calls Try.prog 5 #[.string ⟨l.toArray⟩, .slice oa os.length c] w fun e w' => e = .returned (.bool true) ∧ Below w.heap.size w w' := by
  have HL := hid hl
  have HOA := hid hoa
  have HOPS := hid hops
  have RD := hid (fun W => Read_any l (by omega) W)
  have hgl : l.length ≤ 2000 := hl
  generalize hN : os.length = n at *
  have HN := hid hN
  clear hN hoa hops
  go_enter Try.func5, Try.ntmps5
  go_wp2_with fail
  refine (readTrue_any _).mono ?_
  rintro e w1 ⟨rfl, hb1⟩
  have HB1 := hid hb1
  have HO1 := hid ((Blk.new w [.slice oa n c] 47).below hb1)
  have o0 := HO1.out.cell 0 rfl
  clear hb1
  go_wp2_with fail
  refine (RD.out _).mono ?_
  intro e w2 hr
  obtain ⟨hb2, hr⟩ := hr
  have HB2 := hid hb2
  have HO2 := hid (HO1.out.below hb2)
  have g25 : Try.prog.eqGuardType Try.prog.depth 25 = false := by kernel_rfl
  have g30 : Try.prog.eqGuardType Try.prog.depth 30 = false := by kernel_rfl
  cases hres : readS l with
  | error p =>
    obtain ⟨ec, no, col⟩ := p
    rw [hres] at hr
    dsimp only at hr
    subst hr
    have hcode := readS_codes hres
    have e0 : ((ec : Int) == 0) = false := by rcases hcode with h | h <;> rw [h] <;> rfl
    clear hres hcode hb2 hgl
    go_wp2_with fail
    go_ret
    exact ⟨rfl, below_alloc (below_trans (below_trans (below_alloc (Below.refl _ _) _) HB1.out) HB2.out) _⟩
  | ok xs =>
    rw [hres] at hr
    obtain ⟨v, rfl, hlv⟩ := hr
    have HX := hid (readS_lines hres)
    have HXL := hid (readS_len hres)
    clear hres
    obtain ⟨cells, hown, hrow⟩ := hlv
    have hbw2 : Below w.heap.size w w2 := below_trans (below_trans (below_alloc (Below.refl _ _) _) HB1.out) HB2.out
    have hzw : w.heap.size < w1.heap.size := by have := HB1.out.size; simp at this; omega
    have hz12 := HB2.out.size
    have HBW2 := hid hbw2
    have HOWN := hid hown
    have HROW := hid hrow
    have o2 := HO2.out.cell 0 rfl
    have hs2 := HO2.out.lt
    have hmf : ∀ (fn : Fn) (first cap : Array Value) (w : World), (Instr.makeFunc fn first cap).run Try.prog w = .ok (.func fn first cap) w := fun _ _ _ _ => rfl
    cases xs with
    | nil => as_aux_lemma =>
      obtain ⟨la, lc, rfl⟩ := own_shape hown
      clear hown hrow hb2 hgl hbw2
      go_wp2_with fail
      refine wp_loop_rounds 1 ?_
      rw [rounds_succ]
      go_wp2_with fail
      refine (eachNone_any _ _ _ _ _).mono ?_
      rintro e w3 ⟨rfl, hb3⟩
      have kg : Blk ((w2.alloc (.cells #[.int .i64 0, .int .i64 0, .int .i64 0] 25)).alloc (.cells #[.int .i64 0, .int .i64 0, .int .i64 0] 30)) (w2.heap.size + 1) [.int .i64 0, .int .i64 0, .int .i64 0] 30 := by
        have := Blk.new (w2.alloc (.cells #[.int .i64 0, .int .i64 0, .int .i64 0] 25)) [.int .i64 0, .int .i64 0, .int .i64 0] 30
        simpa using this
      have kt : Blk (((w2.alloc (.cells #[.int .i64 0, .int .i64 0, .int .i64 0] 25)).alloc (.cells #[.int .i64 0, .int .i64 0, .int .i64 0] 30)).alloc (.cells #[.slice none 0 0] 39)) (w2.heap.size + 2) [.slice none 0 0] 39 := by
        have := Blk.new ((w2.alloc (.cells #[.int .i64 0, .int .i64 0, .int .i64 0] 25)).alloc (.cells #[.int .i64 0, .int .i64 0, .int .i64 0] 30)) [.slice none 0 0] 39
        simpa using this
      have kl : Blk ((((w2.alloc (.cells #[.int .i64 0, .int .i64 0, .int .i64 0] 25)).alloc (.cells #[.int .i64 0, .int .i64 0, .int .i64 0] 30)).alloc (.cells #[.slice none 0 0] 39)).alloc (.cells #[.int .i64 0] 3)) (w2.heap.size + 3) [.int .i64 0] 3 := by
        have := Blk.new (((w2.alloc (.cells #[.int .i64 0, .int .i64 0, .int .i64 0] 25)).alloc (.cells #[.int .i64 0, .int .i64 0, .int .i64 0] 30)).alloc (.cells #[.slice none 0 0] 39)) [.int .i64 0] 3
        simpa using this
      have kg3 := ((kg.alloc (.cells #[.slice none 0 0] 39)).alloc (.cells #[.int .i64 0] 3)).below hb3
      have kt3 := (kt.alloc (.cells #[.int .i64 0] 3)).below hb3
      have kl3 := kl.below hb3
      have q0 := kg3.cell 0 rfl
      have q1 := kg3.cell 1 rfl
      have q2 := kg3.cell 2 rfl
      have l0 := kl3.cell 0 rfl
      have g0 := kt3.cell 0 rfl
      have hql := kg3.lt
      have hll := kl3.lt
      have hlg := kt3.lt
      have HEND := hid (below_trans (below_alloc (below_alloc (below_alloc (below_alloc HBW2.out (.cells #[.int .i64 0, .int .i64 0, .int .i64 0] 25)) (.cells #[.int .i64 0, .int .i64 0, .int .i64 0] 30)) (.cells #[.slice none 0 0] 39)) (.cells #[.int .i64 0] 3)) hb3)
      clear kg kt kl kg3 kt3 kl3 hb3 o2
      go_wp2_with fail
      go_region_law ((go_simp; refine (fault_any _ _ _ _).mono ?_; rintro e w7 ⟨rfl, hb7⟩; have hb67 := below_trans (below_alloc (Below.refl w3.heap.size w3) _).drew hb7; have y0 := bcell hb67 q0; have y1 := bcell hb67 q1; have y2 := bcell hb67 q2; have y3 := bcell hb67 l0; have y4 := bcell hb67 g0))
      all_goals
        have HB67 := hid hb67
        go_wp2_with fail
        refine (texts_eq [] (by decide) _ _ _ (.inl ⟨rfl, _, _, rfl⟩) (.inl ⟨rfl, _, _, rfl⟩)).mono ?_
        rintro e w8 ⟨rfl, m, rfl⟩
        go_wp2_with fail
        go_ret
        exact ⟨rfl, below_drewN' (below_trans HEND.out HB67.out) m⟩
    | cons x0 xs0 =>
      generalize hXS : x0 :: xs0 = xs at *
      have hpos : 0 < xs.length := by rw [← hXS]; simp
      clear hXS x0 xs0
      rcases own3 hown with ⟨_, h⟩ | ⟨g, lc, rfl, hcl⟩
      · omega
      have HCL := hid hcl
      have hgl2 := (own_at hown).2
      clear hown hrow hb2 hgl hbw2 hcl
      have HI0 : Hid (DocAt os xs w2 0 0 [] 0 0 0 (.slice none 0 0) ((w2.alloc (.cells #[.int .i64 0, .int .i64 0, .int .i64 0] 25)).alloc (.cells #[.int .i64 0, .int .i64 0, .int .i64 0] 30))) := hid (by
        refine ⟨World.ownsRow_nil _ _ _ _, Nat.zero_le _, below_alloc (below_alloc (Below.refl _ _) _) _, ?_, .inl ⟨rfl, rfl⟩⟩
        have := Blk.new (w2.alloc (.cells #[.int .i64 0, .int .i64 0, .int .i64 0] 25)) [.int .i64 0, .int .i64 0, .int .i64 0] 30
        simpa using this)
      generalize hXN : xs.length = XN at *
      have HXN := hid hXN
      clear hXN
      go_wp2_with fail
      go_loopw [7, 8, 10] (fun v u x wr => ∃ (i seen : Nat) (out : List (List UInt8)) (f1 f2 f3 : Int), i ≤ XN ∧ u = .int .i64 (seen : Nat) ∧ x = .int .i64 (i : Nat) ∧ DocAt os xs w2 i seen out f1 f2 f3 v wr) (fun _ _ x _ => XN - (intOf x).toNat)
      case atStart => exact ⟨0, 0, [], 0, 0, 0, by omega, rfl, rfl, HI0.out⟩
      case round =>
        obtain ⟨i, seen, out, f1, f2, f3, hi, rfl, rfl, hr⟩ := hrel
        have HR := hid hr
        have r0 := hr.res.cell 0 rfl
        have r1 := hr.res.cell 1 rfl
        have r2 := hr.res.cell 2 rfl
        have rf := hr.res.free
        have hrl := hr.res.lt
        have o3 := bcell hr.below o2
        have hz2 := hr.below.size
        clear hr
        by_cases hgo : i < XN ∧ (f1, f2, f3) = ((0, 0, 0) : Int × Int × Int)
        · obtain ⟨hlt, hf⟩ := hgo
          injection hf with e1 hf
          injection hf with e2 e3
          subst e1; subst e2; subst e3
          have hrun : eachW os xs [] 0 = eachW os (xs.drop i) out seen := by
            rcases HR.out.run with ⟨_, h⟩ | ⟨h, _⟩
            · exact h
            · exact absurd rfl h
          have hkx : i < xs.length := by rw [HXN.out]; exact hlt
          have hxk : xs[i]? = some xs[i] := List.getElem?_eq_getElem hkx
          obtain ⟨x1, x2, x3, x4, x5⟩ := HX.out _ (List.getElem_mem hkx)
          obtain ⟨wv, cv, b0, b1, b2, b3⟩ := HROW.out i _ hxk
          generalize xs[i] = X at *
          obtain ⟨no, ws, cs⟩ := X
          dsimp only at x1 x2 x3 x4 x5 b0 b1 b2 b3
          have hwm : ∀ u, u ∈ ws → u.length ≤ 1099511627776 := fun u hu => by have := x5 u hu; omega
          obtain ⟨gw, cw, rfl, hw1, hw2, hwc⟩ := rows_words b3.1 x2
          obtain ⟨gc, cc, rfl, hc1, hc2, hcc⟩ := rows_cols b3.2 (by intro h; rw [h] at x4; exact x2 (List.eq_nil_of_length_eq_zero x4.symm))
          have hbr := HR.out.below
          have c0 := bcell hbr (HCL.out (i * 3) _ (by rw [Nat.mul_comm]; exact b0))
          have c1 := bcell hbr (HCL.out (i * 3 + 1) _ (by rw [Nat.mul_comm i 3]; exact b1))
          have c2 := bcell hbr (HCL.out (i * 3 + 2) _ (by rw [Nat.mul_comm i 3]; exact b2))
          rw [x4] at c2
          have hglr := World.block_lt_of_cell? wr _ c0
          have hbwr : Below w.heap.size w wr := below_trans HBW2.out hbr
          have PLAY : Hid (∀ M, Below wr.heap.size wr M → Calls Try.prog 20 #[.agg #[.int .i64 (no : Int), .slice (some ⟨gw, 0, none⟩) ws.length cw, .slice (some ⟨gc, 0, none⟩) ws.length cc], .slice oa n c] M (PlayIs no ws cs os M)) := hid (fun M hb => by
            have hz := hb.size
            have PL := play_any no ws cs x4 hwm (by omega) os (by have := HN.out; omega) M gw cw gc cc B oo c (by omega) (by omega) (by omega)
              (fun k hk => bcell hb (bcell hbr (hwc k hk))) (fun k hk => bcell hb (bcell hbr (hcc k hk))) oa (fun h => HOA.out (by have := HN.out; omega)) (HOPS.out.only (Only.of_below (S := fun _ => False) (below_trans hbwr hb)) (fun h => h))
            rw [HN.out] at PL
            exact PL)
          obtain ⟨o, p1, p2, p3, hpl⟩ : ∃ o p1 p2 p3, playR no ws cs os = (o, (p1, p2, p3)) := ⟨_, _, _, _, rfl⟩
          have HPL := hid hpl
          have HRUN := hid (doc_next hxk hpl hrun)
          have HX4 := hid x4
          have HH0 : Hid (Blk (wr.alloc (.cells #[.int .i64 0, .int .i64 0, .int .i64 0] 30)) wr.heap.size [.int .i64 0, .int .i64 0, .int .i64 0] 30) := hid (Blk.new wr [.int .i64 0, .int .i64 0, .int .i64 0] 30)
          have hws : ws.length ≤ 20 := x3
          clear b0 b1 b2 b3 hwc hcc hwm hbr hbwr hrun hxk hkx hpl x1 x2 x3 x4 x5
          have hsr : w.heap.size < wr.heap.size := by omega
          have HLT := hid hlt
          go_upto_region 12 with (fail)
          go_cut [11, 13] (fun v u wx => ∃ (hB : Nat), u = .pointer (some ⟨hB, 0, none⟩) ∧ wr.heap.size ≤ hB ∧ Blk wx hB [.int .i64 p1, .int .i64 p2, .int .i64 p3] 30 ∧ wx.ownsRow wr.heap.size 9 1 v o.length (strs o) ∧ Below wr.heap.size wr wx ∧ o.length ≤ 30)
          case first => as_aux_lemma =>
            clear r0 r1 r2 rf o0 o2 g25 g30 hmf hs2 hpos hi hgl2 HI0 HROW HX HXL HOWN HR HCL HL RD HB1 HB2 HO1 HO2 HBW2 HRUN HX4
            replace hzw := hid hzw
            replace hz12 := hid hz12
            replace hz2 := hid hz2
            replace hrl := hid hrl
            replace hw1 := hid hw1
            replace hw2 := hid hw2
            replace hc1 := hid hc1
            replace hc2 := hid hc2
            replace hws := hid hws
            replace hBw := hid hBw
            replace hl := hid hl
            have HHD : Hid (Blk (wr.alloc (.cells #[.int .i64 0, .int .i64 0, .int .i64 0] 30)).drew wr.heap.size [.int .i64 0, .int .i64 0, .int .i64 0] 30) := hid HH0.out
            have HBD : Hid (Below wr.heap.size wr wr.drew) := hid (Below.refl _ _).drew
            have HBA : Hid (Below wr.heap.size wr (wr.alloc (.cells #[.int .i64 0, .int .i64 0, .int .i64 0] 30)).drew) := hid (below_alloc (Below.refl _ _) _).drew
            have HBA2 : Hid (Below wr.heap.size wr (wr.drew.alloc (.cells #[.int .i64 0, .int .i64 0, .int .i64 0] 30))) := hid (below_alloc (Below.refl _ _).drew _)
            have HHD2 : Hid (Blk (wr.drew.alloc (.cells #[.int .i64 0, .int .i64 0, .int .i64 0] 30)) wr.heap.size [.int .i64 0, .int .i64 0, .int .i64 0] 30) := hid HH0.out
            go_region_held3 (fun w' => w'.cell? ⟨g, i * 3, none⟩ = some (.int .i64 (no : Int)) ∧ w'.cell? ⟨g, i * 3 + 1, none⟩ = some (.slice (some ⟨gw, 0, none⟩) ws.length cw) ∧ w'.cell? ⟨g, i * 3 + 2, none⟩ = some (.slice (some ⟨gc, 0, none⟩) ws.length cc) ∧ w'.cell? ⟨w.heap.size, 0, none⟩ = some (.slice oa n c))
              (first | (with_reducible exact keepB HBD.out c0 c1 c2 o3) | (with_reducible exact keepB HBA.out c0 c1 c2 o3) | (with_reducible exact keepB HBA2.out c0 c1 c2 o3) | (with_reducible exact keepB (below_trans HBD.out hbp) c0 c1 c2 o3) | (with_reducible exact keepB (below_trans HBA.out hbp) c0 c1 c2 o3) | (with_reducible exact keepB (below_trans HBA2.out hbp) c0 c1 c2 o3) | (with_reducible exact keepB (below_alloc (below_trans HBD.out hbp) _) c0 c1 c2 o3) | (with_reducible exact keepB (each_set2 hbp HBA.out) c0 c1 c2 o3) | (with_reducible exact keepB (each_set2 hbp HBA2.out) c0 c1 c2 o3) | go_keep)
              (first
                | (go_at_call 20; (first | (with_reducible refine (PLAY.out _ HBD.out).mono ?_) | (with_reducible refine (PLAY.out _ HBA.out).mono ?_) | (with_reducible refine (PLAY.out _ HBA2.out).mono ?_)); rintro e w3 ⟨pv, at', f1, f2, f3, rfl, hat, hpf, hprow, hbp, hplen⟩; try (with_reducible have hh := Blk.below HHD.out hbp; have h0 := hh.cell 0 rfl; have h1 := hh.cell 1 rfl; have h2 := hh.cell 2 rfl; have hf := hh.free); try (with_reducible have hh := Blk.below HHD2.out hbp; have h0 := hh.cell 0 rfl; have h1 := hh.cell 1 rfl; have h2 := hh.cell 2 rfl; have hf := hh.free)))
            all_goals
              rw [HPL.out] at hprow hplen hpf
              injection hpf with e1 hpf
              injection hpf with e2 e3
              subst e1; subst e2; subst e3
              have hplx : o.length ≤ 30 := by have := HN.out; have h9 : o.length ≤ os.length := hplen; omega
              go_wp2_with fail
              go_meet
              first
                | exact ⟨w3.heap.size, rfl, hbp.size, Blk.new w3 [.int .i64 p1, .int .i64 p2, .int .i64 p3] _, hprow.alloc _, below_alloc (below_trans (Below.refl wr.heap.size wr).drew hbp) _, hplx⟩
                | exact ⟨wr.heap.size, rfl, Nat.le_refl _, three_cells hh _ _ _, each_set hprow (by simp), each_set2 hbp (below_alloc (Below.refl _ _) _).drew, hplx⟩
          case rest =>
            obtain ⟨hB, rfl, hhB, hblk, hrow, hbx, hol⟩ := hcut
            have HROWO := hid hrow
            have HBX := hid hbx
            have HBLK := hid hblk
            have HROWW := hid (ownsRow_below HR.out.row hbx)
            have HRES := hid (HR.out.res.below hbx)
            have HHB := hid hhB
            have hszx := hbx.size
            have HC0 := hid (bcell hbx c0)
            clear hrow hbx hblk c0 c1 c2 r0 r1 r2 rf o3
            have HW1 : Hid (wrap64 ((i : Nat) + 1 : Int) = ((i + 1 : Nat) : Int)) := hid (by have := HLT.out; have := HXN.out; have := HXL.out; unfold wrap64; omega)
            have HBO : Hid (out.length ≤ 60000) := hid (by have := HR.out.len; have := HLT.out; have := HXN.out; have := HXL.out; omega)
            have q0 := HRES.out.cell 0 rfl
            have q1 := HRES.out.cell 1 rfl
            have q2 := HRES.out.cell 2 rfl
            have qf := HRES.out.free
            have h0 := HBLK.out.cell 0 rfl
            have h1 := HBLK.out.cell 1 rfl
            have h2 := HBLK.out.cell 2 rfl
            have c0 := HC0.out
            have hql := HRES.out.lt
            have hbl := HBLK.out.lt
            have hgl3 := World.block_lt_of_cell? wc _ c0
            have HBXX := hid (below_trans HR.out.below HBX.out)
            have hne1 : ¬ hB = w2.heap.size + 1 := by have := HHB.out; omega
            cases o with
            | nil =>
              rcases row_shape HROWO.out with ⟨hu, hz⟩ | ⟨g1, cp1, hu, hk1⟩
              all_goals
                rcases row_shape HROWW.out with ⟨hu2, hz2⟩ | ⟨g2, cp2, hu2, hk2⟩
                all_goals as_aux_lemma =>
                  subst hu
                  subst hu2
                  go_wp2_with fail
                  go_roundw
                  case rel => exact ⟨i + 1, no, out ++ [], p1, p2, p3, by (have := HLT.out; omega), rfl, by rw [HW1.out], doc_set (by rw [List.append_nil]; exact HROWW.out) (by rw [List.append_nil]; have := HR.out.len; omega) HBXX.out HRES.out HRUN.out⟩
                  case measure => exact each_meas HLT.out HW1.out
            | cons u o => as_aux_lemma =>
              generalize hO : u :: o = O at *
              have hne : 0 < O.length := by rw [← hO]; simp
              clear hO
              rcases row_shape HROWO.out with ⟨_, hz⟩ | ⟨g1, cp1, hu, hk1⟩
              · omega
              subst hu
              have HNE := hid hne
              have HOC := hid (own_cells HROWO.out)
              clear hne
              obtain ⟨iS, hi0, hz0, hz1, hz2'⟩ := info_parts infoS
              have hi0 := hid hi0
              have hz0 := hid hz0
              have hz1 := hid hz1
              have hz2' := hid hz2'
              go_wp2_with (at_builtin; refine wpList_append_lies _ rfl _ _ 39 rfl (w2.heap.size + 2) 9 iS (.string ByteArray.empty) 1 16 Try.underlying39 hi0.out hz0.out hz1.out hz2'.out rfl (by decide) _ _ _ rfl HROWW.out ⟨g1, 0, none⟩ O.length cp1 (strs O) rfl (by simp [strs]) ?d1 ?d2 HNE.out ?d3 ?d4 ?d5 _ rfl ?_)
              case d1 =>
                intro j y hj
                first
                  | (rw [addr_add, Nat.zero_add]; exact HOC.out j y hj)
                  | exact HOC.out j y hj
              case d2 =>
                intro y hy
                unfold strs at hy
                obtain ⟨q, _, rfl⟩ := List.mem_map.1 hy
                rfl
              case d3 => have := HBO.out; unfold maxLen; omega
              case d4 => have := HBO.out; omega
              case d5 => omega
              intro gn cap w3 hown3 hgrow hat hlt3
              have hrs3 := Blk.grown HRES.out hgrow (own_ne HROWW.out (by omega))
              have hbk3 : Blk w3 hB [.int .i64 p1, .int .i64 p2, .int .i64 p3] 30 := Blk.grown HBLK.out hgrow (by
                rcases row_shape HROWW.out with ⟨hu, _⟩ | ⟨gg, cc', hu, _⟩
                · rw [hu]; simp [Value.ownBlock]
                · rw [hu]
                  simp only [Value.ownBlock, ne_eq, Option.some.injEq]
                  intro e
                  have hrw := HROWW.out
                  rw [hu] at hrw
                  rcases hrw.2 with ⟨h, _⟩ | ⟨g1', _, _, h, _, hh, _⟩
                  · cases h
                  · cases h
                    rw [← e, (show wc.heap[hB]? = _ from HBLK.out)] at hh
                    simp at hh)
              have hc3 := hgrow.cell c0 (own_ne HROWW.out (by show g < _; omega))
              have hbl3 := HBXX.out.grown hgrow HBXX.out.size (fun k hk => by have := (HROWW.out.lt k hk).1; omega)
              have HRS3 := hid hrs3
              have HBL3 := hid hbl3
              have HOW3 := hid hown3
              clear q0 q1 q2 qf h0 h1 h2 c0
              have q0 := hrs3.cell 0 rfl
              have q1 := hrs3.cell 1 rfl
              have q2 := hrs3.cell 2 rfl
              have qf := hrs3.free
              have h0 := hbk3.cell 0 rfl
              have h1 := hbk3.cell 1 rfl
              have h2 := hbk3.cell 2 rfl
              clear hrs3 hbk3 hbl3 hown3 hgrow hat
              go_wp2
              go_roundw
              case rel => exact ⟨i + 1, no, out ++ O, p1, p2, p3, by (have := HLT.out; omega), rfl, by rw [HW1.out], doc_set (by rw [strs_more, List.length_append]; exact HOW3.out) (by rw [List.length_append]; have := HR.out.len; omega) HBL3.out HRS3.out HRUN.out⟩
              case measure => exact each_meas HLT.out HW1.out
        · have HFIN : Hid (eachW os xs [] 0 = (out, seen, (f1, f2, f3))) := hid (by
            rcases HR.out.run with ⟨h1, h2⟩ | ⟨_, h2⟩
            · rw [h2, each_end (by have := HXN.out; have : ¬ i < XN := fun h => hgo ⟨h, h1⟩; omega), h1]
            · exact h2)
          by_cases hlt : i < XN
          · have hnf : ¬ (f1, f2, f3) = ((0, 0, 0) : Int × Int × Int) := fun h => hgo ⟨hlt, h⟩
            have HNF := hid hnf
            clear hgo
            rcases three_ne hnf with hne | hne | hne
            all_goals as_aux_lemma =>
              clear hnf
              go_wp2_with fail
              have hF : ∀ (args : Array Value) (w : World), (callFunc 22 args).run Try.prog w = .ok (.enter 22 args) w := fun _ _ => by simp [go_sem]
              have hsz5 : ((wr.alloc (.cells #[.slice none 0 0] 39)).alloc (.cells #[.int .i64 0] 3)).heap.size = wr.heap.size + 2 := by simp
              have hb25 : Below w2.heap.size w2 ((wr.alloc (.cells #[.slice none 0 0] 39)).alloc (.cells #[.int .i64 0] 3)) := below_alloc (below_alloc HR.out.below _) _
              have hbw5 : Below w.heap.size w ((wr.alloc (.cells #[.slice none 0 0] 39)).alloc (.cells #[.int .i64 0] 3)) := below_trans HBW2.out hb25
              have hob5 : Blk ((wr.alloc (.cells #[.slice none 0 0] 39)).alloc (.cells #[.int .i64 0] 3)) w.heap.size [.slice oa n c] 47 := HO2.out.below hb25
              have hgb5 : Blk ((wr.alloc (.cells #[.slice none 0 0] 39)).alloc (.cells #[.int .i64 0] 3)) wr.heap.size [.slice none 0 0] 39 := (Blk.new wr [.slice none 0 0] _).alloc _
              have hlb5 : Blk ((wr.alloc (.cells #[.slice none 0 0] 39)).alloc (.cells #[.int .i64 0] 3)) (wr.heap.size + 1) [.int .i64 ((0 : Nat) : Int)] 3 := by
                have := Blk.new (wr.alloc (.cells #[.slice none 0 0] 39)) [.int .i64 0] 3
                simpa using this
              have hzr := HR.out.below.size
              have EB := each_behind 22 hF #[.pointer (some ⟨wr.heap.size + 1, 0, none⟩), .pointer (some ⟨wr.heap.size, 0, none⟩), .pointer (some ⟨w.heap.size, 0, none⟩)] xs (by have := HXN.out; have := HXL.out; omega)
                (fun x hx => by have := HX.out x hx; exact ⟨by have := this.2.2.1; omega, this.2.2.2.1, this.2.1⟩) g lc ((wr.alloc (.cells #[.slice none 0 0] 39)).alloc (.cells #[.int .i64 0] 3)) w2 hb25 w1.heap.size cells (by rw [HXN.out]; exact HOWN.out) HROW.out
                (fun b => b = wr.heap.size ∨ b = wr.heap.size + 1) (fun b hb => by rw [hsz5]; rcases hb with rfl | rfl <;> omega)
                (eachI os xs w.heap.size (wr.heap.size + 1) wr.heap.size (wr.heap.size + 3) oa n c) (eachD os xs (wr.heap.size + 1)) ⟨hob5, [], 0, hlb5, ⟨_, hgb5, World.ownsRow_nil _ _ _ _⟩, Nat.zero_le _, rfl⟩
                (fun k wa wb ho h => by rw [hsz5] at ho; exact eachI_only h ho (by omega) (by omega) (by omega) (by omega))
                (fun f wa wb ho h => by rw [hsz5] at ho; exact eachD_only h ho (by omega))
                (fun k x r wx hxk hno hea hpl hsr hr hl' hwb hcb hI ho => by
                  rw [hsz5] at hpl ho
                  obtain ⟨no, ws, cs⟩ := x
                  have hok := HX.out _ (List.mem_of_getElem? hxk)
                  have hkl := (List.getElem?_eq_some_iff.1 hxk).1
                  have hops5 := HOPS.out.only ((Only.of_below (S := fun b => (b = wr.heap.size ∨ b = wr.heap.size + 1) ∨ wr.heap.size + 2 ≤ b) hbw5).trans ho) (fun h => by rcases h with (h | h) | h <;> omega)
                  exact each_by (fun b => (b = wr.heap.size ∨ b = wr.heap.size + 1) ∨ ((wr.alloc (.cells #[.slice none 0 0] 39)).alloc (.cells #[.int .i64 0] 3)).heap.size < b) r xs k no ws cs hxk hok.1 hno (by have := HXN.out; have := HXL.out; omega) os w.heap.size (wr.heap.size + 1) wr.heap.size B oo n c (wr.heap.size + 3) oa HOA.out HN.out.symm hn30 (fun u hu => by have := hok.2.2.2.2 u hu; omega) wx
                    (.inr (by rw [hsz5]; omega)) (.inl (.inl rfl)) (.inl (.inr rfl)) (by omega) (by omega) (by omega) (by omega) (by omega) (by omega) (by omega) (by omega) (by omega) (by omega) (by omega) (by omega) (by omega) hr hl' hops5 (by omega) (by omega) (by omega) (by omega) (fun b hb => .inr (by rw [hsz5]; omega)) hI)
              rw [HXN.out] at EB
              refine EB.mono ?_
              rintro e w6 ⟨c1, c2, c3, rfl, ho6, hcase⟩
              rw [hsz5] at ho6
              clear EB hF
              have hend : Below w.heap.size w w6 := hbw5.trans (ho6.below (by rw [hsz5]; omega) (fun k hk h => by rcases h with (h | h) | h <;> omega))
              have hres6 := Blk.only ((HR.out.res.alloc (.cells #[.slice none 0 0] 39)).alloc (.cells #[.int .i64 0] 3)) ho6 (fun h => by rcases h with (h | h) | h <;> omega)
              have hww6 := ownsRow_only HR.out.row (((Only.refl (fun b => (b = wr.heap.size ∨ b = wr.heap.size + 1) ∨ wr.heap.size + 2 ≤ b) wr).alloc _).alloc _ |>.trans ho6) (fun k _ hk2 h => by rcases h with (h | h) | h <;> omega)
              have HEND := hid hend
              have HWW := hid hww6
              have q0 := hres6.cell 0 rfl
              have q1 := hres6.cell 1 rfl
              have q2 := hres6.cell 2 rfl
              have hql := hres6.lt
              have HOL := hid HR.out.len
              have HILE := hid hi
              clear hend hww6 hres6 ho6 hb25 hbw5 hob5 hgb5 hlb5 hsz5 r0 r1 r2 rf o3
              rcases hcase with ⟨rfl, rfl, rfl, hI⟩ | hD
              · exfalso
                obtain ⟨_, out', seen', _, _, _, hask6⟩ := hI
                rw [each_end (by rw [HXN.out]; exact Nat.le_refl _), HFIN.out] at hask6
                injection hask6 with ha1 hask6
                injection hask6 with ha2 hask6
                exact HNF.out hask6
              · obtain ⟨out', seen', hlb6, hask6, hnz⟩ := hD
                rw [HFIN.out] at hask6
                injection hask6 with ha1 hask6
                injection hask6 with ha2 hask6
                injection hask6 with ha3 hask6
                injection hask6 with ha4 ha5
                subst ha2; subst ha3; subst ha4; subst ha5
                have l0 := hlb6.cell 0 rfl
                have hll := hlb6.lt
                clear hlb6 hnz
                go_wp2_with fail
                go_region_law ((go_simp; refine (fault_any _ _ _ _).mono ?_; rintro e w7 ⟨rfl, hb7⟩; have hb67 := below_trans (below_alloc (Below.refl w6.heap.size w6) _).drew hb7; have y0 := bcell hb67 q0; have y1 := bcell hb67 q1; have y2 := bcell hb67 q2; have y3 := bcell hb67 l0))
                all_goals
                  have HB67 := hid hb67
                  go_wp2_with fail
                  go_ret
                  exact ⟨rfl, below_trans HEND.out HB67.out⟩
          · as_aux_lemma =>
              clear hgo
              go_wp2_with fail
              have hF : ∀ (args : Array Value) (w : World), (callFunc 22 args).run Try.prog w = .ok (.enter 22 args) w := fun _ _ => by simp [go_sem]
              have hsz5 : ((wr.alloc (.cells #[.slice none 0 0] 39)).alloc (.cells #[.int .i64 0] 3)).heap.size = wr.heap.size + 2 := by simp
              have hb25 : Below w2.heap.size w2 ((wr.alloc (.cells #[.slice none 0 0] 39)).alloc (.cells #[.int .i64 0] 3)) := below_alloc (below_alloc HR.out.below _) _
              have hbw5 : Below w.heap.size w ((wr.alloc (.cells #[.slice none 0 0] 39)).alloc (.cells #[.int .i64 0] 3)) := below_trans HBW2.out hb25
              have hob5 : Blk ((wr.alloc (.cells #[.slice none 0 0] 39)).alloc (.cells #[.int .i64 0] 3)) w.heap.size [.slice oa n c] 47 := HO2.out.below hb25
              have hgb5 : Blk ((wr.alloc (.cells #[.slice none 0 0] 39)).alloc (.cells #[.int .i64 0] 3)) wr.heap.size [.slice none 0 0] 39 := (Blk.new wr [.slice none 0 0] _).alloc _
              have hlb5 : Blk ((wr.alloc (.cells #[.slice none 0 0] 39)).alloc (.cells #[.int .i64 0] 3)) (wr.heap.size + 1) [.int .i64 ((0 : Nat) : Int)] 3 := by
                have := Blk.new (wr.alloc (.cells #[.slice none 0 0] 39)) [.int .i64 0] 3
                simpa using this
              have hzr := HR.out.below.size
              have EB := each_behind 22 hF #[.pointer (some ⟨wr.heap.size + 1, 0, none⟩), .pointer (some ⟨wr.heap.size, 0, none⟩), .pointer (some ⟨w.heap.size, 0, none⟩)] xs (by have := HXN.out; have := HXL.out; omega)
                (fun x hx => by have := HX.out x hx; exact ⟨by have := this.2.2.1; omega, this.2.2.2.1, this.2.1⟩) g lc ((wr.alloc (.cells #[.slice none 0 0] 39)).alloc (.cells #[.int .i64 0] 3)) w2 hb25 w1.heap.size cells (by rw [HXN.out]; exact HOWN.out) HROW.out
                (fun b => b = wr.heap.size ∨ b = wr.heap.size + 1) (fun b hb => by rw [hsz5]; rcases hb with rfl | rfl <;> omega)
                (eachI os xs w.heap.size (wr.heap.size + 1) wr.heap.size (wr.heap.size + 3) oa n c) (eachD os xs (wr.heap.size + 1)) ⟨hob5, [], 0, hlb5, ⟨_, hgb5, World.ownsRow_nil _ _ _ _⟩, Nat.zero_le _, rfl⟩
                (fun k wa wb ho h => by rw [hsz5] at ho; exact eachI_only h ho (by omega) (by omega) (by omega) (by omega))
                (fun f wa wb ho h => by rw [hsz5] at ho; exact eachD_only h ho (by omega))
                (fun k x r wx hxk hno hea hpl hsr hr hl' hwb hcb hI ho => by
                  rw [hsz5] at hpl ho
                  obtain ⟨no, ws, cs⟩ := x
                  have hok := HX.out _ (List.mem_of_getElem? hxk)
                  have hkl := (List.getElem?_eq_some_iff.1 hxk).1
                  have hops5 := HOPS.out.only ((Only.of_below (S := fun b => (b = wr.heap.size ∨ b = wr.heap.size + 1) ∨ wr.heap.size + 2 ≤ b) hbw5).trans ho) (fun h => by rcases h with (h | h) | h <;> omega)
                  exact each_by (fun b => (b = wr.heap.size ∨ b = wr.heap.size + 1) ∨ ((wr.alloc (.cells #[.slice none 0 0] 39)).alloc (.cells #[.int .i64 0] 3)).heap.size < b) r xs k no ws cs hxk hok.1 hno (by have := HXN.out; have := HXL.out; omega) os w.heap.size (wr.heap.size + 1) wr.heap.size B oo n c (wr.heap.size + 3) oa HOA.out HN.out.symm hn30 (fun u hu => by have := hok.2.2.2.2 u hu; omega) wx
                    (.inr (by rw [hsz5]; omega)) (.inl (.inl rfl)) (.inl (.inr rfl)) (by omega) (by omega) (by omega) (by omega) (by omega) (by omega) (by omega) (by omega) (by omega) (by omega) (by omega) (by omega) (by omega) hr hl' hops5 (by omega) (by omega) (by omega) (by omega) (fun b hb => .inr (by rw [hsz5]; omega)) hI)
              rw [HXN.out] at EB
              refine EB.mono ?_
              rintro e w6 ⟨c1, c2, c3, rfl, ho6, hcase⟩
              rw [hsz5] at ho6
              clear EB hF
              have hend : Below w.heap.size w w6 := hbw5.trans (ho6.below (by rw [hsz5]; omega) (fun k hk h => by rcases h with (h | h) | h <;> omega))
              have hres6 := Blk.only ((HR.out.res.alloc (.cells #[.slice none 0 0] 39)).alloc (.cells #[.int .i64 0] 3)) ho6 (fun h => by rcases h with (h | h) | h <;> omega)
              have hww6 := ownsRow_only HR.out.row (((Only.refl (fun b => (b = wr.heap.size ∨ b = wr.heap.size + 1) ∨ wr.heap.size + 2 ≤ b) wr).alloc _).alloc _ |>.trans ho6) (fun k _ hk2 h => by rcases h with (h | h) | h <;> omega)
              have HEND := hid hend
              have HWW := hid hww6
              have q0 := hres6.cell 0 rfl
              have q1 := hres6.cell 1 rfl
              have q2 := hres6.cell 2 rfl
              have hql := hres6.lt
              have HOL := hid HR.out.len
              have HILE := hid hi
              clear hend hww6 hres6 ho6 hb25 hbw5 hob5 hgb5 hlb5 hsz5 r0 r1 r2 rf o3
              rcases hcase with ⟨rfl, rfl, rfl, hI⟩ | hD
              · obtain ⟨_, out', seen', hlb6, ⟨v6, hgb6, hr6⟩, _, hask6⟩ := hI
                rw [each_end (by rw [HXN.out]; exact Nat.le_refl _), HFIN.out] at hask6
                injection hask6 with ha1 hask6
                injection hask6 with ha2 hask6
                injection hask6 with ha3 hask6
                injection hask6 with ha4 ha5
                subst ha1; subst ha2; subst ha3; subst ha4; subst ha5
                have l0 := hlb6.cell 0 rfl
                have g0 := hgb6.cell 0 rfl
                have hll := hlb6.lt
                have hlg := hgb6.lt
                have HR6 := hid hr6
                clear hlb6 hgb6 hr6
                go_wp2_with fail
                go_region_law ((go_simp; refine (fault_any _ _ _ _).mono ?_; rintro e w7 ⟨rfl, hb7⟩; have hb67 := below_trans (below_alloc (Below.refl w6.heap.size w6) _).drew hb7; have y0 := bcell hb67 q0; have y1 := bcell hb67 q1; have y2 := bcell hb67 q2; have y3 := bcell hb67 l0; have y4 := bcell hb67 g0))
                all_goals
                  have HB67 := hid hb67
                  go_wp2_with fail
                  refine (texts_eq out (by have := HOL.out; have := HXL.out; have := HILE.out; omega) _ _ _ (rowIs_of (ownsRow_below HR6.out HB67.out)) (rowIs_of (ownsRow_below HWW.out HB67.out))).mono ?_
                  rintro e w8 ⟨rfl, m, rfl⟩
                  go_wp2_with fail
                  go_ret
                  exact ⟨rfl, below_drewN' (below_trans HEND.out HB67.out) m⟩
              · obtain ⟨out', seen', hlb6, hask6, hnz⟩ := hD
                rw [HFIN.out] at hask6
                injection hask6 with ha1 hask6
                injection hask6 with ha2 hask6
                injection hask6 with ha3 hask6
                injection hask6 with ha4 ha5
                subst ha2; subst ha3; subst ha4; subst ha5
                have hnf : ¬ (f1, f2, f3) = ((0, 0, 0) : Int × Int × Int) := fun h => hnz (by injection h with h1 h; injection h with h2 h3; exact ⟨h1, h2, h3⟩)
                rcases three_ne hnf with hne | hne | hne
                all_goals as_aux_lemma =>
                  clear hnf
                  have l0 := hlb6.cell 0 rfl
                  have hll := hlb6.lt
                  clear hlb6 hnz
                  go_wp2_with fail
                  go_region_law ((go_simp; refine (fault_any _ _ _ _).mono ?_; rintro e w7 ⟨rfl, hb7⟩; have hb67 := below_trans (below_alloc (Below.refl w6.heap.size w6) _).drew hb7; have y0 := bcell hb67 q0; have y1 := bcell hb67 q1; have y2 := bcell hb67 q2; have y3 := bcell hb67 l0))
                  all_goals
                    have HB67 := hid hb67
                    go_wp2_with fail
                    go_ret
                    exact ⟨rfl, below_trans HEND.out HB67.out⟩

end Go.Proofs.Ytejigbhcpejijaa.Ln
