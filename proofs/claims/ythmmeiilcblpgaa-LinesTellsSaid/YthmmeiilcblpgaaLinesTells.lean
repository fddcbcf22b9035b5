/-
  LAYER 1: LinesTells.
-/
import Derived.Test.YthmmeiilcblpgaaLinesPlayW
import Derived.Test.YthmmeiilcblpgaaLinesTellsBy
import Derived.Test.YthmmeiilcblpgaaLinesOpsOpen
import Derived.Test.YthmmeiilcblpgaaLinesReadOk
import Derived.Test.YthmmeiilcblpgaaLinesEach2
import Derived.Deep.DeepCutAuto
import Derived.Deep.CutBlock
namespace Go.Proofs.Ythmmeiilcblpgaa.Ln
open Go.RowKit

theorem playR_told (no : Nat) (ws : List (List UInt8)) (cs : List Nat) (os : List OpD) : (playR no ws cs os).1 = toldF ws cs os := by
  unfold playR toldF
  cases askF ws cs os [] 0 with
  | error p => obtain ⟨⟨c, col⟩, out⟩ := p; rfl
  | ok p => rfl

/-- the first of some lines, by itself -/
theorem own_first {w : World} {base : Nat} {T : TypeId} {g n c : Nat} {cells : List Value} (h : w.ownsRow base T 3 (.slice (some ⟨g, 0, none⟩) n c) n cells) (hn : 0 < n) :
    w.ownsRow base T 3 (.slice (some ⟨g, 0, none⟩) 1 c) 1 (cells.take 3) := by
  have hl := h.1
  refine ⟨by rw [List.length_take]; omega, ?_⟩
  rcases h.2 with ⟨hv, _⟩ | ⟨g', cap, cur, hv, hg, hh, hc, hm, hs, ht⟩
  · cases hv
  · cases hv
    refine .inr ⟨g, c, cur, rfl, hg, hh, by omega, hm, hs, ?_⟩
    rw [← ht, List.take_take, Nat.min_eq_left (by omega)]

theorem tells_set {w2 M w3 : World} {v : Value} {n : Nat} {xs : List Value} {a b c : Value} (hr : w3.ownsRow M.heap.size 9 1 v n xs) (hM : M.heap.size = w2.heap.size + 2) (_hb : Below M.heap.size M w3) (_h2 : Below w2.heap.size w2 M) :
    (((w3.setCell ⟨w2.heap.size + 1, 0, none⟩ a).setCell ⟨w2.heap.size + 1, 1, none⟩ b).setCell ⟨w2.heap.size + 1, 2, none⟩ c).ownsRow w2.heap.size 9 1 v n xs := by
  have h1 : w2.heap.size + 1 < M.heap.size := by omega
  exact ownsRow_mono (ownsRow_setCell_below (ownsRow_setCell_below (ownsRow_setCell_below hr (a := ⟨_, 0, none⟩) h1 _) (a := ⟨_, 1, none⟩) h1 _) (a := ⟨_, 2, none⟩) h1 _) (by omega)
theorem tells_set2 {w2 M w3 : World} {a b c : Value} (hb : Below M.heap.size M w3) (h2 : Below w2.heap.size w2 M) :
    Below w2.heap.size w2 (((w3.setCell ⟨w2.heap.size + 1, 0, none⟩ a).setCell ⟨w2.heap.size + 1, 1, none⟩ b).setCell ⟨w2.heap.size + 1, 2, none⟩ c) := by
  have h3 : w2.heap.size ≤ w2.heap.size + 1 := Nat.le_succ _
  exact (((below_trans h2 hb).setCell (p := ⟨w2.heap.size + 1, 0, none⟩) h3 _).setCell (p := ⟨w2.heap.size + 1, 1, none⟩) h3 _).setCell (p := ⟨w2.heap.size + 1, 2, none⟩) h3 _

/-- the guard says no: nothing but the example is asked -/
theorem law_tells_out (s : ByteArray) (oa : Option Addr) (n c : Nat) (hs : 500 < s.size ∨ 30 < n) (hs2 : s.size ≤ maxLen) (w : World) :
    Calls Try.prog 6 #[.string s, .slice oa n c] w fun e w' => e = .returned (.bool true) ∧ Below w.heap.size w w' := by
  unfold maxLen at hs2
  by_cases h1 : 500 < s.size
  · have g1 : (500 : Int) < (s.size : Int) := by omega
    clear hs
    go_enter Try.func6, Try.ntmps6
    go_wp2_with fail
    refine (readTrue_any _).mono ?_
    rintro e w1 ⟨rfl, hb1⟩
    have HB1 := hid hb1
    clear hb1
    go_wp2_with fail
    refine (readTrue_any _).mono ?_
    rintro e w2 ⟨rfl, hb2⟩
    have HB2 := hid hb2
    clear hb2
    go_wp2_with fail
    go_ret
    exact ⟨rfl, below_trans (below_trans (below_alloc (Below.refl _ _) _) HB1.out) HB2.out⟩
  · have g1 : ¬ (500 : Int) < (s.size : Int) := by omega
    have g2 : (30 : Int) < (n : Int) := by omega
    clear hs
    go_enter Try.func6, Try.ntmps6
    go_wp2_with fail
    refine (readTrue_any _).mono ?_
    rintro e w1 ⟨rfl, hb1⟩
    have HB1 := hid hb1
    have o0 := ((Blk.new w [.slice oa n c] 47).below hb1).cell 0 rfl
    clear hb1
    go_wp2_with fail
    refine (readTrue_any _).mono ?_
    rintro e w2 ⟨rfl, hb2⟩
    have HB2 := hid hb2
    clear hb2
    go_wp2_with fail
    go_ret
    exact ⟨rfl, below_trans (below_trans (below_alloc (Below.refl _ _) _) HB1.out) HB2.out⟩

set_option maxRecDepth 100000 in
set_option maxHeartbeats 8000000 in
theorem law_tells (l : List UInt8) (hl : l.length ≤ 500) (oa : Option Addr) (c B oo : Nat) (os : List OpD) (hn30 : os.length ≤ 30) (w : World) (hoa : 0 < os.length → oa = some ⟨B, oo, none⟩) (hBw : B ≤ w.heap.size) (hops : OpsAt w B oo os) :
    Calls Try.prog 6 #[.string ⟨l.toArray⟩, .slice oa os.length c] w fun e w' => e = .returned (.bool true) ∧ Below w.heap.size w w' := by
  have HL := hid hl
  have HOA := hid hoa
  have HOPS := hid hops
  have RD := hid (fun W => Read_any l (by omega) W)
  have hgl : l.length ≤ 500 := hl
  generalize hN : os.length = n at *
  have HN := hid hN
  clear hN hoa hops
  go_enter Try.func6, Try.ntmps6
  go_wp2_with fail
  refine (readTrue_any _).mono ?_
  rintro e w1 ⟨rfl, hb1⟩
  have HB1 := hid hb1
  have HO1 := hid ((Blk.new w [.slice oa n c] 47).below hb1)
  have o0 := HO1.out.cell 0 rfl
  clear hb1
  go_wp2_with fail
  refine (RD.out _).mono ?_
  intro e w2 hr
  obtain ⟨hb2, hr⟩ := hr
  have HB2 := hid hb2
  have HO2 := hid (HO1.out.below hb2)
  have g25 : Try.prog.eqGuardType Try.prog.depth 25 = false := by kernel_rfl
  cases hres : readS l with
  | error p =>
    obtain ⟨ec, no, col⟩ := p
    rw [hres] at hr
    dsimp only at hr
    subst hr
    have hcode := readS_codes hres
    have e0 : ((ec : Int) == 0) = false := by rcases hcode with h | h <;> rw [h] <;> rfl
    have HE := hid hres
    clear hres hcode hb2 hgl
    go_wp2_with fail
    go_ret
    exact ⟨rfl, below_alloc (below_trans (below_trans (below_alloc (Below.refl _ _) _) HB1.out) HB2.out) _⟩
  | ok xs =>
    rw [hres] at hr
    obtain ⟨v, rfl, hlv⟩ := hr
    have HX := hid (readS_lines hres)
    have HXL := hid (readS_len hres)
    have HRES := hid hres
    clear hres
    obtain ⟨cells, hown, hrow⟩ := hlv
    rcases own3 hown with ⟨rfl, hz⟩ | ⟨g, cp, rfl, hcl⟩
    · rw [hz] at hown
      clear hown hrow hz hb2 hgl
      go_wp2_with fail
      go_ret
      exact ⟨rfl, below_alloc (below_trans (below_trans (below_alloc (Below.refl _ _) _) HB1.out) HB2.out) _⟩
    · cases xs with
      | nil =>
        clear hown hrow hcl hb2 hgl
        go_wp2_with fail
        go_ret
        exact ⟨rfl, below_alloc (below_trans (below_trans (below_alloc (Below.refl _ _) _) HB1.out) HB2.out) _⟩
      | cons x xs =>
        obtain ⟨no, ws, cs⟩ := x
        obtain ⟨x1, x2, x3, x4, x5⟩ := HX.out (no, ws, cs) (by simp)
        dsimp only at x1 x2 x3 x4 x5
        obtain ⟨wv, cv, b0, b1, b2, b3⟩ := hrow 0 (no, ws, cs) rfl
        dsimp only at b0 b1 b2 b3
        have hwm : ∀ u, u ∈ ws → u.length ≤ 1099511627776 := fun u hu => by have := x5 u hu; omega
        obtain ⟨gw, cw, rfl, hw1, hw2, hwc⟩ := rows_words b3.1 x2
        have hcne : cs ≠ [] := by intro h; rw [h] at x4; exact x2 (List.eq_nil_of_length_eq_zero x4.symm)
        obtain ⟨gc, cc, rfl, hc1, hc2, hcc⟩ := rows_cols b3.2 hcne
        have hgx : ∃ k, (((no, ws, cs) :: xs : List LineS)).length = k + 1 := ⟨xs.length, rfl⟩
        have c0 := hcl _ _ b0
        have c1 := hcl _ _ b1
        have c2 := hcl _ _ b2
        simp only [Nat.mul_zero, Nat.zero_add] at c0 c1 c2
        rw [x4] at c2
        have hgl2 := World.block_lt_of_cell? w2 _ c0
        have HWC := hid hwc
        have HCC := hid hcc
        have HCL := hid hcl
        have HOWN := hid hown
        have HROW := hid hrow
        have HB3 := hid b3
        have HX4 := hid x4
        have HWM := hid hwm
        have hws : ws.length ≤ 20 := x3
        have hlen1 : (0 : Int) < ((((no, ws, cs) :: xs : List LineS)).length : Int) := by simp
        have hlen2 : 0 < (((no, ws, cs) :: xs : List LineS)).length := by simp
        have hlen0 : (((((no, ws, cs) :: xs : List LineS)).length : Int) == 0) = false := by rw [beq_eq_false_iff_ne]; omega
        clear b0 b1 b2 b3 hwc hcc hcl hown hrow x4 hwm hcne hb2 hgl
        generalize hXN : (((no, ws, cs) :: xs : List LineS)).length = XN at *
        have HXN := hid hXN
        clear hXN
        have o2 := HO2.out.cell 0 rfl
        have hs2 := HO2.out.lt
        have hbw2 : Below w.heap.size w w2 := below_trans (below_trans (below_alloc (Below.refl _ _) _) HB1.out) HB2.out
        have hzw : w.heap.size < w1.heap.size := by have := HB1.out.size; simp at this; omega
        have hz12 := HB2.out.size
        have PLAY : Hid (∀ M, Below w2.heap.size w2 M → w2.heap.size < M.heap.size → Calls Try.prog 20 #[.agg #[.int .i64 (no : Int), .slice (some ⟨gw, 0, none⟩) ws.length cw, .slice (some ⟨gc, 0, none⟩) ws.length cc], .slice oa n c] M (PlayIs no ws cs os M)) := hid (fun M hb hz => by
          have PL := play_any no ws cs HX4.out HWM.out (by omega) os (by have := HN.out; omega) M gw cw gc cc B oo c (by omega) (by omega) (by omega)
            (fun k hk => bcell hb (HWC.out k hk)) (fun k hk => bcell hb (HCC.out k hk)) oa (fun h => HOA.out (by have := HN.out; omega)) (HOPS.out.only (Only.of_below (S := fun _ => False) (below_trans hbw2 hb)) (fun h => h))
          rw [HN.out] at PL
          exact PL)
        have HBW2 := hid hbw2
        have HZW := hid hzw
        have HZ12 := hid hz12
        clear hbw2 hzw hz12
        have HH0 : Hid (Blk ((w2.alloc (.cells #[.int .i64 0, .int .i64 0, .int .i64 0] 25)).alloc (.cells #[.int .i64 0, .int .i64 0, .int .i64 0] 30)) (w2.heap.size + 1) [.int .i64 0, .int .i64 0, .int .i64 0] 30) := hid (by
          have := Blk.new (w2.alloc (.cells #[.int .i64 0, .int .i64 0, .int .i64 0] 25)) [.int .i64 0, .int .i64 0, .int .i64 0] 30
          simpa using this)
        go_upto_region 6 with (fail)
        go_cut [7, 8] (fun v u wx => ∃ (at' : Nat), u = .int .i64 (at' : Int) ∧ at' ≤ ws.length ∧ wx.ownsRow w2.heap.size 9 1 v (toldF ws cs os).length (strs (toldF ws cs os)) ∧ Below w2.heap.size w2 wx ∧ (toldF ws cs os).length ≤ n)
        case first =>
          go_region_law ((go_simp; refine (PLAY.out _ (by first | exact (below_alloc (Below.refl _ _) _).drew | exact (below_alloc (below_alloc (Below.refl _ _) _) _).drew) (by simp <;> omega)).mono ?_; rintro e w3 ⟨pv, at', f1, f2, f3, rfl, hat, hpf, hprow, hbp, hpl⟩; try (have hh := Blk.below (w := ((w2.alloc (.cells #[.int .i64 0, .int .i64 0, .int .i64 0] 25)).alloc (.cells #[.int .i64 0, .int .i64 0, .int .i64 0] 30)).drew) HH0.out hbp; have h0 := hh.cell 0 rfl; have h1 := hh.cell 1 rfl; have h2 := hh.cell 2 rfl; have hf := hh.free)))
          all_goals
            rw [playR_told] at hprow hpl
            have hplx : (toldF ws cs os).length ≤ n := by have := HN.out; omega
            go_wp2_with fail
            go_meet
            first
              | exact ⟨at', rfl, hat, (ownsRow_mono hprow (((below_alloc (Below.refl w2.heap.size w2) _).drew).size)).alloc _, below_alloc (below_trans (below_alloc (Below.refl _ _) _).drew hbp) _, hplx⟩
              | exact ⟨at', rfl, hat, tells_set hprow (by simp) hbp (below_alloc (below_alloc (Below.refl _ _) _) _).drew, tells_set2 hbp (below_alloc (below_alloc (Below.refl _ _) _) _).drew, hplx⟩
        case rest =>
          obtain ⟨at', rfl, hat, hrow, hbx, hln⟩ := hcut
          have HROWX := hid hrow
          have HBX := hid hbx
          have hszx := hbx.size
          have HBWX := hid (below_trans HBW2.out hbx)
          have ho2 := HO2.out.below hbx
          have HO3 := hid ho2
          have hmf : ∀ (fn : Fn) (first cap : Array Value) (w : World), (Instr.makeFunc fn first cap).run Try.prog w = .ok (.func fn first cap) w := fun _ _ _ _ => rfl
          have hcpx := HOWN.out
          have hcp1 : 1 ≤ cp := by
            rcases hcpx.2 with ⟨hv, _⟩ | ⟨g', cap', cur', hv, _, _, hc', _⟩
            · cases hv
            · cases hv; omega
          have hcpm : cp ≤ maxLen := by
            rcases hcpx.2 with ⟨hv, _⟩ | ⟨g', cap', cur', hv, _, _, hc', hm', _⟩
            · cases hv
            · cases hv; exact hm'
          unfold maxLen at hcpm
          have HC1 := hid c1
          clear hrow hbx ho2 hcpx o0 o2 c0 c1 c2
          go_wp2_with fail
          have hF : ∀ (args : Array Value) (w : World), (callFunc 25 args).run Try.prog w = .ok (.enter 25 args) w := fun _ _ => by simp [go_sem]
          have hsz4 : (wc.alloc (.cells #[.slice none 0 0] 39)).heap.size = wc.heap.size + 1 := by simp
          have hb24 : Below w2.heap.size w2 (wc.alloc (.cells #[.slice none 0 0] 39)) := below_alloc HBX.out _
          have hbw4 : Below w.heap.size w (wc.alloc (.cells #[.slice none 0 0] 39)) := below_alloc HBWX.out _
          have hwx := HBWX.out.size
          have hlk : ∀ k b, (k = 0 ∧ b) ∨ (k = 1 ∧ True) → k ≤ 1 := fun k b h => by rcases h with ⟨h, _⟩ | ⟨h, _⟩ <;> omega
          clear hlk
          refine (each_from 25 hF #[.pointer (some ⟨w.heap.size, 0, none⟩), .pointer (some ⟨wc.heap.size, 0, none⟩)] [(no, ws, cs)] (by simp) ?_ g cp _ w2 hb24 w1.heap.size (cells.take 3) (own_first HOWN.out hlen2) ?_
            (· = wc.heap.size) (fun b hb => by subst hb; rw [hsz4]; omega)
            (fun k w' => (k = 0 ∧ Blk w' w.heap.size [.slice oa n c] 47 ∧ Blk w' wc.heap.size [.slice none 0 0] 39) ∨ (k = 1 ∧ GotIs wc.heap.size (wc.heap.size + 2) (toldF ws cs os) w'))
            (fun _ => GotIs wc.heap.size (wc.heap.size + 2) (toldF ws cs os)) (.inl ⟨rfl, HO3.out.alloc _, Blk.new _ _ _⟩) ?_ ?_ ?_).mono ?_
          · intro x hx
            rw [List.mem_singleton.1 hx]
            exact ⟨by show ws.length ≤ _; omega, HX4.out, x2⟩
          · intro i x hx
            cases i with
            | zero =>
              obtain ⟨wv, cv, a, b, c', d⟩ := HROW.out 0 x (by simpa using hx)
              refine ⟨wv, cv, ?_, ?_, ?_, d⟩
              · rw [List.getElem?_take_of_lt (by decide)]; exact a
              · rw [List.getElem?_take_of_lt (by decide)]; exact b
              · rw [List.getElem?_take_of_lt (by decide)]; exact c'
            | succ i => simp at hx
          · rintro k wa wb ho h
            rw [hsz4] at ho
            rcases h with ⟨h, h1, h2⟩ | ⟨h, v', h1, h2⟩
            · exact .inl ⟨h, Blk.only h1 ho (by omega), Blk.only h2 ho (by omega)⟩
            · exact .inr ⟨h, v', Blk.only h1 ho (by omega), ownsRow_only h2 ho (fun k hk _ h => by omega)⟩
          · rintro f wa wb ho ⟨v', h1, h2⟩
            rw [hsz4] at ho
            exact ⟨v', Blk.only h1 ho (by omega), ownsRow_only h2 ho (fun k hk _ h => by omega)⟩
          · rintro k x r wr hxk hno hea hpl hsr hr hl' hI ho
            rw [hsz4] at hpl ho
            have hk : k = 0 := by
              rcases k with _ | k
              · rfl
              · simp at hxk
            subst hk
            simp only [List.getElem?_cons_zero, Option.some.injEq] at hxk
            subst hxk
            rcases hI with ⟨_, hI1, hI2⟩ | ⟨h, _⟩
            · have hg0 := hI2.cell 0 rfl
              have hwlen : 0 < ws.length := List.length_pos_iff.2 x2
              have hbops := HOPS.out.only ((Only.of_below (S := fun b => b = wc.heap.size ∨ wc.heap.size + 1 ≤ b) hbw4).trans ho) (fun h => by omega)
              refine (tells_by (fun b => b = wc.heap.size ∨ (wc.alloc (.cells #[.slice none 0 0] 39)).heap.size < b) r ws cs os w.heap.size wc.heap.size B oo n c oa HOA.out HN.out.symm hn30 HWM.out wr (.inr (by rw [hsz4]; omega)) (.inl rfl) (by omega) (by omega) (by omega) (by omega) (by omega) ?_ ?_ hr hl' hI1 hI2 hbops (wc.heap.size + 2) (by omega)).mono ?_
              · intro h
                have := hl'.word 0 hwlen
                rw [← h, hg0] at this
                cases this
              · intro h
                have := hl'.col 0 (by rw [hl'.m]; exact hwlen)
                rw [← h, hg0] at this
                cases this
              · rintro e w' ⟨h1, h2⟩
                refine ⟨h1, ?_⟩
                rcases h2 with ⟨t, he, hr', h3⟩ | h3
                · refine .inl ⟨t, he, hr', ?_⟩
                  rcases h3 with h3 | ⟨h3, h4⟩
                  · exact .inl h3
                  · exact .inr ⟨h3, .inr ⟨rfl, h4⟩⟩
                · exact .inr h3
            · cases h
          rintro e w5 ⟨f1, f2, f3, rfl, ho5, hcase⟩
          rw [hsz4] at ho5
          have hgot : GotIs wc.heap.size (wc.heap.size + 2) (toldF ws cs os) w5 := by
            rcases hcase with ⟨_, _, _, hI⟩ | hD
            · rcases hI with ⟨h, _⟩ | ⟨_, h⟩
              · cases h
              · exact h
            · exact hD
          obtain ⟨v5, hg5, hr5⟩ := hgot
          have honx : Only (fun b => b = wc.heap.size ∨ wc.heap.size + 1 ≤ b) wc w5 := ((Only.refl _ wc).alloc _).trans ho5
          have hrow7 := ownsRow_only HROWX.out honx (fun k _ hk2 h => by omega)
          have c1 := honx.cell (fun h => by omega) (bcell HBX.out HC1.out)
          have g0 := hg5.cell 0 rfl
          have hatd : decide (at' ≤ ws.length) = true := decide_eq_true hat
          have hend : Below w.heap.size w w5 := hbw4.trans (ho5.below (by rw [hsz4]; omega) (fun k hk h => by omega))
          have HEND := hid hend
          have HLN := hid hln
          have HR5 := hid hr5
          have HR7 := hid hrow7
          clear hend hr5 hrow7 honx ho5 hcase hg5 hb24 hbw4 hF hln
          go_wp2_with fail
          refine (texts_eq (toldF ws cs os) (by have := HLN.out; omega) _ _ _ (rowIs_of HR5.out) (rowIs_of HR7.out)).mono ?_
          rintro e w6 ⟨rfl, m, rfl⟩
          go_wp2_with fail
          go_ret
          exact ⟨rfl, below_drewN' HEND.out m⟩

end Go.Proofs.Ythmmeiilcblpgaa.Ln
