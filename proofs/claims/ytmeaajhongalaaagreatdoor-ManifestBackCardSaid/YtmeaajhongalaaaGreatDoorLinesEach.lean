/-
  LAYER 1: Each.
-/
import Derived.Test.YtmeaajhongalaaaGreatDoorIB
namespace Go.Proofs.YtmeaajhongalaaaGreatDoor.Ln
open Go.RowKit

/-- what is asked of the function that Each is handed: of reader r of line x, between what holds ahead of a line and behind it, or what holds where it ends -/
def ByIs (r : Rd) (ws : List (List UInt8)) (cs : List Nat) (T : Nat → Prop) (I : World → Prop) (D : Flt → World → Prop) (w : World) (e : Ending) (w' : World) : Prop :=
  Only T w w' ∧ ((∃ t, e = .returned (.tuple #[]) ∧ RdAt w' r t ∧ ((t < ws.length ∧ D ⟨1, r.no, (cs.getD t 0 : Nat)⟩ w') ∨ (t = ws.length ∧ I w'))) ∨
    (∃ c col, e = .panicked [{ v := stopV r.ea ⟨c, r.no, col⟩, recovered := false }] ∧ D ⟨c, r.no, col⟩ w'))

/-- what Each comes to -/
def EachIs (T : Nat → Prop) (I : World → Prop) (D : Flt → World → Prop) (w : World) (e : Ending) (w' : World) : Prop :=
  ∃ c l k, e = .returned (.agg #[.int .i64 c, .int .i64 l, .int .i64 k]) ∧ Only T w w' ∧ ((c = 0 ∧ l = 0 ∧ k = 0 ∧ I w') ∨ D ⟨c, l, k⟩ w')

theorem own_at {w : World} {base : Nat} {e : TypeId} {size g n c : Nat} {m : Nat} {xs : List Value} (h : w.ownsRow base e size (.slice (some ⟨g, 0, none⟩) n c) m xs) : base ≤ g ∧ g < w.heap.size := by
  rcases h.2 with ⟨hv, _⟩ | ⟨g', cap, cur, hv, hg, hh, _⟩
  · cases hv
  · cases hv
    exact ⟨hg, (Array.getElem?_eq_some_iff.1 hh).1⟩
theorem own_cells {w : World} {base : Nat} {e : TypeId} {size g n c : Nat} {m : Nat} {xs : List Value} (h : w.ownsRow base e size (.slice (some ⟨g, 0, none⟩) n c) m xs) : ∀ k x, xs[k]? = some x → w.cell? ⟨g, k, none⟩ = some x := by
  intro k x hk
  have := h.cells (g := g) rfl k x hk
  rwa [addr_add, Nat.zero_add] at this
theorem rows_words {w : World} {base : Nat} {v : Value} {ws : List (List UInt8)} (h : w.ownsRow base 9 1 v ws.length (strs ws)) (hne : ws ≠ []) :
    ∃ g c, v = .slice (some ⟨g, 0, none⟩) ws.length c ∧ base ≤ g ∧ g < w.heap.size ∧ ∀ (k : Nat) (hk : k < ws.length), w.cell? ⟨g, k, none⟩ = some (.string ⟨ws[k].toArray⟩) := by
  rcases ownsRow_one h with ⟨_, h0, _⟩ | ⟨g, c, hv, hg, hl, _, _, hc⟩
  · exact absurd (List.eq_nil_of_length_eq_zero h0) hne
  · exact ⟨g, c, hv, hg, hl, fun k hk => hc k _ (word_get hk)⟩
theorem rows_cols {w : World} {base : Nat} {v : Value} {cs : List Nat} (h : w.ownsRow base 3 1 v cs.length (nats cs)) (hne : cs ≠ []) :
    ∃ g c, v = .slice (some ⟨g, 0, none⟩) cs.length c ∧ base ≤ g ∧ g < w.heap.size ∧ ∀ (k : Nat), k < cs.length → w.cell? ⟨g, k, none⟩ = some (.int .i64 ((cs.getD k 0 : Nat) : Int)) := by
  rcases ownsRow_one h with ⟨_, h0, _⟩ | ⟨g, c, hv, hg, hl, _, _, hc⟩
  · exact absurd (List.eq_nil_of_length_eq_zero h0) hne
  · refine ⟨g, c, hv, hg, hl, fun k hk => ?_⟩
    have := hc k _ (nat_get hk)
    rw [show cs.getD k 0 = cs[k] by simp [List.getD, List.getElem?_eq_getElem hk]]; exact this

set_option maxRecDepth 100000 in
set_option maxHeartbeats 4000000 in
theorem each_any (F : FuncId) (hF : ∀ (args : Array Value) (w : World), (callFunc F args).run Tryz.prog w = .ok (.enter F args) w) (cap : Array Value) (xs : List LineS) (hx : xs.length ≤ 1099511627777) (hw : ∀ x, x ∈ xs → x.2.1.length ≤ 1099511627776 ∧ x.2.2.length = x.2.1.length ∧ x.2.1 ≠ []) (g cp : Nat) (w : World) (base : Nat)
    (cells : List Value) (hown : w.ownsRow base 140 3 (.slice (some ⟨g, 0, none⟩) xs.length cp) xs.length cells)
    (hrow : ∀ i x, xs[i]? = some x → ∃ wv cv, cells[3 * i]? = some (.int .i64 (x.1 : Int)) ∧ cells[3 * i + 1]? = some wv ∧ cells[3 * i + 2]? = some cv ∧ RowsAt w base x.2.1 x.2.2 wv cv)
    (S : Nat → Prop) (hS : ∀ b, S b → b < base) (I : Nat → World → Prop) (D : Flt → World → Prop) (h0 : I 0 w)
    (hI : ∀ k w1 w2, Only (· = w.heap.size) w1 w2 → I k w1 → I k w2) (hD : ∀ f w1 w2, Only (· = w.heap.size) w1 w2 → D f w1 → D f w2)
    (hB : ∀ (k : Nat) (x : LineS) (r : Rd) (wr : World), xs[k]? = some x → r.no = x.1 → r.ea = w.heap.size → w.heap.size < r.p → wr.heap.size = r.p + 1 → RdAt wr r 0 → RdL wr r x.2.1 x.2.2 → I k wr → Only (fun b => S b ∨ w.heap.size ≤ b) w wr →
      Calls Tryz.prog F (#[.pointer (some ⟨r.p, 0, none⟩)] ++ cap) wr (ByIs r x.2.1 x.2.2 (fun b => S b ∨ w.heap.size < b) (I (k + 1)) D wr)) :
    Calls Tryz.prog 30 #[.slice (some ⟨g, 0, none⟩) xs.length cp, .func (.func F) #[] cap] w (EachIs (fun b => S b ∨ w.heap.size ≤ b) (I xs.length) D w) := by
  have hmf : ∀ (fn : Fn) (first cap : Array Value) (w : World), (Instr.makeFunc fn first cap).run Tryz.prog w = .ok (.func fn first cap) w := fun _ _ _ _ => rfl
  have HB := hid hB
  have HI := hid hI
  have HD := hid hD
  have HR := hid hrow
  have HO := hid hown
  have HW := hid hw
  have H0 := hid h0
  clear hB hI hD hrow hown hw h0
  generalize hn : xs.length = n at *
  have HN := hid hn
  clear hn
  go_enter_defers Tryz.func30, Tryz.ntmps30
  go_wp2_with fail
  obtain ⟨hg1, hg2⟩ := own_at HO.out
  have HNT : Hid (∀ b, base ≤ b → b < w.heap.size → ¬ (S b ∨ w.heap.size ≤ b)) := hid (fun b h1 h2 h => by
    rcases h with h | h
    · have := hS b h; omega
    · omega)
  have HNT2 : Hid (∀ b, base ≤ b → b < w.heap.size → ¬ (S b ∨ w.heap.size < b)) := hid (fun b h1 h2 h => by
    rcases h with h | h
    · have := hS b h; omega
    · omega)
  have HNF : Hid (¬ (S w.heap.size ∨ w.heap.size < w.heap.size)) := hid (fun h => by
    rcases h with h | h
    · have := hS _ h; omega
    · omega)
  clear hS
  have HG := hid (own_cells HO.out)
  go_loopw [14] (fun i wr => ∃ k : Nat, k ≤ n ∧ i = .int .i64 k ∧ Only (fun b => S b ∨ w.heap.size ≤ b) w wr ∧ Blk wr w.heap.size [.int .i64 0, .int .i64 0, .int .i64 0] 87 ∧ I k wr) (fun i _ => n - (intOf i).toNat)
  case atStart => exact ⟨0, by omega, rfl, (Only.refl _ _).alloc _, Blk.new _ _ _, HI.out 0 _ _ ((Only.refl _ _).alloc _) H0.out⟩
  case round =>
    obtain ⟨k, hk, rfl, ho, hf, hi⟩ := hrel
    have HOn := hid ho
    have HF := hid hf
    have HIk := hid hi
    have hsz := ho.size
    have hfl := hf.lt
    have f0 := hf.cell 0 rfl
    have f1 := hf.cell 1 rfl
    have f2 := hf.cell 2 rfl
    have ff := hf.free
    clear ho hf hi
    by_cases hlt : k < n
    · have hkx : k < xs.length := by rw [HN.out]; exact hlt
      have hxk : xs[k]? = some xs[k] := List.getElem?_eq_getElem hkx
      obtain ⟨wv, cv, a0, a1, a2, a3⟩ := HR.out k _ hxk
      have hwx := HW.out _ (List.getElem_mem hkx)
      generalize xs[k] = X at *
      obtain ⟨no, ws, cs⟩ := X
      obtain ⟨gw, cw, rfl, hw1, hw2, hwc⟩ := rows_words a3.1 hwx.2.2
      obtain ⟨gc, cc, rfl, hc1, hc2, hcc⟩ := rows_cols a3.2 (by intro h; have := hwx.2.1; rw [h] at this; exact hwx.2.2 (List.eq_nil_of_length_eq_zero this.symm))
      have c0 := HOn.out.cell (HNT.out _ hg1 hg2) (HG.out (k * 3) _ (by rw [Nat.mul_comm]; exact a0))
      have c1 := HOn.out.cell (HNT.out _ hg1 hg2) (HG.out (k * 3 + 1) _ (by rw [Nat.mul_comm k 3]; exact a1))
      have c2 := HOn.out.cell (HNT.out _ hg1 hg2) (HG.out (k * 3 + 2) _ (by rw [Nat.mul_comm k 3]; exact a2))
      have HX := hid hxk
      have HWX := hid hwx
      have HWC := hid hwc
      have HCC := hid hcc
      clear a0 a1 a2 a3 hxk hwx hwc hcc hkx
      go_wp2_with fail
      have e1 : (wr.alloc (.cells #[.int .i64 (no : Int), .slice (some ⟨gw, 0, none⟩) ws.length cw, .slice (some ⟨gc, 0, none⟩) cs.length cc] 140)).heap.size = wr.heap.size + 1 := by simp
      have hR0 : RdAt ((wr.alloc (.cells #[.int .i64 (no : Int), .slice (some ⟨gw, 0, none⟩) ws.length cw, .slice (some ⟨gc, 0, none⟩) cs.length cc] 140)).alloc (.cells #[.int .i64 (no : Int), .slice (some ⟨gw, 0, none⟩) ws.length cw, .slice (some ⟨gc, 0, none⟩) cs.length cc, .int .i64 0, .pointer (some ⟨w.heap.size, 0, none⟩)] 142)) ⟨wr.heap.size + 1, no, gw, ws.length, cw, gc, cc, w.heap.size⟩ 0 := by
        have := Blk.new (wr.alloc (.cells #[.int .i64 (no : Int), .slice (some ⟨gw, 0, none⟩) ws.length cw, .slice (some ⟨gc, 0, none⟩) cs.length cc] 140)) [.int .i64 (no : Int), .slice (some ⟨gw, 0, none⟩) ws.length cw, .slice (some ⟨gc, 0, none⟩) cs.length cc, .int .i64 0, .pointer (some ⟨w.heap.size, 0, none⟩)] 142
        rw [e1] at this
        show Blk _ (wr.heap.size + 1) [.int .i64 (no : Int), .slice (some ⟨gw, 0, none⟩) ws.length cw, .slice (some ⟨gc, 0, none⟩) ws.length cc, .int .i64 0, .pointer (some ⟨w.heap.size, 0, none⟩)] _
        rw [← HWX.out.2.1]
        rw [HWX.out.2.1] at this ⊢
        exact this
      have hRL : RdL ((wr.alloc (.cells #[.int .i64 (no : Int), .slice (some ⟨gw, 0, none⟩) ws.length cw, .slice (some ⟨gc, 0, none⟩) cs.length cc] 140)).alloc (.cells #[.int .i64 (no : Int), .slice (some ⟨gw, 0, none⟩) ws.length cw, .slice (some ⟨gc, 0, none⟩) cs.length cc, .int .i64 0, .pointer (some ⟨w.heap.size, 0, none⟩)] 142)) ⟨wr.heap.size + 1, no, gw, ws.length, cw, gc, cc, w.heap.size⟩ ws cs := by
        have hO2 := (HOn.out.alloc (.cells #[.int .i64 (no : Int), .slice (some ⟨gw, 0, none⟩) ws.length cw, .slice (some ⟨gc, 0, none⟩) cs.length cc] 140)).alloc (.cells #[.int .i64 (no : Int), .slice (some ⟨gw, 0, none⟩) ws.length cw, .slice (some ⟨gc, 0, none⟩) cs.length cc, .int .i64 0, .pointer (some ⟨w.heap.size, 0, none⟩)] 142)
        refine ⟨rfl, HWX.out.2.1, HWX.out.1, ?_, ?_, ?_, ?_, fun k hk => hO2.cell (HNT.out _ hw1 hw2) (HWC.out k hk), fun k hk => hO2.cell (HNT.out _ hc1 hc2) (HCC.out k hk)⟩
        · show gw ≠ wr.heap.size + 1; omega
        · show gc ≠ wr.heap.size + 1; omega
        · have := hO2.size; show gw < _; omega
        · have := hO2.size; show gc < _; omega
      refine (HB.out k (no, ws, cs) ⟨wr.heap.size + 1, no, gw, ws.length, cw, gc, cc, w.heap.size⟩ _ HX.out rfl rfl (by show w.heap.size < wr.heap.size + 1; omega) (by simp) hR0 hRL (HI.out k _ _ (((Only.refl _ _).alloc _).alloc _) HIk.out) ((HOn.out.alloc _).alloc _)).mono ?_
      rintro e w3 ⟨ho3, hcase⟩
      have HO3 := hid (((HOn.out.alloc (.cells #[.int .i64 (no : Int), .slice (some ⟨gw, 0, none⟩) ws.length cw, .slice (some ⟨gc, 0, none⟩) cs.length cc] 140)).alloc (.cells #[.int .i64 (no : Int), .slice (some ⟨gw, 0, none⟩) ws.length cw, .slice (some ⟨gc, 0, none⟩) cs.length cc, .int .i64 0, .pointer (some ⟨w.heap.size, 0, none⟩)] 142)).trans' ho3 (fun i _ h => h.imp id (fun h => Nat.le_of_lt h)))
      have HF3 := hid (Blk.only ((HF.out.alloc (.cells #[.int .i64 (no : Int), .slice (some ⟨gw, 0, none⟩) ws.length cw, .slice (some ⟨gc, 0, none⟩) cs.length cc] 140)).alloc (.cells #[.int .i64 (no : Int), .slice (some ⟨gw, 0, none⟩) ws.length cw, .slice (some ⟨gc, 0, none⟩) cs.length cc, .int .i64 0, .pointer (some ⟨w.heap.size, 0, none⟩)] 142)) ho3 HNF.out)
      have HL3 := hid (hRL.only ho3 (HNT2.out _ hw1 hw2) (HNT2.out _ hc1 hc2))
      clear ho3 hR0 hRL e1 f0 f1 f2 ff c0 c1 c2
      rcases hcase with ⟨t, rfl, hr, ⟨hlt2, hd⟩ | ⟨heq, hi⟩⟩ | ⟨c, col, rfl, hd⟩
      · have HRt := hid hr
        have HDt := hid hd
        have hlt3 := hid hlt2
        clear hr hd hlt2
        go_wp2_with fail
        refine (more_yes HRt.out hlt3.out).mono ?_
        rintro e w4 ⟨rfl, hd4⟩
        have HD4 := hid hd4
        have hr4 := HRt.out.below hd4.below
        have c3 := hr4.cell 3 rfl
        have HR4 := hid hr4
        have HX4 := hid ((HL3.out.only hd4.only (S := fun _ => False) (fun h => h) (fun h => h)).col t (by have := HWX.out.2.1; have := hlt3.out; show t < cs.length; omega))
        clear hd4 hr4
        generalize cs.getD t 0 = z at HX4 HDt
        go_wp2_with fail
        refine (fault_in HR4.out 1 t hlt3.out _ HX4.out).mono ?_
        rintro e w5 ⟨rfl, hb5⟩
        have hF5 := ((HF3.out.below HD4.out.below).below hb5)
        have HB5 := hid hb5
        have f0 := hF5.cell 0 rfl
        have f1 := hF5.cell 1 rfl
        have f2 := hF5.cell 2 rfl
        have ff := hF5.free
        have HF5 := hid hF5
        clear hb5 hF5 c3
        go_wp2_with fail
        have q := three_cells HF5.out (.int .i64 1) (.int .i64 (no : Int)) (.int .i64 (z : Int))
        have q0 := q.cell 0 rfl
        have q1 := q.cell 1 rfl
        have q2 := q.cell 2 rfl
        refine leaves_cons (f := 79) (args := #[.pointer (some ⟨w.heap.size, 0, none⟩)]) (by simp) (by simp [go_sem]) ?_
        refine (catch_idle w.heap.size _).mono ?_
        rintro e u' w'' ⟨rfl, rfl, rfl⟩
        refine ⟨.agg #[.int .i64 1, .int .i64 (no : Int), .int .i64 (z : Int)], by simp [results, Tryz.results30, go_sem, q0, q1, q2], ?_⟩
        have hS : Only (· = w.heap.size) w3 (((w5.setCell ⟨w.heap.size, 0, none⟩ (.int .i64 1)).setCell ⟨w.heap.size, 1, none⟩ (.int .i64 (no : Int))).setCell ⟨w.heap.size, 2, none⟩ (.int .i64 (z : Int))) := only_at (only_at (only_at (HD4.out.only.trans (Only.of_below HB5.out)) _ _) _ _) _ _
        refine ⟨_, _, _, rfl, HO3.out.trans' hS (fun i hi h => .inr (Nat.le_of_eq h.symm)), .inr (HD.out _ _ _ hS HDt.out)⟩
      · have HRt := hid hr
        have HIt := hid hi
        have heq' := hid heq
        clear hr hi heq
        go_wp2_with fail
        refine (more_no HRt.out (by have := heq'.out; show ¬ t < ws.length; omega)).mono ?_
        rintro e w4 ⟨rfl, hd4⟩
        have HD4 := hid hd4
        clear hd4
        go_wp2_with fail
        go_roundw
        case rel => exact ⟨k + 1, by omega, by go_num, HO3.out.trans HD4.out.only, HF3.out.below HD4.out.below, HI.out _ _ _ HD4.out.only HIt.out⟩
        case measure => simp [intOf]; omega
      · have HDt := hid hd
        clear hd
        refine leaves_cons (f := 79) (args := #[.pointer (some ⟨w.heap.size, 0, none⟩)]) (by simp) (by simp [go_sem]) ?_
        refine (catch_stop w.heap.size c no col 0 0 0 _ HF3.out).mono ?_
        rintro e u' w'' ⟨rfl, rfl, ho4, hb4⟩
        have q0 := hb4.cell 0 rfl
        have q1 := hb4.cell 1 rfl
        have q2 := hb4.cell 2 rfl
        refine ⟨.agg #[.int .i64 c, .int .i64 (no : Int), .int .i64 col], by simp [results, Tryz.results30, go_sem, q0, q1, q2], ?_⟩
        refine ⟨_, _, _, rfl, HO3.out.trans' ho4 (fun i hi h => .inr (Nat.le_of_eq h.symm)), .inr (HD.out _ _ _ ho4 HDt.out)⟩
    · have hkn : k = n := by omega
      go_wp2_with fail
      have q := three_cells HF.out (.int .i64 0) (.int .i64 0) (.int .i64 0)
      have q0 := q.cell 0 rfl
      have q1 := q.cell 1 rfl
      have q2 := q.cell 2 rfl
      refine leaves_cons (f := 79) (args := #[.pointer (some ⟨w.heap.size, 0, none⟩)]) (by simp) (by simp [go_sem]) ?_
      refine (catch_idle w.heap.size _).mono ?_
      rintro e u' w'' ⟨rfl, rfl, rfl⟩
      refine ⟨.agg #[.int .i64 0, .int .i64 0, .int .i64 0], by simp [results, Tryz.results30, go_sem, q0, q1, q2], ?_⟩
      have hS : Only (· = w.heap.size) wr (((wr.setCell ⟨w.heap.size, 0, none⟩ (.int .i64 0)).setCell ⟨w.heap.size, 1, none⟩ (.int .i64 0)).setCell ⟨w.heap.size, 2, none⟩ (.int .i64 0)) := only_at (only_at (only_at (Only.refl _ _) _ _) _ _) _ _
      refine ⟨_, _, _, rfl, HOn.out.trans' hS (fun i hi h => .inr (Nat.le_of_eq h.symm)), .inl ⟨rfl, rfl, rfl, HI.out _ _ _ hS (hkn ▸ HIk.out)⟩⟩

end Go.Proofs.YtmeaajhongalaaaGreatDoor.Ln
