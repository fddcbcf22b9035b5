/-
  LAYER 9, PACKAGE manifest: Parse.
-/
import Derived.Test.YtafnohojnjpfcaaGreatDoorManBy
namespace Go.Proofs.YtafnohojnjpfcaaGreatDoor.Ix
open Go.RowKit
open Go.Proofs.YtafnohojnjpfcaaGreatDoor Go.Proofs.YtafnohojnjpfcaaGreatDoor.Ln Go.Proofs.YtafnohojnjpfcaaGreatDoor.Vs Go.Proofs.YtafnohojnjpfcaaGreatDoor.Sp Go.Proofs.YtafnohojnjpfcaaGreatDoor.Sf

/-- needs in a slice -/
def NeedsV (w : World) (v : Value) (ns : List NeedS) : Prop :=
  ∃ a cp, v = .slice a ns.length cp ∧ (ns ≠ [] → ∃ G cells, a = some ⟨G, 0, none⟩ ∧ G < w.heap.size ∧ (∀ k x, cells[k]? = some x → w.cell? ⟨G, k, none⟩ = some x) ∧ NeedsF (fun _ => True) w cells ns)
theorem NeedsV.below {w w' : World} {v : Value} {ns : List NeedS} (h : NeedsV w v ns) (hb : Below w.heap.size w w') : NeedsV w' v ns := by
  obtain ⟨a, cp, h1, h2⟩ := h
  refine ⟨a, cp, h1, fun hne => ?_⟩
  obtain ⟨G, cells, h3, h4, h5, h6⟩ := h2 hne
  exact ⟨G, cells, h3, Nat.lt_of_lt_of_le h4 hb.size, fun k x hk => by rw [hb.cell h4]; exact h5 k x hk, h6.kept (Kept.of_below hb)⟩
theorem Grow.v {w : World} {mB base : Nat} {T : TypeId} {F : Nat → Prop} {mv : Value} {cells : List Value} {ns : List NeedS} (h : Grow w mB base T F mv cells ns) : NeedsV w mv ns := by
  obtain ⟨a, c, e⟩ := own_shape h.own
  refine ⟨a, c, e, fun hne => ?_⟩
  obtain ⟨g, c', h1, h2, h3, h4, h5, h6⟩ := ownsRow_any h.own (by intro e; exact hne (List.eq_nil_of_length_eq_zero e))
  rw [h1] at e
  injection e with e1 e2 e3
  exact ⟨g, cells, e1.symm, h3, h6, h.needs.mono (fun _ _ _ => trivial)⟩

def ManIs (o : Except (Nat × Nat × Nat) (List NeedS)) (w : World) (e : Ending) (w' : World) : Prop := Below w.heap.size w w' ∧ match o with
  | .ok ns => ∃ mv, e = .returned (.tuple #[.agg #[mv], .agg #[.int .i64 0, .int .i64 0, .int .i64 0]]) ∧ NeedsV w' mv ns
  | .error (c, no, col) => e = .returned (.tuple #[.agg #[.slice none 0 0], .agg #[.int .i64 (c : Int), .int .i64 (no : Int), .int .i64 (col : Int)]])

theorem takeW_code {p : List UInt8 → Bool} {ws : Words} {cs : List Nat} {t : Nat} {c col : Nat} (h : takeW p ws cs t = .error (c, col)) : c = 1 := by
  unfold takeW at h
  split at h
  · cases h; rfl
  · split at h
    · cases h
    · cases h; rfl
theorem featsP_code {most : Int} {ws : Words} {cs : List Nat} : ∀ (f t : Nat) (fs : Words) {c col : Nat}, featsP most ws cs f t fs = .error (c, col) → 1 ≤ c ∧ c ≤ 3 := by
  intro f
  induction f with
  | zero => intro t fs c col h; cases h
  | succ f ih =>
    intro t fs c col h
    unfold featsP at h
    split at h
    · cases h
    · split at h
      · cases h; omega
      · split at h
        · cases h; omega
        · split at h
          · cases h; omega
          · exact ih _ _ h
theorem needP_code {most : Int} {ws : Words} {cs : List Nat} {t : Nat} {c col : Nat} (h : needP most ws cs t = .error (c, col)) : 1 ≤ c ∧ c ≤ 3 := by
  unfold needP at h
  split at h
  · rename_i e he; cases h; have := takeW_code he; omega
  · split at h
    · rename_i e he; cases h; have := takeW_code he; omega
    · split at h
      · split at h
        · rename_i e he; cases h; exact featsP_code _ _ _ he
        · cases h
      · cases h
theorem endW_code {α : Type} {ws : Words} {cs : List Nat} {t : Nat} {x : α} {c col : Nat} (h : endW ws cs t x = .error (c, col)) : c = 1 := by
  unfold endW at h
  split at h
  · cases h; rfl
  · cases h
theorem manLine_code {b : Bool} {ws : Words} {cs : List Nat} {out : List NeedS} {c col : Nat} (h : manLine b ws cs out = .error (c, col)) : 1 ≤ c ∧ c ≤ 3 := by
  unfold manLine at h
  split at h
  · split at h
    · cases h; omega
    · split at h
      · cases h; omega
      · split at h
        · rename_i e he; cases h; exact needP_code he
        · have := endW_code h; omega
  · split at h
    · cases h; omega
    · have := endW_code h; omega
theorem manGo_code : ∀ (xs : List LineS) (b : Bool) (out : List NeedS) {c no col : Nat}, manGo xs b out = .error (c, no, col) → 1 ≤ c ∧ c ≤ 3 := by
  intro xs
  induction xs with
  | nil => intro b out c no col h; cases h
  | cons x xs ih =>
    intro b out c no col h
    obtain ⟨n, ws, cs⟩ := x
    unfold manGo at h
    split at h
    · rename_i he; cases h; exact manLine_code he
    · exact ih _ _ h

theorem res_four {w1 : World} {R : Nat} {a0 x y z : Value} {T T2 : TypeId} (Y : Blk w1 R [a0] T) (X : Blk w1 (R + 1) [x, y, z] T2) (v c n k : Value) :
    Blk ((((w1.setCell ⟨R, 0, none⟩ v).setCell ⟨R + 1, 0, none⟩ c).setCell ⟨R + 1, 1, none⟩ n).setCell ⟨R + 1, 2, none⟩ k) R [v] T ∧ Blk ((((w1.setCell ⟨R, 0, none⟩ v).setCell ⟨R + 1, 0, none⟩ c).setCell ⟨R + 1, 1, none⟩ n).setCell ⟨R + 1, 2, none⟩ k) (R + 1) [c, n, k] T2 :=
  ⟨(((Y.set 0 v).other (a := ⟨R + 1, 0, none⟩) (by show R ≠ R + 1; omega) c).other (a := ⟨R + 1, 1, none⟩) (by show R ≠ R + 1; omega) n).other (a := ⟨R + 1, 2, none⟩) (by show R ≠ R + 1; omega) k,
   three_cells (X.other (a := ⟨R, 0, none⟩) (by show R + 1 ≠ R; omega) v) c n k⟩
theorem below_four {w w1 : World} {R : Nat} (h : Below w.heap.size w w1) (hR : w.heap.size ≤ R) (v c n k : Value) : Below w.heap.size w ((((w1.setCell ⟨R, 0, none⟩ v).setCell ⟨R + 1, 0, none⟩ c).setCell ⟨R + 1, 1, none⟩ n).setCell ⟨R + 1, 2, none⟩ k) :=
  (((h.setCell (p := ⟨R, 0, none⟩) hR v).setCell (p := ⟨R + 1, 0, none⟩) (Nat.le_succ_of_le hR) c).setCell (p := ⟨R + 1, 1, none⟩) (Nat.le_succ_of_le hR) n).setCell (p := ⟨R + 1, 2, none⟩) (Nat.le_succ_of_le hR) k
theorem kept_four {w1 : World} {R : Nat} {F : Nat → Prop} (hF : ∀ b, F b → R + 1 < b) (v c n k : Value) : Kept F w1 ((((w1.setCell ⟨R, 0, none⟩ v).setCell ⟨R + 1, 0, none⟩ c).setCell ⟨R + 1, 1, none⟩ n).setCell ⟨R + 1, 2, none⟩ k) :=
  ((((Kept.refl _ _).setCell (p := ⟨R, 0, none⟩) (fun h => by have := hF R h; omega) _).setCell (p := ⟨R + 1, 0, none⟩) (fun h => by have := hF (R + 1) h; omega) _).setCell (p := ⟨R + 1, 1, none⟩) (fun h => by have := hF (R + 1) h; omega) _).setCell (p := ⟨R + 1, 2, none⟩) (fun h => by have := hF (R + 1) h; omega) _

set_option maxRecDepth 100000 in
set_option maxHeartbeats 4000000 in
theorem manParse_any (l : List UInt8) (hs : l.length ≤ 1099511627776) (w : World) (hm : MaxAt w) (hg : SignsAt w) :
    Calls Tryz.prog 47 #[.string ⟨l.toArray⟩] w (ManIs (manP l) w) := by
  have HRD := fun w => hid (Read_any l hs w)
  have HP := hid (show manP l = match readS l with
    | .error e => .error e
    | .ok xs => manL xs from rfl)
  have HOK := hid (fun xs (h : readS l = .ok xs) => readS_lines h)
  have HLN := hid (fun xs (h : readS l = .ok xs) => readS_len h)
  have HCD := hid (fun c no col (h : readS l = .error (c, no, col)) => readS_codes h)
  generalize manP l = o at HP ⊢
  generalize readS l = rr at HRD HP HOK HLN HCD
  unfold ReadIs at HRD
  have hb0 := below_alloc (below_alloc (Below.refl w.heap.size w) (.cells #[.slice none 0 0] 106)) (.cells #[.int .i64 0, .int .i64 0, .int .i64 0] 27)
  have E1 : (w.alloc (.cells #[.slice none 0 0] 106)).heap.size = w.heap.size + 1 := by simp
  have hR1 := (Blk.new w [.slice none 0 0] 106).alloc (.cells #[.int .i64 0, .int .i64 0, .int .i64 0] 27)
  have hR2 := Blk.new (w.alloc (.cells #[.slice none 0 0] 106)) [.int .i64 0, .int .i64 0, .int .i64 0] 27
  rw [E1] at hR2
  have HB0 := hid hb0
  have HR1 := hid hR1
  have HR2 := hid hR2
  have hl2 := hid hs
  clear hb0 E1 hR1 hR2 hs
  go_enter Tryz.func47, Tryz.ntmps47
  go_wp2_with fail
  generalize (w.alloc (.cells #[.slice none 0 0] 106)).alloc (.cells #[.int .i64 0, .int .i64 0, .int .i64 0] 27) = w0 at HB0 HR1 HR2 ⊢
  change Hid (Blk w0 w.heap.size [.slice none 0 0] 106) at HR1
  change Hid (Blk w0 (w.heap.size + 1) [.int .i64 0, .int .i64 0, .int .i64 0] 27) at HR2
  refine (HRD w0).out.mono ?_
  rintro e w1 ⟨hb1, hcase⟩
  have Z1 := hid (below_trans HB0.out hb1)
  have Y1 := hid (HR1.out.below hb1)
  have X1 := hid (HR2.out.below hb1)
  cases rr with
  | error ec =>
    obtain ⟨c, no, col⟩ := ec
    obtain rfl := hcase
    have hc := HCD.out c no col rfl
    have HO := hid HP.out
    clear HP HCD HLN HOK HRD
    have hcn : ((c : Int) != 0) = true := by rcases hc with rfl | rfl <;> rfl
    have hF := Blk.new w1 [.int .i64 (c : Int), .int .i64 (no : Int), .int .i64 (col : Int)] 27
    have f0 := hF.cell 0 rfl
    have f1 := hF.cell 1 rfl
    have f2 := hF.cell 2 rfl
    have y0 := Y1.out.cell 0 rfl
    have yf := Y1.out.free
    have x0 := X1.out.cell 0 rfl
    have x1 := X1.out.cell 1 rfl
    have x2 := X1.out.cell 2 rfl
    have xf := X1.out.free
    have yl := Y1.out.lt
    have xl := X1.out.lt
    go_wp2_with fail
    go_region
    all_goals
      go_wp2_with fail
      obtain ⟨p1, p2⟩ := res_four Y1.out X1.out (.slice none 0 0) (.int .i64 (c : Int)) (.int .i64 (no : Int)) (.int .i64 (col : Int))
      have m0 := (p1.alloc (.cells #[.int .i64 (c : Int), .int .i64 (no : Int), .int .i64 (col : Int)] 27)).cell 0 rfl
      have q0 := (p2.alloc (.cells #[.int .i64 (c : Int), .int .i64 (no : Int), .int .i64 (col : Int)] 27)).cell 0 rfl
      have q1 := (p2.alloc (.cells #[.int .i64 (c : Int), .int .i64 (no : Int), .int .i64 (col : Int)] 27)).cell 1 rfl
      have q2 := (p2.alloc (.cells #[.int .i64 (c : Int), .int .i64 (no : Int), .int .i64 (col : Int)] 27)).cell 2 rfl
      have hB := (below_alloc (below_four Z1.out (Nat.le_refl _) (.slice none 0 0) (.int .i64 (c : Int)) (.int .i64 (no : Int)) (.int .i64 (col : Int))) (.cells #[.int .i64 (c : Int), .int .i64 (no : Int), .int .i64 (col : Int)] 27)).drew
      refine bodyPost_ret (v := .tuple #[.agg #[.slice none 0 0], .agg #[.int .i64 (c : Int), .int .i64 (no : Int), .int .i64 (col : Int)]]) (by simp [results, Tryz.results47, go_sem, m0, q0, q1, q2]) rfl ?_
      rw [HO.out]
      exact ⟨hB, rfl⟩
  | ok xs =>
    obtain ⟨v, rfl, cells, hown, hrow⟩ := hcase
    have hX := hid (HOK.out xs rfl)
    have hN := hid (HLN.out xs rfl)
    have HO := hid (show o = manL xs from HP.out)
    clear HP HCD HLN HOK HRD
    by_cases hxs : xs = []
    · subst hxs
      obtain ⟨a, c, rfl⟩ := own_shape hown
      have HO' := hid (show o = .error (1, 0, 0) from HO.out)
      have y0 := Y1.out.cell 0 rfl
      have yf := Y1.out.free
      have x0 := X1.out.cell 0 rfl
      have x1 := X1.out.cell 1 rfl
      have x2 := X1.out.cell 2 rfl
      have xf := X1.out.free
      have yl := Y1.out.lt
      have xl := X1.out.lt
      have hF := Blk.new w1 [.int .i64 0, .int .i64 0, .int .i64 0] 27
      have f0 := hF.cell 0 rfl
      clear hown hrow
      go_wp2_with fail
      obtain ⟨p1, p2⟩ := res_four Y1.out X1.out (.slice none 0 0) (.int .i64 1) (.int .i64 0) (.int .i64 0)
      have m0 := (p1.alloc (.cells #[.int .i64 0, .int .i64 0, .int .i64 0] 27)).cell 0 rfl
      have q0 := (p2.alloc (.cells #[.int .i64 0, .int .i64 0, .int .i64 0] 27)).cell 0 rfl
      have q1 := (p2.alloc (.cells #[.int .i64 0, .int .i64 0, .int .i64 0] 27)).cell 1 rfl
      have q2 := (p2.alloc (.cells #[.int .i64 0, .int .i64 0, .int .i64 0] 27)).cell 2 rfl
      have hB := below_alloc (below_four Z1.out (Nat.le_refl _) (.slice none 0 0) (.int .i64 1) (.int .i64 0) (.int .i64 0)) (.cells #[.int .i64 0, .int .i64 0, .int .i64 0] 27)
      refine bodyPost_ret (v := .tuple #[.agg #[.slice none 0 0], .agg #[.int .i64 1, .int .i64 0, .int .i64 0]]) (by simp [results, Tryz.results47, go_sem, m0, q0, q1, q2]) rfl ?_
      rw [HO'.out]
      exact ⟨hB, rfl⟩
    · have HO' := hid (show o = manGo xs false [] from by rw [HO.out]; unfold manL; rw [if_neg hxs])
      have hne0 : xs.length ≠ 0 := fun e => hxs (List.eq_nil_of_length_eq_zero e)
      obtain ⟨g, cp, rfl, hg1, hg2, _, _, _⟩ := ownsRow_any hown hne0
      have hnl : ((xs.length : Int) == 0) = false := by simp; exact hxs
      have hnl2 : ¬ (xs.length : Int) = 0 := by omega
      have hmf : ∀ (fn : Fn) (first cap : Array Value) (w : World), (Instr.makeFunc fn first cap).run Tryz.prog w = .ok (.func fn first cap) w := fun _ _ _ _ => rfl
      have hF := hid (Blk.new w1 [.int .i64 0, .int .i64 0, .int .i64 0] 27)
      have f0 := hF.out.cell 0 rfl
      have eF : (w1.alloc (.cells #[.int .i64 0, .int .i64 0, .int .i64 0] 27)).heap.size = w1.heap.size + 1 := by simp
      have eM : ((w1.alloc (.cells #[.int .i64 0, .int .i64 0, .int .i64 0] 27)).alloc (.cells #[.slice none 0 0] 106)).heap.size = w1.heap.size + 1 + 1 := by simp
      have eB : (((w1.alloc (.cells #[.int .i64 0, .int .i64 0, .int .i64 0] 27)).alloc (.cells #[.slice none 0 0] 106)).alloc (.cells #[.bool false] 4)).heap.size = w1.heap.size + 1 + 1 + 1 := by simp
      have BM := (Blk.new (w1.alloc (.cells #[.int .i64 0, .int .i64 0, .int .i64 0] 27)) [.slice none 0 0] 106).alloc (.cells #[.bool false] 4)
      have BB := Blk.new ((w1.alloc (.cells #[.int .i64 0, .int .i64 0, .int .i64 0] 27)).alloc (.cells #[.slice none 0 0] 106)) [.bool false] 4
      have BW := below_alloc (below_alloc (below_alloc (Below.refl w1.heap.size w1) (.cells #[.int .i64 0, .int .i64 0, .int .i64 0] 27)) (.cells #[.slice none 0 0] 106)) (.cells #[.bool false] 4)
      have BF := (hF.out.alloc (.cells #[.slice none 0 0] 106)).alloc (.cells #[.bool false] 4)
      rw [eF] at BM
      rw [eM] at BB
      replace BM := hid BM
      replace BB := hid BB
      replace BW := hid BW
      replace BF := hid BF
      replace eB := hid eB
      clear eF eM
      have HOWN := hid hown
      have HROW := hid hrow
      have HG1 := hid hg1
      have HNE := hid hxs
      clear hown hrow hg1 hg2 hxs hne0
      go_wp2_with fail
      generalize ((w1.alloc (.cells #[.int .i64 0, .int .i64 0, .int .i64 0] 27)).alloc (.cells #[.slice none 0 0] 106)).alloc (.cells #[.bool false] 4) = W at eB BM BB BW BF ⊢
      change Hid (Blk W (w1.heap.size + 1) [.slice none 0 0] 106) at BM
      change Hid (Blk W (w1.heap.size + 1 + 1) [.bool false] 4) at BB
      change Hid (Blk W w1.heap.size [.int .i64 0, .int .i64 0, .int .i64 0] 27) at BF
      clear hF f0
      have hzw := Z1.out.size
      have hzW := eB.out
      have hFn : ∀ (args : Array Value) (w : World), (callFunc 110 args).run Tryz.prog w = .ok (.enter 110 args) w := fun _ _ => by simp [go_sem]
      have EB := hid (each_over 110 hFn #[.pointer (some ⟨w1.heap.size + 1 + 1, 0, none⟩), .pointer (some ⟨w1.heap.size + 1, 0, none⟩)] xs (by have := hN.out; have := hl2.out; omega)
        (fun x hx => by have := hX.out x hx; exact ⟨by have := this.2.2.1; omega, this.2.2.2.1, this.2.1⟩) g cp W w1 BW.out w0.heap.size cells HOWN.out HROW.out
        (fun b => b = w1.heap.size + 1 + 1 ∨ b = w1.heap.size + 1) (fun b hb => by rw [hzW]; rcases hb with rfl | rfl <;> omega)
        (manI xs (w1.heap.size + 1 + 1) (w1.heap.size + 1) (W.heap.size + 1)) (manD xs)
        ⟨false, .slice none 0 0, [], fun _ => False, [], BB.out, ⟨BM.out, World.ownsRow_nil _ _ _ _, NeedsF.nil _ _, fun _ _ h => h, fun h => h, by rw [hzW]; omega⟩, fun b h => h.elim, by rw [List.drop_zero], Nat.zero_le _⟩
        (fun k wa wb ho h => manI_only h ho (by rw [hzW]; omega) (by rw [hzW]; omega) (by omega))
        (fun f wa wb _ h => h)
        (fun k x r wx hxk hno hea hpl hsr hr hl' hwb hcb hI ho => manBy_any xs (fun x hx => hX.out x hx) hm hg (w1.heap.size + 1 + 1) (w1.heap.size + 1) W.heap.size (by omega) (by rw [hzW]; omega) (by rw [hzW]; omega) k x r wx hxk hno hpl hsr hr hl'
          ((Z1.out.trans (BW.out.mono hzw)).trans (ho.below (by rw [hzW]; omega) (fun b hb hc => by rcases hc with (hc | hc) | hc <;> omega))) (by rw [hzW]; omega) hI))
      clear hmf hFn
      refine EB.out.mono ?_
      rintro e w2 ⟨c, lno, col, rfl, ho, hcase⟩
      have BF2 := hid (Ln.Blk.only BF.out ho (fun h => by rcases h with (h | h) | h <;> omega))
      have Y2 := hid (Ln.Blk.only (Y1.out.below BW.out) ho (fun h => by have := Y1.out.lt; rcases h with (h | h) | h <;> omega))
      have X2 := hid (Ln.Blk.only (X1.out.below BW.out) ho (fun h => by have := X1.out.lt; rcases h with (h | h) | h <;> omega))
      have hXl := X1.out.lt
      have Z2 := hid ((Z1.out.trans (BW.out.mono hzw)).trans (ho.below (by rw [hzW]; omega) (fun b hb hc => by rcases hc with (hc | hc) | hc <;> omega)))
      clear EB ho
      have f0 := BF2.out.cell 0 rfl
      have f1 := BF2.out.cell 1 rfl
      have f2 := BF2.out.cell 2 rfl
      have ff := BF2.out.free
      have fl := BF2.out.lt
      have y0 := Y2.out.cell 0 rfl
      have yf := Y2.out.free
      have x0 := X2.out.cell 0 rfl
      have x1 := X2.out.cell 1 rfl
      have x2 := X2.out.cell 2 rfl
      have xf := X2.out.free
      have hyl : w.heap.size ≠ w1.heap.size := by omega
      have hxl : w.heap.size + 1 ≠ w1.heap.size := by omega
      rcases hcase with ⟨rfl, rfl, rfl, hI⟩ | hD
      · obtain ⟨begun, mv, cls, F, out, _, hgr, hF, he, _⟩ := hI
        rw [List.drop_length] at he
        have HO2 := hid (show o = .ok out from HO'.out.trans he)
        have m0 := hgr.blk.cell 0 rfl
        have HGR := hid hgr
        have HF := hid hF
        obtain ⟨ma, mn, mc, rfl⟩ : ∃ a n c, mv = .slice a n c := by obtain ⟨a, c, e⟩ := own_shape hgr.own; exact ⟨_, _, _, e⟩
        clear hgr hF he
        go_wp2_with fail
        have Y3 := ((Y2.out.other (a := ⟨w1.heap.size, 0, none⟩) hyl (.int .i64 0)).other (a := ⟨w1.heap.size, 1, none⟩) hyl (.int .i64 0)).other (a := ⟨w1.heap.size, 2, none⟩) hyl (.int .i64 0)
        have X3 := ((X2.out.other (a := ⟨w1.heap.size, 0, none⟩) hxl (.int .i64 0)).other (a := ⟨w1.heap.size, 1, none⟩) hxl (.int .i64 0)).other (a := ⟨w1.heap.size, 2, none⟩) hxl (.int .i64 0)
        obtain ⟨p1, p2⟩ := res_four Y3 X3 (.slice ma mn mc) (.int .i64 0) (.int .i64 0) (.int .i64 0)
        have m0 := p1.cell 0 rfl
        have q0 := p2.cell 0 rfl
        have q1 := p2.cell 1 rfl
        have q2 := p2.cell 2 rfl
        have hB := below_four (R := w.heap.size) (((Z2.out.setCell (p := ⟨w1.heap.size, 0, none⟩) hzw (.int .i64 0)).setCell (p := ⟨w1.heap.size, 1, none⟩) hzw (.int .i64 0)).setCell (p := ⟨w1.heap.size, 2, none⟩) hzw (.int .i64 0)) (Nat.le_refl _) (.slice ma mn mc) (.int .i64 0) (.int .i64 0) (.int .i64 0)
        refine bodyPost_ret (v := .tuple #[.agg #[.slice ma mn mc], .agg #[.int .i64 0, .int .i64 0, .int .i64 0]]) (by simp [results, Tryz.results47, go_sem, m0, q0, q1, q2]) rfl ?_
        rw [HO2.out]
        refine ⟨hB, _, rfl, (HGR.out.kept (Kept.trans ((((Kept.refl _ _).setCell (p := ⟨w1.heap.size, 0, none⟩) ?_ _).setCell (p := ⟨w1.heap.size, 1, none⟩) ?_ _).setCell (p := ⟨w1.heap.size, 2, none⟩) ?_ _) (kept_four ?_ _ _ _ _))).v⟩
        · intro h
          rcases h with h | h | h
          · have h : w1.heap.size = w1.heap.size + 1 := h
            omega
          · have h1 : W.heap.size + 1 ≤ w1.heap.size := (HGR.out.own.lt _ h).1
            omega
          · have h1 : W.heap.size + 1 ≤ w1.heap.size := (HF.out _ h).1
            omega
        · intro h
          rcases h with h | h | h
          · have h : w1.heap.size = w1.heap.size + 1 := h
            omega
          · have h1 : W.heap.size + 1 ≤ w1.heap.size := (HGR.out.own.lt _ h).1
            omega
          · have h1 : W.heap.size + 1 ≤ w1.heap.size := (HF.out _ h).1
            omega
        · intro h
          rcases h with h | h | h
          · have h : w1.heap.size = w1.heap.size + 1 := h
            omega
          · have h1 : W.heap.size + 1 ≤ w1.heap.size := (HGR.out.own.lt _ h).1
            omega
          · have h1 : W.heap.size + 1 ≤ w1.heap.size := (HF.out _ h).1
            omega
        · intro b h
          rcases h with h | h | h
          · omega
          · have := (HGR.out.own.lt _ h).1; omega
          · have := (HF.out _ h).1; omega
      · obtain ⟨c', no', col', heq, herr⟩ := hD
        injection heq with e1 e2 e3
        subst e1
        subst e2
        subst e3
        have hcc := manGo_code xs false [] herr
        have hcn : ((c' : Int) != 0) = true := by simp; omega
        have HO2 := hid (HO'.out.trans herr)
        clear herr
        go_wp2_with fail
        go_region
        all_goals
          go_wp2_with fail
          have Y3 := ((Y2.out.other (a := ⟨w1.heap.size, 0, none⟩) hyl (.int .i64 (c' : Int))).other (a := ⟨w1.heap.size, 1, none⟩) hyl (.int .i64 (no' : Int))).other (a := ⟨w1.heap.size, 2, none⟩) hyl (.int .i64 (col' : Int))
          have X3 := ((X2.out.other (a := ⟨w1.heap.size, 0, none⟩) hxl (.int .i64 (c' : Int))).other (a := ⟨w1.heap.size, 1, none⟩) hxl (.int .i64 (no' : Int))).other (a := ⟨w1.heap.size, 2, none⟩) hxl (.int .i64 (col' : Int))
          obtain ⟨p1, p2⟩ := res_four Y3 X3 (.slice none 0 0) (.int .i64 (c' : Int)) (.int .i64 (no' : Int)) (.int .i64 (col' : Int))
          have m0 := p1.cell 0 rfl
          have q0 := p2.cell 0 rfl
          have q1 := p2.cell 1 rfl
          have q2 := p2.cell 2 rfl
          have hB := (below_four (R := w.heap.size) (((Z2.out.setCell (p := ⟨w1.heap.size, 0, none⟩) hzw (.int .i64 (c' : Int))).setCell (p := ⟨w1.heap.size, 1, none⟩) hzw (.int .i64 (no' : Int))).setCell (p := ⟨w1.heap.size, 2, none⟩) hzw (.int .i64 (col' : Int))) (Nat.le_refl _) (.slice none 0 0) (.int .i64 (c' : Int)) (.int .i64 (no' : Int)) (.int .i64 (col' : Int))).drew
          refine bodyPost_ret (v := .tuple #[.agg #[.slice none 0 0], .agg #[.int .i64 (c' : Int), .int .i64 (no' : Int), .int .i64 (col' : Int)]]) (by simp [results, Tryz.results47, go_sem, m0, q0, q1, q2]) rfl ?_
          rw [HO2.out]
          exact ⟨hB, rfl⟩
end Go.Proofs.YtafnohojnjpfcaaGreatDoor.Ix
