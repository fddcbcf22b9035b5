/-
  LAYER 1: the statements' own comparisons (Texts, Ints, same, fault).
-/
import Derived.Test.YtejigbhcpejijaaLinesRefRead
import Derived.Laws.StructEq
namespace Go.Proofs.Ytejigbhcpejijaa.Ln
open Go.RowKit

/-- a slice that reads as those cells -/
def RowIs (w : World) (v : Value) (xs : List Value) : Prop :=
  (xs = [] ∧ ∃ a c, v = .slice a 0 c) ∨ ∃ g o c, v = .slice (some ⟨g, o, none⟩) xs.length c ∧ ∀ k x, xs[k]? = some x → w.cell? ⟨g, o + k, none⟩ = some x
theorem rowIs_of {w : World} {base : Nat} {e : TypeId} {v : Value} {n : Nat} {xs : List Value} (h : w.ownsRow base e 1 v n xs) : RowIs w v xs := by
  have hl := h.1
  rcases ownsRow_one h with ⟨rfl, rfl, rfl⟩ | ⟨g, c, rfl, _, _, _, _, hc⟩
  · exact .inl ⟨rfl, _, _, rfl⟩
  · right; exact ⟨g, 0, c, by rw [hl, Nat.mul_one], fun k x h => by rw [Nat.zero_add]; exact hc k x h⟩

theorem rowIs_new (w : World) (cs : List Value) (t : TypeId) (n : Nat) (hn : n = w.heap.size) : RowIs (w.alloc (.cells cs.toArray t)) (.slice (some ⟨n, 0, none⟩) cs.length cs.length) cs :=
  .inr ⟨n, 0, cs.length, rfl, fun k x h => by
    have := cells_new w cs t n hn k x h
    rwa [addr_add] at this⟩

theorem word_get {ws : Words} {k : Nat} (h : k < ws.length) : (strs ws)[k]? = some (.string ⟨(ws[k]).toArray⟩) := by
  simp [strs, List.getElem?_eq_getElem h]
theorem nat_get {cs : List Nat} {k : Nat} (h : k < cs.length) : (nats cs)[k]? = some (.int .i64 ((cs[k] : Nat) : Int)) := by
  simp [nats, List.getElem?_eq_getElem h]

theorem bcell {w w' : World} (h : Below w.heap.size w w') {b k : Nat} {v : Value} (hc : w.cell? ⟨b, k, none⟩ = some v) : w'.cell? ⟨b, k, none⟩ = some v := by
  rw [h.cell (p := ⟨b, k, none⟩) (World.block_lt_of_cell? w _ hc)]; exact hc

def TrueQ (w : World) (e : Ending) (w' : World) : Prop := e = .returned (.bool true) ∧ ∃ m, w' = w.drewN m

set_option maxHeartbeats 1000000 in
theorem texts_eq (ws : Words) (hl : ws.length ≤ 1099511627776) (va vb : Value) (w : World) (ha : RowIs w va (strs ws)) (hb : RowIs w vb (strs ws)) :
    Calls Try.prog 19 #[va, vb] w (TrueQ w) := by
  have hsl : (strs ws).length = ws.length := by simp [strs]
  by_cases h0 : ws = []
  · have e0 : strs ws = [] := by rw [h0]; rfl
    rw [e0] at ha hb
    have sh : ∀ v, RowIs w v [] → ∃ a c, v = .slice a 0 c := by
      intro v h
      rcases h with ⟨_, a, c, rfl⟩ | ⟨g, o, c, rfl, _⟩
      · exact ⟨_, _, rfl⟩
      · exact ⟨_, _, rfl⟩
    obtain ⟨a, c, rfl⟩ := sh va ha
    obtain ⟨a', c', rfl⟩ := sh vb hb
    clear ha hb sh hsl e0 h0 hl
    go_enter Try.func19, Try.ntmps19
    go_wp2
    go_rounds 1
    go_ret
    exact ⟨rfl, 0, rfl⟩
  · have hne : strs ws ≠ [] := by
      intro h; apply h0
      have := congrArg List.length h
      rw [hsl] at this
      exact List.eq_nil_of_length_eq_zero this
    rcases ha with ⟨h, _⟩ | ⟨g, o, c, hva, hca⟩
    · exact absurd h hne
    rcases hb with ⟨h, _⟩ | ⟨g', o', c', hvb, hcb⟩
    · exact absurd h hne
    rw [hsl] at hva hvb
    subst hva; subst hvb
    have HCA := hid hca
    have HCB := hid hcb
    clear hca hcb hne h0 hsl
    generalize hn : ws.length = n at *
    have HN := hid hn
    clear hn
    go_enter Try.func19, Try.ntmps19
    go_wp2_with fail
    go_loopw [5] (fun v wr => ∃ k m : Nat, k ≤ n ∧ v = .int .i64 k ∧ wr = w.drewN m) (fun v _ => n - (intOf v).toNat)
    case atStart => exact ⟨0, 0, by omega, rfl, rfl⟩
    case round =>
      obtain ⟨k, m, hk, rfl, rfl⟩ := hrel
      by_cases hlt : k < n
      · have hkw : k < ws.length := by rw [HN.out]; exact hlt
        have c1 := HCA.out k _ (word_get hkw)
        have c2 := HCB.out k _ (word_get hkw)
        go_wp2_with fail
        go_quiet (fail)
        go_wp2
        go_roundw
        case rel => exact ⟨k + 1, _, by omega, by go_num, rfl⟩
        case measure => simp [intOf]; omega
      · go_wp2_with fail
        go_ret
        exact ⟨rfl, m, rfl⟩

set_option maxHeartbeats 1000000 in
theorem ints_eq (ws : List Nat) (hl : ws.length ≤ 1099511627776) (va vb : Value) (w : World) (ha : RowIs w va (nats ws)) (hb : RowIs w vb (nats ws)) :
    Calls Try.prog 33 #[va, vb] w (TrueQ w) := by
  have hsl : (nats ws).length = ws.length := by simp [nats]
  by_cases h0 : ws = []
  · have e0 : nats ws = [] := by rw [h0]; rfl
    rw [e0] at ha hb
    have sh : ∀ v, RowIs w v [] → ∃ a c, v = .slice a 0 c := by
      intro v h
      rcases h with ⟨_, a, c, rfl⟩ | ⟨g, o, c, rfl, _⟩
      · exact ⟨_, _, rfl⟩
      · exact ⟨_, _, rfl⟩
    obtain ⟨a, c, rfl⟩ := sh va ha
    obtain ⟨a', c', rfl⟩ := sh vb hb
    clear ha hb sh hsl e0 h0 hl
    go_enter Try.func33, Try.ntmps33
    go_wp2
    go_rounds 1
    go_ret
    exact ⟨rfl, 0, rfl⟩
  · have hne : nats ws ≠ [] := by
      intro h; apply h0
      have := congrArg List.length h
      rw [hsl] at this
      exact List.eq_nil_of_length_eq_zero this
    rcases ha with ⟨h, _⟩ | ⟨g, o, c, hva, hca⟩
    · exact absurd h hne
    rcases hb with ⟨h, _⟩ | ⟨g', o', c', hvb, hcb⟩
    · exact absurd h hne
    rw [hsl] at hva hvb
    subst hva; subst hvb
    have HCA := hid hca
    have HCB := hid hcb
    clear hca hcb hne h0 hsl
    generalize hn : ws.length = n at *
    have HN := hid hn
    clear hn
    go_enter Try.func33, Try.ntmps33
    go_wp2_with fail
    go_loopw [5] (fun v wr => ∃ k m : Nat, k ≤ n ∧ v = .int .i64 k ∧ wr = w.drewN m) (fun v _ => n - (intOf v).toNat)
    case atStart => exact ⟨0, 0, by omega, rfl, rfl⟩
    case round =>
      obtain ⟨k, m, hk, rfl, rfl⟩ := hrel
      by_cases hlt : k < n
      · have hkw : k < ws.length := by rw [HN.out]; exact hlt
        have c1 := HCA.out k _ (nat_get hkw)
        have c2 := HCB.out k _ (nat_get hkw)
        go_wp2_with fail
        go_quiet (fail)
        go_wp2
        go_roundw
        case rel => exact ⟨k + 1, _, by omega, by go_num, rfl⟩
        case measure => simp [intOf]; omega
      · go_wp2_with fail
        go_ret
        exact ⟨rfl, m, rfl⟩

theorem quiet_at {f : FuncId} {args : Array Value} {w : World} {m x : Nat} (h : Calls Try.prog f args (w.drewN (m + x)) (TrueQ (w.drewN (m + x)))) :
    Calls Try.prog f args (w.drewN (m + x)) fun e w' => e = .returned (.bool true) ∧ ∃ n, w' = w.drewN (m + n) :=
  h.mono fun _ _ ⟨he, k, hk⟩ => ⟨he, x + k, by rw [hk, World.drewN_drewN, Nat.add_assoc]⟩

theorem RowsAt.drewN {w : World} {base : Nat} {ws : Words} {cs : List Nat} {wv cv : Value} (h : RowsAt w base ws cs wv cv) (n : Nat) : RowsAt (w.drewN n) base ws cs wv cv := h
theorem rowIs_drewN {w : World} {v : Value} {xs : List Value} (h : RowIs w v xs) (n : Nat) : RowIs (w.drewN n) v xs := h

/-- the shape of a row of three cells each -/
theorem own3 {w : World} {base : Nat} {e : TypeId} {v : Value} {n : Nat} {cells : List Value} (h : w.ownsRow base e 3 v n cells) :
    (v = .slice none 0 0 ∧ n = 0) ∨ ∃ g c, v = .slice (some ⟨g, 0, none⟩) n c ∧ ∀ k x, cells[k]? = some x → w.cell? ⟨g, k, none⟩ = some x := by
  rcases h.2 with ⟨hv, hn⟩ | ⟨g, cap, cur, hv, hg, hh, h1, h2, h3, h4⟩
  · exact .inl ⟨hv, hn⟩
  · right
    refine ⟨g, cap, hv, fun k x hk => ?_⟩
    have := h.cells (g := g) (by rw [hv]; rfl) k x hk
    rwa [addr_add, Nat.zero_add] at this

set_option maxRecDepth 100000 in
set_option maxHeartbeats 4000000 in
theorem same_eq (xs : List LineS) (hx : xs.length ≤ 1099511627777) (hw : ∀ x, x ∈ xs → x.2.1.length ≤ 1099511627776 ∧ x.2.2.length ≤ 1099511627776) (va vb : Value) (base base' : Nat) (w : World)
    (ha : LinesV w 44 base va xs) (hb : LinesV w 67 base' vb xs) :
    Calls Try.prog 15 #[va, vb] w (TrueQ w) := by
  obtain ⟨ca, oa, ra⟩ := ha
  obtain ⟨cb, ob, rb⟩ := hb
  by_cases h0 : xs.length = 0
  · rw [h0] at oa ob
    have sh : ∀ {e v cells}, w.ownsRow base e 3 v 0 cells → ∃ a c, v = .slice a 0 c := fun h => own_shape h
    obtain ⟨a, c, rfl⟩ := own_shape oa
    obtain ⟨a', c', rfl⟩ := own_shape ob
    clear oa ob ra rb sh h0 hx hw
    go_enter Try.func15, Try.ntmps15
    go_wp2
    go_rounds 1
    go_ret
    exact ⟨rfl, 0, rfl⟩
  · rcases own3 oa with ⟨_, h⟩ | ⟨g, c, rfl, hca⟩
    · exact absurd h h0
    rcases own3 ob with ⟨_, h⟩ | ⟨g', c', rfl, hcb⟩
    · exact absurd h h0
    have HCA := hid hca
    have HCB := hid hcb
    have RA := hid ra
    have RB := hid rb
    have HW := hid hw
    clear hca hcb ra rb oa ob h0 hw
    generalize hn : xs.length = n at *
    have HN := hid hn
    clear hn
    go_enter Try.func15, Try.ntmps15
    go_wp2_with fail
    go_loopw [5] (fun v wr => ∃ k m : Nat, k ≤ n ∧ v = .int .i64 k ∧ wr = w.drewN m) (fun v _ => n - (intOf v).toNat)
    case atStart => exact ⟨0, 0, by omega, rfl, rfl⟩
    case round =>
      obtain ⟨k, m, hk, rfl, rfl⟩ := hrel
      by_cases hlt : k < n
      · have hkx : k < xs.length := by rw [HN.out]; exact hlt
        have hxk : xs[k]? = some xs[k] := List.getElem?_eq_getElem hkx
        obtain ⟨wv, cv, a0, a1, a2, a3⟩ := RA.out k _ hxk
        obtain ⟨wv', cv', b0, b1, b2, b3⟩ := RB.out k _ hxk
        have c0 := HCA.out (k * 3) _ (by rw [Nat.mul_comm]; exact a0)
        have c1 := HCA.out (k * 3 + 1) _ (by rw [Nat.mul_comm k 3]; exact a1)
        have c2 := HCA.out (k * 3 + 2) _ (by rw [Nat.mul_comm k 3]; exact a2)
        have d0 := HCB.out (k * 3) _ (by rw [Nat.mul_comm]; exact b0)
        have d1 := HCB.out (k * 3 + 1) _ (by rw [Nat.mul_comm k 3]; exact b1)
        have d2 := HCB.out (k * 3 + 2) _ (by rw [Nat.mul_comm k 3]; exact b2)
        have hmem := HW.out _ (List.getElem_mem hkx)
        have T := fun M => hid (texts_eq xs[k].2.1 hmem.1 wv wv' (w.drewN M) (rowIs_of a3.1) (rowIs_of b3.1))
        have I := fun M => hid (ints_eq xs[k].2.2 hmem.2 cv cv' (w.drewN M) (rowIs_of a3.2) (rowIs_of b3.2))
        obtain ⟨wa, wc1, e1⟩ := own_shape a3.1
        obtain ⟨wb, wc2, e2⟩ := own_shape b3.1
        obtain ⟨ia, ic1, e3⟩ := own_shape a3.2
        obtain ⟨ib, ic2, e4⟩ := own_shape b3.2
        subst e1; subst e2; subst e3; subst e4
        generalize xs[k].1 = no at c0 d0
        generalize xs[k].2.1.length = l1 at *
        generalize xs[k].2.2.length = l2 at *
        clear a0 a1 a2 a3 b0 b1 b2 b3 hmem hxk hkx
        have TH := hid T
        have IH := hid I
        clear T I
        go_wp2_with fail
        go_quiet ((first | (go_at_call 19; exact quiet_at (TH.out _).out) | (go_at_call 33; exact quiet_at (IH.out _).out)))
        go_wp2
        go_roundw
        case rel => exact ⟨k + 1, _, by omega, by go_num, rfl⟩
        case measure => simp [intOf]; omega
      · go_wp2_with fail
        go_ret
        exact ⟨rfl, m, rfl⟩

set_option maxRecDepth 100000 in
@[go_sem] theorem eqFault (a b c d e f : Int) (w : World) : (Op.equalIn 10000 25 (.agg #[.int .i64 a, .int .i64 b, .int .i64 c]) (.agg #[.int .i64 d, .int .i64 e, .int .i64 f])).run Try.prog w = .ok (a == d && b == e && c == f) w := by
  have u3 := Try.underlying3
  have a3 := Try.isAgg3
  have z3 := Try.sizeOf3
  have u4 := Try.underlying23
  have a4 := Try.isAgg23
  have z4 := Try.sizeOf23
  have hS : Try.prog.underlying 25 = some (.struct (Try.prog.fieldsOf 25)) := by kernel_rfl
  have hp : Try.prog.stoodInHeld 25 = false := by kernel_rfl
  have e10 : (10000 : Nat) = 9999 + 1 := by omega
  rw [e10, run_equalIn_agg w 9999 25 _ _ hS hp]
  simp only [Program.fieldsOf, Try.underlying25]
  go_simp
  by_cases h1 : a = d <;> by_cases h2 : b = e <;> by_cases h3 : c = f <;> simp [h1, h2, h3]

set_option maxRecDepth 100000 in
@[go_sem] theorem eqRFault (a b c d e f : Int) (w : World) : (Op.equalIn 10000 30 (.agg #[.int .i64 a, .int .i64 b, .int .i64 c]) (.agg #[.int .i64 d, .int .i64 e, .int .i64 f])).run Try.prog w = .ok (a == d && b == e && c == f) w := by
  have u3 := Try.underlying3
  have a3 := Try.isAgg3
  have z3 := Try.sizeOf3
  have hS : Try.prog.underlying 30 = some (.struct (Try.prog.fieldsOf 30)) := by kernel_rfl
  have hp : Try.prog.stoodInHeld 30 = false := by kernel_rfl
  have e10 : (10000 : Nat) = 9999 + 1 := by omega
  rw [e10, run_equalIn_agg w 9999 30 _ _ hS hp]
  simp only [Program.fieldsOf, Try.underlying30]
  go_simp
  by_cases h1 : a = d <;> by_cases h2 : b = e <;> by_cases h3 : c = f <;> simp [h1, h2, h3]

theorem fault_any (a b c : Int) (w : World) :
    Calls Try.prog 14 #[.agg #[.int .i64 a, .int .i64 b, .int .i64 c]] w fun e w' => e = .returned (.agg #[.int .i64 a, .int .i64 b, .int .i64 c]) ∧ Below w.heap.size w w' := by
  go_enter Try.func14, Try.ntmps14
  go_wp2
  refine bodyPost_ret (v := .agg #[.int .i64 a, .int .i64 b, .int .i64 c]) (by simp [results, Try.results14, go_sem]) rfl ⟨rfl, by (repeat (first | exact Below.refl _ _ | assumption | refine below_alloc ?_ _ | refine below_drew ?_ | refine below_trans ?_ (by assumption)))⟩

set_option maxRecDepth 100000 in
set_option maxHeartbeats 4000000 in
theorem readTrue_any (w : World) :
    Calls Try.prog 13 #[] w fun e w' => e = .returned (.bool true) ∧ Below w.heap.size w w' := by
  have h1 : readS [97, 32, 98, 32, 35, 32, 99] = .ok [(1, [[97], [98]], [1, 3])] := by kernel_rfl
  have h2 : readS [0] = .error (1, 1, 1) := by kernel_rfl
  have H1 := fun W => hid (Read_any [97, 32, 98, 32, 35, 32, 99] (by decide) W)
  have H2 := fun W => hid (Read_any [0] (by decide) W)
  rw [h1] at H1
  rw [h2] at H2
  have H1' := hid H1
  have H2' := hid H2
  clear H1 H2 h1 h2
  go_enter Try.func13, Try.ntmps13
  go_wp2_with fail
  refine (H1'.out _).out.mono ?_
  rintro e w1 ⟨hb1, v, rfl, hlv⟩
  go_wp2_with fail
  refine (H2'.out _).out.mono ?_
  rintro e w2 ⟨hb2, hr⟩
  subst hr
  obtain ⟨cells, ho, hx⟩ := hlv.below (((below_alloc (Below.refl _ _) _)).trans (hb2.mono (by simp)))
  obtain ⟨wv, cv, a0, a1, a2, a3⟩ := hx 0 _ rfl
  rcases own3 ho with ⟨_, h⟩ | ⟨g, c, hv, hc⟩
  · cases h
  subst hv
  have c0 := hc _ _ a0
  have c1 := hc _ _ a1
  have c2 := hc _ _ a2
  obtain ⟨wa, wc1, e1⟩ := own_shape a3.1
  obtain ⟨ia, ic1, e2⟩ := own_shape a3.2
  subst e1; subst e2
  have g25 : Try.prog.eqGuardType Try.prog.depth 25 = false := by kernel_rfl
  have B2 : Blk w2 w1.heap.size [.int .i64 0, .int .i64 0, .int .i64 0] 25 := (Blk.new w1 _ _).below hb2
  have B3 := B2.alloc (Obj.cells #[.int .i64 1, .int .i64 1, .int .i64 1] 25)
  have z0 := B3.cell 0 rfl
  have z1 := B3.cell 1 rfl
  have z2 := B3.cell 2 rfl
  have BA : Below w2.heap.size w2 (w2.alloc (Obj.cells #[.int .i64 1, .int .i64 1, .int .i64 1] 25)) := (Below.refl _ _).alloc (Nat.le_refl _) _
  have x0 := bcell BA c0
  have x1 := bcell BA c1
  have x2 := bcell BA c2
  have HB2 := hid hb2
  have HB1 := hid hb1
  have HBA := hid BA
  have HHX := hid a3
  have HC0 := hid c0
  have HC1 := hid c1
  have HC2 := hid c2
  have HZ := hid B3
  clear hb2 hb1 BA a0 a1 a2 a3 hx ho hlv hc c0 c1 c2 B2 B3 H1' H2'
  go_wp2_with fail
  have WB : Below w2.heap.size w2 ((w2.alloc (Obj.cells #[.int .i64 1, .int .i64 1, .int .i64 1] 25)).alloc (Obj.cells #[.string ⟨#[97]⟩, .string ⟨#[98]⟩] 9)) := below_alloc (below_alloc (Below.refl _ _) _) _
  have y0 := bcell WB HC0.out
  have y1 := bcell WB HC1.out
  have y2 := bcell WB HC2.out
  have HWB := hid WB
  clear WB x0 x1 x2 z0 z1 z2
  refine (texts_eq [[97], [98]] (by decide) _ _ _ (rowIs_of (HHX.out.below HWB.out).1) (rowIs_new _ [.string ⟨#[97]⟩, .string ⟨#[98]⟩] _ _ (by simp))).mono ?_
  rintro e w3 ⟨rfl, m, rfl⟩
  go_wp2_with fail
  refine (ints_eq [1, 3] (by decide) _ _ _ (rowIs_of (HHX.out.below (below_alloc (below_drewN' HWB.out m) _)).2) (rowIs_new _ [.int .i64 1, .int .i64 3] _ _ (by simp))).mono ?_
  rintro e w4 ⟨rfl, m4, rfl⟩
  clear y0 y1 y2
  go_wp2_with fail
  go_ret
  exact ⟨rfl, below_trans (below_trans (below_alloc HB1.out _) HB2.out) (below_drewN' (below_alloc (below_drewN' HWB.out m) _) m4)⟩

end Go.Proofs.Ytejigbhcpejijaa.Ln
