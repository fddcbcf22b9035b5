/-
  LAYER 4: a range that comes in, whatever it is.
-/
import Derived.Test.YtebhgcejcdgdbaaGreatDoorSpecOf
import Derived.Deep.Slices
import Derived.ChangeSame
import Derived.OpenShut
namespace Go.Proofs.YtebhgcejcdgdbaaGreatDoor.Sp
open Go.RowKit Go.Sort
open Go.Proofs.YtebhgcejcdgdbaaGreatDoor Go.Proofs.YtebhgcejcdgdbaaGreatDoor.Nu Go.Proofs.YtebhgcejcdgdbaaGreatDoor.Vs
open Go.ChangeShapes Go.WideShapes Go.ChangeAt

/-- a comparison, whatever it holds -/
structure RawC where
  op : Int
  a : Int
  b : Int
  c : Int
  p : ByteArray
def rawVal (c : RawC) : Value := .agg #[.int .i64 c.op, .int .i64 c.a, .int .i64 c.b, .int .i64 c.c, .string c.p]
/-- comparisons in memory, wherever -/
def RawAt (w : World) (v : Value) (cs : List RawC) : Prop := ∃ a cp, v = .slice a cs.length cp ∧ (cs ≠ [] → ∃ B o, a = some ⟨B, o, none⟩ ∧ B < w.heap.size ∧ ∀ k c, cs[k]? = some c →
  w.cell? ⟨B, o + k * 5, none⟩ = some (.int .i64 c.op) ∧ w.cell? ⟨B, o + k * 5 + 1, none⟩ = some (.int .i64 c.a) ∧ w.cell? ⟨B, o + k * 5 + 2, none⟩ = some (.int .i64 c.b) ∧ w.cell? ⟨B, o + k * 5 + 3, none⟩ = some (.int .i64 c.c) ∧ w.cell? ⟨B, o + k * 5 + 4, none⟩ = some (.string c.p))
theorem RawAt.below {w w' : World} {v : Value} {cs : List RawC} (h : RawAt w v cs) (hb : Below w.heap.size w w') : RawAt w' v cs := by
  obtain ⟨a, cp, h1, h3⟩ := h
  refine ⟨a, cp, h1, fun hn => ?_⟩
  obtain ⟨B, o, e, hl, hc⟩ := h3 hn
  refine ⟨B, o, e, Nat.lt_of_lt_of_le hl hb.size, fun k c hk => ?_⟩
  obtain ⟨c0, c1, c2, c3, c4⟩ := hc k c hk
  exact ⟨bc hb c0, bc hb c1, bc hb c2, bc hb c3, bc hb c4⟩
def RawR (w : World) (v : Value) (rs : List (List RawC)) : Prop := ∃ a cp, v = .slice a rs.length cp ∧ (rs ≠ [] → ∃ G o, a = some ⟨G, o, none⟩ ∧ G < w.heap.size ∧ ∀ k cs, rs[k]? = some cs → ∃ u, w.cell? ⟨G, o + k, none⟩ = some u ∧ RawAt w u cs)
theorem RawR.below {w w' : World} {v : Value} {rs : List (List RawC)} (h : RawR w v rs) (hb : Below w.heap.size w w') : RawR w' v rs := by
  obtain ⟨a, cp, h1, h3⟩ := h
  refine ⟨a, cp, h1, fun hn => ?_⟩
  obtain ⟨G, o, e, hl, hc⟩ := h3 hn
  refine ⟨G, o, e, Nat.lt_of_lt_of_le hl hb.size, fun k cs hk => ?_⟩
  obtain ⟨u, h4, h5⟩ := hc k cs hk
  exact ⟨u, bc hb h4, h5.below hb⟩

variable {H : Type} {enc : TypeId × Value → H} {W : World}
theorem int_in {fuel : Nat} {cs : List Value} {x : DataW H × List MemPlace} (h : DataW.trod enc Tryz.prog W 0 (fun _ => true) true fuel 3 cs = some x) : ∃ n, cs = [.int .i64 n] := by
  obtain ⟨n, h1, _⟩ := DataW.trod_int Tryz.underlying3 h
  exact ⟨n, h1⟩
theorem str_in {fuel : Nat} {cs : List Value} {x : DataW H × List MemPlace} (h : DataW.trod enc Tryz.prog W 0 (fun _ => true) true fuel 9 cs = some x) : ∃ s, cs = [.string s] := by
  obtain ⟨s, h1, _⟩ := DataW.trod_string Tryz.underlying9 h
  exact ⟨s, h1⟩
set_option maxRecDepth 100000 in
theorem ver_in {fuel : Nat} {c1 c2 c3 c4 : Value} {x : DataW H × List MemPlace} (h : DataW.trod enc Tryz.prog W 0 (fun _ => true) true fuel 38 [c1, c2, c3, c4] = some x) : ∃ (a b c : Int) (p : ByteArray), c1 = .int .i64 a ∧ c2 = .int .i64 b ∧ c3 = .int .i64 c ∧ c4 = .string p := by
  obtain ⟨y0, y1, n, _, _, h0, h1⟩ := trod_struct2 Tryz.underlying38 h
  have e3 : Tryz.prog.cellsOf 36 = 3 := by kernel_rfl
  have e1 : Tryz.prog.cellsOf 9 = 1 := by kernel_rfl
  have ei : Tryz.prog.cellsOf 3 = 1 := by kernel_rfl
  simp only [e3, e1, List.drop_zero, List.drop_succ_cons, List.take_succ_cons, List.take_zero] at h0 h1
  obtain ⟨p, hp⟩ := str_in h1
  obtain ⟨xs, m, _, _, _, hxl, hx⟩ := DataW.trod_array Tryz.underlying36 h0
  have g : ∀ i, i < 3 → ∃ y, xs[i]? = some y := fun i hi => ⟨xs[i]'(by omega), List.getElem?_eq_getElem (by omega)⟩
  obtain ⟨z0, k0⟩ := g 0 (by decide)
  obtain ⟨z1, k1⟩ := g 1 (by decide)
  obtain ⟨z2, k2⟩ := g 2 (by decide)
  have q0 := (hx 0 (by decide)).trans k0
  have q1 := (hx 1 (by decide)).trans k1
  have q2 := (hx 2 (by decide)).trans k2
  rw [ei] at q0 q1 q2
  obtain ⟨a, ha⟩ := int_in q0
  obtain ⟨b, hb⟩ := int_in q1
  obtain ⟨c, hc⟩ := int_in q2
  refine ⟨a, b, c, p, ?_, ?_, ?_, ?_⟩
  · simpa using ha
  · simpa using hb
  · simpa using hc
  · simpa using hp
set_option maxRecDepth 100000 in
theorem comp_in {fuel : Nat} {cs : List Value} {x : DataW H × List MemPlace} (h : DataW.trod enc Tryz.prog W 0 (fun _ => true) true fuel 40 cs = some x) : ∃ c : RawC, cs = [.int .i64 c.op, .int .i64 c.a, .int .i64 c.b, .int .i64 c.c, .string c.p] := by
  obtain ⟨y0, y1, n, _, hl, h0, h1⟩ := trod_struct2 Tryz.underlying40 h
  have e5 : Tryz.prog.cellsOf 40 = 5 := by kernel_rfl
  have e4 : Tryz.prog.cellsOf 38 = 4 := by kernel_rfl
  have ei : Tryz.prog.cellsOf 3 = 1 := by kernel_rfl
  rw [e5] at hl
  obtain ⟨c0, c1, c2, c3, c4, rfl⟩ : ∃ c0 c1 c2 c3 c4, cs = [c0, c1, c2, c3, c4] := by
    match cs, hl with
    | [c0, c1, c2, c3, c4], _ => exact ⟨c0, c1, c2, c3, c4, rfl⟩
  simp only [e4, ei, List.drop_zero, List.drop_succ_cons, List.take_succ_cons, List.take_zero] at h0 h1
  obtain ⟨op, ho⟩ := int_in h0
  obtain ⟨a, b, c, p, rfl, rfl, rfl, rfl⟩ := ver_in h1
  have : c0 = .int .i64 op := by simpa using ho
  subst this
  exact ⟨⟨op, a, b, c, p⟩, rfl⟩

set_option maxRecDepth 100000 in
theorem alt_in {fuel : Nat} {cs : List Value} {x : DataW H × List MemPlace} (h : DataW.trod enc Tryz.prog W 0 (fun _ => true) true fuel 35 cs = some x) : ∃ v l, cs = [v] ∧ RawAt W v l := by
  rcases Go.Deep.open_slice Tryz.underlying35 h with ⟨hcs, _⟩ | ⟨a', len, cap, m, k, D, Pl, hcs, _, hl, _, hm, hx, hi⟩
  · exact ⟨_, [], hcs, none, 0, rfl, fun h => absurd rfl h⟩
  · have hmn : len ≤ m := by rw [hm]; simp; omega
    have e5 : Tryz.prog.cellsOf 40 = 5 := by kernel_rfl
    have key : ∀ i, i < len → ∃ c : RawC, W.cell? (a'.add (i * 5)) = some (.int .i64 c.op) ∧ W.cell? ((a'.add (i * 5)).add 1) = some (.int .i64 c.a) ∧ W.cell? ((a'.add (i * 5)).add 2) = some (.int .i64 c.b) ∧ W.cell? ((a'.add (i * 5)).add 3) = some (.int .i64 c.c) ∧ W.cell? ((a'.add (i * 5)).add 4) = some (.string c.p) := by
      intro i hin
      obtain ⟨cs', hc', ht'⟩ := hi i (by omega)
      rw [e5] at hc'
      obtain ⟨c, rfl⟩ := comp_in ht'
      obtain ⟨_, _, hat⟩ := World.cells?_some hc'
      have h0 := hat 0 (by decide)
      have h7 : (a'.add (i * 5)).add 0 = a'.add (i * 5) := by simp [Addr.add]
      rw [h7] at h0
      exact ⟨c, h0, hat 1 (by decide), hat 2 (by decide), hat 3 (by decide), hat 4 (by decide)⟩
    rcases Nat.eq_zero_or_pos len with h0 | hpos
    · subst h0
      exact ⟨_, [], hcs, some a', cap, rfl, fun h => absurd rfl h⟩
    · have ⟨R, hR⟩ : ∃ R : Nat → RawC, ∀ i, i < len → W.cell? (a'.add (i * 5)) = some (.int .i64 (R i).op) ∧ W.cell? ((a'.add (i * 5)).add 1) = some (.int .i64 (R i).a) ∧ W.cell? ((a'.add (i * 5)).add 2) = some (.int .i64 (R i).b) ∧ W.cell? ((a'.add (i * 5)).add 3) = some (.int .i64 (R i).c) ∧ W.cell? ((a'.add (i * 5)).add 4) = some (.string (R i).p) :=
        ⟨fun i => if h : i < len then Classical.choose (key i h) else ⟨0, 0, 0, 0, ⟨#[]⟩⟩, fun i h => by
          dsimp only; rw [dif_pos h]; exact Classical.choose_spec (key i h)⟩
      obtain ⟨B, o, mm⟩ := a'
      have h00 := (hR 0 hpos).1
      have hmm : mm = none := by simpa [Addr.add] using World.cell?_spot h00
      subst hmm
      refine ⟨_, (List.range len).map R, hcs, some ⟨B, o, none⟩, cap, by simp, fun _ => ⟨B, o, rfl, World.block_lt_of_cell? W _ h00, fun k c hk => ?_⟩⟩
      have hkn : k < len := by have := (List.getElem?_eq_some_iff.1 hk).1; simpa using this
      have hr : c = R k := by
        rw [List.getElem?_map, List.getElem?_range hkn] at hk
        simpa using hk.symm
      subst hr
      have := hR k hkn
      simpa only [addr_add] using this
set_option maxRecDepth 100000 in
theorem range_in {b0 : Nat} {r : Reach} {v : Value} {d : DataW H} {ps : List MemPlace} (hval : Value.okWide Tryz.prog W r b0 25 v) (h : DataW.Trod enc Tryz.prog W 0 (fun _ => true) true 25 v d ps) : ∃ u rs, v = .agg #[u] ∧ RawR W u rs := by
  obtain ⟨cs, rfl, hsz⟩ := okWide_struct Tryz.underlying25 hval
  have e1 : Tryz.prog.cellsOf 25 = 1 := by kernel_rfl
  rw [e1] at hsz
  obtain ⟨u, rfl⟩ : ∃ u, cs = #[u] := by
    have hl : cs.toList.length = 1 := by simpa using hsz
    match h9 : cs.toList, hl with
    | [u], _ => exact ⟨u, by apply Array.toList_inj.1; rw [h9]⟩
  obtain ⟨fuel, hf⟩ := h
  obtain ⟨y0, n, _, _, h0⟩ := trod_struct1 Tryz.underlying25 hf
  have ea : Tryz.prog.cellsOf 23 = 1 := by kernel_rfl
  have eb : Tryz.prog.cellsOf 35 = 1 := by kernel_rfl
  have hcu : (Value.agg #[u]).cells.toList = [u] := by simp [Value.cells]
  rw [hcu] at h0
  simp only [ea, List.drop_zero, List.take_succ_cons, List.take_zero] at h0
  refine ⟨u, ?_⟩
  rcases Go.Deep.open_slice Tryz.underlying23 h0 with ⟨hcs, _⟩ | ⟨a', len, cap, m, k, D, Pl, hcs, _, hl, _, hm, hx, hi⟩
  · have : u = .slice none 0 0 := by simpa using hcs
    subst this
    exact ⟨[], rfl, none, 0, rfl, fun h => absurd rfl h⟩
  · have : u = .slice (some a') len cap := by simpa using hcs
    subst this
    have hmn : len ≤ m := by rw [hm]; simp; omega
    have key : ∀ i, i < len → ∃ x l, W.cell? (a'.add i) = some x ∧ RawAt W x l := by
      intro i hin
      obtain ⟨cs', hc', ht'⟩ := hi i (by omega)
      rw [eb, Nat.mul_one] at hc'
      obtain ⟨x, l, rfl, hs⟩ := alt_in ht'
      obtain ⟨_, _, hat⟩ := World.cells?_some hc'
      have h9 := hat 0 (by decide)
      have h8 : W.cell? ((a'.add i).add 0) = some x := by simpa using h9
      have h7 : (a'.add i).add 0 = a'.add i := by simp [Addr.add]
      rw [h7] at h8
      exact ⟨x, l, h8, hs⟩
    rcases Nat.eq_zero_or_pos len with hz | hpos
    · subst hz
      exact ⟨[], rfl, some a', cap, rfl, fun h => absurd rfl h⟩
    · have ⟨U, hU⟩ : ∃ U : Nat → Value, ∀ i, i < len → ∃ l, W.cell? (a'.add i) = some (U i) ∧ RawAt W (U i) l :=
        ⟨fun i => if h : i < len then Classical.choose (key i h) else .nilIface, fun i h => by
          dsimp only; rw [dif_pos h]; exact Classical.choose_spec (key i h)⟩
      have ⟨R, hR⟩ : ∃ R : Nat → List RawC, ∀ i, i < len → W.cell? (a'.add i) = some (U i) ∧ RawAt W (U i) (R i) :=
        ⟨fun i => if h : i < len then Classical.choose (hU i h) else [], fun i h => by
          dsimp only; rw [dif_pos h]; exact Classical.choose_spec (hU i h)⟩
      obtain ⟨B, o, mm⟩ := a'
      have h00 := (hR 0 hpos).1
      have hmm : mm = none := by simpa [Addr.add] using World.cell?_spot h00
      subst hmm
      refine ⟨(List.range len).map R, rfl, some ⟨B, o, none⟩, cap, by simp, fun _ => ⟨B, o, rfl, World.block_lt_of_cell? W _ h00, fun k l hk => ?_⟩⟩
      have hkn : k < len := by have := (List.getElem?_eq_some_iff.1 hk).1; simpa using this
      have hr : l = R k := by
        rw [List.getElem?_map, List.getElem?_range hkn] at hk
        simpa using hk.symm
      subst hr
      obtain ⟨g1, g2⟩ := hR k hkn
      rw [addr_add] at g1
      exact ⟨_, g1, g2⟩
end Go.Proofs.YtebhgcejcdgdbaaGreatDoor.Sp
