/-
  SEVERAL TEXTS, one behind the other.
-/
import Derived.Test.YtmeaajhongalaaaGreatDoorIA
import Derived.SliceStrings
import Derived.Deep.Slices
import Derived.Lib.Join
import Derived.Test.YtmeaajhongalaaaGreatDoorBuilderJ
import Derived.Test.YtmeaajhongalaaaGreatDoorIB
/-
  LAYER 1: slices of texts, and of numbers, that come in. No program is imported.
-/
namespace Go.Proofs.YtmeaajhongalaaaGreatDoor
open Go.RowKit
section
open Go.ChangeShapes Go.WideShapes Go.ChangeAt

theorem strs_at {w : World} {a : Addr} {zs : List ByteArray} (h : ∀ i, i < zs.length → w.cell? (a.add i) = some (.string (zs.getD i ByteArray.empty))) (hp : 0 < zs.length) :
    ∃ b off, a = ⟨b, off, none⟩ ∧ ∀ j, j < zs.length → w.cell? ⟨b, off + j, none⟩ = some (.string (zs.getD j ByteArray.empty)) := by
  obtain ⟨b, off, spot⟩ := a
  have hspot : spot = none := by simpa [Addr.add] using World.cell?_spot (h 0 hp)
  subst hspot
  exact ⟨b, off, rfl, fun j hj => by rw [← Go.WideShapes.add_plain]; exact h j hj⟩

/-- a slice of texts that came in: empty, or its cells -/
theorem open_words {H : Type} {enc : TypeId × Value → H} {P : Program} {W : World} {b0 : Nat} {r : Reach} {t e : TypeId} {v : Value} {d : DataW H} {ps : List MemPlace} (ht : P.underlying t = some (.slice e)) (he : P.underlying e = some .string) (hc : P.cellsOf e = 1)
    (hval : Value.okWide P W r b0 t v) (h : DataW.Trod enc P W 0 (fun _ => true) true t v d ps) :
    ∃ a n c, v = .slice a n c ∧ (n = 0 ∨ ∃ B o, ∃ ws : List ByteArray, a = some ⟨B, o, none⟩ ∧ n = ws.length ∧ B < W.heap.size ∧ (∀ k (h : k < ws.length), ws[k].size ≤ maxLen) ∧
      (∀ k (h : k < ws.length), W.cell? ⟨B, o + k, none⟩ = some (.string ws[k]))) := by
  obtain ⟨a, n, c, rfl⟩ := okWide_slice ht hval
  refine ⟨a, n, c, rfl, ?_⟩
  obtain ⟨fuel, hf⟩ := h
  rcases open_strings ht he hc hf with ⟨hcs, _⟩ | ⟨a', n', c', zs, hcs, _, hl, hm, hz, hx, hcell, hwz⟩
  · left
    simp [Value.cells] at hcs
    exact hcs.2.1
  · simp [Value.cells] at hcs
    obtain ⟨rfl, rfl, rfl⟩ := hcs
    rcases Nat.eq_zero_or_pos n with h0 | h0
    · exact .inl h0
    · right
      have hz' : zs.length = c := by simpa using hz
      obtain ⟨B, o, rfl, hcc⟩ := strs_at hcell (by omega)
      refine ⟨B, o, zs.take n, rfl, by simp; omega, World.block_lt_of_cell? W _ (hcc 0 (by omega)), ?_, ?_⟩
      · intro k hk
        rw [List.getElem_take]
        exact hwz _ (List.getElem_mem _)
      · intro k hk
        have hk' : k < zs.length := by simp at hk; omega
        rw [List.getElem_take, hcc k hk']
        simp [List.getD, List.getElem?_eq_getElem hk']

/-- a slice of numbers that came in: empty, or its cells -/
theorem open_nums {H : Type} {enc : TypeId × Value → H} {P : Program} {W : World} {b0 : Nat} {r : Reach} {t e : TypeId} {k : IntKind} {v : Value} {d : DataW H} {ps : List MemPlace} (ht : P.underlying t = some (.slice e)) (he : P.underlying e = some (.int k)) (hc : P.cellsOf e = 1)
    (hval : Value.okWide P W r b0 t v) (h : DataW.Trod enc P W 0 (fun _ => true) true t v d ps) :
    ∃ a n c, v = .slice a n c ∧ (n = 0 ∨ ∃ B o, ∃ ws : List Int, a = some ⟨B, o, none⟩ ∧ n = ws.length ∧ B < W.heap.size ∧
      (∀ j (h : j < ws.length), W.cell? ⟨B, o + j, none⟩ = some (.int k ws[j]))) := by
  obtain ⟨a, n, c, rfl⟩ := okWide_slice ht hval
  refine ⟨a, n, c, rfl, ?_⟩
  obtain ⟨fuel, hf⟩ := h
  rcases open_ints ht he hc hf with ⟨hcs, _⟩ | ⟨a', n', c', zs, hcs, _, hl, hm, hz, hx, hcell, hwz⟩
  · left
    simp [Value.cells] at hcs
    exact hcs.2.1
  · simp [Value.cells] at hcs
    obtain ⟨rfl, rfl, rfl⟩ := hcs
    rcases Nat.eq_zero_or_pos n with h0 | h0
    · exact .inl h0
    · right
      have hz' : zs.length = c := by simpa using hz
      obtain ⟨B, o, rfl, hcc⟩ := ints_at hcell (by omega)
      refine ⟨B, o, zs.take n, rfl, by simp; omega, World.block_lt_of_cell? W _ (hcc 0 (by omega)), ?_⟩
      intro j hj
      have hj' : j < zs.length := by simp at hj; omega
      rw [List.getElem_take, hcc j hj']
      simp [List.getD, List.getElem?_eq_getElem hj']
end
end Go.Proofs.YtmeaajhongalaaaGreatDoor

/-
  LAYER 1: lists of lists of words that come in.
-/
namespace Go.Proofs.YtmeaajhongalaaaGreatDoor.Ln
open Go.RowKit
open Go.ChangeShapes Go.WideShapes Go.ChangeAt

/-- words in memory, wherever -/
def StrsAt (w : World) (v : Value) (ws : List ByteArray) : Prop := ∃ a c, v = .slice a ws.length c ∧ ws.length ≤ c ∧ (ws ≠ [] → ∃ b o, a = some ⟨b, o, none⟩ ∧ b < w.heap.size ∧ ∀ k s, ws[k]? = some s → w.cell? ⟨b, o + k, none⟩ = some (.string s))
theorem StrsAt.below {w w' : World} {v : Value} {ws : List ByteArray} (h : StrsAt w v ws) (hb : Below w.heap.size w w') : StrsAt w' v ws := by
  obtain ⟨a, c, h1, h2, h3⟩ := h
  refine ⟨a, c, h1, h2, fun hn => ?_⟩
  obtain ⟨b, o, e, hl, hc⟩ := h3 hn
  exact ⟨b, o, e, Nat.lt_of_lt_of_le hl hb.size, fun k s hk => by rw [hb.cell hl]; exact hc k s hk⟩
/-- rows of words in memory -/
def RowsIn (w : World) (v : Value) (rows : List (List ByteArray)) : Prop := ∃ a c, v = .slice a rows.length c ∧ rows.length ≤ c ∧ (rows ≠ [] → ∃ B o, a = some ⟨B, o, none⟩ ∧ B < w.heap.size ∧ ∀ k r, rows[k]? = some r → ∃ u, w.cell? ⟨B, o + k, none⟩ = some u ∧ StrsAt w u r)
theorem RowsIn.below {w w' : World} {v : Value} {rows : List (List ByteArray)} (h : RowsIn w v rows) (hb : Below w.heap.size w w') : RowsIn w' v rows := by
  obtain ⟨a, c, h1, h2, h3⟩ := h
  refine ⟨a, c, h1, h2, fun hn => ?_⟩
  obtain ⟨B, o, e, hl, hc⟩ := h3 hn
  refine ⟨B, o, e, Nat.lt_of_lt_of_le hl hb.size, fun k r hk => ?_⟩
  obtain ⟨u, h4, h5⟩ := hc k r hk
  exact ⟨u, by rw [hb.cell hl]; exact h4, h5.below hb⟩

theorem strs_in {H : Type} {enc : TypeId × Value → H} {P : Program} {W : World} {t e : TypeId} {fuel : Nat} {cs : List Value} {x : DataW H × List MemPlace} (ht : P.underlying t = some (.slice e)) (he : P.underlying e = some .string) (hc : P.cellsOf e = 1)
    (h : DataW.trod enc P W 0 (fun _ => true) true fuel t cs = some x) : ∃ v ws, cs = [v] ∧ StrsAt W v ws := by
  rcases open_strings ht he hc h with ⟨hcs, _⟩ | ⟨a', n', c', zs, hcs, _, hl, hm, hz, hx, hcell, hwz⟩
  · exact ⟨_, [], hcs, none, 0, rfl, Nat.le_refl _, fun h => absurd rfl h⟩
  · have hz' : zs.length = c' := by simpa using hz
    refine ⟨_, zs.take n', hcs, some a', c', by rw [List.length_take, Nat.min_eq_left (by omega)], by rw [List.length_take]; omega, fun hne => ?_⟩
    have hn0 : 0 < n' := by
      rcases Nat.eq_zero_or_pos n' with h0 | h0
      · subst h0; exact absurd rfl hne
      · exact h0
    obtain ⟨B, o, rfl, hcc⟩ := strs_at hcell (by omega)
    refine ⟨B, o, rfl, World.block_lt_of_cell? W _ (hcc 0 (by omega)), fun k s hk => ?_⟩
    have hk1 := (List.getElem?_eq_some_iff.1 hk).1
    have hk' : k < zs.length := by rw [List.length_take] at hk1; omega
    rw [hcc k hk']
    rw [List.getElem?_take] at hk
    split at hk
    · rw [List.getD_eq_getElem?_getD, hk]; rfl
    · cases hk

theorem open_rows {H : Type} {enc : TypeId × Value → H} {P : Program} {W : World} {b0 : Nat} {r : Reach} {t q e : TypeId} {v : Value} {d : DataW H} {ps : List MemPlace} (ht : P.underlying t = some (.slice q)) (hq : P.underlying q = some (.slice e)) (he : P.underlying e = some .string) (hc : P.cellsOf e = 1) (hc2 : P.cellsOf q = 1)
    (hval : Value.okWide P W r b0 t v) (h : DataW.Trod enc P W 0 (fun _ => true) true t v d ps) : ∃ rows, RowsIn W v rows := by
  obtain ⟨a, n, c, rfl⟩ := okWide_slice ht hval
  obtain ⟨fuel, hf⟩ := h
  rcases Go.Deep.open_slice ht hf with ⟨hcs, _⟩ | ⟨a', len, cap, m, k, D, Pl, hcs, _, hl, _, hm, hx, hi⟩
  · simp [Value.cells] at hcs
    obtain ⟨rfl, rfl, rfl⟩ := hcs
    exact ⟨[], none, 0, rfl, Nat.le_refl _, fun h => absurd rfl h⟩
  · simp [Value.cells] at hcs
    obtain ⟨rfl, rfl, rfl⟩ := hcs
    have hmn : n ≤ m := by rw [hm]; simp; omega
    have key : ∀ i, i < n → ∃ u ws, W.cell? (a'.add i) = some u ∧ StrsAt W u ws := by
      intro i hin
      obtain ⟨cs', hc', ht'⟩ := hi i (by omega)
      rw [hc2, Nat.mul_one] at hc'
      obtain ⟨u, ws, rfl, hs⟩ := strs_in hq he hc ht'
      obtain ⟨_, _, hat⟩ := World.cells?_some hc'
      refine ⟨u, ws, ?_, hs⟩
      have h9 := hat 0 (by decide)
      have h8 : W.cell? ((a'.add i).add 0) = some u := by simpa using h9
      have h7 : (a'.add i).add 0 = a'.add i := by simp [Addr.add]
      rwa [h7] at h8
    rcases Nat.eq_zero_or_pos n with h0 | hpos
    · subst h0
      exact ⟨[], some a', c, rfl, Nat.zero_le _, fun h => absurd rfl h⟩
    · have ⟨U, hU⟩ : ∃ U : Nat → Value, ∀ i, i < n → ∃ ws, W.cell? (a'.add i) = some (U i) ∧ StrsAt W (U i) ws :=
        ⟨fun i => if h : i < n then Classical.choose (key i h) else .nilIface, fun i h => by
          dsimp only; rw [dif_pos h]; exact Classical.choose_spec (key i h)⟩
      have ⟨R, hR⟩ : ∃ R : Nat → List ByteArray, ∀ i, i < n → W.cell? (a'.add i) = some (U i) ∧ StrsAt W (U i) (R i) :=
        ⟨fun i => if h : i < n then Classical.choose (hU i h) else [], fun i h => by
          dsimp only; rw [dif_pos h]; exact Classical.choose_spec (hU i h)⟩
      obtain ⟨B, o, mm⟩ := a'
      have h00 := (hR 0 hpos).1
      have hmm : mm = none := by simpa [Addr.add] using World.cell?_spot h00
      subst hmm
      · refine ⟨(List.range n).map R, some ⟨B, o, none⟩, c, by simp, by simp; exact hl, fun _ => ⟨B, o, rfl, World.block_lt_of_cell? W _ h00, fun k r hk => ?_⟩⟩
        have hkn : k < n := by have := (List.getElem?_eq_some_iff.1 hk).1; simpa using this
        have hr : r = R k := by
          rw [List.getElem?_map, List.getElem?_range hkn] at hk
          simpa using hk.symm
        subst hr
        obtain ⟨h1, h2⟩ := hR k hkn
        rw [addr_add] at h1
        exact ⟨_, h1, h2⟩
end Go.Proofs.YtmeaajhongalaaaGreatDoor.Ln

/-
  LAYER 1, PLAIN MATHEMATICS: rows of words as a text; what is written is read as it was. No program is imported.
-/
namespace Go.Proofs.YtmeaajhongalaaaGreatDoor.Ln

/-- words of a line, a blank between -/
def joinW (ws : Words) : List UInt8 := Lib.join ws [32]
def lineB (ws : Words) : List UInt8 := joinW ws ++ [10]
def writeB (rows : List Words) : List UInt8 := rows.flatMap lineB
theorem joinW_nil : joinW [] = [] := rfl
theorem joinW_one (w : List UInt8) : joinW [w] = w := Lib.join_one w _
theorem joinW_take {ws : Words} {k : Nat} {y : List UInt8} (h : ws[k]? = some y) (hk : 0 < k) : joinW (ws.take (k + 1)) = joinW (ws.take k) ++ 32 :: y := by
  cases ws with
  | nil => simp at h
  | cons x r =>
    obtain ⟨j, rfl⟩ : ∃ j, k = j + 1 := ⟨k - 1, by omega⟩
    rw [List.getElem?_cons_succ] at h
    unfold joinW
    rw [List.take_succ_cons, List.take_succ_cons, Lib.join_cons, Lib.join_cons, Lib.joinTail_take_succ _ _ _ _ h]
    simp
theorem joinW_first {ws : Words} {y : List UInt8} (h : ws[0]? = some y) : joinW (ws.take 1) = y := by
  cases ws with
  | nil => simp at h
  | cons x r => simp at h; subst h; exact joinW_one x
theorem joinW_len (ws : Words) (m : Nat) (h : ∀ w, w ∈ ws → w.length ≤ m) : (joinW ws).length ≤ (m + 1) * ws.length := by
  cases ws with
  | nil => simp [joinW_nil]
  | cons x r =>
    unfold joinW
    rw [Lib.join_length]
    have hl : ∀ l : Words, (∀ w, w ∈ l → w.length ≤ m) → Lib.lens l ≤ m * l.length := by
      intro l
      induction l with
      | nil => intro _; simp [Lib.lens]
      | cons y l ih =>
        intro h
        have h1 := ih (fun w hw => h w (by simp [hw]))
        have h2 := h y (by simp)
        simp only [Lib.lens, List.map_cons, List.sum_cons, List.length_cons, Nat.mul_succ] at h1 ⊢
        omega
    have := hl (x :: r) h
    simp only [List.length_cons, List.length_nil, Nat.mul_succ, Nat.succ_mul] at this ⊢
    omega
theorem writeB_take {rows : List Words} {k : Nat} {r : Words} (h : rows[k]? = some r) : writeB (rows.take (k + 1)) = writeB (rows.take k) ++ lineB r := by
  unfold writeB
  rw [List.take_add_one, h, List.flatMap_append]; simp
theorem writeB_len (rows : List Words) (m q : Nat) (h : ∀ r, r ∈ rows → r.length ≤ q ∧ ∀ w, w ∈ r → w.length ≤ m) : (writeB rows).length ≤ ((m + 1) * q + 1) * rows.length := by
  induction rows with
  | nil => simp [writeB]
  | cons r rows ih =>
    have h1 := ih (fun r hr => h r (by simp [hr]))
    obtain ⟨h2, h3⟩ := h r (by simp)
    have h4 := joinW_len r m h3
    have h5 : (m + 1) * r.length ≤ (m + 1) * q := Nat.mul_le_mul_left _ h2
    unfold writeB at h1 ⊢
    rw [List.flatMap_cons, List.length_append, List.length_cons, Nat.mul_succ]
    have h6 : (lineB r).length = (joinW r).length + 1 := by unfold lineB; simp
    omega

def charB (c : UInt8) : Bool := okB c && (c != 35)
def wordB (l : List UInt8) : Bool := decide (l ≠ [] ∧ l.length ≤ 80) && l.all charB
def rowB (r : Words) : Bool := decide (0 < r.length) && decide (r.length ≤ 20) && r.all wordB
theorem wordB_of {l : List UInt8} (h : wordB l = true) : l ≠ [] ∧ l.length ≤ 80 ∧ (∀ c, c ∈ l → okB c = true) ∧ (35 : UInt8) ∉ l ∧ (10 : UInt8) ∉ l := by
  unfold wordB at h
  simp only [Bool.and_eq_true, decide_eq_true_eq] at h
  have hc := List.all_eq_true.1 h.2
  refine ⟨h.1.1, h.1.2, fun c hm => ?_, fun hm => ?_, fun hm => ?_⟩
  · have := hc c hm
    unfold charB at this
    simp only [Bool.and_eq_true] at this
    exact this.1
  · exact absurd (hc 35 hm) (by decide)
  · exact absurd (hc 10 hm) (by decide)
def piecesOf : Words → List Piece
  | [] => []
  | w :: ws => ([], w) :: ws.map fun u => ([32], u)
theorem txt_pieces (ws : Words) : txt (piecesOf ws) = joinW ws := by
  cases ws with
  | nil => rfl
  | cons w ws =>
    unfold joinW
    rw [Lib.join_cons]
    unfold piecesOf txt
    rw [List.flatMap_cons]
    simp only [List.nil_append]
    congr 1
    unfold Lib.joinTail
    induction ws with
    | nil => rfl
    | cons u ws ih => rw [List.map_cons, List.flatMap_cons, List.map_cons, List.flatten_cons, ih]
theorem piecesOf_words (ws : Words) : (piecesOf ws).map (·.2) = ws := by
  cases ws with
  | nil => rfl
  | cons w ws =>
    unfold piecesOf
    rw [List.map_cons, List.map_map]
    congr 1
    exact List.map_id' ws
theorem piecesOf_len (ws : Words) : (piecesOf ws).length = ws.length := by
  have := congrArg List.length (piecesOf_words ws)
  rwa [List.length_map] at this
theorem row_line {ws : Words} (h : rowB ws = true) : (10 : UInt8) ∉ joinW ws ∧ ∃ cs, lineOf (joinW ws) = .ok (ws, cs) := by
  unfold rowB at h
  simp only [Bool.and_eq_true, decide_eq_true_eq] at h
  have hw := fun w hm => wordB_of (List.all_eq_true.1 h.2 w hm)
  have hok : ∀ p, p ∈ piecesOf ws → Piece.ok p := by
    intro p hp
    have hp2 : p.2 ∈ ws := by rw [← piecesOf_words ws]; exact List.mem_map_of_mem hp
    obtain ⟨h1, h2, h3, _⟩ := hw p.2 hp2
    refine ⟨?_, h1, h2, h3⟩
    cases ws with
    | nil => simp [piecesOf] at hp
    | cons w ws =>
      unfold piecesOf at hp
      rcases List.mem_cons.1 hp with rfl | hp
      · intro c hc; simp at hc
      · obtain ⟨u, _, rfl⟩ := List.mem_map.1 hp
        intro c hc; simp at hc; subst hc; rfl
  have hin : ∀ p, p ∈ piecesOf ws → p.2 ∈ ws := fun p hp => by rw [← piecesOf_words ws]; exact List.mem_map_of_mem hp
  have n35 : (35 : UInt8) ∉ joinW ws := by rw [← txt_pieces]; exact txt_no (by decide) hok (fun p hp => (hw p.2 (hin p hp)).2.2.2.1)
  have n10 : (10 : UInt8) ∉ joinW ws := by rw [← txt_pieces]; exact txt_no (by decide) hok (fun p hp => (hw p.2 (hin p hp)).2.2.2.2)
  refine ⟨n10, colsOf 0 (piecesOf ws), ?_⟩
  unfold lineOf
  rw [fore_none n35, spC_pieces (tail := []) (by simp) (piecesOf ws) _ 0 [] [] (Nat.zero_le _) (by rw [List.drop_zero, List.append_nil, txt_pieces]) hok ?_ (by rw [piecesOf_len]; simpa using h.1.2), piecesOf_words]
  · simp
  · intro p hp
    cases ws with
    | nil => simp [piecesOf] at hp
    | cons w ws =>
      unfold piecesOf at hp
      rw [List.tail_cons] at hp
      obtain ⟨u, _, rfl⟩ := List.mem_map.1 hp
      simp
def numbered (no : Nat) : List Words → List (List Nat) → List LineS
  | r :: rows, c :: cs => (no, r, c) :: numbered (no + 1) rows cs
  | _, _ => []
theorem rd_rows : ∀ (rows : List Words) (no : Nat) (out : List LineS), (∀ r, r ∈ rows → rowB r = true) → no + rows.length ≤ 801 → ∃ css, css.length = rows.length ∧ rdC 800 (writeB rows) no out = .ok (out ++ numbered no rows css) := by
  intro rows
  induction rows with
  | nil => intro no out _ _; exact ⟨[], rfl, by rw [show writeB [] = [] from rfl, rdC_nil]; simp [numbered]⟩
  | cons r rows ih =>
    intro no out h hn
    rw [List.length_cons] at hn
    have hr := h r (by simp)
    obtain ⟨n10, cs, hcs⟩ := row_line hr
    have hw : writeB (r :: rows) = joinW r ++ 10 :: writeB rows := by
      unfold writeB lineB
      rw [List.flatMap_cons]; simp
    obtain ⟨css, hl, e⟩ := ih (no + 1) (out ++ [(no, r, cs)]) (fun q hq => h q (by simp [hq])) (by omega)
    refine ⟨cs :: css, by rw [List.length_cons, List.length_cons, hl], ?_⟩
    have hne : r ≠ [] := by
      rintro rfl
      exact absurd hr (by decide)
    rw [hw, rdC_ok (ws := r) (cs := cs) (by simp) (by omega) (by rw [fore_cut n10]; exact hcs), aft_cut n10, if_neg hne, e]
    simp [numbered]
theorem numbered_at : ∀ (rows : List Words) (css : List (List Nat)) (no : Nat), css.length = rows.length → (numbered no rows css).length = rows.length ∧ ∀ i r, rows[i]? = some r → ∃ cs, (numbered no rows css)[i]? = some (no + i, r, cs) := by
  intro rows
  induction rows with
  | nil => intro css no h; exact ⟨by cases css <;> simp [numbered], fun i r hr => by simp at hr⟩
  | cons q rows ih =>
    intro css no h
    cases css with
    | nil => simp at h
    | cons c css =>
      obtain ⟨h1, h2⟩ := ih css (no + 1) (by simpa using h)
      refine ⟨by simp [numbered, h1], fun i r hr => ?_⟩
      cases i with
      | zero => simp at hr; subst hr; exact ⟨c, rfl⟩
      | succ i =>
        rw [List.getElem?_cons_succ] at hr
        obtain ⟨cs, hc⟩ := h2 i r hr
        exact ⟨cs, by unfold numbered; rw [List.getElem?_cons_succ, hc]; congr 2; omega⟩
/-- what is written is read as it was -/
theorem read_written {rows : List Words} (h : ∀ r, r ∈ rows → rowB r = true) (hn : rows.length ≤ 100) (hl : (writeB rows).length ≤ 20000) : ∃ xs, readS (writeB rows) = .ok xs ∧ xs.length = rows.length ∧ ∀ i r, rows[i]? = some r → ∃ cs, xs[i]? = some (i + 1, r, cs) := by
  obtain ⟨css, h1, h2⟩ := rd_rows rows 1 [] h (by omega)
  obtain ⟨h3, h4⟩ := numbered_at rows css 1 h1
  refine ⟨numbered 1 rows css, ?_, h3, fun i r hr => ?_⟩
  · unfold readS
    rw [if_neg (by omega), h2, List.nil_append]
  · obtain ⟨cs, hc⟩ := h4 i r hr
    exact ⟨cs, by rw [hc]; congr 2; omega⟩
/-- how long a text is, by its words -/
def longW (r : Words) : Nat := (r.map fun w => w.length + 1).sum
def longR (rows : List Words) : Nat := (rows.map longW).sum
theorem joinW_long {r : Words} (h : r ≠ []) : (joinW r).length + 1 = longW r := by
  cases r with
  | nil => exact absurd rfl h
  | cons x r =>
    unfold joinW longW
    rw [Lib.join_length]
    have hl : ∀ l : Words, (l.map fun w => w.length + 1).sum = Lib.lens l + l.length := by
      intro l
      induction l with
      | nil => rfl
      | cons y l ih => simp only [Lib.lens, List.map_cons, List.sum_cons, List.length_cons] at ih ⊢; omega
    rw [hl]
    simp
    omega
theorem write_long {rows : List Words} (h : ∀ r, r ∈ rows → rowB r = true) : (writeB rows).length = longR rows := by
  induction rows with
  | nil => rfl
  | cons r rows ih =>
    have h1 := ih (fun q hq => h q (by simp [hq]))
    have h2 := joinW_long (r := r) (by rintro rfl; exact absurd (h [] (by simp)) (by decide))
    unfold writeB longR lineB at *
    rw [List.flatMap_cons, List.map_cons, List.sum_cons, List.length_append, List.length_append, List.length_singleton, h1, h2]
end Go.Proofs.YtmeaajhongalaaaGreatDoor.Ln

/-
  LAYER 1: Word, both Writes.
-/
namespace Go.Proofs.YtmeaajhongalaaaGreatDoor.Ln
open Go.RowKit

theorem lenB (s : ByteArray) : s.data.toList.length = s.size := by show s.data.toList.length = s.data.size; simp
theorem byteB (s : ByteArray) (k : Nat) (h : k < s.size) : s.data.toList[k]? = some s[k] := by
  rw [List.getElem?_eq_getElem (by rw [lenB]; exact h)]; rfl
theorem charB_int (c : UInt8) : charB c = (decide (33 ≤ (c.toNat : Int)) && decide ((c.toNat : Int) ≤ 126) && ((c.toNat : Int) != 35)) := by
  unfold charB okB
  rw [Bool.eq_iff_iff]
  simp only [Bool.and_eq_true, decide_eq_true_eq, bne_iff_ne, ne_eq]
  constructor
  · rintro ⟨⟨h1, h2⟩, h3⟩
    refine ⟨⟨by omega, by omega⟩, fun e => h3 ?_⟩
    rw [← UInt8.toNat_inj]; have : (35 : UInt8).toNat = 35 := rfl; omega
  · rintro ⟨⟨h1, h2⟩, h3⟩
    refine ⟨⟨by omega, by omega⟩, fun e => h3 ?_⟩
    rw [e]; rfl
theorem takeAll {p : UInt8 → Bool} {l : List UInt8} {k : Nat} {c : UInt8} (ha : (l.take k).all p = true) (h : l[k]? = some c) (hc : p c = true) : (l.take (k + 1)).all p = true := by
  rw [List.take_add_one, h, List.all_append, ha]; simp [hc]
theorem allOff {p : UInt8 → Bool} {l : List UInt8} {k : Nat} {c : UInt8} (h : l[k]? = some c) (hc : p c = false) : l.all p = false := by
  rw [Bool.eq_false_iff]; intro h'
  have := List.all_eq_true.1 h' c (List.mem_of_getElem? h)
  rw [hc] at this; cases this

/-- a row's words, as lists -/
def dat (r : List ByteArray) : Words := r.map fun s => s.data.toList
theorem dat_len (r : List ByteArray) : (dat r).length = r.length := by unfold dat; rw [List.length_map]
theorem dat_at {r : List ByteArray} {k : Nat} {s : ByteArray} (h : r[k]? = some s) : (dat r)[k]? = some s.data.toList := by unfold dat; rw [List.getElem?_map, h]; rfl
theorem bar (s : ByteArray) : (⟨s.data.toList.toArray⟩ : ByteArray) = s := by simp
theorem StrsAt.row {w : World} {v : Value} {ws : List ByteArray} (h : StrsAt w v ws) : RowIs w v (strs (dat ws)) := by
  obtain ⟨a, c, rfl, _, h3⟩ := h
  have hl : (strs (dat ws)).length = ws.length := by simp [strs, dat]
  by_cases hne : ws = []
  · subst hne; exact .inl ⟨rfl, _, _, rfl⟩
  · obtain ⟨b, o, rfl, _, hc⟩ := h3 hne
    refine .inr ⟨b, o, c, by rw [hl], fun k x hx => ?_⟩
    have hk : k < ws.length := by rw [← hl]; exact (List.getElem?_eq_some_iff.1 hx).1
    have h9 := hc k _ (List.getElem?_eq_getElem hk)
    rw [h9]
    unfold strs dat at hx
    rw [List.getElem?_map, List.getElem?_map, List.getElem?_eq_getElem hk] at hx
    simp at hx
    rw [← hx]
end Go.Proofs.YtmeaajhongalaaaGreatDoor.Ln

/-
  LAYER 1: both Writes.
-/
namespace Go.Proofs.YtmeaajhongalaaaGreatDoor.Ln
open Go.RowKit

theorem bcw {w w' : World} {a : Addr} {v : Value} (hb : Below w.heap.size w w') (h : w.cell? a = some v) : w'.cell? a = some v := by rw [hb.cell (World.block_lt_of_cell? w _ h)]; exact h
def Tame (rows : List (List ByteArray)) : Prop := rows.length ≤ 100 ∧ ∀ r, r ∈ rows → r.length ≤ 40 ∧ ∀ s, s ∈ r → s.size ≤ 200
def dats (rows : List (List ByteArray)) : List Words := rows.map dat
theorem dats_at {rows : List (List ByteArray)} {k : Nat} {r : List ByteArray} (h : rows[k]? = some r) : (dats rows)[k]? = some (dat r) := by unfold dats; rw [List.getElem?_map, h]; rfl
theorem tame_row {rows : List (List ByteArray)} (h : Tame rows) {r : List ByteArray} (hr : r ∈ rows) : r.length ≤ 40 ∧ ∀ j, (joinW ((dat r).take j)).length ≤ 8040 := by
  obtain ⟨h1, h2⟩ := h.2 r hr
  refine ⟨h1, fun j => ?_⟩
  have := joinW_len ((dat r).take j) 200 (fun w hw => by
    have hw' := List.mem_of_mem_take hw
    unfold dat at hw'
    obtain ⟨s, hs, rfl⟩ := List.mem_map.1 hw'
    rw [lenB]; exact h2 s hs)
  have hl : ((dat r).take j).length ≤ 40 := by rw [List.length_take, dat_len]; omega
  have : (joinW ((dat r).take j)).length ≤ 201 * 40 := Nat.le_trans this (Nat.mul_le_mul_left _ hl)
  omega
theorem tame_all {rows : List (List ByteArray)} (h : Tame rows) (k : Nat) : (writeB ((dats rows).take k)).length ≤ 804100 := by
  have := writeB_len ((dats rows).take k) 200 40 (fun r hr => by
    have hr' := List.mem_of_mem_take hr
    unfold dats at hr'
    obtain ⟨q, hq, rfl⟩ := List.mem_map.1 hr'
    obtain ⟨h1, h2⟩ := h.2 q hq
    refine ⟨by rw [dat_len]; exact h1, fun w hw => ?_⟩
    unfold dat at hw
    obtain ⟨s, hs, rfl⟩ := List.mem_map.1 hw
    rw [lenB]; exact h2 s hs)
  have hl : ((dats rows).take k).length ≤ 100 := by rw [List.length_take]; unfold dats; rw [List.length_map]; have := h.1; omega
  have : (writeB ((dats rows).take k)).length ≤ 8041 * 100 := Nat.le_trans this (Nat.mul_le_mul_left _ hl)
  omega

set_option maxRecDepth 20000 in
set_option maxHeartbeats 4000000 in
/-- the document's Write -/
theorem rwrite_any (rows : List (List ByteArray)) (v : Value) (ht : Tame rows) (w : World) (hr : RowsIn w v rows) :
    Calls Tryz.prog 93 #[v] w fun e w' => e = .returned (.string ⟨(writeB (dats rows)).toArray⟩) ∧ w = w' := by
  obtain ⟨a, c, rfl, hcap, hne⟩ := hr
  have hfin := hid (show writeB ((dats rows).take rows.length) = writeB (dats rows) by rw [List.take_of_length_le (by unfold dats; rw [List.length_map]; exact Nat.le_refl _)])
  have HL := hid (tame_all ht)
  have HT := hid (fun r (h : r ∈ rows) => tame_row ht h)
  have hn100 := hid ht.1
  replace hne := hid hne
  have hcap' := hid hcap
  clear ht hcap
  generalize writeB (dats rows) = RT at hfin ⊢
  go_enter Tryz.func93, Tryz.ntmps93
  go_wp2_with fail
  go_loop [3, 4, 5] (fun s i _ => ∃ (k : Nat) (S : ByteArray), k ≤ rows.length ∧ i = .int .i64 k ∧ s = .string S ∧ Hid (S.data.toList = writeB ((dats rows).take k))) (fun _ i _ => rows.length - (intOf i).toNat)
  case atStart => exact ⟨0, ByteArray.empty, by omega, rfl, rfl, hid rfl⟩
  case round =>
    obtain ⟨k, S, hk, rfl, rfl, hS⟩ := hrel
    by_cases hlt : k < rows.length
    · have hSs : S.size ≤ 804100 := by have := HL.out k; rw [← hS.out, lenB] at this; exact this
      have k100 : k < 100 := by have := hn100.out; omega
      have hx := List.getElem?_eq_getElem hlt
      generalize rows[k] = r at hx
      obtain ⟨B, o, rfl, hBl, hcells⟩ := hne.out (by intro e; rw [e] at hlt; simp at hlt)
      obtain ⟨u, g0, hu⟩ := hcells k r hx
      obtain ⟨hr40, hjl⟩ := HT.out r (List.mem_of_getElem? hx)
      have hdr := hid (dats_at hx)
      have HJ := hid hjl
      obtain ⟨ra, rc, rfl, hrc, hrn⟩ := hu
      replace hrn := hid hrn
      clear hx hjl hcells hrc
      go_wp2_with fail
      go_loop [3, 5] (fun s i => ∃ (j : Nat) (T : ByteArray), j ≤ r.length ∧ i = .int .i64 j ∧ s = .string T ∧ Hid (T.data.toList = writeB ((dats rows).take k) ++ joinW ((dat r).take j))) (fun _ i => r.length - (intOf i).toNat)
      case atStart => exact ⟨0, S, by omega, rfl, rfl, hid (by rw [hS.out, List.take_zero, joinW_nil, List.append_nil])⟩
      case round =>
        obtain ⟨j, T, hj, rfl, rfl, hT⟩ := hrel
        have hTs : T.size ≤ 812200 := by
          have h1 := HJ.out j
          have h2 := congrArg List.length hT.out
          have h3 := HL.out k
          rw [lenB, List.length_append] at h2
          omega
        have n1 : ¬ 9223372036854775807 < T.size + 1 := by omega
        by_cases hlt2 : j < r.length
        · have hy := List.getElem?_eq_getElem hlt2
          have hyd := hid (dat_at hy)
          obtain ⟨b', o', rfl, hbl', hc'⟩ := hrn.out (by intro e; rw [e] at hlt2; simp at hlt2)
          have y0 := hc' j _ hy
          have j40 : j < 40 := by omega
          have hys : r[j].size ≤ 8040 := by
            have h1 := HJ.out (j + 1)
            by_cases h0 : j = 0
            · subst h0
              rw [joinW_first hyd.out, lenB] at h1; exact h1
            · rw [joinW_take hyd.out (by omega), List.length_append, List.length_cons, lenB] at h1; omega
          generalize r[j] = x at hyd y0 hys
          clear hy hc'
          have n2 : ¬ 9223372036854775807 < T.size + x.size := by omega
          have n3 : ¬ 9223372036854775807 < T.size + 1 + x.size := by omega
          rcases Nat.eq_zero_or_pos j with hj0 | hj0
          · have hj1 : ¬ (0 : Int) < (j : Int) := by omega
            replace hj0 := hid hj0
            go_wp2_with fail
            go_round
            case rel => exact ⟨j + 1, _, by omega, by go_num, rfl, hid (by
              have h9 := hyd.out
              have h8 := hT.out
              rw [hj0.out] at h9 h8 ⊢
              rw [Nat.zero_add, joinW_first h9]
              rw [List.take_zero, joinW_nil, List.append_nil] at h8
              simp [h8])⟩
            case measure => simp [intOf]; omega
          · have hj1 : (0 : Int) < (j : Int) := by omega
            replace hj0 := hid hj0
            go_wp2_with fail
            go_round
            case rel => exact ⟨j + 1, _, by omega, by go_num, rfl, hid (by rw [joinW_take hyd.out hj0.out]; simp [hT.out])⟩
            case measure => simp [intOf]; omega
        · have hje := hid (show j = r.length by omega)
          go_wp2_with fail
          go_round
          case rel => exact ⟨k + 1, _, by omega, by go_num, rfl, hid (by
            rw [writeB_take hdr.out]
            unfold lineB
            have h8 := hT.out
            have e9 : (dat r).take r.length = dat r := List.take_of_length_le (by rw [dat_len]; exact Nat.le_refl _)
            rw [hje.out, e9] at h8
            simp [h8])⟩
          case measure => simp [intOf]; omega
    · have hke := hid (show k = rows.length by omega)
      have hS2 := hid (show S = ⟨RT.toArray⟩ by
        apply ByteArray.ext; apply Array.toList_inj.1
        rw [hS.out, hke.out, hfin.out])
      go_wp2_with fail
      go_ret
      exact ⟨congrArg (fun b => Ending.returned (.string b)) hS2.out, rfl⟩

theorem strCells_l (m : List UInt8) : Lib.strCells ⟨m.toArray⟩ = Lib.byteCells m := rfl
theorem bytes_app (l m : List UInt8) : Lib.byteCells (l ++ m) = Lib.byteCells l ++ Lib.byteCells m := by simp [Lib.byteCells]
theorem join_any (w : World) (u : Value) (r : List ByteArray) (hr : r.length ≤ 40) (hj : (joinW (dat r)).length ≤ 8040) (h : StrsAt w u r) :
    Calls Tryz.prog 135 #[u, .string ⟨#[32]⟩] w fun e w' => e = .returned (.string ⟨(joinW (dat r)).toArray⟩) ∧ Below w.heap.size w w' := by
  obtain ⟨a, c, rfl, hc, hn⟩ := h
  by_cases h0 : r = []
  · subst h0; exact join_none a c _ w
  · obtain ⟨b, o, rfl, hb, hcell⟩ := hn h0
    exact join_some b o c r ⟨#[32]⟩ w hcell hb (by omega) hc (by show (joinW (dat r)).length ≤ _; omega)

set_option maxRecDepth 20000 in
set_option maxHeartbeats 4000000 in
/-- package lines' Write -/
theorem write_any (rows : List (List ByteArray)) (v : Value) (ht : Tame rows) (w : World) (hr : RowsIn w v rows) :
    Calls Tryz.prog 90 #[v] w fun e w' => e = .returned (.string ⟨(writeB (dats rows)).toArray⟩) ∧ Below w.heap.size w w' := by
  obtain ⟨a, c, rfl, hcap, hne⟩ := hr
  have hfin := hid (show writeB ((dats rows).take rows.length) = writeB (dats rows) by rw [List.take_of_length_le (by unfold dats; rw [List.length_map]; exact Nat.le_refl _)])
  have HL := hid (tame_all ht)
  have HT := hid (fun r (h : r ∈ rows) => tame_row ht h)
  have hn100 := hid ht.1
  replace hne := hid hne
  have hcap' := hid hcap
  clear ht hcap
  generalize writeB (dats rows) = RT at hfin ⊢
  have HB0 := hid (Lib.IsBuilderF.of (Lib.fresh_isBuilder 176 5 w))
  have hbs := hid (below_alloc (Below.refl w.heap.size w) (.cells #[.pointer none, .slice none 0 0] 176))
  go_enter Tryz.func90, Tryz.ntmps90
  go_wp2_with fail
  go_loopw [5, 8] (fun _ i wr => ∃ k : Nat, k ≤ rows.length ∧ i = .int .i64 k ∧ Hid (Below w.heap.size w wr) ∧ Hid (Lib.IsBuilderF 176 5 w.heap.size w.heap.size (Lib.byteCells (writeB ((dats rows).take k))) wr)) (fun _ i _ => rows.length - (intOf i).toNat)
  case atStart => exact ⟨0, by omega, rfl, hbs, HB0⟩
  case round =>
    obtain ⟨k, hk, rfl, hb, hi⟩ := hrel
    clear HB0 hbs
    by_cases hlt : k < rows.length
    · have k100 : k < 100 := by have := hn100.out; omega
      have hx := List.getElem?_eq_getElem hlt
      generalize rows[k] = r at hx
      obtain ⟨B, o, rfl, hBl, hcells⟩ := hne.out (by intro e; rw [e] at hlt; simp at hlt)
      obtain ⟨u, g0, hu⟩ := hcells k r hx
      obtain ⟨hr40, hjl⟩ := HT.out r (List.mem_of_getElem? hx)
      have hdr := hid (dats_at hx)
      have hj := hjl r.length
      rw [List.take_of_length_le (by rw [dat_len]; exact Nat.le_refl _)] at hj
      have HJ := hid (join_any wr u r hr40 hj (hu.below hb.out))
      have g1 := bcw hb.out g0
      have hwk := hid (show writeB ((dats rows).take (k + 1)) = writeB ((dats rows).take k) ++ (joinW (dat r) ++ [10]) from writeB_take hdr.out)
      have hl1 := hid (HL.out k)
      have hjs := hid (show (⟨(joinW (dat r)).toArray⟩ : ByteArray).size ≤ 8040 by show (joinW (dat r)).toArray.size ≤ 8040; simpa using hj)
      have hja := hid hj
      clear hx hjl hcells hu g0 hj
      generalize joinW (dat r) = J at HJ hwk hjs hja
      generalize writeB ((dats rows).take k) = P at hi hwk hl1
      go_wp2_with fail
      refine HJ.out.mono ?_
      rintro e w3 ⟨rfl, hb3⟩
      have hsz3 := hid (Nat.le_trans hb.out.size hb3.size)
      go_wp2_with fail
      refine (writeString_any w.heap.size w.heap.size (Lib.byteCells P) ⟨J.toArray⟩ w3 (isBuilder_below hi.out hb3) (by rw [Lib.byteCells_length]; have := hl1.out; have := hjs.out; omega) hsz3.out).mono ?_
      rintro e w4 ⟨rfl, hI4, hb4, _⟩
      rw [strCells_l, ← bytes_app] at hI4
      go_wp2_with fail
      refine (writeByte_any w.heap.size w.heap.size (Lib.byteCells (P ++ J)) 10 w4 hI4 (by rw [Lib.byteCells_length, List.length_append]; have := hl1.out; have := hja.out; omega) (Nat.le_trans hsz3.out hb4.size)).mono ?_
      rintro e w5 ⟨rfl, hI5, hb5⟩
      have hfull := hid ((hb.out.trans (hb3.mono hb.out.size)).trans (hb4.trans hb5))
      have hI6 := hid (show Lib.IsBuilderF 176 5 w.heap.size w.heap.size (Lib.byteCells (P ++ (J ++ [10]))) w5 by
        rw [← List.append_assoc, bytes_app]; exact hI5)
      rw [← hwk.out] at hI6
      clear hI4 hI5 hb3 hb4 hb5
      go_wp2_with fail
      go_roundw
      case rel => exact ⟨k + 1, by omega, by go_num, hfull, hI6⟩
      case measure => simp [intOf]; omega
    · have hke := hid (show k = rows.length by omega)
      rw [hke.out, hfin.out] at hi
      go_wp2_with fail
      refine (builderString_any w.heap.size w.heap.size RT wr hi.out hb.out.size).mono ?_
      rintro e w3 ⟨rfl, hb3⟩
      go_wp2_with fail
      go_ret
      exact ⟨rfl, hb.out.trans hb3⟩
end Go.Proofs.YtmeaajhongalaaaGreatDoor.Ln
