/-
  LAYER 1, PLAIN MATHEMATICS: rows of words as a text; what is written is read as it was. No program is imported.
-/
import Derived.Test.YtejigbhcpejijaaLinesPieces
import Derived.Lib.Join
namespace Go.Proofs.Ytejigbhcpejijaa.Ln

/-- words of a line, a blank between -/
def joinW (ws : Words) : List UInt8 := Lib.join ws [32]
def lineB (ws : Words) : List UInt8 := joinW ws ++ [10]
def writeB (rows : List Words) : List UInt8 := rows.flatMap lineB
theorem joinW_nil : joinW [] = [] := rfl
theorem joinW_one (w : List UInt8) : joinW [w] = w := Lib.join_one w _
theorem joinW_take {ws : Words} {k : Nat} {y : List UInt8} (h : ws[k]? = some y) (hk : 0 < k) : joinW (ws.take (k + 1)) = joinW (ws.take k) ++ 32 :: y := by
  cases ws with
  | nil => simp at h
  | cons x r =>
    obtain ⟨j, rfl⟩ : ∃ j, k = j + 1 := ⟨k - 1, by omega⟩
    rw [List.getElem?_cons_succ] at h
    unfold joinW
    rw [List.take_succ_cons, List.take_succ_cons, Lib.join_cons, Lib.join_cons, Lib.joinTail_take_succ _ _ _ _ h]
    simp
theorem joinW_first {ws : Words} {y : List UInt8} (h : ws[0]? = some y) : joinW (ws.take 1) = y := by
  cases ws with
  | nil => simp at h
  | cons x r => simp at h; subst h; exact joinW_one x
theorem joinW_len (ws : Words) (m : Nat) (h : ∀ w, w ∈ ws → w.length ≤ m) : (joinW ws).length ≤ (m + 1) * ws.length := by
  cases ws with
  | nil => simp [joinW_nil]
  | cons x r =>
    unfold joinW
    rw [Lib.join_length]
    have hl : ∀ l : Words, (∀ w, w ∈ l → w.length ≤ m) → Lib.lens l ≤ m * l.length := by
      intro l
      induction l with
      | nil => intro _; simp [Lib.lens]
      | cons y l ih =>
        intro h
        have h1 := ih (fun w hw => h w (by simp [hw]))
        have h2 := h y (by simp)
        simp only [Lib.lens, List.map_cons, List.sum_cons, List.length_cons, Nat.mul_succ] at h1 ⊢
        omega
    have := hl (x :: r) h
    simp only [List.length_cons, List.length_nil, Nat.mul_succ, Nat.succ_mul] at this ⊢
    omega
theorem writeB_take {rows : List Words} {k : Nat} {r : Words} (h : rows[k]? = some r) : writeB (rows.take (k + 1)) = writeB (rows.take k) ++ lineB r := by
  unfold writeB
  rw [List.take_add_one, h, List.flatMap_append]; simp
theorem writeB_len (rows : List Words) (m q : Nat) (h : ∀ r, r ∈ rows → r.length ≤ q ∧ ∀ w, w ∈ r → w.length ≤ m) : (writeB rows).length ≤ ((m + 1) * q + 1) * rows.length := by
  induction rows with
  | nil => simp [writeB]
  | cons r rows ih =>
    have h1 := ih (fun r hr => h r (by simp [hr]))
    obtain ⟨h2, h3⟩ := h r (by simp)
    have h4 := joinW_len r m h3
    have h5 : (m + 1) * r.length ≤ (m + 1) * q := Nat.mul_le_mul_left _ h2
    unfold writeB at h1 ⊢
    rw [List.flatMap_cons, List.length_append, List.length_cons, Nat.mul_succ]
    have h6 : (lineB r).length = (joinW r).length + 1 := by unfold lineB; simp
    omega

def charB (c : UInt8) : Bool := okB c && (c != 35)
def wordB (l : List UInt8) : Bool := decide (l ≠ [] ∧ l.length ≤ 80) && l.all charB
def rowB (r : Words) : Bool := decide (0 < r.length) && decide (r.length ≤ 20) && r.all wordB
theorem wordB_of {l : List UInt8} (h : wordB l = true) : l ≠ [] ∧ l.length ≤ 80 ∧ (∀ c, c ∈ l → okB c = true) ∧ (35 : UInt8) ∉ l ∧ (10 : UInt8) ∉ l := by
  unfold wordB at h
  simp only [Bool.and_eq_true, decide_eq_true_eq] at h
  have hc := List.all_eq_true.1 h.2
  refine ⟨h.1.1, h.1.2, fun c hm => ?_, fun hm => ?_, fun hm => ?_⟩
  · have := hc c hm
    unfold charB at this
    simp only [Bool.and_eq_true] at this
    exact this.1
  · exact absurd (hc 35 hm) (by decide)
  · exact absurd (hc 10 hm) (by decide)
def piecesOf : Words → List Piece
  | [] => []
  | w :: ws => ([], w) :: ws.map fun u => ([32], u)
theorem txt_pieces (ws : Words) : txt (piecesOf ws) = joinW ws := by
  cases ws with
  | nil => rfl
  | cons w ws =>
    unfold joinW
    rw [Lib.join_cons]
    unfold piecesOf txt
    rw [List.flatMap_cons]
    simp only [List.nil_append]
    congr 1
    unfold Lib.joinTail
    induction ws with
    | nil => rfl
    | cons u ws ih => rw [List.map_cons, List.flatMap_cons, List.map_cons, List.flatten_cons, ih]
theorem piecesOf_words (ws : Words) : (piecesOf ws).map (·.2) = ws := by
  cases ws with
  | nil => rfl
  | cons w ws =>
    unfold piecesOf
    rw [List.map_cons, List.map_map]
    congr 1
    exact List.map_id' ws
theorem piecesOf_len (ws : Words) : (piecesOf ws).length = ws.length := by
  have := congrArg List.length (piecesOf_words ws)
  rwa [List.length_map] at this
theorem row_line {ws : Words} (h : rowB ws = true) : (10 : UInt8) ∉ joinW ws ∧ ∃ cs, lineOf (joinW ws) = .ok (ws, cs) := by
  unfold rowB at h
  simp only [Bool.and_eq_true, decide_eq_true_eq] at h
  have hw := fun w hm => wordB_of (List.all_eq_true.1 h.2 w hm)
  have hok : ∀ p, p ∈ piecesOf ws → Piece.ok p := by
    intro p hp
    have hp2 : p.2 ∈ ws := by rw [← piecesOf_words ws]; exact List.mem_map_of_mem hp
    obtain ⟨h1, h2, h3, _⟩ := hw p.2 hp2
    refine ⟨?_, h1, h2, h3⟩
    cases ws with
    | nil => simp [piecesOf] at hp
    | cons w ws =>
      unfold piecesOf at hp
      rcases List.mem_cons.1 hp with rfl | hp
      · intro c hc; simp at hc
      · obtain ⟨u, _, rfl⟩ := List.mem_map.1 hp
        intro c hc; simp at hc; subst hc; rfl
  have hin : ∀ p, p ∈ piecesOf ws → p.2 ∈ ws := fun p hp => by rw [← piecesOf_words ws]; exact List.mem_map_of_mem hp
  have n35 : (35 : UInt8) ∉ joinW ws := by rw [← txt_pieces]; exact txt_no (by decide) hok (fun p hp => (hw p.2 (hin p hp)).2.2.2.1)
  have n10 : (10 : UInt8) ∉ joinW ws := by rw [← txt_pieces]; exact txt_no (by decide) hok (fun p hp => (hw p.2 (hin p hp)).2.2.2.2)
  refine ⟨n10, colsOf 0 (piecesOf ws), ?_⟩
  unfold lineOf
  rw [fore_none n35, spC_pieces (tail := []) (by simp) (piecesOf ws) _ 0 [] [] (Nat.zero_le _) (by rw [List.drop_zero, List.append_nil, txt_pieces]) hok ?_ (by rw [piecesOf_len]; simpa using h.1.2), piecesOf_words]
  · simp
  · intro p hp
    cases ws with
    | nil => simp [piecesOf] at hp
    | cons w ws =>
      unfold piecesOf at hp
      rw [List.tail_cons] at hp
      obtain ⟨u, _, rfl⟩ := List.mem_map.1 hp
      simp
def numbered (no : Nat) : List Words → List (List Nat) → List LineS
  | r :: rows, c :: cs => (no, r, c) :: numbered (no + 1) rows cs
  | _, _ => []
theorem rd_rows : ∀ (rows : List Words) (no : Nat) (out : List LineS), (∀ r, r ∈ rows → rowB r = true) → no + rows.length ≤ 801 → ∃ css, css.length = rows.length ∧ rdC 800 (writeB rows) no out = .ok (out ++ numbered no rows css) := by
  intro rows
  induction rows with
  | nil => intro no out _ _; exact ⟨[], rfl, by rw [show writeB [] = [] from rfl, rdC_nil]; simp [numbered]⟩
  | cons r rows ih =>
    intro no out h hn
    rw [List.length_cons] at hn
    have hr := h r (by simp)
    obtain ⟨n10, cs, hcs⟩ := row_line hr
    have hw : writeB (r :: rows) = joinW r ++ 10 :: writeB rows := by
      unfold writeB lineB
      rw [List.flatMap_cons]; simp
    obtain ⟨css, hl, e⟩ := ih (no + 1) (out ++ [(no, r, cs)]) (fun q hq => h q (by simp [hq])) (by omega)
    refine ⟨cs :: css, by rw [List.length_cons, List.length_cons, hl], ?_⟩
    have hne : r ≠ [] := by
      rintro rfl
      exact absurd hr (by decide)
    rw [hw, rdC_ok (ws := r) (cs := cs) (by simp) (by omega) (by rw [fore_cut n10]; exact hcs), aft_cut n10, if_neg hne, e]
    simp [numbered]
theorem numbered_at : ∀ (rows : List Words) (css : List (List Nat)) (no : Nat), css.length = rows.length → (numbered no rows css).length = rows.length ∧ ∀ i r, rows[i]? = some r → ∃ cs, (numbered no rows css)[i]? = some (no + i, r, cs) := by
  intro rows
  induction rows with
  | nil => intro css no h; exact ⟨by cases css <;> simp [numbered], fun i r hr => by simp at hr⟩
  | cons q rows ih =>
    intro css no h
    cases css with
    | nil => simp at h
    | cons c css =>
      obtain ⟨h1, h2⟩ := ih css (no + 1) (by simpa using h)
      refine ⟨by simp [numbered, h1], fun i r hr => ?_⟩
      cases i with
      | zero => simp at hr; subst hr; exact ⟨c, rfl⟩
      | succ i =>
        rw [List.getElem?_cons_succ] at hr
        obtain ⟨cs, hc⟩ := h2 i r hr
        exact ⟨cs, by unfold numbered; rw [List.getElem?_cons_succ, hc]; congr 2; omega⟩
/-- what is written is read as it was -/
theorem read_written {rows : List Words} (h : ∀ r, r ∈ rows → rowB r = true) (hn : rows.length ≤ 100) (hl : (writeB rows).length ≤ 20000) : ∃ xs, readS (writeB rows) = .ok xs ∧ xs.length = rows.length ∧ ∀ i r, rows[i]? = some r → ∃ cs, xs[i]? = some (i + 1, r, cs) := by
  obtain ⟨css, h1, h2⟩ := rd_rows rows 1 [] h (by omega)
  obtain ⟨h3, h4⟩ := numbered_at rows css 1 h1
  refine ⟨numbered 1 rows css, ?_, h3, fun i r hr => ?_⟩
  · unfold readS
    rw [if_neg (by omega), h2, List.nil_append]
  · obtain ⟨cs, hc⟩ := h4 i r hr
    exact ⟨cs, by rw [hc]; congr 2; omega⟩
/-- how long a text is, by its words -/
def longW (r : Words) : Nat := (r.map fun w => w.length + 1).sum
def longR (rows : List Words) : Nat := (rows.map longW).sum
theorem joinW_long {r : Words} (h : r ≠ []) : (joinW r).length + 1 = longW r := by
  cases r with
  | nil => exact absurd rfl h
  | cons x r =>
    unfold joinW longW
    rw [Lib.join_length]
    have hl : ∀ l : Words, (l.map fun w => w.length + 1).sum = Lib.lens l + l.length := by
      intro l
      induction l with
      | nil => rfl
      | cons y l ih => simp only [Lib.lens, List.map_cons, List.sum_cons, List.length_cons] at ih ⊢; omega
    rw [hl]
    simp
    omega
theorem write_long {rows : List Words} (h : ∀ r, r ∈ rows → rowB r = true) : (writeB rows).length = longR rows := by
  induction rows with
  | nil => rfl
  | cons r rows ih =>
    have h1 := ih (fun q hq => h q (by simp [hq]))
    have h2 := joinW_long (r := r) (by rintro rfl; exact absurd (h [] (by simp)) (by decide))
    unfold writeB longR lineB at *
    rw [List.flatMap_cons, List.map_cons, List.sum_cons, List.length_append, List.length_append, List.length_singleton, h1, h2]
end Go.Proofs.Ytejigbhcpejijaa.Ln
