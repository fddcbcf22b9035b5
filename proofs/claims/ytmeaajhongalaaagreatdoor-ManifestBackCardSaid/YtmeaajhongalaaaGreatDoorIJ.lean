/-
  SEVERAL TEXTS, one behind the other.
-/
import Derived.Test.YtmeaajhongalaaaGreatDoorIA
import Derived.Test.YtmeaajhongalaaaGreatDoorIK
import Derived.Test.YtmeaajhongalaaaGreatDoorIF
import Derived.Test.YtmeaajhongalaaaGreatDoorSpecCheck
import Derived.Test.YtmeaajhongalaaaGreatDoorAppendStep
import Derived.Deep.RegionHeld3
/-
  LAYER 9, PLAIN MATHEMATICS: what is read may be a manifest; its text is read as the same.
-/
namespace Go.Proofs.YtmeaajhongalaaaGreatDoor.Ln
open Go.Proofs.YtmeaajhongalaaaGreatDoor

theorem tw_mem {α : Type} {p : α → Bool} : ∀ (l : List α) {c : α}, c ∈ l.takeWhile p → p c = true := by
  intro l
  induction l with
  | nil => intro c h; cases h
  | cons x l ih =>
    intro c h
    rw [List.takeWhile_cons] at h
    split at h
    · rename_i hx
      rcases List.mem_cons.1 h with rfl | h
      · exact hx
      · exact ih h
    · cases h
/-- the words of a line that is read are words that may be written -/
theorem sp_wordB (l : List UInt8) (h35 : (35 : UInt8) ∉ l) : ∀ (f a : Nat) (ws : Words) (cs : List Nat) {ws' : Words} {cs' : List Nat}, sp l f a ws cs = .ok (ws', cs') → a ≤ l.length → (∀ x, x ∈ ws → wordB x = true) → ∀ x, x ∈ ws' → wordB x = true := by
  intro f
  induction f with
  | zero => intro a ws cs ws' cs' h _ h1; cases h; exact h1
  | succ f ih =>
    intro a ws cs ws' cs' h ha h1
    unfold sp at h
    dsimp only at h
    split at h
    · cases h; exact h1
    · rename_i hb
      split at h
      · cases h
      · rename_i hx
        split at h
        · cases h
        · rename_i hy
          have hb' : a + run isBl l a < l.length := by omega
          have hp := tok_pos hb'
          have ht := run_le (fun c => !isBl c) l (a + run isBl l a) (by omega)
          refine ih _ _ _ h ht ?_
          intro x hx'
          rcases List.mem_append.1 hx' with h' | h'
          · exact h1 x h'
          · rw [List.mem_singleton.1 h']
            generalize htt : a + run isBl l a + run (fun c => !isBl c) l (a + run isBl l a) = t at *
            generalize a + run isBl l a = b at *
            have hlen := word_len (l := l) (b := b) (t := t) (by omega) ht
            have hall : ∀ c, c ∈ word l b t → okB c = true := by
              have hr : run okB (word l b t) 0 = ((word l b t).takeWhile okB).length := by unfold run; rw [List.drop_zero]
              have hpre := List.takeWhile_prefix okB (l := word l b t)
              have heq := hpre.eq_of_length (by have := hpre.length_le; omega)
              intro c hc
              rw [← heq] at hc
              exact tw_mem _ hc
            unfold wordB
            rw [Bool.and_eq_true, decide_eq_true_eq, List.all_eq_true]
            refine ⟨⟨by intro e; rw [e] at hlen; simp at hlen; omega, by omega⟩, fun c hc => ?_⟩
            unfold charB
            rw [hall c hc, Bool.true_and, bne_iff_ne]
            rintro rfl
            exact h35 (List.mem_of_mem_drop (List.mem_of_mem_take hc))
theorem fore_no (c : UInt8) (l : List UInt8) : c ∉ fore c l := by
  intro h
  have := tw_mem _ h
  simp at this
theorem line_wordB {l : List UInt8} {ws : Words} {cs : List Nat} (h : lineOf l = .ok (ws, cs)) : ∀ x, x ∈ ws → wordB x = true := by
  unfold lineOf spC at h
  exact sp_wordB _ (fore_no 35 l) _ _ _ _ h (Nat.zero_le _) (fun x hx => by cases hx)
theorem rd_wordB (most : Nat) : ∀ (f : Nat) (l : List UInt8) (no : Nat) (out : List LineS) {xs : List LineS}, rd most f l no out = .ok xs → (∀ x, x ∈ out → ∀ u, u ∈ x.2.1 → wordB u = true) → ∀ x, x ∈ xs → ∀ u, u ∈ x.2.1 → wordB u = true := by
  intro f
  induction f with
  | zero => intro l no out xs h h2; cases h; exact h2
  | succ f ih =>
    intro l no out xs h h2
    unfold rd at h
    split at h
    · cases h; exact h2
    · split at h
      · cases h
      · split at h
        · cases h
        · rename_i ws cs hl
          have hw := line_wordB hl
          refine ih _ _ _ h ?_
          intro x hx
          split at hx
          · exact h2 x hx
          · rcases List.mem_append.1 hx with h' | h'
            · exact h2 x h'
            · simp only [List.mem_singleton] at h'
              subst h'
              exact hw
theorem readS_wordB {l : List UInt8} {xs : List LineS} (h : readS l = .ok xs) : ∀ x, x ∈ xs → ∀ u, u ∈ x.2.1 → wordB u = true := by
  unfold readS at h
  split at h
  · cases h
  · exact rd_wordB _ _ _ _ _ h (by intro x hx; cases hx)

end Go.Proofs.YtmeaajhongalaaaGreatDoor.Ln
namespace Go.Proofs.YtmeaajhongalaaaGreatDoor.Ix
open Go.Proofs.YtmeaajhongalaaaGreatDoor Go.Proofs.YtmeaajhongalaaaGreatDoor.Ln

/-- a need that may be one, with so many features at most -/
structure GoodN (most : Nat) (n : NeedS) : Prop where
  name : Nm.checkV n.name = true
  rng : isRng n.rng = true
  few : n.feats.length ≤ most
  plain : ∀ f, f ∈ n.feats → Nm.plain f = true
  nodup : n.feats.Nodup
  words : wordB n.name = true ∧ wordB n.rng = true ∧ ∀ f, f ∈ n.feats → wordB f = true

theorem featsP_good {most : Nat} {ws : Words} {cs : List Nat} (hw : ∀ u, u ∈ ws → wordB u = true) : ∀ (f t : Nat) (fs : Words) {fs' : Words}, featsP (most : Int) ws cs f t fs = .ok fs' → fs.length ≤ most → (∀ x, x ∈ fs → Nm.plain x = true ∧ wordB x = true) → fs.Nodup → fs'.length ≤ most ∧ (∀ x, x ∈ fs' → Nm.plain x = true ∧ wordB x = true) ∧ fs'.Nodup := by
  intro f
  induction f with
  | zero => intro t fs fs' h h1 h2 h3; cases h; exact ⟨h1, h2, h3⟩
  | succ f ih =>
    intro t fs fs' h h1 h2 h3
    unfold featsP at h
    split at h
    · cases h; exact ⟨h1, h2, h3⟩
    · rename_i w hw2
      split at h
      · cases h
      · rename_i hp
        split at h
        · cases h
        · rename_i hc
          split at h
          · cases h
          · rename_i hm
            have hwm := hw w (List.mem_of_getElem? hw2)
            refine ih _ _ h (by simp; omega) (fun x hx => ?_) ?_
            · rcases List.mem_append.1 hx with h' | h'
              · exact h2 x h'
              · rw [List.mem_singleton.1 h']; exact ⟨by simpa using hp, hwm⟩
            · rw [List.nodup_append]
              refine ⟨h3, by simp, fun a ha b hb => ?_⟩
              rw [List.mem_singleton.1 hb]
              rintro rfl
              exact hc (List.contains_iff_mem.2 ha)
theorem needP_good {most : Nat} {ws : Words} {cs : List Nat} {t : Nat} {n : NeedS} {t' : Nat} (hw : ∀ u, u ∈ ws → wordB u = true) (h : needP (most : Int) ws cs t = .ok (n, t')) : GoodN most n := by
  unfold needP at h
  split at h
  · cases h
  · rename_i nm h1
    split at h
    · cases h
    · rename_i rg h2
      obtain ⟨l1, e1, p1⟩ := takeW_ok h1
      obtain ⟨l2, e2, p2⟩ := takeW_ok h2
      have w1 : wordB nm = true := by rw [← e1]; exact hw _ (List.getElem_mem _)
      have w2 : wordB rg = true := by rw [← e2]; exact hw _ (List.getElem_mem _)
      split at h
      · split at h
        · cases h
        · rename_i fs h3
          cases h
          obtain ⟨g1, g2, g3⟩ := featsP_good hw _ _ _ h3 (Nat.zero_le _) (fun x hx => by cases hx) List.nodup_nil
          exact ⟨p1, p2, g1, fun f hf => (g2 f hf).1, g3, w1, w2, fun f hf => (g2 f hf).2⟩
      · cases h
        exact ⟨p1, p2, Nat.zero_le _, fun f hf => (by cases hf), List.nodup_nil, w1, w2, fun f hf => (by cases hf)⟩

theorem manGo_good : ∀ (xs : List LineS) (b : Bool) (out : List NeedS) {ns : List NeedS}, manGo xs b out = .ok ns → (∀ x, x ∈ xs → ∀ u, u ∈ x.2.1 → wordB u = true) → out.length ≤ 8 → (∀ n, n ∈ out → GoodN 4 n) → ns.length ≤ 8 ∧ ∀ n, n ∈ ns → GoodN 4 n := by
  intro xs
  induction xs with
  | nil => intro b out ns h _ h1 h2; cases h; exact ⟨h1, h2⟩
  | cons x xs ih =>
    intro b out ns h hw h1 h2
    obtain ⟨no, ws, cs⟩ := x
    unfold manGo at h
    split at h
    · cases h
    · rename_i out' hl
      have hws := hw (no, ws, cs) (by simp)
      have key : out'.length ≤ 8 ∧ ∀ n, n ∈ out' → GoodN 4 n := by
        unfold manLine at hl
        split at hl
        · split at hl
          · cases hl
          · split at hl
            · cases hl
            · rename_i hne
              split at hl
              · cases hl
              · rename_i n t hn
                unfold endW at hl
                split at hl
                · cases hl
                · cases hl
                  refine ⟨by simp; omega, fun m hm => ?_⟩
                  rcases List.mem_append.1 hm with h' | h'
                  · exact h2 m h'
                  · rw [List.mem_singleton.1 h']; exact needP_good (most := 4) hws hn
        · split at hl
          · cases hl
          · unfold endW at hl
            split at hl
            · cases hl
            · cases hl; exact ⟨h1, h2⟩
      exact ih _ _ h (fun x hx => hw x (by simp [hx])) key.1 key.2
theorem manP_good {l : List UInt8} {ns : List NeedS} (h : manP l = .ok ns) : ns.length ≤ 8 ∧ ∀ n, n ∈ ns → GoodN 4 n := by
  unfold manP at h
  split at h
  · cases h
  · rename_i xs hx
    unfold manL at h
    split at h
    · cases h
    · exact manGo_good _ _ _ h (readS_wordB hx) (by decide) (fun n hn => by cases hn)

/-- a need's words, behind the one that its line begins with -/
def rowN (h : List UInt8) (n : NeedS) : Words := h :: n.name :: n.rng :: n.feats
def manRows (ns : List NeedS) : List Words := [manW] :: ns.map (rowN rootW)
theorem feats_read {most : Nat} {ws : Words} {cs : List Nat} : ∀ (rest : Words) (t : Nat) (fs : Words), ws.drop t = rest → (∀ f, f ∈ rest → Nm.plain f = true) → (fs ++ rest).Nodup → fs.length + rest.length ≤ most → featsC (most : Int) ws cs t fs = .ok (fs ++ rest) := by
  intro rest
  induction rest with
  | nil =>
    intro t fs hd _ _ _
    rw [featsC_end (by have := List.drop_eq_nil_iff.1 hd; omega), List.append_nil]
  | cons x rest ih =>
    intro t fs hd hp hn hl
    have ht : t < ws.length := by
      by_cases h : t < ws.length
      · exact h
      · rw [List.drop_eq_nil_of_le (by omega)] at hd; cases hd
    rw [List.drop_eq_getElem_cons ht] at hd
    simp only [List.cons.injEq] at hd
    obtain ⟨e1, e2⟩ := hd
    have hc : fs.contains x = false := by
      cases h : fs.contains x
      · rfl
      · exfalso
        rw [List.contains_iff_mem] at h
        exact (List.nodup_append.1 hn).2.2 x h x (by simp) rfl
    rw [featsC_step ht, e1, if_neg (by rw [hp x (by simp)]; simp), if_neg (by rw [hc]; simp), if_neg (by simp at hl; omega)]
    rw [ih (t + 1) (fs ++ [x]) e2 (fun f hf => hp f (by simp [hf])) (by rw [List.append_assoc]; exact hn) (by simp at hl ⊢; omega), List.append_assoc]
    rfl
theorem need_read {most : Nat} (hm : 0 < most) {n : NeedS} (h : GoodN most n) (w : List UInt8) (cs : List Nat) : needP (most : Int) (rowN w n) cs 1 = .ok (n, (rowN w n).length) := by
  unfold needP
  have e1 : takeW Nm.checkV (rowN w n) cs 1 = .ok n.name := takeW_yes (t := 1) (by simp [rowN]) h.name
  have e2 : takeW isRng (rowN w n) cs (1 + 1) = .ok n.rng := takeW_yes (t := 2) (by simp [rowN]) h.rng
  rw [e1]
  simp only []
  rw [e2]
  simp only []
  rw [if_pos (by omega)]
  have e3 := feats_read (most := most) (ws := rowN w n) (cs := cs) n.feats 3 [] rfl h.plain (by simpa using h.nodup) (by simpa using h.few)
  unfold featsC at e3
  rw [show 1 + 2 = 3 from rfl, e3]
  rfl
theorem rowB_of {n : NeedS} (h : GoodN 4 n) : rowB (rowN rootW n) = true := by
  unfold rowB
  have h4 := h.few
  rw [Bool.and_eq_true, Bool.and_eq_true, decide_eq_true_eq, decide_eq_true_eq, List.all_eq_true]
  refine ⟨⟨by simp [rowN], by simp [rowN]; omega⟩, fun x hx => ?_⟩
  simp only [rowN, List.mem_cons] at hx
  rcases hx with rfl | rfl | rfl | hx
  · decide
  · exact h.words.1
  · exact h.words.2.1
  · exact h.words.2.2 x hx
theorem rows_ok {ns : List NeedS} (hg : ∀ n, n ∈ ns → GoodN 4 n) : ∀ r, r ∈ manRows ns → rowB r = true := by
  intro r hr
  unfold manRows at hr
  rcases List.mem_cons.1 hr with rfl | hr
  · decide
  · obtain ⟨n, hn, rfl⟩ := List.mem_map.1 hr
    exact rowB_of (hg n hn)
theorem rows_len {ns : List NeedS} (h8 : ns.length ≤ 8) (hg : ∀ n, n ∈ ns → GoodN 4 n) : (writeB (manRows ns)).length ≤ 5112 := by
  have h := writeB_len (manRows ns) 80 7 (fun r hr => by
    have hb := rows_ok hg r hr
    refine ⟨?_, fun w hw => ?_⟩
    · unfold manRows at hr
      rcases List.mem_cons.1 hr with rfl | hr
      · simp
      · obtain ⟨n, hn, rfl⟩ := List.mem_map.1 hr
        have := (hg n hn).few
        simp [rowN]; omega
    · unfold rowB at hb
      rw [Bool.and_eq_true, List.all_eq_true] at hb
      exact (wordB_of (hb.2 w hw)).2.1)
  have hl : (manRows ns).length ≤ 9 := by simp [manRows]; omega
  have := Nat.mul_le_mul_left ((80 + 1) * 7 + 1) hl
  omega
/-- what is written is read as it was -/
theorem man_round {ns : List NeedS} (h8 : ns.length ≤ 8) (hg : ∀ n, n ∈ ns → GoodN 4 n) : manP (writeB (manRows ns)) = .ok ns := by
  obtain ⟨xs, h1, h2, h3⟩ := read_written (rows_ok hg) (by simp [manRows]; omega) (by have := rows_len h8 hg; omega)
  have hlen : xs.length = ns.length + 1 := by rw [h2]; simp [manRows]
  unfold manP
  rw [h1]
  simp only []
  unfold manL
  rw [if_neg (by intro e; rw [e] at hlen; simp at hlen)]
  obtain ⟨c0, e0⟩ := h3 0 [manW] rfl
  have s0 := manGo_step e0 false []
  rw [List.drop_zero] at s0
  rw [s0]
  have l0 : manLine false [manW] c0 [] = .ok [] := by
    unfold manLine endW
    simp
  rw [l0]
  simp only []
  have key : ∀ (m i : Nat), i + m = ns.length → manGo (xs.drop (i + 1)) true (ns.take i) = .ok ns := by
    intro m
    induction m with
    | zero =>
      intro i hi
      rw [List.drop_eq_nil_of_le (by omega), List.take_of_length_le (by omega)]
      rfl
    | succ m ih =>
      intro i hi
      have hin : i < ns.length := by omega
      obtain ⟨ci, ei⟩ := h3 (i + 1) (rowN rootW ns[i]) (by simp [manRows, List.getElem?_eq_getElem hin])
      have si := manGo_step ei true (ns.take i)
      rw [si]
      have li : manLine true (rowN rootW ns[i]) ci (ns.take i) = .ok (ns.take i ++ [ns[i]]) := by
        unfold manLine
        rw [if_pos rfl, if_neg (by simp [rowN]), if_neg (by rw [List.length_take]; omega), show (4 : Int) = ((4 : Nat) : Int) from rfl, need_read (by decide) (hg _ (List.getElem_mem _))]
        simp [endW]
      rw [li]
      simp only []
      have := ih (i + 1) (by omega)
      rwa [List.take_add_one, List.getElem?_eq_getElem hin] at this
  exact key ns.length 0 (by omega)
end Go.Proofs.YtmeaajhongalaaaGreatDoor.Ix

/-
  LAYERS 7 AND 9: CheckNeed of a need that may be one; Check of roots that may be a manifest.
-/
namespace Go.Proofs.YtmeaajhongalaaaGreatDoor.Ix
open Go.RowKit
open Go.Proofs.YtmeaajhongalaaaGreatDoor Go.Proofs.YtmeaajhongalaaaGreatDoor.Ln Go.Proofs.YtmeaajhongalaaaGreatDoor.Vs Go.Proofs.YtmeaajhongalaaaGreatDoor.Sp Go.Proofs.YtmeaajhongalaaaGreatDoor.Sf

/-- texts that lie there, as far as some -/
theorem StrsF.take {F : Nat → Prop} {w : World} {a : Option Addr} {n cp : Nat} {ss : List (List UInt8)} (h : StrsF F w (.slice a n cp) ss) {k : Nat} (hk : k ≤ ss.length) : RowIs w (.slice a k cp) (Ln.strs (ss.take k)) := by
  obtain ⟨a', cp', e, _, _, h4⟩ := h
  simp only [Value.slice.injEq] at e
  obtain ⟨rfl, _, rfl⟩ := e
  by_cases h0 : k = 0
  · subst h0; exact .inl ⟨rfl, _, _, rfl⟩
  · obtain ⟨B, rfl, _, _, hc⟩ := h4 (by rintro rfl; simp at hk; omega)
    right
    refine ⟨B, 0, cp, by simp [Ln.strs]; omega, fun j x hj => ?_⟩
    have hjl : j < (ss.take k).length := by have := (List.getElem?_eq_some_iff.1 hj).1; simpa [Ln.strs] using this
    rw [word_get hjl] at hj
    cases hj
    rw [List.length_take] at hjl
    rw [Nat.zero_add, hc j (by omega)]
    simp
theorem nodup_take {fs : Words} (h : fs.Nodup) {k : Nat} (hk : k < fs.length) : (fs.take k).contains fs[k] = false := by
  cases hc : (fs.take k).contains fs[k]
  · rfl
  · exfalso
    rw [List.contains_iff_mem] at hc
    obtain ⟨j, hj, e⟩ := List.mem_iff_getElem.1 hc
    rw [List.length_take] at hj
    rw [List.getElem_take] at e
    have := List.pairwise_iff_getElem.1 h j k (by omega) hk (by omega)
    exact this e

def CkOk (w : World) (e : Ending) (w' : World) : Prop := e = .returned (.int .i64 0) ∧ Below w.heap.size w w'

set_option maxRecDepth 100000 in
set_option maxHeartbeats 4000000 in
theorem checkNeed_ok (most : Nat) (hmo : most ≤ 1000) {n : NeedS} (hgood : GoodN most n) (F : Nat → Prop) (b c : Value) (w : World) (hm : MaxAt w) (ht : TenAt w) (hg : SignsAt w) (hv : NeedV F w (.string ⟨n.name.toArray⟩) b c n) :
    Calls Tryz.prog 22 #[.agg #[.string ⟨n.name.toArray⟩, b, c], .int .i64 (most : Int)] w (CkOk w) := by
  obtain ⟨ba, bn, bc, ca, cn, cc, rfl, rfl⟩ := NeedV.shape hv
  obtain ⟨_, ⟨rs, hrs, hR⟩, hS⟩ := hv
  obtain ⟨W0, hW0⟩ : ∃ W0, W0 = w.alloc (.cells #[.string ⟨n.name.toArray⟩, .slice ba bn bc, .slice ca cn cc] 64) := ⟨_, rfl⟩
  have hb0 : Below w.heap.size w W0 := by rw [hW0]; exact below_alloc (Below.refl _ _) _
  have hB : Blk W0 w.heap.size [.string ⟨n.name.toArray⟩, .slice ba bn bc, .slice ca cn cc] 64 := by rw [hW0]; exact Blk.new w _ _
  have B0 := hid hb0
  have BK := hid hB
  have HW := hid hW0
  have hl80 := (wordB_of hgood.words.1).2.1
  have NC := hid (fun W => Nm.check_any n.name (by omega) W)
  rw [hgood.name] at NC
  have RC := hid (fun W (hW : Below w.heap.size w W) => checkR_any rs (.slice ba bn bc) (rngOf_ok hrs).2 W (hm.below hW) (ht.below hW) (hg.below hW) (RngF.at' (RngF.below hR hW)))
  have PL := hid (fun k (hk : k < n.feats.length) W => show Calls Tryz.prog 70 #[.string ⟨(n.feats.getD k []).toArray⟩] W (Nm.Gives (.bool true) W) from by
    have hmem : n.feats.getD k [] ∈ n.feats := by rw [List.getD_eq_getElem?_getD, List.getElem?_eq_getElem hk]; exact List.getElem_mem _
    have h9 := Nm.plain_any (n.feats.getD k []) (by have := (wordB_of (hgood.words.2.2 _ hmem)).2.1; omega) W
    rw [hgood.plain _ hmem] at h9
    exact h9)
  have CT := hid (fun k (hk : k < n.feats.length) W (hW : Below w.heap.size w W) => show Calls Tryz.prog 71 #[.slice ca k cc, .string ⟨(n.feats.getD k []).toArray⟩] W (fun e w' => e = .returned (.bool false) ∧ W = w') from by
    have h9 := contains_any (n.feats.take k) (by rw [List.length_take]; have := hgood.few; omega) (n.feats.getD k []) (.slice ca k cc) W (StrsF.take (StrsF.kept hS (Kept.of_below hW)) (by omega))
    have e1 : n.feats.getD k [] = n.feats[k] := by rw [List.getD_eq_getElem?_getD, List.getElem?_eq_getElem hk]; rfl
    rw [e1, nodup_take hgood.nodup hk] at h9
    rw [e1]; exact h9)
  have FC := hid (fun k (hk : k < n.feats.length) => show ∃ B, ca = some ⟨B, 0, none⟩ ∧ w.cell? ⟨B, k, none⟩ = some (.string ⟨(n.feats.getD k []).toArray⟩) from by
    obtain ⟨a', cp', e, _, _, h4⟩ := hS
    simp only [Value.slice.injEq] at e
    obtain ⟨B, hB, _, _, hc⟩ := h4 (by rintro h0; rw [h0] at hk; simp at hk)
    refine ⟨B, by rw [e.1]; exact hB, ?_⟩
    rw [hc k hk, List.getD_eq_getElem?_getD, List.getElem?_eq_getElem hk]; rfl)
  have hfew := hgood.few
  have hcn : cn = n.feats.length := by
    obtain ⟨a', cp', e, _⟩ := hS
    simp only [Value.slice.injEq] at e
    exact e.2.1
  have hcc : cn ≤ cc := by
    obtain ⟨a', cp', e, h2, _⟩ := hS
    simp only [Value.slice.injEq] at e
    omega
  rw [← hcn] at PL CT FC hfew
  clear hR hS hrs hgood hb0 hB hW0 hcn hl80 hm ht hg
  generalize n.name = nm at *
  have hmc : ¬ (most : Int) < (cn : Int) := by omega
  have hmn : decide (most < cn) = false := decide_eq_false (by omega)
  have hwl : w.heap.size < W0.heap.size := BK.out.lt
  go_enter Tryz.func22, Tryz.ntmps22
  go_wp2_with fail
  rw [← HW.out]
  have m0 := BK.out.cell 0 rfl
  have m1 := BK.out.cell 1 rfl
  refine (NC.out _).mono ?_
  rintro e w1 ⟨rfl, hb1⟩
  have B1 := hid (B0.out.trans (hb1.mono B0.out.size))
  have K1 := hid (BK.out.below hb1)
  have m1' := K1.out.cell 1 rfl
  have wl1 := K1.out.lt
  clear hb1 m0 m1
  go_wp2_with fail
  refine (RC.out _ B1.out).mono ?_
  rintro e w2 ⟨rfl, hb2⟩
  have B2 := hid (B1.out.trans (hb2.mono B1.out.size))
  have K2 := hid (K1.out.below hb2)
  have m2 := K2.out.cell 2 rfl
  have wl2 := K2.out.lt
  clear hb2 m1' wl1
  go_wp2_with fail
  go_loopw [5, 6, 25] (fun _ _ u wr => ∃ k : Nat, u = .int .i64 (k : Int) ∧ k ≤ cn ∧ Hid (Below w2.heap.size w2 wr)) (fun _ _ u _ => cn - (intOf u).toNat)
  case atStart => exact ⟨0, rfl, Nat.zero_le _, hid (Below.refl _ _)⟩
  case round =>
    obtain ⟨k, rfl, hk, HB⟩ := hrel
    by_cases hlt : k < cn
    · obtain ⟨B, rfl, hc⟩ := FC.out k hlt
      have hbw := B2.out.trans (HB.out.mono B2.out.size)
      have hck := bcell hbw hc
      have PLk := hid (PL.out k hlt)
      have CTk := hid (CT.out k hlt)
      have hkc : ¬ cc < k := by omega
      clear hc PL CT
      generalize n.feats.getD k [] = x at *
      have HBW := hid hbw
      have K3 := hid (K2.out.below HB.out)
      clear hbw
      go_wp2_with fail
      refine (PLk.out _).mono ?_
      rintro e w3 ⟨rfl, hb3⟩
      have HB3 := hid (HBW.out.trans (hb3.mono HBW.out.size))
      have HBB := hid (HB.out.trans (hb3.mono HB.out.size))
      have m3 := (K3.out.below hb3).cell 2 rfl
      have wl3 := (K3.out.below hb3).lt
      clear hb3
      go_wp2_with fail
      refine (CTk.out _ HB3.out).mono ?_
      rintro e w4 ⟨rfl, rfl⟩
      go_wp2_with fail
      go_roundw
      case rel => exact ⟨k + 1, by go_num, by omega, HBB⟩
      case measure => simp [intOf]; omega
    · have hk2 : k = cn := by omega
      subst hk2
      have HBW := hid (B2.out.trans (HB.out.mono B2.out.size))
      go_wp2_with fail
      go_ret
      exact ⟨rfl, HBW.out⟩

set_option maxRecDepth 100000 in
set_option maxHeartbeats 4000000 in
theorem manCheck_ok (ns : List NeedS) (h8 : ns.length ≤ 8) (hgood : ∀ n, n ∈ ns → GoodN 4 n) (v : Value) (w : World) (hm : MaxAt w) (ht : TenAt w) (hg : SignsAt w) (hv : NeedsV w v ns) :
    Calls Tryz.prog 39 #[.agg #[v]] w (CkOk w) := by
  obtain ⟨a, cp, rfl, hne⟩ := hv
  obtain ⟨n, hn⟩ : ∃ n, ns.length = n := ⟨_, rfl⟩
  rw [hn] at h8 ⊢
  have HN := hid hn
  have HNE := hid hne
  have HG := hid hgood
  obtain ⟨W0, hW0⟩ : ∃ W0, W0 = w.alloc (.cells #[.slice a n cp] 96) := ⟨_, rfl⟩
  have B0 := hid (show Below w.heap.size w W0 by rw [hW0]; exact below_alloc (Below.refl _ _) _)
  have BK := hid (show Blk W0 w.heap.size [.slice a n cp] 96 by rw [hW0]; exact Blk.new w _ _)
  have HW := hid hW0
  have TB := hid (And.intro hm (And.intro ht hg))
  clear hn hne hgood hW0 hm ht hg
  have m0 := BK.out.cell 0 rfl
  have ml := BK.out.lt
  go_enter Tryz.func39, Tryz.ntmps39
  go_wp2_with fail
  try rw [← HW.out]
  go_loopw [4, 5, 13] (fun _ _ u wr => ∃ k : Nat, u = .int .i64 (k : Int) ∧ k ≤ n ∧ Hid (Below w.heap.size w wr)) (fun _ _ u _ => n - (intOf u).toNat)
  case atStart => exact ⟨0, rfl, Nat.zero_le _, B0⟩
  case round =>
    obtain ⟨k, rfl, hk, HB⟩ := hrel
    by_cases hlt : k < n
    · have hkn : k < ns.length := by have := HN.out; omega
      obtain ⟨G, cells, rfl, hG, hc, hN⟩ := HNE.out (fun e => by rw [e] at hkn; simp at hkn)
      obtain ⟨a0, a1, a2, e0, e1, e2, hnv⟩ := hN.2 k _ (List.getElem?_eq_getElem hkn)
      have hgk := HG.out ns[k] (List.getElem_mem _)
      generalize ns[k] = N at *
      obtain ⟨ba, bn, bc, ca, cn, cc, rfl, rfl⟩ := NeedV.shape hnv
      have hname := hnv.1
      subst hname
      have c0 := bcell HB.out (hc _ _ e0)
      have c1 := bcell HB.out (hc _ _ e1)
      have c2 := bcell HB.out (hc _ _ e2)
      have gl := World.block_lt_of_cell? wr _ c0
      have BA := hid (HB.out.alloc HB.out.size (.cells #[.string ⟨N.name.toArray⟩, .slice ba bn bc, .slice ca cn cc] 64))
      have P2 := hid (Blk.new wr [.string ⟨N.name.toArray⟩, .slice ba bn bc, .slice ca cn cc] 64)
      have CK := hid (checkNeed_ok 4 (by decide) hgk (fun _ => True) (.slice ba bn bc) (.slice ca cn cc) (wr.alloc (.cells #[.string ⟨N.name.toArray⟩, .slice ba bn bc, .slice ca cn cc] 64)) (TB.out.1.below BA.out) (TB.out.2.1.below BA.out) (TB.out.2.2.below BA.out) (hnv.kept (Kept.of_below BA.out)))
      clear hc hN e0 e1 e2 hnv
      go_wp2_with fail
      generalize wr.alloc (.cells #[.string ⟨N.name.toArray⟩, .slice ba bn bc, .slice ca cn cc] 64) = W3 at *
      have p0 := P2.out.cell 0 rfl
      have p1 := P2.out.cell 1 rfl
      have p2 := P2.out.cell 2 rfl
      refine CK.out.mono ?_
      rintro e w4 ⟨rfl, hb4⟩
      have HB4 := hid (BA.out.trans (hb4.mono BA.out.size))
      clear hb4 CK
      go_wp2_with fail
      go_roundw
      case rel => exact ⟨k + 1, by go_num, by omega, HB4⟩
      case measure => simp [intOf]; omega
    · have hk2 : k = n := by omega
      subst hk2
      go_wp2_with fail
      go_ret
      exact ⟨rfl, HB.out⟩
end Go.Proofs.YtmeaajhongalaaaGreatDoor.Ix

/-
  LAYERS 7 AND 9: rows of words as they come about in memory, one behind the other.
-/
namespace Go.Proofs.YtmeaajhongalaaaGreatDoor.Ix
open Go.RowKit
open Go.Proofs.YtmeaajhongalaaaGreatDoor Go.Proofs.YtmeaajhongalaaaGreatDoor.Ln Go.Proofs.YtmeaajhongalaaaGreatDoor.Vs Go.Proofs.YtmeaajhongalaaaGreatDoor.Sp Go.Proofs.YtmeaajhongalaaaGreatDoor.Sf

/-- a slice of rows of words that the call made -/
structure RowsU (base : Nat) (w : World) (v : Value) (us : List Value) (rows : List Words) : Prop where
  len : us.length = rows.length
  own : w.ownsRow base 62 1 v rows.length us
  row : ∀ j (h : j < us.length), w.ownsRow base 9 1 us[j] (rows.getD j []).length (Ln.strs (rows.getD j []))
theorem RowsU.below {base : Nat} {w w' : World} {v : Value} {us : List Value} {rows : List Words} (h : RowsU base w v us rows) (hb : Below w.heap.size w w') : RowsU base w' v us rows :=
  ⟨h.len, ownsRow_below h.own hb, fun j hj => ownsRow_below (h.row j hj) hb⟩
theorem blk_own_ne {w : World} {p base n size : Nat} {cs xs : List Value} {T e : TypeId} {v : Value} (hb : Blk w p cs T) (h : w.ownsRow base e size v n xs) (hne : T ≠ e) : some p ≠ v.ownBlock := by
  intro e2
  rcases h.2 with ⟨rfl, _⟩ | ⟨g', cap, cur, rfl, _, hh, _⟩
  · cases e2
  · simp only [Value.ownBlock, Option.some.injEq] at e2
    subst e2
    unfold Blk at hb
    rw [hb] at hh
    simp at hh
    exact hne hh.2
theorem strs_row (h : List UInt8) (n : NeedS) : Ln.strs (rowN h n) = [.string ⟨h.toArray⟩, .string ⟨n.name.toArray⟩, .string ⟨n.rng.toArray⟩] ++ Ln.strs n.feats := rfl

/-- one row more -/
theorem RowsU.push {base k g g2 cap cap2 cn q : Nat} {w0 wc w3 w4 : World} {b : Option Addr} {c : Nat} {us : List Value} {rows : List Words} {h : List UInt8} {n : NeedS} (hR : RowsU base wc (.slice b k c) us rows) (hk : rows.length = k) (hcn : n.feats.length = cn) (hb0 : Below base w0 wc) (hb : base ≤ wc.heap.size) (hq : q = wc.heap.size)
    (o1 : w3.ownsRow base 9 1 (.slice (some ⟨g, 0, none⟩) (3 + cn) cap) (3 + cn) ([.string ⟨h.toArray⟩, .string ⟨n.name.toArray⟩, .string ⟨n.rng.toArray⟩] ++ Ln.strs n.feats))
    (g1 : (wc.alloc (.cells #[.string ⟨h.toArray⟩, .string ⟨n.name.toArray⟩, .string ⟨n.rng.toArray⟩] 9)).grownBy w3 (some q))
    (o2 : w4.ownsRow base 62 1 (.slice (some ⟨g2, 0, none⟩) (k + 1) cap2) (k + 1) (us ++ [.slice (some ⟨g, 0, none⟩) (3 + cn) cap]))
    (g2' : (w3.alloc (.cells #[.slice (some ⟨g, 0, none⟩) (3 + cn) cap] 62)).grownBy w4 (Value.slice b k c).ownBlock) :
    RowsU base w4 (.slice (some ⟨g2, 0, none⟩) (k + 1) cap2) (us ++ [.slice (some ⟨g, 0, none⟩) (3 + cn) cap]) (rows ++ [rowN h n]) ∧ Below base w0 w4 := by
  subst hq
  have ol := (hR.own.alloc (.cells #[.string ⟨h.toArray⟩, .string ⟨n.name.toArray⟩, .string ⟨n.rng.toArray⟩] 9)).kept g1 (.inr (by
    intro e; have := (hR.own.lt _ e).2; omega))
  have ol2 := ol.alloc (.cells #[.slice (some ⟨g, 0, none⟩) (3 + cn) cap] 62)
  have hs3 : wc.heap.size ≤ w3.heap.size := by have := g1.size; simp at this; omega
  refine ⟨⟨by simp [hR.len], by rw [List.length_append, hk]; exact o2, fun j hj => ?_⟩, ?_⟩
  · by_cases hj2 : j < us.length
    · have h1 := hR.row j hj2
      have h2 := ((h1.alloc (.cells #[.string ⟨h.toArray⟩, .string ⟨n.name.toArray⟩, .string ⟨n.rng.toArray⟩] 9)).kept g1 (.inr (by
        intro e; have := (h1.lt _ e).2; omega))).alloc (.cells #[.slice (some ⟨g, 0, none⟩) (3 + cn) cap] 62)
      have h3 := h2.kept g2' (ownsRow_apart h2 ol2 (by decide))
      rw [List.getElem_append_left hj2]
      have e1 : (rows ++ [rowN h n]).getD j [] = rows.getD j [] := by
        rw [List.getD_eq_getElem?_getD, List.getD_eq_getElem?_getD, List.getElem?_append_left (by have := hR.len; omega)]
      rw [e1]; exact h3
    · have hj3 : j = us.length := by simp at hj; omega
      subst hj3
      have h2 := o1.alloc (.cells #[.slice (some ⟨g, 0, none⟩) (3 + cn) cap] 62)
      have h3 := h2.kept g2' (ownsRow_apart h2 ol2 (by decide))
      have e0 : (us ++ [Value.slice (some ⟨g, 0, none⟩) (3 + cn) cap])[us.length]'hj = .slice (some ⟨g, 0, none⟩) (3 + cn) cap := by simp
      have e1 : (rows ++ [rowN h n]).getD us.length [] = rowN h n := by
        rw [List.getD_eq_getElem?_getD, hR.len, List.getElem?_append_right (Nat.le_refl _), Nat.sub_self]; rfl
      rw [e0, e1, strs_row, show (rowN h n).length = 3 + cn by simp [rowN]; omega]
      exact h3
  · exact (((hb0.alloc hb _).grown g1 (by simp; omega) (fun q hq => by cases hq; exact hb)).alloc (by omega) _).grown g2' (by simp; omega) (fun q hq => (hR.own.lt q hq).1)

def baW (r : Words) : List ByteArray := r.map fun l => ⟨l.toArray⟩
theorem dat_ba (r : Words) : dat (baW r) = r := by
  unfold dat baW
  rw [List.map_map]
  have : ((fun s : ByteArray => s.data.toList) ∘ fun l : List UInt8 => (⟨l.toArray⟩ : ByteArray)) = id := by funext l; simp
  rw [this, List.map_id]
theorem dats_ba (rows : List Words) : dats (rows.map baW) = rows := by
  unfold dats
  rw [List.map_map]
  have : (dat ∘ baW) = id := by funext r; exact dat_ba r
  rw [this, List.map_id]
theorem StrsAt.of_own {w : World} {base : Nat} {v : Value} {r : Words} (h : w.ownsRow base 9 1 v r.length (Ln.strs r)) : StrsAt w v (baW r) := by
  rcases ownsRow_one h with ⟨rfl, h1, h2⟩ | ⟨g, c, rfl, h1, h2, h3, h4, h5⟩
  · have hr : r = [] := List.eq_nil_of_length_eq_zero h1
    subst hr
    exact ⟨none, 0, rfl, Nat.le_refl _, fun h => absurd rfl h⟩
  · refine ⟨some ⟨g, 0, none⟩, c, by simp [baW], by simpa [baW] using h3, fun _ => ⟨g, 0, rfl, h2, fun k s hk => ?_⟩⟩
    rw [Nat.zero_add]
    refine h5 k _ ?_
    have hkl : k < r.length := by have := (List.getElem?_eq_some_iff.1 hk).1; simpa [baW] using this
    unfold baW at hk
    rw [List.getElem?_map, List.getElem?_eq_getElem hkl] at hk
    simp only [Option.map_some, Option.some.injEq] at hk
    unfold Ln.strs
    rw [List.getElem?_map, List.getElem?_eq_getElem hkl, ← hk]; rfl
theorem RowsU.rows {base : Nat} {w : World} {v : Value} {us : List Value} {rows : List Words} (h : RowsU base w v us rows) : Ln.RowsIn w v (rows.map baW) := by
  have hl := h.len
  rcases ownsRow_one h.own with ⟨rfl, h1, h2⟩ | ⟨g, c, rfl, h1, h2, h3, h4, h5⟩
  · have hr : rows = [] := List.eq_nil_of_length_eq_zero h1
    subst hr
    exact ⟨none, 0, rfl, Nat.le_refl _, fun h => absurd rfl h⟩
  · refine ⟨some ⟨g, 0, none⟩, c, by simp, by simpa using h3, fun _ => ⟨g, 0, rfl, h2, fun k r hk => ?_⟩⟩
    have hkl : k < rows.length := by have := (List.getElem?_eq_some_iff.1 hk).1; simpa using this
    have hku : k < us.length := by omega
    rw [Nat.zero_add]
    refine ⟨us[k], h5 k _ (List.getElem?_eq_getElem hku), ?_⟩
    rw [List.getElem?_map, List.getElem?_eq_getElem hkl] at hk
    simp only [Option.map_some, Option.some.injEq] at hk
    rw [← hk]
    have := h.row k hku
    rw [List.getD_eq_getElem?_getD, List.getElem?_eq_getElem hkl] at this
    exact StrsAt.of_own this
theorem tame_rows {rows : List Words} (h1 : rows.length ≤ 100) (h2 : ∀ r, r ∈ rows → rowB r = true) : Tame (rows.map baW) := by
  refine ⟨by simpa using h1, fun r hr => ?_⟩
  obtain ⟨x, hx, rfl⟩ := List.mem_map.1 hr
  have hb := h2 x hx
  unfold rowB at hb
  rw [Bool.and_eq_true, Bool.and_eq_true, decide_eq_true_eq, decide_eq_true_eq, List.all_eq_true] at hb
  refine ⟨by simp [baW]; omega, fun s hs => ?_⟩
  obtain ⟨l, hl, rfl⟩ := List.mem_map.1 hs
  have := (wordB_of (hb.2 l hl)).2.1
  show l.toArray.size ≤ 200
  simp; omega
/-- what is written -/
theorem write_rows {base : Nat} {v : Value} {us : List Value} {rows : List Words} (h1 : rows.length ≤ 100) (h2 : ∀ r, r ∈ rows → rowB r = true) (w : World) (h : RowsU base w v us rows) :
    Calls Tryz.prog 90 #[v] w fun e w' => e = .returned (.string ⟨(writeB rows).toArray⟩) ∧ Below w.heap.size w w' := by
  have h9 := Ln.write_any (rows.map baW) v (tame_rows h1 h2) w h.rows
  rw [dats_ba] at h9
  exact h9
/-- the texts that are appended -/
theorem StrsF.news {F : Nat → Prop} {w : World} {ao : Option Addr} {n cp : Nat} {ss : List (List UInt8)} (h : StrsF F w (.slice ao n cp) ss) : (ao = none → n = 0) ∧ ∀ ad, ao = some ad → ∀ j u, (Ln.strs ss)[j]? = some u → w.cell? (ad.add j) = some u := by
  obtain ⟨a', cp', e, _, _, h4⟩ := h
  simp only [Value.slice.injEq] at e
  obtain ⟨rfl, rfl, rfl⟩ := e
  constructor
  · intro hn
    by_cases hs : ss = []
    · rw [hs]; rfl
    · obtain ⟨B, hB, _⟩ := h4 hs
      rw [hn] at hB; cases hB
  · intro ad had j u hj
    have hjl : j < ss.length := by have := (List.getElem?_eq_some_iff.1 hj).1; simpa [Ln.strs] using this
    obtain ⟨B, hB, _, _, hc⟩ := h4 (by rintro rfl; simp at hjl)
    rw [had] at hB
    cases hB
    rw [word_get hjl] at hj
    cases hj
    rw [addr_add, Nat.zero_add]; exact hc j hjl
end Go.Proofs.YtmeaajhongalaaaGreatDoor.Ix

/-
  LAYER 9: Text of roots that may be a manifest.
-/
namespace Go.Proofs.YtmeaajhongalaaaGreatDoor.Ix
open Go.RowKit
open Go.Proofs.YtmeaajhongalaaaGreatDoor Go.Proofs.YtmeaajhongalaaaGreatDoor.Ln Go.Proofs.YtmeaajhongalaaaGreatDoor.Vs Go.Proofs.YtmeaajhongalaaaGreatDoor.Sp Go.Proofs.YtmeaajhongalaaaGreatDoor.Sf

theorem infoRow : (Tryz.prog.info? 62).map (fun i => (i.zero, i.size, i.bytes)) = some (some (.slice none 0 0), 1, 24) := by kernel_rfl
def TxOk (ns : List NeedS) (w : World) (e : Ending) (w' : World) : Prop := e = .returned (.tuple #[.string ⟨(writeB (manRows ns)).toArray⟩, .int .i64 0]) ∧ Below w.heap.size w w'
theorem manRows_take {ns : List NeedS} {k : Nat} (h : k < ns.length) : manRows (ns.take (k + 1)) = manRows (ns.take k) ++ [rowN rootW ns[k]] := by
  unfold manRows
  rw [List.take_succ_eq_append_getElem h, List.map_append]; rfl
theorem rowsU_start (w : World) : RowsU w.heap.size ((w.alloc (.cells #[.string ⟨#[109, 97, 110, 105, 102, 101, 115, 116]⟩] 9)).alloc (.cells #[.slice (some ⟨w.heap.size, 0, none⟩) 1 1] 62)) (.slice (some ⟨w.heap.size + 1, 0, none⟩) 1 1) [.slice (some ⟨w.heap.size, 0, none⟩) 1 1] [[manW]] := by
  have h1 := (World.ownsRow_lit (e := 9) (base := w.heap.size) (size := 1) w #[.string ⟨#[109, 97, 110, 105, 102, 101, 115, 116]⟩] 1 (Nat.le_refl _) (by unfold maxLen; omega) rfl).alloc (.cells #[.slice (some ⟨w.heap.size, 0, none⟩) 1 1] 62)
  have h2 := World.ownsRow_lit (e := 62) (base := w.heap.size) (size := 1) (w.alloc (.cells #[.string ⟨#[109, 97, 110, 105, 102, 101, 115, 116]⟩] 9)) #[.slice (some ⟨w.heap.size, 0, none⟩) 1 1] 1 (by simp) (by unfold maxLen; omega) rfl
  rw [show (w.alloc (.cells #[.string ⟨#[109, 97, 110, 105, 102, 101, 115, 116]⟩] 9)).heap.size = w.heap.size + 1 by simp] at h2
  refine ⟨rfl, h2, fun j hj => ?_⟩
  have : j = 0 := by simpa using hj
  subst this
  exact h1

set_option maxRecDepth 100000 in
set_option maxHeartbeats 8000000 in
theorem manText_ok (ns : List NeedS) (h8 : ns.length ≤ 8) (hgood : ∀ n, n ∈ ns → GoodN 4 n) (v : Value) (w : World) (hm : MaxAt w) (ht : TenAt w) (hg : SignsAt w) (hv : NeedsV w v ns) :
    Calls Tryz.prog 38 #[.agg #[v]] w (TxOk ns w) := by
  obtain ⟨iS, hs, hs0, hs1, hs2⟩ := info_parts infoS
  have hs := hid hs
  have hs0 := hid hs0
  have hs1 := hid hs1
  have hs2 := hid hs2
  obtain ⟨iL, hl, hl0, hl1, hl2⟩ := info_parts infoRow
  have hl := hid hl
  have hl0 := hid hl0
  have hl1 := hid hl1
  have hl2 := hid hl2
  have B0 := hid (show Below w.heap.size w (w.alloc (.cells #[v] 96)) from below_alloc (Below.refl _ _) _)
  have BK := hid (Blk.new w [v] 96)
  have CK := hid (manCheck_ok ns h8 hgood v _ (hm.below B0.out) (ht.below B0.out) (hg.below B0.out) (hv.below B0.out))
  have WR := hid (fun base v us W (h : RowsU base W v us (manRows ns)) => write_rows (by simp [manRows]; omega) (rows_ok hgood) W h)
  obtain ⟨a, cp, rfl, hne⟩ := hv
  obtain ⟨n, hn⟩ : ∃ n, ns.length = n := ⟨_, rfl⟩
  rw [hn] at h8 CK B0 BK ⊢
  have HN := hid hn
  have HNE := hid hne
  have HG := hid hgood
  have TB := hid (And.intro hm (And.intro ht hg))
  have RT := hid (fun k (h : k < ns.length) => manRows_take h)
  have RL := hid (show ∀ k, k ≤ n → (manRows (ns.take k)).length = k + 1 from fun k hk => by simp [manRows]; omega)
  have RE := hid (show manRows (ns.take n) = manRows ns by rw [List.take_of_length_le (by omega)])
  unfold TxOk
  generalize writeB (manRows ns) = TXT at *
  clear hn hne hgood hm ht hg
  go_enter Tryz.func38, Tryz.ntmps38
  go_wp2_with fail
  generalize w.alloc (.cells #[.slice a n cp] 96) = W0 at *
  have m00 := BK.out.cell 0 rfl
  refine CK.out.mono ?_
  rintro e w1 ⟨rfl, hb1⟩
  have B1 := hid (B0.out.trans (hb1.mono B0.out.size))
  have K1 := hid (BK.out.below hb1)
  have hp1 : w.heap.size < w1.heap.size := K1.out.lt
  have K2 := hid (show Blk ((w1.alloc (.cells #[.string ⟨#[109, 97, 110, 105, 102, 101, 115, 116]⟩] 9)).alloc (.cells #[.slice (some ⟨w1.heap.size, 0, none⟩) 1 1] 62)) w.heap.size [.slice a n cp] 96 from (K1.out.alloc _).alloc _)
  have m1 := K2.out.cell 0 rfl
  have ml1 := K2.out.lt
  have RS := hid (rowsU_start w1)
  have BS := hid (show Below w1.heap.size w1 ((w1.alloc (.cells #[.string ⟨#[109, 97, 110, 105, 102, 101, 115, 116]⟩] 9)).alloc (.cells #[.slice (some ⟨w1.heap.size, 0, none⟩) 1 1] 62)) from below_alloc (below_alloc (Below.refl _ _) _) _)
  clear hb1 CK m00 BK K1
  go_wp2_with fail
  generalize (w1.alloc (.cells #[.string ⟨#[109, 97, 110, 105, 102, 101, 115, 116]⟩] 9)).alloc (.cells #[.slice (some ⟨w1.heap.size, 0, none⟩) 1 1] 62) = W2 at *
  clear K2 m1 ml1 B0
  go_loopw [5, 7, 18] (fun u5 _ u18 wr => ∃ (k : Nat) (b : Option Addr) (c : Nat) (us : List Value), u18 = .int .i64 (k : Int) ∧ k ≤ n ∧ u5 = .slice b (k + 1) c ∧ Hid (RowsU w1.heap.size wr (.slice b (k + 1) c) us (manRows (ns.take k)) ∧ Below w1.heap.size w1 wr)) (fun _ _ u18 _ => n - (intOf u18).toNat)
  case atStart => exact ⟨0, _, _, _, rfl, Nat.zero_le _, rfl, hid ⟨RS.out, BS.out⟩⟩
  case round =>
    clear RS BS
    obtain ⟨k, b, c, us, rfl, hk, rfl, HR⟩ := hrel
    by_cases hlt : k < n
    · have hkn : k < ns.length := by have := HN.out; omega
      obtain ⟨G, cells, rfl, hG, hc, hN⟩ := HNE.out (fun e => by rw [e] at hkn; simp at hkn)
      obtain ⟨a0, a1, a2, e0, e1, e2, hnv⟩ := hN.2 k _ (List.getElem?_eq_getElem hkn)
      have hgk := HG.out ns[k] (List.getElem_mem _)
      have hfew := hgk.few
      have HRT := hid (RT.out k hkn)
      have HLK := hid (RL.out k hk)
      generalize ns[k] = N at *
      obtain ⟨ba, bn, bc, ca, cn, cc, rfl, rfl⟩ := NeedV.shape hnv
      obtain ⟨rfl, ⟨rs, hrs, hRg⟩, hS⟩ := hnv
      have hcn : N.feats.length = cn := by
        obtain ⟨a', cp', e, _⟩ := hS
        simp only [Value.slice.injEq] at e
        exact e.2.1.symm
      rw [hcn] at hfew
      have HCN := hid hcn
      have BX := hid (B1.out.trans (HR.out.2.mono B1.out.size))
      have c0 := bcell BX.out (hc _ _ e0)
      have c1 := bcell BX.out (hc _ _ e1)
      have c2 := bcell BX.out (hc _ _ e2)
      have gl := World.block_lt_of_cell? wr _ c0
      have hts := (rngOf_ok hrs).1
      have A2 := hid (below_alloc (Below.refl wr.heap.size wr) (.cells #[.string ⟨N.name.toArray⟩, .slice ba bn bc, .slice ca cn cc] 64))
      have P2 := hid (Blk.new wr [.string ⟨N.name.toArray⟩, .slice ba bn bc, .slice ca cn cc] 64)
      have B2 := hid (below_trans BX.out A2.out)
      have TX := hid (show Calls Tryz.prog 72 #[.agg #[.slice ba bn bc]] (wr.alloc (.cells #[.string ⟨N.name.toArray⟩, .slice ba bn bc, .slice ca cn cc] 64)).drew (fun e w' => e = .returned (.string ⟨N.rng.toArray⟩) ∧ Below (wr.alloc (.cells #[.string ⟨N.name.toArray⟩, .slice ba bn bc, .slice ca cn cc] 64)).heap.size (wr.alloc (.cells #[.string ⟨N.name.toArray⟩, .slice ba bn bc, .slice ca cn cc] 64)).drew w') from by
        have h9 := textR_any rs (.slice ba bn bc) (rngOf_ok hrs).2 (wr.alloc (.cells #[.string ⟨N.name.toArray⟩, .slice ba bn bc, .slice ca cn cc] 64)).drew (TB.out.1.below B2.out.drew) (TB.out.2.1.below B2.out.drew) (TB.out.2.2.below B2.out.drew) (RngF.at' (RngF.below (RngF.below hRg B2.out) (Below.refl _ _).drew))
        rw [hts] at h9
        exact h9)
      have HS := hid (StrsF.kept hS (Kept.of_below B2.out))
      have LA := hid (show (wr.alloc (.cells #[.string ⟨N.name.toArray⟩, .slice ba bn bc, .slice ca cn cc] 64)).heap.size = wr.heap.size + 1 by simp)
      have RA := hid (HR.out.1.below A2.out)
      have ZA := hid (below_trans HR.out.2 A2.out)
      have HP8 := hid (show w1.heap.size ≤ wr.heap.size from HR.out.2.size)
      clear hc hN e0 e1 e2 hS hRg hrs hts A2 B2 HR hgk hcn
      go_wp2_with fail
      generalize wr.alloc (.cells #[.string ⟨N.name.toArray⟩, .slice ba bn bc, .slice ca cn cc] 64) = Wa at P2 TX HS LA RA ZA ⊢
      change Hid (Blk Wa wr.heap.size [.string ⟨N.name.toArray⟩, .slice ba bn bc, .slice ca cn cc] 64) at P2
      clear BX c0 c1 c2 gl
      generalize wr.heap.size = p8 at P2 LA HP8 ⊢
      generalize manRows (ns.take k) = T0 at RA HLK HRT
      have KP := hid (fun (Wc : World) (hbt : Below Wa.heap.size Wa.drew Wc) => show Blk Wc p8 [.string ⟨N.name.toArray⟩, .slice ba bn bc, .slice ca cn cc] 64 from P2.out.below (below_trans (Below.refl Wa.heap.size Wa).drew hbt))
      have SZ := hid (fun (Wc : World) (hbt : Below Wa.heap.size Wa.drew Wc) => show w1.heap.size ≤ Wc.heap.size from Nat.le_trans ZA.out.size hbt.size)
      have LIT := hid (fun (Wc : World) (hbt : Below Wa.heap.size Wa.drew Wc) => World.ownsRow_lit (e := 9) (base := w1.heap.size) (size := 1) Wc #[.string ⟨#[114, 111, 111, 116]⟩, .string ⟨N.name.toArray⟩, .string ⟨N.rng.toArray⟩] 3 (SZ.out Wc hbt) (by unfold maxLen; omega) rfl)
      have NEWS := hid (fun (Wc : World) (hbt : Below Wa.heap.size Wa.drew Wc) => StrsF.news (StrsF.kept HS.out (Kept.of_below (below_alloc (below_trans (Below.refl Wa.heap.size Wa).drew hbt) (.cells #[.string ⟨#[114, 111, 111, 116]⟩, .string ⟨N.name.toArray⟩, .string ⟨N.rng.toArray⟩] 9)))))
      have HLN := hid (show (Ln.strs N.feats).length = cn by rw [← HCN.out]; simp [Ln.strs])
      have ONE := hid (show ∀ u, u ∈ Ln.strs N.feats → u.oneCell' = true from fun u hu => by obtain ⟨x, _, rfl⟩ := List.mem_map.1 hu; rfl)
      have KP3 := hid (fun (Wc w3 : World) (hbt : Below Wa.heap.size Wa.drew Wc) (hg : (Wc.alloc (.cells #[.string ⟨#[114, 111, 111, 116]⟩, .string ⟨N.name.toArray⟩, .string ⟨N.rng.toArray⟩] 9)).grownBy w3 (some Wc.heap.size)) => show Blk w3 p8 [.string ⟨N.name.toArray⟩, .slice ba bn bc, .slice ca cn cc] 64 from ((KP.out Wc hbt).alloc _).grown hg (by have := (KP.out Wc hbt).lt; intro e; cases e; omega))
      have OWN := hid (fun (Wc w3 : World) (g cap : Nat) (hbt : Below Wa.heap.size Wa.drew Wc) (hg : (Wc.alloc (.cells #[.string ⟨#[114, 111, 111, 116]⟩, .string ⟨N.name.toArray⟩, .string ⟨N.rng.toArray⟩] 9)).grownBy w3 (some Wc.heap.size)) => show (w3.alloc (.cells #[.slice (some ⟨g, 0, none⟩) (3 + cn) cap] 62)).ownsRow w1.heap.size 62 1 (.slice b (k + 1) c) (k + 1) us from by
        have h1 := (RA.out.below (below_trans (Below.refl Wa.heap.size Wa).drew hbt)).own
        rw [HLK.out] at h1
        exact ((h1.alloc _).kept hg (.inr (by intro e; have := (h1.lt _ e).2; omega))).alloc _)
      have SZ3 := hid (fun (Wc w3 : World) (hbt : Below Wa.heap.size Wa.drew Wc) (hg : (Wc.alloc (.cells #[.string ⟨#[114, 111, 111, 116]⟩, .string ⟨N.name.toArray⟩, .string ⟨N.rng.toArray⟩] 9)).grownBy w3 (some Wc.heap.size)) => show w1.heap.size ≤ w3.heap.size from by have := hg.size; have := SZ.out Wc hbt; simp at *; omega)
      have FIN := hid (fun (Wc w3 w4 : World) (g cap g2 cap2 : Nat) (hbt : Below Wa.heap.size Wa.drew Wc)
          (o1 : w3.ownsRow w1.heap.size 9 1 (.slice (some ⟨g, 0, none⟩) (3 + cn) cap) (3 + cn) ([.string ⟨#[114, 111, 111, 116]⟩, .string ⟨N.name.toArray⟩, .string ⟨N.rng.toArray⟩] ++ Ln.strs N.feats))
          (g1 : (Wc.alloc (.cells #[.string ⟨#[114, 111, 111, 116]⟩, .string ⟨N.name.toArray⟩, .string ⟨N.rng.toArray⟩] 9)).grownBy w3 (some Wc.heap.size))
          (o2 : w4.ownsRow w1.heap.size 62 1 (.slice (some ⟨g2, 0, none⟩) (k + 1 + 1) cap2) (k + 1 + 1) (us ++ [.slice (some ⟨g, 0, none⟩) (3 + cn) cap]))
          (g2' : (w3.alloc (.cells #[.slice (some ⟨g, 0, none⟩) (3 + cn) cap] 62)).grownBy w4 (Value.slice b (k + 1) c).ownBlock) =>
        RowsU.push (h := rootW) (n := N) (RA.out.below (below_trans (Below.refl Wa.heap.size Wa).drew hbt)) HLK.out HCN.out (below_trans ZA.out (below_trans (Below.refl Wa.heap.size Wa).drew hbt)) (SZ.out Wc hbt) rfl o1 g1 o2 g2')
      have KP4 := hid (fun (Wc w3 w4 : World) (g cap : Nat) (hbt : Below Wa.heap.size Wa.drew Wc)
          (g1 : (Wc.alloc (.cells #[.string ⟨#[114, 111, 111, 116]⟩, .string ⟨N.name.toArray⟩, .string ⟨N.rng.toArray⟩] 9)).grownBy w3 (some Wc.heap.size))
          (g2' : (w3.alloc (.cells #[.slice (some ⟨g, 0, none⟩) (3 + cn) cap] 62)).grownBy w4 (Value.slice b (k + 1) c).ownBlock) =>
        show Blk w4 p8 [.string ⟨N.name.toArray⟩, .slice ba bn bc, .slice ca cn cc] 64 from ((KP3.out Wc w3 hbt g1).alloc _).grown g2' (blk_own_ne ((KP3.out Wc w3 hbt g1).alloc _) (OWN.out Wc w3 g cap hbt g1) (by decide)))
      have q0 := P2.out.cell 0 rfl
      have q1 := P2.out.cell 1 rfl
      have q2 := P2.out.cell 2 rfl
      clear RA HS
      go_region_held3 (fun w' => w'.cell? ⟨p8, 0, none⟩ = some (.string ⟨N.name.toArray⟩) ∧ w'.cell? ⟨p8, 1, none⟩ = some (.slice ba bn bc) ∧ w'.cell? ⟨p8, 2, none⟩ = some (.slice ca cn cc))
        (first | (exact ⟨q0, q1, q2⟩) | (with_reducible exact ⟨hb4.cell 0 rfl, hb4.cell 1 rfl, hb4.cell 2 rfl⟩) | (exact ⟨(hb3.alloc _).cell 0 rfl, (hb3.alloc _).cell 1 rfl, (hb3.alloc _).cell 2 rfl⟩) | (exact ⟨hb3.cell 0 rfl, hb3.cell 1 rfl, hb3.cell 2 rfl⟩) | (exact ⟨(hb2.alloc _).cell 0 rfl, (hb2.alloc _).cell 1 rfl, (hb2.alloc _).cell 2 rfl⟩) | (exact ⟨hb2.cell 0 rfl, hb2.cell 1 rfl, hb2.cell 2 rfl⟩))
        (first
          | (refine step_append_any _ rfl _ _ 62 rfl w1.heap.size 9 iS (.string ⟨#[]⟩) 1 16 Tryz.underlying62 hs.out hs0.out hs1.out hs2.out rfl (by decide) _ 3 _ rfl (LIT.out _ hbt) ca cn cc (Ln.strs N.feats) rfl (by rw [HLN.out, Nat.mul_one]) (NEWS.out _ hbt).1 (NEWS.out _ hbt).2 ONE.out (by decide) (by unfold maxLen; omega) (by omega) (by have := SZ.out _ hbt; simp; omega) ?_; intro g cap w3 hown3 hgrow3 hlt3; have hb3 := KP3.out _ _ hbt hgrow3)
          | (refine step_append_lies _ rfl _ _ 153 rfl w1.heap.size 62 iL (.slice none 0 0) 1 24 Tryz.underlying153 hl.out hl0.out hl1.out hl2.out rfl (by decide) _ _ _ rfl (OWN.out _ _ _ _ hbt hgrow3) ⟨_, 0, none⟩ 1 1 [.slice (some ⟨g, 0, none⟩) (3 + cn) cap] rfl rfl (cells_new _ [_] _ _ rfl) (by intro u hu; simp at hu; rw [hu]; rfl) (by decide) (by unfold maxLen; omega) (by omega) (by have := SZ3.out _ _ hbt hgrow3; simp; omega) _ rfl ?_; intro g2 cap2 w4 hown4 hgrow4 hat4 hlt4; have hb4 := KP4.out _ _ _ _ _ hbt hgrow3 hgrow4)
          | (go_at_call 72; (with_reducible refine TX.out.mono ?_); rintro e wc ⟨rfl, hbt⟩; have hb2 := KP.out _ hbt))
      all_goals
        have F := FIN.out _ _ _ _ _ _ _ hbt hown3 hgrow3 hown4 hgrow4
        rw [← HRT.out] at F
        have F1 := hid F
        clear hown3 hgrow3 hown4 hgrow4 hat4 hlt4 hlt3 hb4 hb3 hb2 F
        go_wp2_with fail
        go_roundw
        case rel => exact ⟨k + 1, some ⟨g2, 0, none⟩, cap2, _, by go_num, by omega, rfl, F1⟩
        case measure => simp [intOf]; omega
    · have hk2 : k = n := by omega
      subst hk2
      rw [RE.out] at HR
      have HBW := hid (B1.out.trans (HR.out.2.mono B1.out.size))
      have WX := hid (WR.out _ _ _ _ HR.out.1)
      go_wp2_with fail
      refine WX.out.mono ?_
      rintro e w3 ⟨rfl, hb3⟩
      have HB3 := hid (HBW.out.trans (hb3.mono HBW.out.size))
      clear hb3
      go_wp2_with fail
      go_ret2
      exact ⟨rfl, HB3.out⟩
end Go.Proofs.YtmeaajhongalaaaGreatDoor.Ix

/-
  LAYER 9: the law ManifestBack walked.
-/
namespace Go.Proofs.YtmeaajhongalaaaGreatDoor.Ix
open Go.RowKit
open Go.Proofs.YtmeaajhongalaaaGreatDoor Go.Proofs.YtmeaajhongalaaaGreatDoor.Ln Go.Proofs.YtmeaajhongalaaaGreatDoor.Vs Go.Proofs.YtmeaajhongalaaaGreatDoor.Sp Go.Proofs.YtmeaajhongalaaaGreatDoor.Sf

theorem manP_code {l : List UInt8} {c no col : Nat} (h : manP l = .error (c, no, col)) : 1 ≤ c := by
  unfold manP at h
  split at h
  · rename_i e he
    cases h
    have := readS_codes he
    omega
  · unfold manL at h
    split at h
    · cases h; exact Nat.le_refl _
    · exact (manGo_code _ _ _ h).1

set_option maxRecDepth 100000 in
set_option maxHeartbeats 8000000 in
theorem law_back (l : List UInt8) (hs : l.length ≤ 140737488355328) (w : World) (hm : MaxAt w) (ht : TenAt w) (hg : SignsAt w) :
    Calls Tryz.prog 8 #[.string ⟨l.toArray⟩] w (LawOk w) := by
  have WA := hid (fun W (hm : MaxAt W) (hg : SignsAt W) => wanted_any W hm hg)
  have TB := hid (And.intro hm (And.intro ht hg))
  cases hP : manP l with
  | error e =>
    obtain ⟨c, no, col⟩ := e
    have MP := hid (manParse_no hP hs w hm hg)
    have hc := manP_code hP
    have hc0 : ((c : Int) == 0) = false := by rw [beq_eq_false_iff_ne]; omega
    clear hP hm ht hg hc
    unfold ManNo at MP
    generalize (⟨l.toArray⟩ : ByteArray) = L at *
    go_enter Tryz.func8, Tryz.ntmps8
    go_wp2_with fail
    refine MP.out.mono ?_
    rintro e w1 ⟨rfl, hb1⟩
    have B1 := hid hb1
    have A1 := hid (show Below w.heap.size w ((w1.alloc (.cells #[.slice none 0 0] 96)).alloc (.cells #[.int .i64 (c : Int), .int .i64 (no : Int), .int .i64 (col : Int)] 87)) from below_alloc (below_alloc hb1 _) _)
    have F1 := hid (Blk.new (w1.alloc (.cells #[.slice none 0 0] 96)) [.int .i64 (c : Int), .int .i64 (no : Int), .int .i64 (col : Int)] 87)
    have e1 : (w1.alloc (.cells #[.slice none 0 0] 96)).heap.size = w1.heap.size + 1 := by simp
    rw [e1] at F1
    clear hb1 MP e1
    go_wp2_with fail
    generalize (w1.alloc (.cells #[.slice none 0 0] 96)).alloc (.cells #[.int .i64 (c : Int), .int .i64 (no : Int), .int .i64 (col : Int)] 87) = W1 at *
    refine (WA.out W1 (TB.out.1.below A1.out) (TB.out.2.2.below A1.out)).mono ?_
    rintro e w2 ⟨rfl, hb2⟩
    have A2 := hid (below_trans A1.out hb2)
    have F2 := F1.out.below hb2
    have q0 := F2.cell 0 rfl
    have q1 := F2.cell 1 rfl
    have q2 := F2.cell 2 rfl
    have q3 := F2.lt
    clear hb2 F2
    go_wp2_with fail
    refine (WA.out w2 (TB.out.1.below A2.out) (TB.out.2.2.below A2.out)).mono ?_
    rintro e w3 ⟨rfl, hb3⟩
    have A3 := hid (below_trans A2.out hb3)
    clear hb3
    go_wp2_with fail
    go_ret
    exact ⟨rfl, A3.out⟩
  | ok ns =>
    obtain ⟨h8, hgood⟩ := manP_good hP
    have MP := hid (manParse_yes hP hs w hm hg)
    have hlen := rows_len h8 hgood
    have MQ := hid (fun W (hW : Below w.heap.size w W) => manParse_yes (man_round h8 hgood) (by omega) W (hm.below hW) (hg.below hW))
    have TX := hid (fun v W (hW : Below w.heap.size w W) (hv : NeedsV W v ns) => manText_ok ns h8 hgood v W (hm.below hW) (ht.below hW) (hg.below hW) hv)
    have CK := hid (fun v W (hW : Below w.heap.size w W) (hv : NeedsV W v ns) => manCheck_ok ns h8 hgood v W (hm.below hW) (ht.below hW) (hg.below hW) hv)
    unfold ManYes at MP MQ
    unfold TxOk at TX
    unfold CkOk at CK
    generalize hT : (⟨(writeB (manRows ns)).toArray⟩ : ByteArray) = T at *
    generalize (⟨l.toArray⟩ : ByteArray) = L at *
    generalize hn : ns.length = n at *
    clear hP hm ht hg hgood hlen hT hn
    go_enter Tryz.func8, Tryz.ntmps8
    go_wp2_with fail
    refine MP.out.mono ?_
    rintro e w1 ⟨a, cp, rfl, hb1, hv1⟩
    have A1 := hid (show Below w.heap.size w ((w1.alloc (.cells #[.slice a n cp] 96)).alloc (.cells #[.int .i64 0, .int .i64 0, .int .i64 0] 87)) from below_alloc (below_alloc hb1 _) _)
    have V1 := hid (show NeedsV ((w1.alloc (.cells #[.slice a n cp] 96)).alloc (.cells #[.int .i64 0, .int .i64 0, .int .i64 0] 87)) (.slice a n cp) ns from hv1.below (below_alloc (below_alloc (Below.refl _ _) _) _))
    have e1 : (w1.alloc (.cells #[.slice a n cp] 96)).heap.size = w1.heap.size + 1 := by simp
    have M1 := hid ((Blk.new w1 [.slice a n cp] 96).alloc (.cells #[.int .i64 0, .int .i64 0, .int .i64 0] 87))
    have F1 := hid (Blk.new (w1.alloc (.cells #[.slice a n cp] 96)) [.int .i64 0, .int .i64 0, .int .i64 0] 87)
    rw [e1] at F1
    clear hb1 MP e1 hv1
    go_wp2_with fail
    generalize (w1.alloc (.cells #[.slice a n cp] 96)).alloc (.cells #[.int .i64 0, .int .i64 0, .int .i64 0] 87) = W1 at *
    refine (WA.out W1 (TB.out.1.below A1.out) (TB.out.2.2.below A1.out)).mono ?_
    rintro e w2 ⟨rfl, hb2⟩
    have A2 := hid (below_trans A1.out hb2)
    have V2 := hid (V1.out.below hb2)
    have M2 := hid (M1.out.below hb2)
    have F2 := F1.out.below hb2
    have q0 := F2.cell 0 rfl
    have q1 := F2.cell 1 rfl
    have q2 := F2.cell 2 rfl
    have q3 := F2.lt
    have m0 := M2.out.cell 0 rfl
    have ml := M2.out.lt
    clear hb2 F2 V1 M1 F1 A1
    go_wp2_with fail
    refine (TX.out _ w2 A2.out V2.out).mono ?_
    rintro e w3 ⟨rfl, hb3⟩
    have A3 := hid (below_trans A2.out hb3)
    have V3 := hid (V2.out.below hb3)
    have M3 := hid (M2.out.below hb3)
    clear hb3 q0 q1 q2 q3 m0 ml V2 M2 A2
    go_wp2_with fail
    refine (MQ.out w3 A3.out).mono ?_
    rintro e w4 ⟨a4, cp4, rfl, hb4, hv4⟩
    have A4 := hid (below_trans A3.out hb4)
    have hb5 := below_alloc (below_alloc hb4 (.cells #[.slice a4 n cp4] 96)) (.cells #[.int .i64 0, .int .i64 0, .int .i64 0] 87)
    have A5 := hid (below_trans A3.out hb5)
    have V5 := hid (V3.out.below hb5)
    have M5 := hid (M3.out.below hb5)
    have X5 := hid (show NeedsV ((w4.alloc (.cells #[.slice a4 n cp4] 96)).alloc (.cells #[.int .i64 0, .int .i64 0, .int .i64 0] 87)) (.slice a4 n cp4) ns from hv4.below (below_alloc (below_alloc (Below.refl _ _) _) _))
    have e4 : (w4.alloc (.cells #[.slice a4 n cp4] 96)).heap.size = w4.heap.size + 1 := by simp
    have N5 := hid ((Blk.new w4 [.slice a4 n cp4] 96).alloc (.cells #[.int .i64 0, .int .i64 0, .int .i64 0] 87))
    have G5 := hid (Blk.new (w4.alloc (.cells #[.slice a4 n cp4] 96)) [.int .i64 0, .int .i64 0, .int .i64 0] 87)
    rw [e4] at G5
    have n0 := N5.out.cell 0 rfl
    have nl := N5.out.lt
    clear hb4 hb5 hv4 e4 V3 M3 A3 A4 MQ
    go_wp2_with fail
    generalize (w4.alloc (.cells #[.slice a4 n cp4] 96)).alloc (.cells #[.int .i64 0, .int .i64 0, .int .i64 0] 87) = W5 at *
    refine (TX.out _ W5 A5.out X5.out).mono ?_
    rintro e w6 ⟨rfl, hb6⟩
    have A6 := hid (below_trans A5.out hb6)
    have V6 := hid (V5.out.below hb6)
    have M6 := (M5.out.below hb6).cell 0 rfl
    have ML6 := (M5.out.below hb6).lt
    have G6 := hid (G5.out.below hb6)
    clear hb6 TX V5 M5 X5 N5 G5 A5 n0 nl
    go_wp2_with fail
    refine (CK.out _ w6 A6.out V6.out).mono ?_
    rintro e w7 ⟨rfl, hb7⟩
    have A7 := hid (below_trans A6.out hb7)
    have G7 := G6.out.below hb7
    have g0 := G7.cell 0 rfl
    have g1 := G7.cell 1 rfl
    have g2 := G7.cell 2 rfl
    have g3 := G7.lt
    clear hb7 CK G7 M6 ML6
    go_wp2_with fail
    go_ret
    exact ⟨rfl, A7.out⟩
end Go.Proofs.YtmeaajhongalaaaGreatDoor.Ix
