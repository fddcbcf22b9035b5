/-
  LAYER 1: what a line of words comes to that is laid out of gaps and words; a text of such lines. No program is imported.
-/
import Derived.Test.YtejigbhcpejijaaLinesSpec
namespace Go.Proofs.Ytejigbhcpejijaa.Ln

theorem okB_bl {c : UInt8} (h : okB c = true) : isBl c = false := by
  unfold okB at h
  unfold isBl
  simp only [Bool.and_eq_true, decide_eq_true_eq] at h
  rw [Bool.or_eq_false_iff, beq_eq_false_iff_ne, beq_eq_false_iff_ne]
  constructor
  · rintro rfl; exact absurd h.1 (by decide)
  · rintro rfl; exact absurd h.1 (by decide)

/-- a gap and a word -/
abbrev Piece := List UInt8 × List UInt8
def Piece.ok (p : Piece) : Prop := (∀ c, c ∈ p.1 → isBl c = true) ∧ p.2 ≠ [] ∧ p.2.length ≤ 80 ∧ ∀ c, c ∈ p.2 → okB c = true
def txt (ps : List Piece) : List UInt8 := ps.flatMap fun p => p.1 ++ p.2
def colsOf : Nat → List Piece → List Nat
  | _, [] => []
  | a, p :: ps => (a + p.1.length + 1) :: colsOf (a + p.1.length + p.2.length) ps

theorem colsOf_len : ∀ (ps : List Piece) (a : Nat), (colsOf a ps).length = ps.length := by
  intro ps
  induction ps with
  | nil => intro a; rfl
  | cons p ps ih => intro a; simp [colsOf, ih]

theorem takeWhile_app {p : UInt8 → Bool} : ∀ (g r : List UInt8), (∀ c, c ∈ g → p c = true) → (∀ c, r.head? = some c → p c = false) → (g ++ r).takeWhile p = g := by
  intro g
  induction g with
  | nil =>
    intro r _ hr
    cases r with
    | nil => rfl
    | cons c r => simp [hr c rfl]
  | cons c g ih =>
    intro r hg hr
    simp [hg c (by simp), ih r (fun c h => hg c (by simp [h])) hr]

theorem drop_add_app {l g r : List UInt8} {a : Nat} (h : l.drop a = g ++ r) : l.drop (a + g.length) = r := by
  rw [← List.drop_drop, h]; simp

theorem txt_head {ps : List Piece} (hne : ∀ p, ps.head? = some p → p.1 ≠ []) (hok : ∀ p, p ∈ ps → Piece.ok p) {tail : List UInt8} (ht : ∀ c, c ∈ tail → isBl c = true) :
    ∀ c, (txt ps ++ tail).head? = some c → isBl c = true := by
  intro c hc
  cases ps with
  | nil =>
    cases tail with
    | nil => cases hc
    | cons d tail => simp [txt] at hc; subst hc; exact ht _ (by simp)
  | cons p ps =>
    obtain ⟨g, w⟩ := p
    cases g with
    | nil => exact absurd rfl (hne _ rfl)
    | cons d g =>
      simp [txt] at hc
      subst hc
      exact (hok (d :: g, w) (by simp)).1 d (by simp)

theorem spC_pieces {tail : List UInt8} (ht : ∀ c, c ∈ tail → isBl c = true) : ∀ (ps : List Piece) (l : List UInt8) (a : Nat) (ws : Words) (cs : List Nat), a ≤ l.length → l.drop a = txt ps ++ tail →
    (∀ p, p ∈ ps → Piece.ok p) → (∀ p, p ∈ ps.tail → p.1 ≠ []) → ws.length + ps.length ≤ 20 → spC l a ws cs = .ok (ws ++ ps.map (·.2), cs ++ colsOf a ps) := by
  intro ps
  induction ps with
  | nil =>
    intro l a ws cs ha hd _ _ _
    simp only [txt, List.flatMap_nil, List.nil_append] at hd
    have hr : run isBl l a = tail.length := by
      unfold run
      rw [hd]
      have := takeWhile_app (p := isBl) tail [] ht (by intro c h; cases h)
      simp only [List.append_nil] at this
      rw [this]
    have hl : tail.length = l.length - a := by rw [← hd, List.length_drop]
    rw [spC_end ha (by omega)]
    simp [colsOf]
  | cons p ps ih =>
    intro l a ws cs ha hd hok hg hn
    obtain ⟨g, w⟩ := p
    obtain ⟨h1, h2, h3, h4⟩ := hok (g, w) (by simp)
    dsimp only at h1 h2 h3 h4
    have hd' : l.drop a = g ++ (w ++ (txt ps ++ tail)) := by rw [hd]; simp [txt]
    have hlen : l.length - a = g.length + (w.length + (txt ps ++ tail).length) := by rw [← List.length_drop, hd', List.length_append, List.length_append]
    have hw0 : 0 < w.length := List.length_pos_iff.2 h2
    have hb0 : run isBl l a = g.length := by
      unfold run
      rw [hd', takeWhile_app g _ h1]
      intro c hc
      cases w with
      | nil => exact absurd rfl h2
      | cons d w => simp at hc; subst hc; exact okB_bl (h4 _ (by simp))
    have hdb := drop_add_app hd'
    have ht0 : run (fun c => !isBl c) l (a + g.length) = w.length := by
      unfold run
      rw [hdb, takeWhile_app w _ (fun c hc => by rw [okB_bl (h4 c hc)]; rfl)]
      intro c hc
      rw [txt_head (fun p hp => hg p (by cases ps with | nil => cases hp | cons q ps => simp at hp; subst hp; simp)) (fun p hp => hok p (by simp [hp])) ht c hc]; rfl
    have hword : word l (a + g.length) (a + g.length + w.length) = w := by
      unfold word
      rw [hdb]
      simp
    have hrun : run okB w 0 = w.length := by
      unfold run
      have := takeWhile_app (p := okB) w [] h4 (by intro c h; cases h)
      simp only [List.append_nil] at this
      simp [this]
    rw [spC_word (b := a + g.length) (t := a + g.length + w.length) ha (by rw [hb0]) (by rw [ht0]) (by omega) (by simp only [List.length_cons] at hn; omega) (by rw [hword, hrun]; omega), hword]
    rw [ih l (a + g.length + w.length) _ _ (by omega) (drop_add_app hdb) (fun p hp => hok p (by simp [hp])) (fun p hp => hg p (by cases ps with | nil => cases hp | cons q ps => simp at hp ⊢; exact .inr hp)) (by simp at hn ⊢; omega)]
    simp [colsOf]

theorem txt_no {c : UInt8} (hb : isBl c = false) {ps : List Piece} (hok : ∀ p, p ∈ ps → Piece.ok p) (hw : ∀ p, p ∈ ps → c ∉ p.2) : c ∉ txt ps := by
  intro h
  unfold txt at h
  rw [List.mem_flatMap] at h
  obtain ⟨p, hp, hc⟩ := h
  rcases List.mem_append.1 hc with h' | h'
  · rw [(hok p hp).1 c h'] at hb; cases hb
  · exact hw p hp h'

theorem fore_cut {c : UInt8} {l r : List UInt8} (h : c ∉ l) : fore c (l ++ c :: r) = l := by
  unfold fore
  refine takeWhile_app l _ (fun d hd => ?_) (fun d hd => ?_)
  · simp only [bne_iff_ne, ne_eq]; rintro rfl; exact h hd
  · simp at hd; subst hd; simp
theorem fore_none {c : UInt8} {l : List UInt8} (h : c ∉ l) : fore c l = l := by
  unfold fore
  have := takeWhile_app (p := (· != c)) l [] (fun d hd => by simp only [bne_iff_ne, ne_eq]; rintro rfl; exact h hd) (by intro c h; cases h)
  simpa using this
theorem aft_cut {c : UInt8} : ∀ {l r : List UInt8}, c ∉ l → aft c (l ++ c :: r) = r := by
  intro l
  induction l with
  | nil => intro r _; simp [aft]
  | cons d l ih =>
    intro r h
    have hd : (d != c) = true := by simp only [bne_iff_ne, ne_eq]; rintro rfl; exact h (by simp)
    have := ih (r := r) (fun h' => h (by simp [h']))
    unfold aft at *
    simp [hd, this]

end Go.Proofs.Ytejigbhcpejijaa.Ln
