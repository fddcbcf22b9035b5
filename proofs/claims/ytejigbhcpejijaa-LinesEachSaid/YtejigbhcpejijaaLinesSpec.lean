/-
  LAYER 1, PLAIN MATHEMATICS: what the lines and words of a text are. No program is imported.
-/
import Derived.Laws.Externs
import Derived.Lib.Bytealg
namespace Go.Proofs.Ytejigbhcpejijaa.Ln

def isBl (c : UInt8) : Bool := c == 32 || c == 9
def okB (c : UInt8) : Bool := decide (33 ≤ c.toNat) && decide (c.toNat ≤ 126)
/-- how many of the bytes from that place on are so -/
def run (p : UInt8 → Bool) (l : List UInt8) (a : Nat) : Nat := ((l.drop a).takeWhile p).length

theorem run_le (p : UInt8 → Bool) (l : List UInt8) (a : Nat) (h : a ≤ l.length) : a + run p l a ≤ l.length := by
  unfold run
  have := (List.takeWhile_sublist p (l := l.drop a)).length_le
  rw [List.length_drop] at this
  omega
theorem run_yes {p : UInt8 → Bool} {l : List UInt8} {a : Nat} {c : UInt8} (h : l[a]? = some c) (hp : p c = true) : run p l a = run p l (a + 1) + 1 := by
  unfold run
  have ha := (List.getElem?_eq_some_iff.1 h).1
  rw [List.drop_eq_getElem_cons ha]
  have e : l[a] = c := (List.getElem?_eq_some_iff.1 h).2
  rw [e, List.takeWhile_cons, hp]
  rfl
theorem run_no {p : UInt8 → Bool} {l : List UInt8} {a : Nat} {c : UInt8} (h : l[a]? = some c) (hp : p c = false) : run p l a = 0 := by
  unfold run
  have ha := (List.getElem?_eq_some_iff.1 h).1
  rw [List.drop_eq_getElem_cons ha]
  have e : l[a] = c := (List.getElem?_eq_some_iff.1 h).2
  rw [e, List.takeWhile_cons, hp]
  rfl
theorem run_end {p : UInt8 → Bool} {l : List UInt8} {a : Nat} (h : l.length ≤ a) : run p l a = 0 := by
  unfold run; rw [List.drop_eq_nil_of_le h]; rfl
/-- behind the run stands one that isn't so, or nothing -/
theorem run_stop {p : UInt8 → Bool} {l : List UInt8} : ∀ {a : Nat}, ∀ {c}, l[a + run p l a]? = some c → p c = false := by
  intro a c h
  unfold run at h
  rw [← List.getElem?_drop] at h
  generalize l.drop a = m at h
  induction m with
  | nil => cases h
  | cons x m ih =>
    rw [List.takeWhile_cons] at h
    cases hx : p x
    · rw [hx] at h
      simp at h
      rw [← h]; exact hx
    · rw [hx] at h
      simp at h
      exact ih h
theorem run_mem {p : UInt8 → Bool} {l : List UInt8} : ∀ {a i : Nat}, i < run p l a → ∃ c, l[a + i]? = some c ∧ p c = true := by
  intro a i h
  unfold run at h
  rw [← List.getElem?_drop]
  generalize l.drop a = m at h
  induction m generalizing i with
  | nil => cases h
  | cons x m ih =>
    rw [List.takeWhile_cons] at h
    cases hx : p x
    · rw [hx] at h
      simp at h
    · rw [hx] at h
      simp at h
      cases i with
      | zero => exact ⟨x, rfl, hx⟩
      | succ i => exact ih (by omega)
theorem run_add {p : UInt8 → Bool} {l : List UInt8} {a : Nat} : ∀ {i : Nat}, i ≤ run p l a → run p l a = i + run p l (a + i) := by
  intro i
  induction i with
  | zero => intro _; simp
  | succ i ih =>
    intro h
    have := ih (by omega)
    obtain ⟨c, hc, hp⟩ := run_mem (p := p) (l := l) (a := a) (i := i) (by omega)
    rw [run_yes hc hp] at this
    rw [show a + (i + 1) = a + i + 1 from by omega]
    omega

abbrev Words := List (List UInt8)
abbrev SRes := Except (Nat × Nat) (Words × List Nat)

def word (l : List UInt8) (b t : Nat) : List UInt8 := (l.drop b).take (t - b)
theorem word_len {l : List UInt8} {b t : Nat} (h : b ≤ t) (h' : t ≤ l.length) : (word l b t).length = t - b := by
  unfold word; rw [List.length_take, List.length_drop]; omega

/-- a line's words from a place on, behind those that are told already: or an error, and the byte -/
def sp (l : List UInt8) : Nat → Nat → Words → List Nat → SRes
  | 0, _, ws, cs => .ok (ws, cs)
  | f + 1, a, ws, cs =>
    let b := a + run isBl l a
    let t := b + run (fun c => !isBl c) l b
    if l.length ≤ b then .ok (ws, cs)
    else if 20 ≤ ws.length ∨ 80 < t - b then .error (2, b + 1)
    else if run okB (word l b t) 0 < t - b then .error (1, b + run okB (word l b t) 0 + 1)
    else sp l f t (ws ++ [word l b t]) (cs ++ [b + 1])

theorem tok_pos {l : List UInt8} {a : Nat} (h : a + run isBl l a < l.length) : 0 < run (fun c => !isBl c) l (a + run isBl l a) := by
  have e : l[a + run isBl l a]? = some l[a + run isBl l a] := List.getElem?_eq_getElem h
  have := run_stop (p := isBl) e
  rw [run_yes (p := fun c => !isBl c) e (by simp [this])]
  omega

theorem sp_fuel (l : List UInt8) : ∀ (f g a : Nat) (ws : Words) (cs : List Nat), l.length + 1 - a ≤ f → l.length + 1 - a ≤ g → a ≤ l.length → sp l f a ws cs = sp l g a ws cs := by
  intro f
  induction f with
  | zero => intro g a ws cs h _ h'; omega
  | succ f ih =>
    intro g a ws cs h1 h2 h3
    cases g with
    | zero => omega
    | succ g =>
      unfold sp
      dsimp only
      split
      · rfl
      · rename_i hb
        split
        · rfl
        · split
          · rfl
          · have hp := tok_pos (l := l) (a := a) (by omega)
            have hl := run_le (fun c => !isBl c) l (a + run isBl l a) (by omega)
            exact ih g _ _ _ (by omega) (by omega) hl

/-- from a place on, with as much fuel as it needs -/
def spC (l : List UInt8) (a : Nat) (ws : Words) (cs : List Nat) : SRes := sp l (l.length + 1 - a) a ws cs

theorem spC_eq (l : List UInt8) (a : Nat) (ws : Words) (cs : List Nat) (h : a ≤ l.length) :
    spC l a ws cs =
      (let b := a + run isBl l a
       let t := b + run (fun c => !isBl c) l b
       if l.length ≤ b then .ok (ws, cs)
       else if 20 ≤ ws.length ∨ 80 < t - b then .error (2, b + 1)
       else if run okB (word l b t) 0 < t - b then .error (1, b + run okB (word l b t) 0 + 1)
       else spC l t (ws ++ [word l b t]) (cs ++ [b + 1])) := by
  unfold spC
  rw [show l.length + 1 - a = (l.length - a) + 1 from by omega]
  conv => lhs; unfold sp
  dsimp only
  split
  · rfl
  · split
    · rfl
    · split
      · rfl
      · have hp := tok_pos (l := l) (a := a) (by omega)
        have hl := run_le (fun c => !isBl c) l (a + run isBl l a) (by omega)
        exact sp_fuel l _ _ _ _ _ (by omega) (by omega) hl

/-- at a blank the next place serves as well -/
theorem spC_blank (l : List UInt8) (a : Nat) (ws : Words) (cs : List Nat) {c : UInt8} (hc : l[a]? = some c) (hb : isBl c = true) : spC l a ws cs = spC l (a + 1) ws cs := by
  have ha := (List.getElem?_eq_some_iff.1 hc).1
  rw [spC_eq l a _ _ (by omega), spC_eq l (a + 1) _ _ (by omega)]
  have := run_yes (p := isBl) hc hb
  have e : a + run isBl l a = a + 1 + run isBl l (a + 1) := by omega
  simp only [e]

theorem spC_end {l : List UInt8} {a : Nat} {ws : Words} {cs : List Nat} (h : a ≤ l.length) (hb : l.length ≤ a + run isBl l a) : spC l a ws cs = .ok (ws, cs) := by
  rw [spC_eq l a _ _ h]; dsimp only; rw [if_pos hb]
theorem spC_bound {l : List UInt8} {a b t : Nat} {ws : Words} {cs : List Nat} (h : a ≤ l.length) (eb : b = a + run isBl l a) (et : t = b + run (fun c => !isBl c) l b) (hb : b < l.length) (hx : 20 ≤ ws.length ∨ 80 < t - b) :
    spC l a ws cs = .error (2, b + 1) := by
  subst eb; subst et
  rw [spC_eq l a _ _ h]; dsimp only; rw [if_neg (by omega), if_pos hx]
theorem spC_odd {l : List UInt8} {a b t : Nat} {ws : Words} {cs : List Nat} (h : a ≤ l.length) (eb : b = a + run isBl l a) (et : t = b + run (fun c => !isBl c) l b) (hb : b < l.length) (hx : ¬ (20 ≤ ws.length ∨ 80 < t - b)) (hy : run okB (word l b t) 0 < t - b) :
    spC l a ws cs = .error (1, b + run okB (word l b t) 0 + 1) := by
  subst eb; subst et
  rw [spC_eq l a _ _ h]; dsimp only; rw [if_neg (by omega), if_neg hx, if_pos hy]
theorem spC_word {l : List UInt8} {a b t : Nat} {ws : Words} {cs : List Nat} (h : a ≤ l.length) (eb : b = a + run isBl l a) (et : t = b + run (fun c => !isBl c) l b) (hb : b < l.length) (hx : ¬ (20 ≤ ws.length ∨ 80 < t - b)) (hy : ¬ run okB (word l b t) 0 < t - b) :
    spC l a ws cs = spC l t (ws ++ [word l b t]) (cs ++ [b + 1]) := by
  subst eb; subst et
  rw [spC_eq l a _ _ h]; dsimp only; rw [if_neg (by omega), if_neg hx, if_neg hy]

theorem sp_code (l : List UInt8) : ∀ (f a : Nat) (ws : Words) (cs : List Nat) {e col : Nat}, sp l f a ws cs = .error (e, col) → e = 1 ∨ e = 2 := by
  intro f
  induction f with
  | zero => intro a ws cs e col h; cases h
  | succ f ih =>
    intro a ws cs e col h
    unfold sp at h
    dsimp only at h
    split at h
    · cases h
    · split at h
      · cases h; exact .inr rfl
      · split at h
        · cases h; exact .inl rfl
        · exact ih _ _ _ h
theorem spC_code {l : List UInt8} {a : Nat} {ws : Words} {cs : List Nat} {e col : Nat} (h : spC l a ws cs = .error (e, col)) : e = 1 ∨ e = 2 := sp_code l _ _ _ _ h

/-- what stands ahead of the first such byte; what stands behind it -/
def fore (c : UInt8) (l : List UInt8) : List UInt8 := l.takeWhile (· != c)
def aft (c : UInt8) (l : List UInt8) : List UInt8 := (l.dropWhile (· != c)).drop 1
theorem aft_lt {c : UInt8} {l : List UInt8} (h : l ≠ []) : (aft c l).length < l.length := by
  unfold aft
  have h1 : (l.dropWhile (· != c)).length ≤ l.length := by
    have := congrArg List.length (List.takeWhile_append_dropWhile (p := (· != c)) (l := l))
    rw [List.length_append] at this; omega
  have h2 : 0 < l.length := List.length_pos_iff.2 h
  rw [List.length_drop]; omega

abbrev LineS := Nat × Words × List Nat
abbrev RRes := Except (Nat × Nat × Nat) (List LineS)

def lineOf (l : List UInt8) : SRes := spC (fore 35 l) 0 [] []

/-- a text's lines from its rest on, behind those that are told already -/
def rd (most : Nat) : Nat → List UInt8 → Nat → List LineS → RRes
  | 0, _, _, out => .ok out
  | f + 1, l, no, out =>
    if l = [] then .ok out
    else if most < no then .error (2, no, 0)
    else match lineOf (fore 10 l) with
      | .error (e, col) => .error (e, no, col)
      | .ok (ws, cs) => rd most f (aft 10 l) (no + 1) (if ws = [] then out else out ++ [(no, ws, cs)])

theorem rd_fuel (most : Nat) : ∀ (f g : Nat) (l : List UInt8) (no : Nat) (out : List LineS), l.length < f → l.length < g → rd most f l no out = rd most g l no out := by
  intro f
  induction f with
  | zero => intro g l no out h; omega
  | succ f ih =>
    intro g l no out h1 h2
    cases g with
    | zero => omega
    | succ g =>
      unfold rd
      split
      · rfl
      · rename_i hn
        split
        · rfl
        · split
          · rfl
          · have := aft_lt (c := 10) hn
            exact ih g _ _ _ (by omega) (by omega)
def rdC (most : Nat) (l : List UInt8) (no : Nat) (out : List LineS) : RRes := rd most (l.length + 1) l no out
theorem rdC_nil (most no : Nat) (out : List LineS) : rdC most [] no out = .ok out := rfl
theorem rdC_most {most no : Nat} {l : List UInt8} {out : List LineS} (h : l ≠ []) (hm : most < no) : rdC most l no out = .error (2, no, 0) := by
  unfold rdC rd; rw [if_neg h, if_pos hm]
theorem rdC_err {most no : Nat} {l : List UInt8} {out : List LineS} {e col : Nat} (h : l ≠ []) (hm : ¬ most < no) (hl : lineOf (fore 10 l) = .error (e, col)) : rdC most l no out = .error (e, no, col) := by
  unfold rdC rd; rw [if_neg h, if_neg hm, hl]
theorem rdC_ok {most no : Nat} {l : List UInt8} {out : List LineS} {ws : Words} {cs : List Nat} (h : l ≠ []) (hm : ¬ most < no) (hl : lineOf (fore 10 l) = .ok (ws, cs)) :
    rdC most l no out = rdC most (aft 10 l) (no + 1) (if ws = [] then out else out ++ [(no, ws, cs)]) := by
  unfold rdC
  conv => lhs; unfold rd
  rw [if_neg h, if_neg hm, hl]
  have := aft_lt (c := 10) h
  exact rd_fuel most _ _ _ _ _ (by omega) (by omega)

theorem rd_most (m n : Nat) : ∀ (f : Nat) (l : List UInt8) (no : Nat) (out : List LineS), no + l.length ≤ m + 1 → no + l.length ≤ n + 1 → rd m f l no out = rd n f l no out := by
  intro f
  induction f with
  | zero => intro l no out _ _; rfl
  | succ f ih =>
    intro l no out h1 h2
    unfold rd
    split
    · rfl
    · rename_i hn
      have hp := List.length_pos_iff.2 hn
      rw [if_neg (by omega), if_neg (by omega)]
      split
      · rfl
      · have := aft_lt (c := 10) hn
        exact ih _ _ _ (by omega) (by omega)
theorem rdC_any (l : List UInt8) : rdC (l.length + 1) l 1 [] = rdC l.length l 1 [] := rd_most _ _ _ _ _ _ (by omega) (by omega)

/-- Read -/
def readS (l : List UInt8) : RRes := if 20000 < l.length then .error (2, 0, 0) else rdC 800 l 1 []
def readAnyS (l : List UInt8) : RRes := rdC l.length l 1 []

end Go.Proofs.Ytejigbhcpejijaa.Ln
