/-
  LAYER 5, PLAIN MATHEMATICS: names, patterns, what fits and how much that says. No program is imported.
-/
import Derived.Laws.Externs
import Derived.Lib.Bytealg
namespace Go.Proofs.YtnmmahipbjigpaaDoor.Nm

/-- what stands ahead of the first such byte; what stands behind it -/
def fore (c : UInt8) (l : List UInt8) : List UInt8 := l.takeWhile (· != c)
def aft (c : UInt8) (l : List UInt8) : List UInt8 := (l.dropWhile (· != c)).drop 1

theorem fore_self {c : UInt8} : ∀ {l : List UInt8}, c ∉ l → fore c l = l := by
  intro l
  induction l with
  | nil => intro _; rfl
  | cons x l ih =>
    intro h
    have hx : (x != c) = true := by simp; intro e; exact h (by simp [e])
    unfold fore at *
    rw [List.takeWhile_cons, hx, if_pos rfl, ih (fun k => h (List.mem_cons_of_mem _ k))]
theorem fore_cut {c : UInt8} : ∀ {l r : List UInt8}, c ∉ l → fore c (l ++ c :: r) = l ∧ aft c (l ++ c :: r) = r := by
  intro l
  induction l with
  | nil => intro r _; exact ⟨by simp [fore], by simp [aft]⟩
  | cons x l ih =>
    intro r h
    have hx : (x != c) = true := by simp; intro e; exact h (by simp [e])
    have := ih (r := r) (fun k => h (List.mem_cons_of_mem _ k))
    unfold fore aft at *
    rw [List.cons_append, List.takeWhile_cons, List.dropWhile_cons, hx]
    exact ⟨by rw [if_pos rfl, this.1], this.2⟩
theorem fore_no (c : UInt8) (l : List UInt8) : c ∉ fore c l := by
  induction l with
  | nil => simp [fore]
  | cons x l ih =>
    unfold fore at *
    rw [List.takeWhile_cons]
    by_cases h : (x != c) = true
    · rw [h, if_pos rfl, List.mem_cons, not_or]
      exact ⟨by simp at h; exact fun e => h e.symm, ih⟩
    · rw [if_neg h]; simp
theorem fore_split {c : UInt8} : ∀ {l : List UInt8}, (fore c l).length < l.length → l = fore c l ++ c :: aft c l := by
  intro l
  induction l with
  | nil => intro h; simp at h
  | cons x l ih =>
    intro h
    by_cases hx : x = c
    · subst hx; simp [fore, aft]
    · have hx' : (x != c) = true := by simpa using hx
      have e1 : fore c (x :: l) = x :: fore c l := by unfold fore; rw [List.takeWhile_cons, hx', if_pos rfl]
      have e2 : aft c (x :: l) = aft c l := by unfold aft; rw [List.dropWhile_cons, hx', if_pos rfl]
      rw [e1, List.length_cons, List.length_cons] at h
      rw [e1, e2, List.cons_append, ← ih (by omega)]
theorem fore_le (c : UInt8) (l : List UInt8) : (fore c l).length ≤ l.length := (List.takeWhile_sublist _).length_le

def isL (c : UInt8) : Bool := decide (97 ≤ c.toNat) && decide (c.toNat ≤ 122)
def okN (c : UInt8) : Bool := isL c || (decide (48 ≤ c.toNat) && decide (c.toNat ≤ 57)) || (c == 45)
def headL (l : List UInt8) : Bool := match l with | [] => true | c :: _ => isL c
/-- all bytes of names, no more than twenty, the first one a letter -/
def letters (l : List UInt8) : Bool := decide (l.length ≤ 20) && headL l && l.all okN
def lastIs (c : UInt8) (l : List UInt8) : Bool := l.getLast? == some c
def plain (l : List UInt8) : Bool := !l.isEmpty && letters l && !lastIs 45 l
/-- begins it with @, and is there a stroke? -/
def scp (l : List UInt8) : Bool := (l.head? == some 64) && decide ((fore 47 l).length < l.length)
def scopeV (l : List UInt8) : List UInt8 := if scp l then (fore 47 l).drop 1 else []
def restV (l : List UInt8) : List UInt8 := if scp l then aft 47 l else l
def checkV (l : List UInt8) : Bool := if scp l then plain ((fore 47 l).drop 1) && plain (aft 47 l) else plain l
def star (l : List UInt8) : Bool := lastIs 42 l
def openG (l : List UInt8) : Bool := if scp l then plain ((fore 47 l).drop 1) && letters (aft 47 l) else letters l
def globV (l : List UInt8) : Bool := if star l then openG l.dropLast else checkV l
def matchV (g s : List UInt8) : Bool := globV g && checkV s && (if star g then g.dropLast.isPrefixOf s else g == s)
def weightV (g : List UInt8) : Int := if globV g then (if star g then 2 * ((g.length : Int) - 1) else 2 * (g.length : Int) + 1) else -1

/-- which of the first k patterns fits and says most: its place, or -1 -/
def longV (s : List UInt8) (gs : List (List UInt8)) : Nat → Int
  | 0 => -1
  | k + 1 => let at' := longV s gs k
    if matchV (gs.getD k []) s && (decide (at' < 0) || decide (weightV (gs.getD k []) > weightV (gs.getD at'.toNat []))) then (k : Int) else at'

theorem longV_lt (s : List UInt8) (gs : List (List UInt8)) : ∀ k, -1 ≤ longV s gs k ∧ longV s gs k < k := by
  intro k
  induction k with
  | zero => simp [longV]
  | succ k ih =>
    unfold longV
    dsimp only
    split <;> omega
theorem longV_fits (s : List UInt8) (gs : List (List UInt8)) : ∀ k, 0 ≤ longV s gs k → matchV (gs.getD (longV s gs k).toNat []) s = true := by
  intro k
  induction k with
  | zero => simp [longV]
  | succ k ih =>
    unfold longV
    dsimp only
    split
    · rename_i h
      intro _
      simp only [Bool.and_eq_true] at h
      simpa using h.1
    · exact ih

theorem letters_nil : letters [] = true := rfl
theorem head64_plain {l : List UInt8} (h : l.head? = some 64) : letters l = false := by
  cases l with
  | nil => cases h
  | cons x l =>
    cases h
    simp [letters, headL, isL]
theorem plain_letters {l : List UInt8} (h : plain l = true) : letters l = true := by
  unfold plain at h
  simp only [Bool.and_eq_true] at h
  exact h.1.2
theorem plain_ne {l : List UInt8} (h : plain l = true) : l ≠ [] := by
  rintro rfl; simp [plain] at h
theorem plain_of {l : List UInt8} (h : letters l = false) : plain l = false := by
  unfold plain; rw [h]; simp
theorem letters_all {l : List UInt8} (h : letters l = true) : ∀ c, c ∈ l → okN c = true := by
  unfold letters at h
  simp only [Bool.and_eq_true] at h
  exact List.all_eq_true.1 h.2
theorem letters_len {l : List UInt8} (h : letters l = true) : l.length ≤ 20 := by
  unfold letters at h
  simp only [Bool.and_eq_true, decide_eq_true_eq] at h
  exact h.1.1
theorem okN_ne {c d : UInt8} (h : okN c = true) (hd : okN d = false) : c ≠ d := by
  rintro rfl; rw [h] at hd; cases hd

theorem getLast_split {l : List UInt8} {c : UInt8} (h : lastIs c l = true) : l = l.dropLast ++ [c] := by
  unfold lastIs at h
  have h : l.getLast? = some c := by simpa using h
  obtain ⟨ys, rfl⟩ := List.getLast?_eq_some_iff.1 h
  simp
theorem lastIs_append (l : List UInt8) (c d : UInt8) : lastIs c (l ++ [d]) = (d == c) := by
  unfold lastIs; simp
theorem lastIs_mem {l : List UInt8} {c : UInt8} (h : lastIs c l = true) : c ∈ l := by
  rw [getLast_split h]; simp

/-- a pattern without a star that a name fits is that name -/
theorem star_check {s : List UInt8} (h : checkV s = true) : star s = false := by
  cases hs : star s
  · rfl
  · exfalso
    unfold checkV at h
    have hm := getLast_split hs
    split at h
    · rename_i hsc
      simp only [Bool.and_eq_true] at h
      have hsc' := hsc
      unfold scp at hsc'
      simp only [Bool.and_eq_true, decide_eq_true_eq] at hsc'
      have he := fore_split hsc'.2
      have hl : lastIs 42 (aft 47 s) = true := by
        have hne := plain_ne h.2
        unfold star lastIs at hs
        rw [he] at hs
        unfold lastIs
        cases ha : aft 47 s with
        | nil => exact absurd ha hne
        | cons x t => rw [ha] at hs; simpa using hs
      have := letters_all (plain_letters h.2) 42 (lastIs_mem hl)
      exact absurd this (by decide)
    · have := letters_all (plain_letters h) 42 (lastIs_mem hs)
      exact absurd this (by decide)
theorem match_self {s : List UInt8} (h : checkV s = true) : matchV s s = true := by
  unfold matchV globV
  rw [star_check h]; simp [h]
theorem match_all {s : List UInt8} (h : checkV s = true) : matchV [42] s = true := by
  unfold matchV
  rw [h]
  have h1 : globV [42] = true := by decide
  have h2 : star [42] = true := by decide
  rw [h1, h2]; rfl
theorem match_front {s : List UInt8} (h : checkV s = true) (n : Nat) : matchV (s.take n ++ [42]) s = globV (s.take n ++ [42]) := by
  unfold matchV
  have h2 : star (s.take n ++ [42]) = true := by unfold star; rw [lastIs_append]; rfl
  rw [h, h2, if_pos rfl, Bool.and_true, List.dropLast_concat]
  rw [show (s.take n).isPrefixOf s = true from List.isPrefixOf_iff_prefix.2 (List.take_prefix n s), Bool.and_true]

theorem scp_split {s : List UInt8} (h : scp s = true) : s = 64 :: ((fore 47 s).drop 1 ++ 47 :: aft 47 s) ∧ 47 ∉ (fore 47 s).drop 1 ∧ 64 :: (fore 47 s).drop 1 = fore 47 s := by
  unfold scp at h
  simp only [Bool.and_eq_true, decide_eq_true_eq] at h
  have he := fore_split h.2
  have hn := fore_no 47 s
  cases hf : fore 47 s with
  | nil =>
    rw [hf, List.nil_append] at he
    rw [he] at h; simp at h
  | cons x t =>
    rw [hf] at he hn
    have : x = 64 := by
      rw [he] at h; simpa using h.1
    subst this
    refine ⟨?_, ?_, rfl⟩
    · simpa using he
    · simp; intro hm; exact hn (List.mem_cons_of_mem _ hm)

/-- a scoped name fits all of its scope -/
theorem match_scope {s : List UInt8} (h : checkV s = true) (hs : scp s = true) : matchV (64 :: (scopeV s ++ [47, 42])) s = true := by
  obtain ⟨h1, h2, h3⟩ := scp_split hs
  have hc := h
  unfold checkV at hc
  rw [if_pos hs, Bool.and_eq_true] at hc
  unfold scopeV
  rw [if_pos hs]
  generalize hA : (fore 47 s).drop 1 = A at *
  have hstar : star (64 :: (A ++ [47, 42])) = true := by
    rw [show (64 :: (A ++ [47, 42]) : List UInt8) = (64 :: (A ++ [47])) ++ [42] from by simp]
    unfold star; rw [lastIs_append]; rfl
  have hdl : (64 :: (A ++ [47, 42]) : List UInt8).dropLast = 64 :: (A ++ [47]) := by
    rw [show (64 :: (A ++ [47, 42]) : List UInt8) = (64 :: (A ++ [47])) ++ [42] from by simp, List.dropLast_concat]
  have hA' : (47 : UInt8) ∉ (64 :: A : List UInt8) := by
    simp [h2]
  have hcut := fore_cut (c := 47) (l := 64 :: A) (r := []) hA'
  have hsc : scp (64 :: (A ++ [47])) = true := by
    unfold scp
    rw [show (64 :: (A ++ [47]) : List UInt8) = (64 :: A) ++ 47 :: [] from rfl, hcut.1]
    simp
  have hog : openG (64 :: (A ++ [47])) = true := by
    unfold openG
    rw [if_pos hsc, show (64 :: (A ++ [47]) : List UInt8) = (64 :: A) ++ 47 :: [] from rfl, hcut.1, hcut.2]
    simp [hc.1, letters_nil]
  have hpre : (64 :: (A ++ [47]) : List UInt8).isPrefixOf s = true := by
    apply List.isPrefixOf_iff_prefix.2
    rw [h1]
    exact ⟨aft 47 s, by simp⟩
  unfold matchV
  rw [h, hstar, if_pos rfl, hdl, hpre]
  unfold globV
  rw [hstar, if_pos rfl, hdl, hog]; rfl

theorem weight_rank {g h s : List UInt8} (hg : matchV g s = true) (hh : matchV h s = true) (hne : g ≠ h) : weightV g ≠ weightV h := by
  unfold matchV at hg hh
  simp only [Bool.and_eq_true] at hg hh
  obtain ⟨⟨a1, a2⟩, a3⟩ := hg
  obtain ⟨⟨b1, _⟩, b3⟩ := hh
  unfold weightV
  rw [if_pos a1, if_pos b1]
  cases sg : star g <;> cases sh : star h
  · rw [sg] at a3; rw [sh] at b3
    have e1 : g = s := by simpa using a3
    have e2 : h = s := by simpa using b3
    exact absurd (e1.trans e2.symm) hne
  · simp only [Bool.false_eq_true, if_false, if_true]; omega
  · simp only [Bool.false_eq_true, if_false, if_true]; omega
  · rw [sg, if_pos rfl] at a3; rw [sh, if_pos rfl] at b3
    simp only [if_true]
    intro hw
    apply hne
    have p1 := List.prefix_iff_eq_take.1 (List.isPrefixOf_iff_prefix.1 a3)
    have p2 := List.prefix_iff_eq_take.1 (List.isPrefixOf_iff_prefix.1 b3)
    have l1 : g.length ≠ 0 := by intro e; have := List.eq_nil_of_length_eq_zero e; subst this; simp [star, lastIs] at sg
    have l2 : h.length ≠ 0 := by intro e; have := List.eq_nil_of_length_eq_zero e; subst this; simp [star, lastIs] at sh
    have hl : g.dropLast.length = h.dropLast.length := by simp; omega
    rw [getLast_split sg, getLast_split sh, p1, p2, hl]

theorem check_len {s : List UInt8} (h : checkV s = true) : s.length ≤ 42 := by
  unfold checkV at h
  split at h
  · rename_i hs
    obtain ⟨h1, _, _⟩ := scp_split hs
    rw [Bool.and_eq_true] at h
    have e := congrArg List.length h1
    have p := letters_len (plain_letters h.1)
    have q := letters_len (plain_letters h.2)
    rw [List.length_cons, List.length_append, List.length_cons] at e
    omega
  · have := letters_len (plain_letters h); omega
theorem glob_len {s : List UInt8} (h : globV s = true) : s.length ≤ 43 := by
  unfold globV at h
  split at h
  · rename_i hst
    have e := congrArg List.length (getLast_split hst)
    rw [List.length_append] at e
    unfold openG at h
    split at h
    · rename_i hs
      obtain ⟨h1, _, _⟩ := scp_split hs
      rw [Bool.and_eq_true] at h
      have e2 := congrArg List.length h1
      have p := letters_len (plain_letters h.1)
      have q := letters_len h.2
      rw [List.length_cons, List.length_append, List.length_cons] at e2
      simp only [List.length_cons, List.length_nil] at e; omega
    · have := letters_len h; simp only [List.length_cons, List.length_nil] at e; omega
  · have := check_len h; omega
theorem weight_pos {g : List UInt8} (h : globV g = true) : 0 ≤ weightV g := by
  unfold weightV
  rw [if_pos h]
  split
  · rename_i hs
    have e := congrArg List.length (getLast_split hs)
    rw [List.length_append] at e
    simp at e; omega
  · omega
theorem weight_max (g : List UInt8) : weightV g ≤ 87 := by
  unfold weightV
  split
  · rename_i h
    have := glob_len h
    split <;> omega
  · omega

end Go.Proofs.YtnmmahipbjigpaaDoor.Nm
