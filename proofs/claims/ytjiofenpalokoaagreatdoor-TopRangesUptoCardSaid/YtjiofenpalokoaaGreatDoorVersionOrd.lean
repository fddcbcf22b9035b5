/-
  LAYER 3, PLAIN MATHEMATICS: what a version's text is; versions in their order. No program is imported.
-/
import Derived.Test.YtjiofenpalokoaaGreatDoorVersionSpec
namespace Go.Proofs.YtjiofenpalokoaaGreatDoor.Vs
open Go.Proofs.YtjiofenpalokoaaGreatDoor Go.Proofs.YtjiofenpalokoaaGreatDoor.Nu

def pB (c : UInt8) : Bool := dgB c || (decide (97 ≤ c.toNat) && decide (c.toNat ≤ 122)) || (c == 45)
/-- does a 0 stand ahead of other digits? -/
def padB (l : List UInt8) : Bool := decide (1 < l.length ∧ l[0]? = some 48)
def partV (l : List UInt8) : Bool := decide (1 ≤ l.length ∧ l.length ≤ 8) && l.all pB && !(l.all dgB && padB l)
def preV (l : List UInt8) : Bool := decide ((cutl 46 l).length ≤ 4) && (cutl 46 l).all partV
def numV (l : List UInt8) : Bool := numB l && decide (l.length ≤ 6)
def numsV (l : List UInt8) : Bool := decide ((cutl 46 l).length = 3) && (cutl 46 l).all numV
def hasPre (l : List UInt8) : Bool := decide ((fore 45 l).length < l.length)
def verV (l : List UInt8) : Bool := numsV (fore 45 l) && (!hasPre l || preV (aft 45 l))
def nth (l : List UInt8) (i : Nat) : Nat := numN ((cutl 46 (fore 45 l)).getD i [])

def textN (a b c : Nat) : List UInt8 := decS a ++ 46 :: (decS b ++ 46 :: decS c)
def textV (a b c : Nat) (pre : List UInt8) : List UInt8 := textN a b c ++ (if pre = [] then [] else 45 :: pre)

theorem fore_self {c : UInt8} : ∀ {l : List UInt8}, c ∉ l → fore c l = l := by
  intro l
  induction l with
  | nil => intro _; rfl
  | cons x l ih =>
    intro h
    have hx : (x != c) = true := by simp; intro e; exact h (by simp [e])
    unfold fore at *
    rw [List.takeWhile_cons, hx, if_pos rfl, ih (fun k => h (List.mem_cons_of_mem _ k))]
theorem fore_cut {c : UInt8} : ∀ {l r : List UInt8}, c ∉ l → fore c (l ++ c :: r) = l ∧ aft c (l ++ c :: r) = r := by
  intro l
  induction l with
  | nil => intro r _; exact ⟨by simp [fore], by simp [aft]⟩
  | cons x l ih =>
    intro r h
    have hx : (x != c) = true := by simp; intro e; exact h (by simp [e])
    have := ih (r := r) (fun k => h (List.mem_cons_of_mem _ k))
    unfold fore aft at *
    rw [List.cons_append, List.takeWhile_cons, List.dropWhile_cons, hx]
    exact ⟨by rw [if_pos rfl, this.1], this.2⟩
theorem aft_no {c : UInt8} : ∀ {l : List UInt8}, c ∉ l → aft c l = [] := by
  intro l
  induction l with
  | nil => intro _; rfl
  | cons x l ih =>
    intro h
    have hx : (x != c) = true := by simp; intro e; exact h (by simp [e])
    unfold aft at *
    rw [List.dropWhile_cons, hx, if_pos rfl, ih (fun k => h (List.mem_cons_of_mem _ k))]

theorem preV_ne {l : List UInt8} (h : preV l = true) : l ≠ [] := by
  rintro rfl
  unfold preV at h
  rw [cutl_no (by simp)] at h
  simp [partV] at h

/-- a text without or with that byte -/
theorem hasPre_cases (l : List UInt8) : (45 ∉ l ∧ hasPre l = false ∧ fore 45 l = l ∧ aft 45 l = []) ∨ (hasPre l = true ∧ 45 ∉ fore 45 l ∧ l = fore 45 l ++ 45 :: aft 45 l) := by
  by_cases h : 45 ∈ l
  · obtain ⟨a, r, rfl, ha⟩ := splits l h
    have := fore_cut (r := r) ha
    right
    unfold hasPre
    rw [this.1, this.2]
    exact ⟨decide_eq_true (by simp), ha, rfl⟩
  · left
    have := fore_self h
    unfold hasPre
    exact ⟨h, decide_eq_false (by rw [this]; omega), this, aft_no h⟩

/-- three numbers -/
theorem nums_three {l : List UInt8} (h : numsV l = true) : ∃ a b c, cutl 46 l = [a, b, c] ∧ numV a = true ∧ numV b = true ∧ numV c = true := by
  unfold numsV at h
  simp only [Bool.and_eq_true, decide_eq_true_eq] at h
  obtain ⟨h1, h2⟩ := h
  match hc : cutl 46 l, h1, h2 with
  | [a, b, c], _, h2 =>
    simp at h2
    exact ⟨a, b, c, rfl, h2.1, h2.2.1, h2.2.2⟩

theorem numV_of {l : List UInt8} (h : numV l = true) : numB l = true ∧ l.length ≤ 6 := by
  unfold numV at h; simpa using h
theorem numN_six {l : List UInt8} (h : numV l = true) : numN l < 1000000 := by
  obtain ⟨h1, h2⟩ := numV_of h
  obtain ⟨_, _, _, h4⟩ := of_decide_eq_true h1
  have key : ∀ k, k ≤ l.length → digV (l.take k) < 10 ^ k := by
    intro k
    induction k with
    | zero => intro _; simp [digV]
    | succ k ih =>
      intro hk
      have hk' : k < l.length := by omega
      exact digV_lt (List.getElem?_eq_getElem hk') (run_all' h4 _ (List.getElem_mem hk')) (ih (by omega))
  have := key l.length (Nat.le_refl _)
  rw [List.take_of_length_le (Nat.le_refl _)] at this
  unfold numN
  rw [h1, if_pos rfl]
  exact Nat.lt_of_lt_of_le this (Nat.le_trans (Nat.pow_le_pow_right (by decide) h2) (by decide))

/-- a version's text is the text of what it is parsed as -/
theorem text_of {l : List UInt8} (h : verV l = true) : textV (nth l 0) (nth l 1) (nth l 2) (aft 45 l) = l ∧ nth l 0 < 1000000 ∧ nth l 1 < 1000000 ∧ nth l 2 < 1000000 ∧ (aft 45 l = [] ∨ preV (aft 45 l) = true) ∧ (hasPre l = decide (aft 45 l ≠ [])) := by
  unfold verV at h
  simp only [Bool.and_eq_true] at h
  obtain ⟨h1, h2⟩ := h
  obtain ⟨a, b, c, hc, ha, hb, hcc⟩ := nums_three h1
  have hn : textN (nth l 0) (nth l 1) (nth l 2) = fore 45 l := by
    have := join_cutl 46 (fore 45 l)
    rw [hc] at this
    unfold textN nth
    rw [hc]
    show decS (numN a) ++ 46 :: (decS (numN b) ++ 46 :: decS (numN c)) = _
    rw [numN_dec (numV_of ha).1, numN_dec (numV_of hb).1, numN_dec (numV_of hcc).1]
    exact this
  have e0 : nth l 0 = numN a := by unfold nth; rw [hc]; rfl
  have e1 : nth l 1 = numN b := by unfold nth; rw [hc]; rfl
  have e2 : nth l 2 = numN c := by unfold nth; rw [hc]; rfl
  refine ⟨?_, by rw [e0]; exact numN_six ha, by rw [e1]; exact numN_six hb, by rw [e2]; exact numN_six hcc, ?_, ?_⟩
  · unfold textV
    rw [hn]
    rcases hasPre_cases l with ⟨_, p1, p2, p3⟩ | ⟨p1, p2, p3⟩
    · rw [p3, if_pos rfl, List.append_nil, p2]
    · rw [p1] at h2
      rw [if_neg (preV_ne (by simpa using h2))]
      exact p3.symm
  · rcases hasPre_cases l with ⟨_, p1, p2, p3⟩ | ⟨p1, p2, p3⟩
    · exact .inl p3
    · rw [p1] at h2; exact .inr (by simpa using h2)
  · rcases hasPre_cases l with ⟨_, p1, p2, p3⟩ | ⟨p1, p2, p3⟩
    · rw [p1, p3]; rfl
    · rw [p1] at h2 ⊢
      exact (decide_eq_true (preV_ne (by simpa using h2))).symm

theorem dec_no (n : Nat) (h : n < 1000000) (c : UInt8) (hc : dgB c = false) : c ∉ decS n := fun h' => by
  have := decS_all 5 n (by simpa using h) c h'
  rw [hc] at this; cases this
/-- three numbers and what may stand behind them are a version's text, and it says these -/
theorem of_text {a b c : Nat} {pre : List UInt8} (ha : a < 1000000) (hb : b < 1000000) (hc : c < 1000000) :
    verV (textV a b c pre) = decide (pre = [] ∨ preV pre = true) ∧ nth (textV a b c pre) 0 = a ∧ nth (textV a b c pre) 1 = b ∧ nth (textV a b c pre) 2 = c ∧ aft 45 (textV a b c pre) = pre := by
  have n45 : (45 : UInt8) ∉ textN a b c := by
    unfold textN
    simp only [List.mem_append, List.mem_cons, not_or]
    exact ⟨dec_no a ha 45 rfl, by decide, dec_no b hb 45 rfl, by decide, dec_no c hc 45 rfl⟩
  have hcut : cutl 46 (textN a b c) = [decS a, decS b, decS c] := by
    unfold textN
    rw [cutl_hit (dec_no a ha 46 rfl), cutl_hit (dec_no b hb 46 rfl), cutl_no (dec_no c hc 46 rfl)]
  have vN : ∀ n, n < 1000000 → numV (decS n) = true := fun n h => by
    obtain ⟨h1, h2, _⟩ := num_of_dec h
    unfold numV; rw [h1, decide_eq_true h2]; rfl
  have hnums : numsV (textN a b c) = true := by
    unfold numsV; rw [hcut]; simp [vN a ha, vN b hb, vN c hc]
  have hf : fore 45 (textV a b c pre) = textN a b c ∧ aft 45 (textV a b c pre) = pre ∧ hasPre (textV a b c pre) = decide (pre ≠ []) := by
    unfold textV hasPre
    by_cases hp : pre = []
    · subst hp
      rw [if_pos rfl, List.append_nil, fore_self n45]
      exact ⟨rfl, aft_no n45, by simp⟩
    · rw [if_neg hp]
      have := fore_cut (r := pre) n45
      exact ⟨this.1, this.2, by rw [this.1, decide_eq_true hp]; exact decide_eq_true (by simp)⟩
  refine ⟨?_, ?_, ?_, ?_, hf.2.1⟩
  · unfold verV
    rw [hf.1, hf.2.1, hf.2.2, hnums]
    by_cases hp : pre = []
    · subst hp; simp
    · simp [hp]
  all_goals unfold nth; rw [hf.1, hcut]
  · exact (num_of_dec ha).2.2
  · exact (num_of_dec hb).2.2
  · exact (num_of_dec hc).2.2

/-! the order -/
structure Cmp {α : Type} (on : α → Prop) (f : α → α → Int) : Prop where
  vals : ∀ x y, f x y = -1 ∨ f x y = 0 ∨ f x y = 1
  anti : ∀ x y, f y x = - f x y
  eq : ∀ x y, on x → on y → f x y = 0 → x = y
  trans : ∀ x y z, on x → on y → on z → f x y ≤ 0 → f y z ≤ 0 → f x z ≤ 0

theorem Cmp.self {α : Type} {on : α → Prop} {f : α → α → Int} (h : Cmp on f) (x : α) : f x x = 0 := by
  have := h.anti x x; omega
theorem Cmp.lt_le {α : Type} {on : α → Prop} {f : α → α → Int} (h : Cmp on f) {x y z : α} (hx : on x) (hy : on y) (hz : on z) (h1 : f x y < 0) (h2 : f y z ≤ 0) : f x z < 0 := by
  have t := h.trans x y z hx hy hz (by omega) h2
  rcases h.vals x z with e | e | e
  · omega
  · obtain rfl := h.eq x z hx hz e
    have := h.anti x y
    omega
  · omega
theorem Cmp.le_lt {α : Type} {on : α → Prop} {f : α → α → Int} (h : Cmp on f) {x y z : α} (hx : on x) (hy : on y) (hz : on z) (h1 : f x y ≤ 0) (h2 : f y z < 0) : f x z < 0 := by
  have t := h.trans x y z hx hy hz h1 (by omega)
  rcases h.vals x z with e | e | e
  · omega
  · obtain rfl := h.eq x z hx hz e
    have := h.anti x y
    omega
  · omega

def ci (a b : Nat) : Int := if a < b then -1 else if b < a then 1 else 0
theorem ci_cmp : Cmp (fun _ => True) ci where
  vals x y := by unfold ci; split; simp; split <;> simp
  anti x y := by unfold ci; split <;> split <;> (try split) <;> omega
  eq x y _ _ h := by unfold ci at h; split at h; omega; split at h; omega; omega
  trans x y z _ _ _ h1 h2 := by
    unfold ci at *
    split at h1 <;> split at h2 <;> split <;> (try split) <;> (try split at h1) <;> (try split at h2) <;> omega

def cmpL {α : Type} (f : α → α → Int) : List α → List α → Int
  | [], [] => 0
  | [], _ :: _ => -1
  | _ :: _, [] => 1
  | x :: xs, y :: ys => if f x y = 0 then cmpL f xs ys else f x y

theorem cmpL_cmp {α : Type} {on : α → Prop} {f : α → α → Int} (h : Cmp on f) : Cmp (fun l => ∀ x, x ∈ l → on x) (cmpL f) where
  vals x := by
    induction x with
    | nil => intro y; cases y <;> simp [cmpL]
    | cons a x ih =>
      intro y
      cases y with
      | nil => simp [cmpL]
      | cons b y =>
        unfold cmpL; split
        · exact ih y
        · exact h.vals a b
  anti x := by
    induction x with
    | nil => intro y; cases y <;> simp [cmpL]
    | cons a x ih =>
      intro y
      cases y with
      | nil => simp [cmpL]
      | cons b y =>
        unfold cmpL
        have := h.anti a b
        by_cases e : f a b = 0
        · rw [if_pos e, if_pos (by omega), ih y]
        · rw [if_neg e, if_neg (by omega), this]
  eq x := by
    induction x with
    | nil => intro y _ _ h'; cases y with
      | nil => rfl
      | cons b y => simp [cmpL] at h'
    | cons a x ih =>
      intro y hx hy h'
      cases y with
      | nil => simp [cmpL] at h'
      | cons b y =>
        unfold cmpL at h'
        by_cases e : f a b = 0
        · rw [if_pos e] at h'
          rw [h.eq a b (hx a (by simp)) (hy b (by simp)) e, ih y (fun c hc => hx c (by simp [hc])) (fun c hc => hy c (by simp [hc])) h']
        · rw [if_neg e] at h'; exact absurd h' e
  trans x := by
    induction x with
    | nil => intro y z _ _ _ h1 h2; cases z <;> simp [cmpL]
    | cons a x ih =>
      intro y z hx hy hz h1 h2
      cases y with
      | nil => simp [cmpL] at h1
      | cons b y =>
        cases z with
        | nil => simp [cmpL] at h2
        | cons c z =>
          have ha := hx a (by simp); have hb := hy b (by simp); have hc := hz c (by simp)
          unfold cmpL at h1 h2 ⊢
          by_cases e1 : f a b = 0
          · rw [if_pos e1] at h1
            obtain rfl := h.eq a b ha hb e1
            by_cases e2 : f a c = 0
            · rw [if_pos e2] at h2 ⊢
              exact ih y z (fun d hd => hx d (by simp [hd])) (fun d hd => hy d (by simp [hd])) (fun d hd => hz d (by simp [hd])) h1 h2
            · rw [if_neg e2] at h2 ⊢; exact h2
          · rw [if_neg e1] at h1
            have l1 : f a b < 0 := by omega
            have l2 : f b c ≤ 0 := by
              by_cases e2 : f b c = 0
              · omega
              · rw [if_neg e2] at h2; exact h2
            have l3 := h.lt_le ha hb hc l1 l2
            rw [if_neg (by omega)]; omega

theorem cmpL_app {α : Type} {f : α → α → Int} (hs : ∀ x, f x x = 0) : ∀ (l : List α) (x : α), cmpL f l (l ++ [x]) = -1 := by
  intro l
  induction l with
  | nil => intro x; rfl
  | cons a l ih => intro x; rw [List.cons_append]; unfold cmpL; rw [if_pos (hs a), ih]

/-- bytes, one by one -/
theorem bytes_cmp : Cmp (fun _ => True) Lib.compareBytes where
  vals x := by
    induction x with
    | nil => intro y; cases y <;> simp [Lib.compareBytes]
    | cons a x ih => intro y; cases y with
      | nil => simp [Lib.compareBytes]
      | cons b y => unfold Lib.compareBytes; split; simp; split; simp; exact ih y
  anti x := by
    induction x with
    | nil => intro y; cases y <;> simp [Lib.compareBytes]
    | cons a x ih => intro y; cases y with
      | nil => simp [Lib.compareBytes]
      | cons b y =>
        unfold Lib.compareBytes
        by_cases h1 : a < b
        · rw [if_pos h1, if_neg (by intro h; exact absurd (UInt8.lt_trans h1 h) (UInt8.lt_irrefl a)), if_pos h1]; rfl
        · rw [if_neg h1]
          by_cases h2 : b < a
          · rw [if_pos h2, if_neg h1, if_pos h2]
          · rw [if_neg h2, if_neg h1, if_neg h2, ih y]
  eq x := by
    induction x with
    | nil => intro y _ _ h; cases y with
      | nil => rfl
      | cons b y => simp [Lib.compareBytes] at h
    | cons a x ih => intro y _ _ h; cases y with
      | nil => simp [Lib.compareBytes] at h
      | cons b y =>
        unfold Lib.compareBytes at h
        split at h
        · simp at h
        · split at h
          · simp at h
          · rename_i h1 h2
            obtain rfl : a = b := by
              apply UInt8.toNat_inj.1
              rw [UInt8.lt_iff_toNat_lt] at h1 h2; omega
            rw [ih y trivial trivial h]
  trans x := by
    induction x with
    | nil => intro y z _ _ _ _ _; cases z <;> simp [Lib.compareBytes]
    | cons a x ih => intro y z _ _ _ h1 h2; cases y with
      | nil => simp [Lib.compareBytes] at h1
      | cons b y => cases z with
        | nil => simp [Lib.compareBytes] at h2
        | cons c z =>
          unfold Lib.compareBytes at h1 h2 ⊢
          simp only [UInt8.lt_iff_toNat_lt] at h1 h2 ⊢
          by_cases e1 : a.toNat < b.toNat
          · by_cases e2 : b.toNat < c.toNat
            · rw [if_pos (by omega)]; decide
            · rw [if_neg e2] at h2
              by_cases e3 : c.toNat < b.toNat
              · rw [if_pos e3] at h2; simp at h2
              · rw [if_pos (by omega)]; decide
          · rw [if_neg e1] at h1
            by_cases e3 : b.toNat < a.toNat
            · rw [if_pos e3] at h1; simp at h1
            · rw [if_neg e3] at h1
              by_cases e2 : b.toNat < c.toNat
              · rw [if_pos (by omega)]; decide
              · rw [if_neg e2] at h2
                by_cases e4 : c.toNat < b.toNat
                · rw [if_pos e4] at h2; simp at h2
                · rw [if_neg e4] at h2
                  rw [if_neg (by omega), if_neg (by omega)]
                  exact ih y z trivial trivial trivial h1 h2

/-- two parts -/
def cmpP (p q : List UInt8) : Int :=
  if p.all dgB = true then (if q.all dgB = true then (if p.length = q.length then Lib.compareBytes p q else ci p.length q.length) else -1) else if q.all dgB = true then 1 else Lib.compareBytes p q
theorem cmpP_cmp : Cmp (fun _ => True) cmpP where
  vals x y := by
    unfold cmpP
    split <;> split <;> (try split) <;> first | exact bytes_cmp.vals _ _ | exact ci_cmp.vals _ _ | simp
  anti x y := by
    unfold cmpP
    have hb := bytes_cmp.anti x y
    have hi := ci_cmp.anti x.length y.length
    by_cases h1 : x.all dgB = true <;> by_cases h2 : y.all dgB = true <;> by_cases h3 : x.length = y.length <;> simp [h1, h2, h3, hb, hi, Ne.symm (a := x.length) (b := y.length)]
  eq x y _ _ h := by
    unfold cmpP at h
    split at h
    · split at h
      · split at h
        · exact bytes_cmp.eq x y trivial trivial h
        · rename_i h3; exact absurd (ci_cmp.eq _ _ trivial trivial h) h3
      · simp at h
    · split at h
      · simp at h
      · exact bytes_cmp.eq x y trivial trivial h
  trans x y z _ _ _ h1 h2 := by
    unfold cmpP at *
    by_cases x1 : x.all dgB = true
    · rw [if_pos x1] at h1 ⊢
      by_cases z1 : z.all dgB = true
      · rw [if_pos z1]
        by_cases y1 : y.all dgB = true
        · rw [if_pos y1] at h1
          rw [if_pos y1, if_pos z1] at h2
          by_cases e1 : x.length = y.length
          · rw [if_pos e1] at h1
            by_cases e2 : y.length = z.length
            · rw [if_pos e2] at h2
              rw [if_pos (by omega)]
              exact bytes_cmp.trans x y z trivial trivial trivial h1 h2
            · rw [if_neg e2] at h2
              rw [if_neg (by omega), e1]; exact h2
          · rw [if_neg e1] at h1
            by_cases e2 : y.length = z.length
            · rw [if_neg (by omega), ← e2]; exact h1
            · rw [if_neg e2] at h2
              have l1 : x.length < y.length := by unfold ci at h1; split at h1; assumption; split at h1; omega; omega
              have l2 : y.length < z.length := by unfold ci at h2; split at h2; assumption; split at h2; omega; omega
              rw [if_neg (by omega)]
              unfold ci; rw [if_pos (by omega)]; decide
        · rw [if_neg y1, if_pos z1] at h2; simp at h2
      · rw [if_neg z1]; decide
    · rw [if_neg x1] at h1 ⊢
      by_cases y1 : y.all dgB = true
      · rw [if_pos y1] at h1; simp at h1
      · rw [if_neg y1] at h1
        rw [if_neg y1] at h2
        by_cases z1 : z.all dgB = true
        · rw [if_pos z1] at h2; simp at h2
        · rw [if_neg z1] at h2 ⊢
          exact bytes_cmp.trans x y z trivial trivial trivial h1 h2

/-- of versions: the three numbers, and what stands behind -/
def cmpB (p q : List UInt8) : Int := if p = q then 0 else if p = [] then 1 else if q = [] then -1 else cmpL cmpP (cutl 46 p) (cutl 46 q)
def cmpV (l m : List Nat) (p q : List UInt8) : Int := if l = m then cmpB p q else cmpL ci l m
theorem cutl_inj {c : UInt8} {p q : List UInt8} (h : cutl c p = cutl c q) : p = q := by
  rw [← join_cutl c p, h, join_cutl]
theorem cmpB_cmp : Cmp (fun _ => True) cmpB where
  vals x y := by
    unfold cmpB
    split <;> (try split) <;> (try split) <;> first | exact (cmpL_cmp cmpP_cmp).vals _ _ | simp
  anti x y := by
    unfold cmpB
    have h := (cmpL_cmp cmpP_cmp).anti (cutl 46 x) (cutl 46 y)
    by_cases e : x = y
    · subst e; simp
    · by_cases e1 : x = []
      · subst e1; simp [Ne.symm e, e]
      · by_cases e2 : y = []
        · subst e2; simp [Ne.symm e, e]
        · simp [e, Ne.symm e, e1, e2, h]
  eq x y _ _ h := by
    unfold cmpB at h
    split at h
    · assumption
    · split at h
      · simp at h
      · split at h
        · simp at h
        · exact cutl_inj ((cmpL_cmp cmpP_cmp).eq _ _ (fun _ _ => trivial) (fun _ _ => trivial) h)
  trans x y z _ _ _ h1 h2 := by
    unfold cmpB at *
    by_cases e1 : x = y
    · subst e1; exact h2
    · by_cases e2 : y = z
      · subst e2; exact h1
      · rw [if_neg e1] at h1
        rw [if_neg e2] at h2
        by_cases e3 : x = z
        · rw [if_pos e3]; decide
        · rw [if_neg e3]
          by_cases x0 : x = []
          · rw [if_pos x0] at h1; simp at h1
          · rw [if_neg x0] at h1 ⊢
            by_cases z0 : z = []
            · rw [if_pos z0]; decide
            · rw [if_neg z0] at h2 ⊢
              by_cases y0 : y = []
              · rw [if_pos y0] at h2; simp at h2
              · rw [if_neg y0] at h1 h2
                exact (cmpL_cmp cmpP_cmp).trans _ _ _ (fun _ _ => trivial) (fun _ _ => trivial) (fun _ _ => trivial) h1 h2
end Go.Proofs.YtjiofenpalokoaaGreatDoor.Vs
