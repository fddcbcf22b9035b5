/-
  LAYER 12: what the program's way of spreading comes to.
-/
import Derived.Test.YtopneceicamakaaSpreadMath
namespace Go.Proofs.Ytopneceicamakaa.Cf

/-- the literals that are so, as a set -/
def setOf (N : Nat) (is : List Bool) (x : Int) : Prop := -(N : Int) ≤ x ∧ x ≤ N ∧ onAt N is x = true
theorem wrong_on {N : Nat} {is : List Bool} {x : Int} (h1 : -(N : Int) ≤ x) (h2 : x ≤ N) : wrongAt N is x = true ↔ setOf N is (-x) := by
  unfold wrongAt setOf onAt
  rw [show (N : Int) - x = -x + (N : Int) by omega]
  constructor
  · intro h; exact ⟨by omega, by omega, h⟩
  · intro h; exact h.2.2
theorem set_getD {is : List Bool} {i j : Nat} (hi : i < is.length) : (is.set i true).getD j false = (if j = i then true else is.getD j false) := by
  rw [List.getD_eq_getElem?_getD, List.getElem?_set]
  by_cases h : i = j
  · subst h; rw [if_pos rfl, if_pos hi, if_pos rfl]; rfl
  · rw [if_neg h, if_neg (fun e => h e.symm), List.getD_eq_getElem?_getD]
theorem setOf_set {N : Nat} {is : List Bool} (hl : is.length = 2 * N + 1) {x : Int} (h1 : -(N : Int) ≤ x) (h2 : x ≤ N) (y : Int) : setOf N (is.set (x + (N : Int)).toNat true) y ↔ (setOf N is y ∨ y = x) := by
  unfold setOf onAt
  rw [set_getD (by omega)]
  constructor
  · rintro ⟨a, b, c⟩
    by_cases e : (y + (N : Int)).toNat = (x + (N : Int)).toNat
    · right; omega
    · rw [if_neg e] at c; exact .inl ⟨a, b, c⟩
  · rintro (⟨a, b, c⟩ | rfl)
    · refine ⟨a, b, ?_⟩
      split
      · rfl
      · exact c
    · exact ⟨h1, h2, by rw [if_pos rfl]⟩

/-- what a clause says -/
theorem one_says {N : Nat} {is : List Bool} {c : List Int} (hl : is.length = 2 * N + 1) (hc : ∀ x ∈ c, -(N : Int) ≤ x ∧ x ≤ N ∧ x ≠ 0) :
    (oneC N is c = none → allF (setOf N is) c) ∧
    (∀ is1 b, oneC N is c = some (is1, b) → ((b = false ∧ is1 = is ∧ ¬ allF (setOf N is) c ∧ ∀ x, unitAt (setOf N is) c x → setOf N is x) ∨
      (b = true ∧ ∃ x, unitAt (setOf N is) c x ∧ ∀ y, setOf N is1 y ↔ (setOf N is y ∨ y = x)))) := by
  cases hf : c.find? (fun x => !wrongAt N is x) with
  | none =>
    have ho : oneC N is c = none := by unfold oneC openC; rw [hf]; rfl
    refine ⟨fun _ x hx => ?_, fun is1 b h => by rw [ho] at h; cases h⟩
    have h1 := List.find?_eq_none.1 hf x hx
    have hx' := hc x hx
    exact (wrong_on hx'.1 hx'.2.1).1 (by simpa using h1)
  | some x =>
    have hxm := List.mem_of_find?_eq_some hf
    have hxw := List.find?_some hf
    have hx' := hc x hxm
    have hns : ¬ setOf N is (-x) := fun h => by rw [(wrong_on hx'.1 hx'.2.1).2 h] at hxw; cases hxw
    have hopen : openC c (wrongAt N is) = (x, c.any fun y => y != x && !wrongAt N is y) := by unfold openC; rw [hf]
    have hone : oneC N is c = (if (c.any fun y => y != x && !wrongAt N is y) = false ∧ onAt N is x = false then some (is.set (x + (N : Int)).toNat true, true) else some (is, false)) := by
      unfold oneC; rw [hopen]; simp only []; rw [if_neg hx'.2.2]
    have hnall : ¬ allF (setOf N is) c := fun h => hns (h x hxm)
    refine ⟨fun h => (by rw [hone] at h; split at h <;> cases h), fun is1 b h => ?_⟩
    rw [hone] at h
    have hunit : (c.any fun y => y != x && !wrongAt N is y) = false → unitAt (setOf N is) c x := fun h => by
      refine ⟨hxm, hns, fun y hy hyx => ?_⟩
      have := List.any_eq_false.1 h y hy
      have hy' := hc y hy
      refine (wrong_on hy'.1 hy'.2.1).1 ?_
      cases hw : wrongAt N is y
      · exfalso; apply this; rw [hw]; simpa using hyx
      · rfl
    split at h
    · rename_i h1
      cases h
      exact .inr ⟨rfl, x, hunit h1.1, setOf_set hl hx'.1 hx'.2.1⟩
    · rename_i h1
      cases h
      refine .inl ⟨rfl, rfl, hnall, fun y hu => ?_⟩
      have hyx : y = x := by
        by_cases e : x = y
        · exact e.symm
        · exact absurd (hu.2.2 x hxm e) hns
      subst hyx
      refine ⟨hx'.1, hx'.2.1, ?_⟩
      cases hon : onAt N is y
      · exfalso
        apply h1
        refine ⟨?_, hon⟩
        rw [List.any_eq_false]
        intro z hz
        have hz' := hc z hz
        by_cases e : z = y
        · simp [e]
        · have := (wrong_on hz'.1 hz'.2.1).2 (hu.2.2 z hz e)
          rw [this]; simp
      · rfl

theorem pass_says {N : Nat} {cls : List (List Int)} {S0 : Int → Prop} : ∀ {ds : List (List Int)} {is : List Bool}, (∀ c ∈ ds, c ∈ cls) → (∀ c ∈ ds, ∀ x ∈ c, -(N : Int) ≤ x ∧ x ≤ N ∧ x ≠ 0) → is.length = 2 * N + 1 → Reach cls S0 (setOf N is) →
    (passTo N ds is = none → ∃ is', Reach cls S0 (setOf N is') ∧ ∃ c ∈ cls, allF (setOf N is') c) ∧
    (∀ is1 b, passTo N ds is = some (is1, b) → Reach cls S0 (setOf N is1) ∧ is1.length = 2 * N + 1 ∧ (b = false → is1 = is ∧ Fixd ds (setOf N is))) := by
  intro ds
  induction ds with
  | nil =>
    intro is _ _ hl hr
    refine ⟨fun h => by simp [passTo] at h, fun is1 b h => ?_⟩
    simp only [passTo, Option.some.injEq, Prod.mk.injEq] at h
    obtain ⟨rfl, rfl⟩ := h
    exact ⟨hr, hl, fun _ => ⟨rfl, fun c hc => absurd hc List.not_mem_nil⟩⟩
  | cons c ds ih =>
    intro is hsub hlit hl hr
    have hone := one_says hl (hlit c (by simp))
    cases h1 : oneC N is c with
    | none =>
      refine ⟨fun _ => ⟨is, hr, c, hsub c (by simp), hone.1 h1⟩, fun is1 b h => ?_⟩
      unfold passTo at h; rw [h1] at h; cases h
    | some p =>
      obtain ⟨ia, ba⟩ := p
      have hla : ia.length = 2 * N + 1 := by rw [(oneC_some h1).1, hl]
      have hra : Reach cls S0 (setOf N ia) := by
        rcases hone.2 ia ba h1 with ⟨_, rfl, _⟩ | ⟨_, x, hu, he⟩
        · exact hr
        · exact .step hr (hsub c (by simp)) hu he
      have ih2 := ih (is := ia) (fun d hd => hsub d (by simp [hd])) (fun d hd => hlit d (by simp [hd])) hla hra
      cases h2 : passTo N ds ia with
      | none =>
        refine ⟨fun _ => ih2.1 h2, fun is1 b h => ?_⟩
        unfold passTo at h; rw [h1] at h; simp only [] at h; rw [h2] at h; cases h
      | some p2 =>
        obtain ⟨ib, bb⟩ := p2
        have hp : passTo N (c :: ds) is = some (ib, ba || bb) := by unfold passTo; rw [h1]; simp only []; rw [h2]
        refine ⟨fun h => (by rw [hp] at h; cases h), fun is1 b h => ?_⟩
        rw [hp] at h
        simp only [Option.some.injEq, Prod.mk.injEq] at h
        obtain ⟨rfl, rfl⟩ := h
        have i3 := ih2.2 ib bb h2
        refine ⟨i3.1, i3.2.1, fun hb => ?_⟩
        have hb' : ba = false ∧ bb = false := by simpa using hb
        have i4 := i3.2.2 hb'.2
        rcases hone.2 ia ba h1 with ⟨_, rfl, g1, g2⟩ | ⟨g, _⟩
        · refine ⟨i4.1, fun d hd => ?_⟩
          rcases List.mem_cons.1 hd with rfl | hd
          · exact ⟨g1, g2⟩
          · exact i4.2 d hd
        · rw [g] at hb'; cases hb'.1

theorem run_says {N : Nat} {cls : List (List Int)} {S0 : Int → Prop} (hlit : ∀ c ∈ cls, ∀ x ∈ c, -(N : Int) ≤ x ∧ x ≤ N ∧ x ≠ 0) : ∀ (f : Nat) {is : List Bool}, offs is < f → is.length = 2 * N + 1 → Reach cls S0 (setOf N is) →
    (runC N cls f is = none → ∃ is', Reach cls S0 (setOf N is') ∧ ∃ c ∈ cls, allF (setOf N is') c) ∧
    (∀ is1, runC N cls f is = some is1 → Reach cls S0 (setOf N is1) ∧ Fixd cls (setOf N is1)) := by
  intro f
  induction f with
  | zero => intro is h; omega
  | succ f ih =>
    intro is ho hl hr
    have hp := pass_says (ds := cls) (fun _ h => h) hlit hl hr
    cases h1 : passTo N cls is with
    | none => refine ⟨fun _ => hp.1 h1, fun is1 h => ?_⟩; unfold runC at h; rw [h1] at h; cases h
    | some p =>
      obtain ⟨is1, b⟩ := p
      have hp2 := hp.2 is1 b h1
      cases b
      · have h3 := hp2.2.2 rfl
        have hrun : runC N cls (f + 1) is = some is1 := by unfold runC; rw [h1]
        refine ⟨fun h => (by rw [hrun] at h; cases h), fun is2 h => ?_⟩
        rw [hrun] at h; cases h
        exact ⟨hp2.1, by rw [h3.1]; exact h3.2⟩
      · have hrun : runC N cls (f + 1) is = runC N cls f is1 := by conv => lhs; unfold runC; rw [h1]
        have h4 := (pass_offs (fun c hc x hx => ⟨(hlit c hc x hx).1, (hlit c hc x hx).2.1⟩) hl h1).2.1 rfl
        rw [hrun]
        exact ih (by omega) hp2.2.1 hp2.1

theorem setAll_mem {N : Nat} {l : List Int} (hl : ∀ x ∈ l, -(N : Int) ≤ x ∧ x ≤ N ∧ x ≠ 0) (y : Int) : setOf N (setAll N l) y ↔ y ∈ l := by
  unfold setAll
  have key : ∀ (l : List Int) (is : List Bool), (∀ x ∈ l, -(N : Int) ≤ x ∧ x ≤ N ∧ x ≠ 0) → is.length = 2 * N + 1 → (setOf N (l.foldl (fun is x => is.set (x + (N : Int)).toNat true) is) y ↔ (setOf N is y ∨ y ∈ l)) := by
    intro l
    induction l with
    | nil => intro is _ _; simp
    | cons x l ih =>
      intro is hx hlen
      rw [List.foldl_cons, ih _ (fun z hz => hx z (by simp [hz])) (by simp [hlen]), setOf_set hlen (hx x (by simp)).1 (hx x (by simp)).2.1, List.mem_cons]
      constructor
      · rintro ((a | b) | c)
        · exact .inl a
        · exact .inr (.inl b)
        · exact .inr (.inr c)
      · rintro (a | b | c)
        · exact .inl (.inl a)
        · exact .inl (.inr b)
        · exact .inr c
  rw [key l _ hl (by simp)]
  constructor
  · rintro (⟨_, _, h⟩ | h)
    · exfalso
      unfold onAt at h
      rw [List.getD_eq_getElem?_getD, List.getElem?_replicate] at h
      split at h <;> cases h
    · exact h
  · exact .inr

theorem held_mem {N : Nat} {is : List Bool} : ∀ {k : Nat}, k ≤ N → ∀ x, (x ∈ heldTo N is k ↔ x ≠ 0 ∧ -(k : Int) ≤ x ∧ x ≤ k ∧ onAt N is x = true) := by
  intro k
  induction k with
  | zero => intro _ x; simp [heldTo]; omega
  | succ k ih =>
    intro hk x
    unfold heldTo
    rw [List.mem_append, List.mem_append, ih (by omega) x]
    have e1 : ∀ b : Bool, ∀ y : Int, (x ∈ (if b then [y] else []) ↔ (b = true ∧ x = y)) := by intro b y; cases b <;> simp
    rw [e1, e1]
    have en : x = -((k : Int) + 1) → (x + (N : Int)).toNat = N - (k + 1) := by omega
    have ep : x = (k : Int) + 1 → (x + (N : Int)).toNat = N + (k + 1) := by omega
    unfold onAt
    constructor
    · rintro (⟨a, b, c, d⟩ | ⟨a, b⟩ | ⟨a, b⟩)
      · exact ⟨a, by omega, by omega, d⟩
      · refine ⟨by omega, by omega, by omega, ?_⟩
        rw [en b]; exact a
      · refine ⟨by omega, by omega, by omega, ?_⟩
        rw [ep b]; exact a
    · rintro ⟨a, b, c, d⟩
      by_cases h1 : x = -((k : Int) + 1)
      · right; left; rw [en h1] at d; exact ⟨d, h1⟩
      · by_cases h2 : x = (k : Int) + 1
        · right; right; rw [ep h2] at d; exact ⟨d, h2⟩
        · left; exact ⟨a, by omega, by omega, d⟩
theorem held_strict {N : Nat} (hN : N ≤ 400) {is : List Bool} : ∀ {k : Nat}, k ≤ N → StrictS (heldTo N is k) := by
  have vr : ∀ x : Int, -401 ≤ x → x ≤ 401 → varR x = varI x := fun x h1 h2 => varR_varI (by omega) (by omega)
  intro k
  induction k with
  | zero => intro _; exact List.Pairwise.nil
  | succ k ih =>
    intro hk
    unfold heldTo StrictS
    rw [List.pairwise_append]
    refine ⟨ih (by omega), ?_, ?_⟩
    · rw [List.pairwise_append]
      refine ⟨by split <;> simp, by split <;> simp, fun a ha b hb => ?_⟩
      have ha' : a = -((k : Int) + 1) := by split at ha <;> simp at ha; exact ha
      have hb' : b = (k : Int) + 1 := by split at hb <;> simp at hb; exact hb
      rw [before_iff, vr a (by omega) (by omega), vr b (by omega) (by omega)]
      unfold varI; rw [ha', hb']; split <;> split <;> omega
    · intro a ha b hb
      have h1 := (held_mem (by omega) a).1 ha
      have hb' : b = -((k : Int) + 1) ∨ b = (k : Int) + 1 := by
        rcases List.mem_append.1 hb with h | h
        · left; split at h <;> simp at h; exact h
        · right; split at h <;> simp at h; exact h
      rw [before_iff, vr a (by omega) (by omega), vr b (by omega) (by omega)]
      unfold varI
      rcases hb' with hb' | hb' <;> (rw [hb']; split <;> split <;> omega)

theorem pig : ∀ (n : Nat) (l : List Int), l.Nodup → (∀ x ∈ l, 1 ≤ x ∧ x ≤ (n : Int)) → l.length ≤ n := by
  intro n
  induction n with
  | zero =>
    intro l _ h
    cases l with
    | nil => simp
    | cons x l => have := h x (by simp); omega
  | succ n ih =>
    intro l hn h
    have h2 := ih (l.erase ((n : Int) + 1)) (hn.erase _) (fun x hx => by
      have h3 := hn.mem_erase_iff.1 hx
      have h4 := h x h3.2
      have h5 := h3.1
      omega)
    by_cases hm : ((n : Int) + 1) ∈ l
    · rw [List.length_erase_of_mem hm] at h2; omega
    · rw [List.erase_of_not_mem hm] at h2; omega

/-- what the program's way comes to: nothing more follows; or a clash is reached -/
theorem spread_says {N : Nat} (hN : N ≤ 400) {cls : List (List Int)} {lits : List Int} (h0 : checkE N cls = 0) (h1 : ckC lits N = true) :
    (adjT (normC lits) = true → spreadC N cls lits = (none, true)) ∧
    (adjT (normC lits) = false → ((∃ S, Reach cls (· ∈ lits) S ∧ (∃ c ∈ cls, allF S c) ∧ spreadC N cls lits = (none, true)) ∨
      (∃ S l, Reach cls (· ∈ lits) S ∧ Fixd cls S ∧ StrictS l ∧ (∀ x, x ∈ l ↔ S x) ∧ spreadC N cls lits = (some l, false)))) := by
  obtain ⟨_, _, _, hall⟩ := checkE_zero h0
  have hlit : ∀ c ∈ cls, ∀ x ∈ c, -(N : Int) ≤ x ∧ x ≤ N ∧ x ≠ 0 := fun c hc => ckC_in (hall c hc)
  have hl := ckC_in h1
  have hg : ¬ (checkE N cls ≠ 0 ∨ ckC lits N = false) := by rw [h0, h1]; simp
  constructor
  · intro ht; unfold spreadC; rw [if_neg hg, if_pos ht]
  · intro ht
    have hs : spreadC N cls lits = (match runAll N cls (setAll N lits) with | none => (none, true) | some is => (some (heldTo N is N), false)) := by
      unfold spreadC; rw [if_neg hg, ht]; rfl
    have hr := run_says (S0 := (· ∈ lits)) hlit (offs (setAll N lits) + 1) (is := setAll N lits) (by omega) (setAll_len N lits) (.start (setAll_mem hl))
    cases hrun : runAll N cls (setAll N lits) with
    | none =>
      left
      obtain ⟨is', r1, r2⟩ := hr.1 hrun
      exact ⟨_, r1, r2, by rw [hs, hrun]⟩
    | some is' =>
      right
      obtain ⟨r1, r2⟩ := hr.2 is' hrun
      have hz : ¬ setOf N is' 0 := by
        have : ∀ S, Reach cls (· ∈ lits) S → ¬ S 0 := by
          intro S h
          induction h with
          | start e => intro h; exact (hl 0 ((e 0).1 h)).2.2 rfl
          | step h1 hc hu e ih =>
            rename_i S1 S2 c y
            intro h
            rcases (e 0).1 h with h | h
            · exact ih h
            · subst h; exact (hlit c hc 0 hu.1).2.2 rfl
        exact this _ r1
      refine ⟨_, heldTo N is' N, r1, r2, held_strict hN (Nat.le_refl _), fun x => ?_, by rw [hs, hrun]⟩
      rw [held_mem (Nat.le_refl _) x]
      constructor
      · rintro ⟨a, b, c, d⟩; exact ⟨b, c, d⟩
      · rintro ⟨a, b, c⟩
        refine ⟨?_, a, b, c⟩
        rintro rfl
        exact hz ⟨a, b, c⟩
end Go.Proofs.Ytopneceicamakaa.Cf
