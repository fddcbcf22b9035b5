/-
  LAYER 12: spreading, as the program goes about it, in plain mathematics.
-/
import Derived.Test.YtopneceicamakaaCnfOpen
namespace Go.Proofs.Ytopneceicamakaa.Cf

/-- is a literal false, where those of is are so? -/
def wrongAt (N : Nat) (is : List Bool) (x : Int) : Bool := is.getD ((N : Int) - x).toNat false
def onAt (N : Nat) (is : List Bool) (x : Int) : Bool := is.getD (x + (N : Int)).toNat false
/-- one clause: none: all its literals are false; else what is so then, and whether that is more -/
def oneC (N : Nat) (is : List Bool) (c : List Int) : Option (List Bool × Bool) :=
  let o := openC c (wrongAt N is)
  if o.1 = 0 then none
  else if o.2 = false ∧ onAt N is o.1 = false then some (is.set (o.1 + (N : Int)).toNat true, true) else some (is, false)
def passTo (N : Nat) : List (List Int) → List Bool → Option (List Bool × Bool)
  | [], is => some (is, false)
  | c :: cls, is => match oneC N is c with
    | none => none
    | some (is1, b1) => match passTo N cls is1 with
      | none => none
      | some (is2, b2) => some (is2, b1 || b2)
/-- how many are not so -/
def offs (is : List Bool) : Nat := (is.filter (!·)).length
def runC (N : Nat) (cls : List (List Int)) : Nat → List Bool → Option (List Bool)
  | 0, is => some is
  | f + 1, is => match passTo N cls is with
    | none => none
    | some (is1, true) => runC N cls f is1
    | some (is1, false) => some is1
def runAll (N : Nat) (cls : List (List Int)) (is : List Bool) : Option (List Bool) := runC N cls (offs is + 1) is

theorem offs_set {is : List Bool} : ∀ {i : Nat} (_ : i < is.length) (_ : is.getD i false = false), offs (is.set i true) + 1 = offs is := by
  induction is with
  | nil => intro i h; simp at h
  | cons b is ih =>
    intro i h hb
    cases i with
    | zero =>
      have : b = false := by simpa using hb
      subst this
      simp [offs]
    | succ i =>
      have := ih (i := i) (by simpa using h) (by simpa using hb)
      cases b <;> simp [offs] at this ⊢ <;> omega

theorem oneC_some {N : Nat} {is is1 : List Bool} {c : List Int} {b : Bool} (h : oneC N is c = some (is1, b)) : is1.length = is.length ∧ (b = false → is1 = is) := by
  unfold oneC at h
  simp only [] at h
  split at h
  · cases h
  · split at h
    · cases h; exact ⟨by simp, (fun e => by cases e)⟩
    · cases h; exact ⟨rfl, fun _ => rfl⟩
theorem oneC_offs {N : Nat} {is is1 : List Bool} {c : List Int} {b : Bool} (hl : is.length = 2 * N + 1) (hc : ∀ x ∈ c, -(N : Int) ≤ x ∧ x ≤ N) (h : oneC N is c = some (is1, b)) : (b = true → offs is1 + 1 = offs is) := by
  unfold oneC at h
  simp only [] at h
  split at h
  · cases h
  · rename_i h0
    split at h
    · rename_i h1
      cases h
      intro _
      have hm : (openC c (wrongAt N is)).1 ∈ c := by
        unfold openC at h0 ⊢
        cases hf : c.find? (fun x => !wrongAt N is x) with
        | none => rw [hf] at h0; exact absurd rfl h0
        | some x => exact List.mem_of_find?_eq_some hf
      have := hc _ hm
      exact offs_set (by rw [hl]; omega) h1.2
    · cases h; intro e; cases e
theorem pass_offs {N : Nat} {cls : List (List Int)} (hc : ∀ c ∈ cls, ∀ x ∈ c, -(N : Int) ≤ x ∧ x ≤ N) : ∀ {is is1 : List Bool} {b : Bool}, is.length = 2 * N + 1 → passTo N cls is = some (is1, b) → is1.length = 2 * N + 1 ∧ (b = true → offs is1 < offs is) ∧ (b = false → is1 = is) ∧ offs is1 ≤ offs is := by
  induction cls with
  | nil => intro is is1 b hl h; cases h; exact ⟨hl, (fun e => by cases e), fun _ => rfl, Nat.le_refl _⟩
  | cons c cls ih =>
    intro is is1 b hl h
    unfold passTo at h
    cases h1 : oneC N is c with
    | none => rw [h1] at h; cases h
    | some p =>
      obtain ⟨ia, ba⟩ := p
      rw [h1] at h
      simp only [] at h
      cases h2 : passTo N cls ia with
      | none => rw [h2] at h; cases h
      | some p2 =>
        obtain ⟨ib, bb⟩ := p2
        rw [h2] at h
        simp only [Option.some.injEq, Prod.mk.injEq] at h
        obtain ⟨rfl, rfl⟩ := h
        have o1 := oneC_some h1
        have o2 := oneC_offs hl (hc c (by simp)) h1
        have o3 := ih (fun d hd => hc d (by simp [hd])) (by rw [o1.1, hl]) h2
        have hle : offs ia ≤ offs is := by
          cases ba
          · rw [o1.2 rfl]; exact Nat.le_refl _
          · have := o2 rfl; omega
        refine ⟨o3.1, ?_, ?_, Nat.le_trans o3.2.2.2 hle⟩
        · intro hb
          cases ba
          · have hbb : bb = true := by simpa using hb
            have := o3.2.1 hbb
            rw [o1.2 rfl] at this; exact this
          · have := o2 rfl; omega
        · intro hb
          have hb' : ba = false ∧ bb = false := by simpa using hb
          rw [o3.2.2.1 hb'.2, o1.2 hb'.1]
theorem runC_fuel {N : Nat} {cls : List (List Int)} (hc : ∀ c ∈ cls, ∀ x ∈ c, -(N : Int) ≤ x ∧ x ≤ N) : ∀ (f g : Nat) (is : List Bool), is.length = 2 * N + 1 → offs is < f → offs is < g → runC N cls f is = runC N cls g is := by
  intro f
  induction f with
  | zero => intro g is _ h; omega
  | succ f ih =>
    intro g is hl h1 h2
    obtain ⟨g, rfl⟩ : ∃ g', g = g' + 1 := ⟨g - 1, by omega⟩
    unfold runC
    cases hp : passTo N cls is with
    | none => rfl
    | some p =>
      obtain ⟨is1, b⟩ := p
      have := pass_offs hc hl hp
      cases b
      · rfl
      · have h3 := this.2.1 rfl
        exact ih g is1 this.1 (by omega) (by omega)
theorem runAll_step {N : Nat} {cls : List (List Int)} (hc : ∀ c ∈ cls, ∀ x ∈ c, -(N : Int) ≤ x ∧ x ≤ N) {is is1 : List Bool} (hl : is.length = 2 * N + 1) (h : passTo N cls is = some (is1, true)) : runAll N cls is = runAll N cls is1 := by
  have := pass_offs hc hl h
  unfold runAll
  rw [runC, h]
  exact runC_fuel hc _ _ is1 this.1 (by have := this.2.1 rfl; omega) (by omega)
theorem runAll_end {N : Nat} {cls : List (List Int)} {is is1 : List Bool} (h : passTo N cls is = some (is1, false)) : runAll N cls is = some is1 := by
  unfold runAll; rw [runC, h]
theorem runAll_none {N : Nat} {cls : List (List Int)} {is : List Bool} (h : passTo N cls is = none) : runAll N cls is = none := by
  unfold runAll; rw [runC, h]
/-- a pass, as far as some clauses -/
theorem pass_take {N : Nat} : ∀ {cls : List (List Int)} {is ia : List Bool} {k : Nat} {b : Bool}, passTo N (cls.take k) is = some (ia, b) → ∀ (hk : k < cls.length), 
    (oneC N ia cls[k] = none → passTo N cls is = none) ∧ (∀ ib b2, oneC N ia cls[k] = some (ib, b2) → passTo N (cls.take (k + 1)) is = some (ib, b || b2)) := by
  intro cls
  induction cls with
  | nil => intro is ia k b _ hk; simp at hk
  | cons c cls ih =>
    intro is ia k b h hk
    cases k with
    | zero =>
      simp only [List.take_zero, passTo] at h
      simp only [Option.some.injEq, Prod.mk.injEq] at h
      obtain ⟨rfl, rfl⟩ := h
      simp only [List.getElem_cons_zero]
      constructor
      · intro e; unfold passTo; rw [e]
      · intro ib b2 e
        simp [passTo, e]
    | succ k =>
      simp only [List.take_succ_cons] at h
      unfold passTo at h
      cases h1 : oneC N is c with
      | none => rw [h1] at h; cases h
      | some p =>
        obtain ⟨i1, b1⟩ := p
        rw [h1] at h
        simp only [] at h
        cases h2 : passTo N (cls.take k) i1 with
        | none => rw [h2] at h; cases h
        | some p2 =>
          obtain ⟨i2, b2⟩ := p2
          rw [h2] at h
          simp only [Option.some.injEq, Prod.mk.injEq] at h
          obtain ⟨rfl, rfl⟩ := h
          have hk' : k < cls.length := by simpa using hk
          obtain ⟨r1, r2⟩ := ih h2 hk'
          simp only [List.getElem_cons_succ]
          constructor
          · intro e
            unfold passTo; rw [h1]; simp only []
            rw [r1 e]
          · intro ib b3 e
            simp only [List.take_succ_cons]
            unfold passTo; rw [h1]; simp only []
            rw [r2 ib b3 e]
            simp [Bool.or_assoc]
end Go.Proofs.Ytopneceicamakaa.Cf
