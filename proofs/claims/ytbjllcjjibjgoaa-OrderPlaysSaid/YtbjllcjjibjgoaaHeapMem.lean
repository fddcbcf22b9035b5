/-
  LAYER 13: a heap in memory; its smallest calls: knows, ahead, put, Len, Has, Score.
-/
import Derived.Test.YtbjllcjjibjgoaaRows
import Derived.Test.YtbjllcjjibjgoaaHeapSpec
import Derived.Test.YtbjllcjjibjgoaaOnly
import Derived.Deep.QuietTactic
import Derived.BigQuiet
namespace Go.Proofs.Ytbjllcjjibjgoaa.Hp
open Go.RowKit Go.Proofs.Ytbjllcjjibjgoaa.Ln

/-- the blocks of a heap: itself, its scores, its places, its tree -/
structure Hm where
  p : Nat
  s : Nat
  l : Nat
  t : Nat
def Hm.own (m : Hm) (b : Nat) : Prop := b = m.p ∨ b = m.s ∨ b = m.l ∨ b = m.t

def natV (n : Nat) : Value := .int .i64 (n : Int)

/-- a heap of so many variables in memory: scores, places, what lies in its tree, how much of that is in -/
structure HMem (w : World) (m : Hm) (N : Nat) (S : List Nat) (P : List Int) (R : List Nat) (n : Nat) : Prop where
  ps : m.p ≠ m.s
  pl : m.p ≠ m.l
  pt : m.p ≠ m.t
  sl : m.s ≠ m.l
  st : m.s ≠ m.t
  lt : m.l ≠ m.t
  small : N ≤ 400
  lenS : S.length = N + 1
  lenP : P.length = N + 1
  lenR : R.length = N
  le : n ≤ N
  head : Blk w m.p [.slice (some ⟨m.s, 0, none⟩) (N + 1) (N + 1), .slice (some ⟨m.l, 0, none⟩) (N + 1) (N + 1), .slice (some ⟨m.t, 0, none⟩) n N] 49
  scores : Blk w m.s (S.map natV) 3
  places : Blk w m.l (P.map (Value.int .i64)) 3
  tree : Blk w m.t (R.map natV) 3

theorem HMem.only {w w' : World} {m : Hm} {N : Nat} {S : List Nat} {P : List Int} {R : List Nat} {n : Nat} (h : HMem w m N S P R n) {F : Nat → Prop} (ho : Only F w w') (hf : ∀ b, m.own b → ¬ F b) : HMem w' m N S P R n :=
  { h with head := Blk.only h.head ho (hf _ (.inl rfl)), scores := Blk.only h.scores ho (hf _ (.inr (.inl rfl))), places := Blk.only h.places ho (hf _ (.inr (.inr (.inl rfl)))), tree := Blk.only h.tree ho (hf _ (.inr (.inr (.inr rfl)))) }
theorem HMem.below {w w' : World} {m : Hm} {N : Nat} {S : List Nat} {P : List Int} {R : List Nat} {n : Nat} (h : HMem w m N S P R n) (hb : Below w.heap.size w w') : HMem w' m N S P R n :=
  { h with head := h.head.below hb, scores := h.scores.below hb, places := h.places.below hb, tree := h.tree.below hb }
theorem HMem.drewN {w : World} {m : Hm} {N : Nat} {S : List Nat} {P : List Int} {R : List Nat} {n : Nat} (h : HMem w m N S P R n) (k : Nat) : HMem (w.drewN k) m N S P R n := h.below (below_drewN' (Below.refl _ _) k)
theorem HMem.score {w : World} {m : Hm} {N : Nat} {S : List Nat} {P : List Int} {R : List Nat} {n : Nat} (h : HMem w m N S P R n) {v : Nat} (hv : v ≤ N) : w.cell? ⟨m.s, v, none⟩ = some (.int .i64 (S.getD v 0 : Nat)) :=
  h.scores.cell v (by rw [List.getElem?_map, List.getElem?_eq_getElem (by rw [h.lenS]; omega), List.getD_eq_getElem?_getD, List.getElem?_eq_getElem (by rw [h.lenS]; omega)]; rfl)
theorem HMem.place {w : World} {m : Hm} {N : Nat} {S : List Nat} {P : List Int} {R : List Nat} {n : Nat} (h : HMem w m N S P R n) {v : Nat} (hv : v ≤ N) : w.cell? ⟨m.l, v, none⟩ = some (.int .i64 (P.getD v 0)) :=
  h.places.cell v (by rw [List.getElem?_map, List.getElem?_eq_getElem (by rw [h.lenP]; omega), List.getD_eq_getElem?_getD, List.getElem?_eq_getElem (by rw [h.lenP]; omega)]; rfl)
theorem HMem.node {w : World} {m : Hm} {N : Nat} {S : List Nat} {P : List Int} {R : List Nat} {n : Nat} (h : HMem w m N S P R n) {i : Nat} (hi : i < N) : w.cell? ⟨m.t, i, none⟩ = some (.int .i64 (R.getD i 0 : Nat)) :=
  h.tree.cell i (by rw [List.getElem?_map, List.getElem?_eq_getElem (by rw [h.lenR]; omega), List.getD_eq_getElem?_getD, List.getElem?_eq_getElem (by rw [h.lenR]; omega)]; rfl)

set_option maxHeartbeats 1000000 in
theorem ahead_any {w : World} {m : Hm} {N : Nat} {S : List Nat} {P : List Int} {R : List Nat} {n : Nat} (h : HMem w m N S P R n) (a b : Nat) (ha : a ≤ N) (hb : b ≤ N) :
    Calls Try.prog 31 #[.pointer (some ⟨m.p, 0, none⟩), .int .i64 (a : Int), .int .i64 (b : Int)] w fun e w' => e = .returned (.bool (decide (ahead S a b))) ∧ Drawn w w' := by
  have c0 := h.head.cell 0 rfl
  have ca := h.score ha
  have cb := h.score hb
  have hs := h.small
  have ia : a < N + 1 := by omega
  have ib : b < N + 1 := by omega
  clear h
  by_cases e : S.getD a 0 = S.getD b 0
  · have E := hid (show decide (a < b) = decide (ahead S a b) by rw [decide_eq_decide]; unfold ahead; omega)
    have ne : (((S.getD a 0 : Nat) : Int) != ((S.getD b 0 : Nat) : Int)) = false := by rw [e]; simp
    clear e
    generalize S.getD a 0 = x at *
    generalize S.getD b 0 = y at *
    generalize hd : decide (ahead S a b) = d at *
    clear hd
    go_enter Try.func31, Try.ntmps31
    go_wp2_with fail
    go_quiet (fail)
    go_wp2
    go_ret
    exact ⟨ret_bool (by first | exact E.out | (rw [← E.out]; simp)), ⟨_, rfl⟩⟩
  · have E := hid (show decide (S.getD b 0 < S.getD a 0) = decide (ahead S a b) by rw [decide_eq_decide]; unfold ahead; omega)
    have ne : (((S.getD a 0 : Nat) : Int) != ((S.getD b 0 : Nat) : Int)) = true := by rw [bne_iff_ne]; omega
    clear e
    generalize S.getD a 0 = x at *
    generalize S.getD b 0 = y at *
    generalize hd : decide (ahead S a b) = d at *
    clear hd
    go_enter Try.func31, Try.ntmps31
    go_wp2_with fail
    go_quiet (fail)
    go_wp2
    go_quiet (fail)
    go_wp2
    go_ret
    exact ⟨ret_bool (by first | exact E.out | (rw [← E.out]; simp)), ((Drawn.refl _).more _).more _⟩

theorem HMem.wrote_place {w : World} {m : Hm} {N : Nat} {S : List Nat} {P : List Int} {R : List Nat} {n : Nat} (h : HMem w m N S P R n) (v : Nat) (x : Int) : HMem (w.setCell ⟨m.l, v, none⟩ (.int .i64 x)) m N S (P.set v x) R n :=
  { h with lenP := by simp [h.lenP], head := h.head.other h.pl _, scores := h.scores.other h.sl _, places := by rw [List.map_set]; exact h.places.set v _, tree := h.tree.other h.lt.symm _ }
theorem HMem.wrote_node {w : World} {m : Hm} {N : Nat} {S : List Nat} {P : List Int} {R : List Nat} {n : Nat} (h : HMem w m N S P R n) (i : Nat) (x : Nat) : HMem (w.setCell ⟨m.t, i, none⟩ (.int .i64 (x : Int))) m N S P (R.set i x) n :=
  { h with lenR := by simp [h.lenR], head := h.head.other h.pt _, scores := h.scores.other h.st _, places := h.places.other h.lt _, tree := by rw [List.map_set]; exact h.tree.set i _ }
theorem HMem.wrote_score {w : World} {m : Hm} {N : Nat} {S : List Nat} {P : List Int} {R : List Nat} {n : Nat} (h : HMem w m N S P R n) (v : Nat) (x : Nat) : HMem (w.setCell ⟨m.s, v, none⟩ (.int .i64 (x : Int))) m N (S.set v x) P R n :=
  { h with lenS := by simp [h.lenS], head := h.head.other h.ps _, scores := by rw [List.map_set]; exact h.scores.set v _, places := h.places.other h.sl.symm _, tree := h.tree.other h.st.symm _ }

/-- what a call that writes the heap leaves -/
def Put (m : Hm) (N : Nat) (S : List Nat) (P : List Int) (R : List Nat) (n : Nat) (w : World) (e : Ending) (w' : World) : Prop := e = .returned (.tuple #[]) ∧ Only m.own w w' ∧ HMem w' m N S P R n

set_option maxHeartbeats 1000000 in
theorem put_any {w : World} {m : Hm} {N : Nat} {S : List Nat} {P : List Int} {R : List Nat} {n : Nat} (h : HMem w m N S P R n) (v i : Nat) (hv : v ≤ N) (hi : i < n) :
    Calls Try.prog 24 #[.pointer (some ⟨m.p, 0, none⟩), .int .i64 (v : Int), .int .i64 (i : Int)] w (Put m N S (P.set v (i : Int)) (R.set i v) n w) := by
  have c2 := h.head.cell 2 rfl
  have c1 := h.head.cell 1 rfl
  have cv := h.place hv
  have ci := h.node (show i < N by have := h.le; omega)
  have ft := h.tree.free i
  have fl := h.places.free v
  have hs := h.small
  have iv : v < N + 1 := by omega
  have n1 := h.pt
  have n2 := h.pl
  have n3 := h.lt
  have H := hid h
  clear h
  go_enter Try.func24, Try.ntmps24
  go_wp2
  refine bodyPost_ret (v := .tuple #[]) (by simp [results, Try.results24, go_sem]) rfl ?_
  refine ⟨rfl, ?_, (H.out.wrote_node i v).wrote_place v i⟩
  exact ((Only.refl _ _).setCell (.inr (.inr (.inr rfl))) _).setCell (.inr (.inr (.inl rfl))) _

theorem put_zero {w : World} {m : Hm} {N : Nat} {S : List Nat} {P : List Int} {R : List Nat} {n : Nat} (h : HMem w m N S P R n) (v : Nat) (hv : v ≤ N) (hi : 0 < n) :
    Calls Try.prog 24 #[.pointer (some ⟨m.p, 0, none⟩), .int .i64 (v : Int), .int .i64 0] w (Put m N S (P.set v 0) (R.set 0 v) n w) := put_any h v 0 hv hi

/-- is there such a variable? -/
def knowsV (N : Nat) (v : Int) : Bool := decide (1 ≤ v ∧ v ≤ N)
theorem knows_t {N : Nat} {v : Int} (h : 1 ≤ v) (k : v ≤ N) : knowsV N v = true := decide_eq_true ⟨h, k⟩
theorem knows_f {N : Nat} {v : Int} (h : ¬ (1 ≤ v ∧ v ≤ N)) : knowsV N v = false := decide_eq_false h

set_option maxHeartbeats 1000000 in
theorem knows_any {w : World} {m : Hm} {N : Nat} {S : List Nat} {P : List Int} {R : List Nat} {n : Nat} (h : HMem w m N S P R n) (v : Int) :
    Calls Try.prog 25 #[.pointer (some ⟨m.p, 0, none⟩), .int .i64 v] w fun e w' => e = .returned (.bool (knowsV N v)) ∧ w = w' := by
  have c0 := h.head.cell 0 rfl
  have hs := h.small
  clear h
  by_cases h1 : 1 ≤ v
  · by_cases h2 : v < (N : Int) + 1
    · have d1 : decide (1 ≤ v) = true := decide_eq_true h1
      have d2 : decide (v < (N : Int) + 1) = true := decide_eq_true h2
      have E := hid (knows_t h1 (show v ≤ N by omega))
      go_enter Try.func25, Try.ntmps25
      go_wp2
      go_ret
      exact ⟨ret_bool E.out.symm, rfl⟩
    · have d1 : decide (1 ≤ v) = true := decide_eq_true h1
      have d2 : decide (v < (N : Int) + 1) = false := decide_eq_false h2
      have E := hid (knows_f (N := N) (v := v) (by omega))
      go_enter Try.func25, Try.ntmps25
      go_wp2
      go_ret
      exact ⟨ret_bool E.out.symm, rfl⟩
  · have d1 : decide (1 ≤ v) = false := decide_eq_false h1
    have E := hid (knows_f (N := N) (v := v) (by omega))
    go_enter Try.func25, Try.ntmps25
    go_wp2
    go_ret
    exact ⟨ret_bool E.out.symm, rfl⟩

theorem knows_nil (v : Int) (w : World) :
    Calls Try.prog 25 #[.pointer none, .int .i64 v] w fun e w' => e = .returned (.bool false) ∧ w = w' := by
  go_enter Try.func25, Try.ntmps25
  go_wp2
  go_ret
  exact ⟨rfl, rfl⟩

theorem len_nil (w : World) :
    Calls Try.prog 19 #[.pointer none] w fun e w' => e = .returned (.int .i64 0) ∧ w = w' := by
  go_enter Try.func19, Try.ntmps19
  go_wp2
  go_ret
  exact ⟨rfl, rfl⟩

theorem len_any {w : World} {m : Hm} {N : Nat} {S : List Nat} {P : List Int} {R : List Nat} {n : Nat} (h : HMem w m N S P R n) :
    Calls Try.prog 19 #[.pointer (some ⟨m.p, 0, none⟩)] w fun e w' => e = .returned (.int .i64 (n : Int)) ∧ w = w' := by
  have c2 := h.head.cell 2 rfl
  clear h
  go_enter Try.func19, Try.ntmps19
  go_wp2
  go_ret
  exact ⟨rfl, rfl⟩

/-- is it in? (its place says so) -/
def hasV (N : Nat) (P : List Int) (v : Int) : Bool := knowsV N v && decide (P.getD v.toNat 0 ≠ -1)

set_option maxHeartbeats 1000000 in
theorem has_any {w : World} {m : Hm} {N : Nat} {S : List Nat} {P : List Int} {R : List Nat} {n : Nat} (h : HMem w m N S P R n) (v : Int) :
    Calls Try.prog 20 #[.pointer (some ⟨m.p, 0, none⟩), .int .i64 v] w fun e w' => e = .returned (.bool (hasV N P v)) ∧ w = w' := by
  have c1 := h.head.cell 1 rfl
  have hs := h.small
  have H := hid h
  cases hk : knowsV N v
  · have E := hid (show hasV N P v = false by unfold hasV; rw [hk]; rfl)
    have K := hid hk
    clear hk h
    go_enter Try.func20, Try.ntmps20
    go_wp2_with fail
    refine (knows_any H.out v).mono ?_
    rintro e w' ⟨rfl, rfl⟩
    rw [K.out]
    go_wp2
    go_ret
    exact ⟨ret_bool E.out.symm, rfl⟩
  · have hv := of_decide_eq_true hk
    obtain ⟨k, rfl⟩ : ∃ k : Nat, v = (k : Int) := ⟨v.toNat, by omega⟩
    have ck := h.place (show k ≤ N by omega)
    have ik : k < N + 1 := by omega
    have E := hid (show hasV N P k = (P.getD k 0 != -1) by unfold hasV; rw [hk, Int.toNat_natCast, Bool.true_and, Bool.eq_iff_iff, decide_eq_true_iff, bne_iff_ne])
    have K := hid hk
    clear hk h hv
    generalize P.getD k 0 = x at *
    go_enter Try.func20, Try.ntmps20
    go_wp2_with fail
    refine (knows_any H.out _).mono ?_
    rintro e w' ⟨rfl, rfl⟩
    rw [K.out]
    go_wp2
    go_ret
    exact ⟨ret_bool (by rw [E.out]), rfl⟩
theorem has_nil (v : Int) (w : World) :
    Calls Try.prog 20 #[.pointer none, .int .i64 v] w fun e w' => e = .returned (.bool false) ∧ w = w' := by
  go_enter Try.func20, Try.ntmps20
  go_wp2_with (go_at_call 25; (with_reducible refine (knows_nil _ _).mono ?_); rintro e w' ⟨rfl, rfl⟩)
  go_ret
  exact ⟨rfl, rfl⟩

def scoreV (N : Nat) (S : List Nat) (v : Int) : Nat := if knowsV N v then S.getD v.toNat 0 else 0

set_option maxHeartbeats 1000000 in
theorem score_any {w : World} {m : Hm} {N : Nat} {S : List Nat} {P : List Int} {R : List Nat} {n : Nat} (h : HMem w m N S P R n) (v : Int) :
    Calls Try.prog 21 #[.pointer (some ⟨m.p, 0, none⟩), .int .i64 v] w fun e w' => e = .returned (.int .i64 (scoreV N S v : Nat)) ∧ w = w' := by
  have c0 := h.head.cell 0 rfl
  have hs := h.small
  have H := hid h
  cases hk : knowsV N v
  · have E := hid (show scoreV N S v = 0 by unfold scoreV; rw [hk]; rfl)
    have K := hid hk
    clear hk h
    go_enter Try.func21, Try.ntmps21
    go_wp2_with fail
    refine (knows_any H.out v).mono ?_
    rintro e w' ⟨rfl, rfl⟩
    rw [K.out]
    go_wp2
    go_ret
    exact ⟨ret_int (by rw [E.out]; rfl), rfl⟩
  · have hv := of_decide_eq_true hk
    obtain ⟨k, rfl⟩ : ∃ k : Nat, v = (k : Int) := ⟨v.toNat, by omega⟩
    have ck := h.score (show k ≤ N by omega)
    have ik : k < N + 1 := by omega
    have E := hid (show scoreV N S k = S.getD k 0 by unfold scoreV; rw [hk, Int.toNat_natCast]; rfl)
    have K := hid hk
    clear hk h hv
    generalize S.getD k 0 = x at *
    go_enter Try.func21, Try.ntmps21
    go_wp2_with fail
    refine (knows_any H.out _).mono ?_
    rintro e w' ⟨rfl, rfl⟩
    rw [K.out]
    go_wp2
    go_ret
    exact ⟨ret_int (by rw [E.out]), rfl⟩
theorem score_nil (v : Int) (w : World) :
    Calls Try.prog 21 #[.pointer none, .int .i64 v] w fun e w' => e = .returned (.int .i64 0) ∧ w = w' := by
  go_enter Try.func21, Try.ntmps21
  go_wp2_with (go_at_call 25; (with_reducible refine (knows_nil _ _).mono ?_); rintro e w' ⟨rfl, rfl⟩)
  go_ret
  exact ⟨rfl, rfl⟩
theorem push_nil (v : Int) (w : World) :
    Calls Try.prog 12 #[.pointer none, .int .i64 v] w fun e w' => e = .returned (.tuple #[]) ∧ w = w' := by
  go_enter Try.func12, Try.ntmps12
  go_wp2_with (go_at_call 25; (with_reducible refine (knows_nil _ _).mono ?_); rintro e w' ⟨rfl, rfl⟩)
  go_end0
  exact ⟨rfl, rfl⟩
theorem pop_nil (w : World) :
    Calls Try.prog 14 #[.pointer none] w fun e w' => e = .returned (.tuple #[.int .i64 0, .bool false]) ∧ w = w' := by
  go_enter Try.func14, Try.ntmps14
  go_wp2_with (go_at_call 19; (with_reducible refine (len_nil _).mono ?_); rintro e w' ⟨rfl, rfl⟩)
  go_ret2
  exact ⟨rfl, rfl⟩
theorem bump_nil (v by' : Int) (w : World) :
    Calls Try.prog 16 #[.pointer none, .int .i64 v, .int .i64 by'] w fun e w' => e = .returned (.bool false) ∧ w = w' := by
  go_enter Try.func16, Try.ntmps16
  go_wp2_with (go_at_call 25; (with_reducible refine (knows_nil _ _).mono ?_); rintro e w' ⟨rfl, rfl⟩)
  go_ret
  exact ⟨rfl, rfl⟩
end Go.Proofs.Ytbjllcjjibjgoaa.Hp
