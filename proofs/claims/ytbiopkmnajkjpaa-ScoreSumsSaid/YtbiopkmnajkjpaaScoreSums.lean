/-
  LAYER 2: sums and means. A sum of floats that is no number has bits that the language does not fix; what it is otherwise is fixed.
-/
import Derived.Test.YtbiopkmnajkjpaaScoreSlices
namespace Go.Proofs.Ytbiopkmnajkjpaa.Sc
open Go.RowKit Ieee

/-- b is what o says: those bits, or any number that is none -/
def Rel (o : Option Nat) (b : Nat) : Prop := b < 18446744073709551616 ∧ match o with
  | some c => b = c ∧ isNan c = false
  | none => isNan b = true

theorem Rel.text {o : Option Nat} {a b : Nat} (h : Rel o a) (k : Rel o b) : txV a = txV b := by
  obtain ⟨_, h⟩ := h
  obtain ⟨_, k⟩ := k
  cases o with
  | some c => rw [h.1, k.1]
  | none => unfold txV; rw [if_pos (kind_nan' h), if_pos (kind_nan' k)]
theorem Rel.none_kind {b : Nat} (h : Rel none b) : kind b = 0 := kind_nan' h.2

theorem read_nan {b : Nat} (h : isNan b = true) : ∃ s f, double.read b = .nan s f := by
  unfold isNan at h
  have h := of_decide_eq_true h
  rw [read_double]
  unfold rung
  rw [if_neg (by omega), if_neg (by omega)]
  exact ⟨_, _, rfl⟩
theorem read_num {b : Nat} (h : isNan b = false) : (∃ s m e, double.read b = .number s m e) ∨ ∃ s, double.read b = .infinity s := by
  unfold isNan at h
  have h := of_decide_eq_false h
  rw [read_double]
  unfold rung
  by_cases k : b % 9223372036854775808 < 9218868437227405312
  · rw [if_pos k]; exact .inl ⟨_, _, _, rfl⟩
  · rw [if_neg k, if_pos (by omega)]; exact .inr ⟨_, rfl⟩
theorem read_pi : double.read 9218868437227405312 = .infinity false := by decide +kernel
theorem read_ni : double.read 18442240474082181120 = .infinity true := by decide +kernel
theorem read_inf {b : Nat} {s : Bool} (hb : b < 18446744073709551616) (h : double.read b = .infinity s) : b = if s then 18442240474082181120 else 9218868437227405312 := by
  rw [read_double] at h
  unfold rung sgn at h
  split at h
  · cases h
  · split at h
    · rename_i k
      cases h
      by_cases t : b < 9223372036854775808
      · rw [Nat.div_eq_of_lt t]; simp; omega
      · have : b / 9223372036854775808 = 1 := by omega
        rw [this]; simp; omega
    · cases h

theorem write_num (s : Bool) (m : Nat) (e : Int) : isNan (double.write (.number s m e)) = false ∧ double.write (.number s m e) < 18446744073709551616 := by
  have hi : double.infRung = 9218868437227405312 := by decide
  have hs : double.signWeight = 9223372036854775808 := by decide
  have key : ∀ r, r ≤ 9218868437227405312 → isNan (double.word s r) = false ∧ double.word s r < 18446744073709551616 := by
    intro r hr
    unfold Format.word
    rw [hs]
    unfold isNan
    split
    · refine ⟨decide_eq_false ?_, by omega⟩; omega
    · refine ⟨decide_eq_false ?_, by omega⟩; omega
  show isNan (double.nearest s m e) = false ∧ double.nearest s m e < 18446744073709551616
  unfold Format.nearest
  dsimp only
  split
  · exact key 0 (by omega)
  · rw [hi]; exact key _ (Nat.min_le_right _ _)
theorem write_inf (s : Bool) : double.write (.infinity s) = if s then 18442240474082181120 else 9218868437227405312 := by cases s <;> decide +kernel
theorem write_inf_ok (s : Bool) : isNan (double.write (.infinity s)) = false ∧ double.write (.infinity s) < 18446744073709551616 := by cases s <;> decide +kernel

theorem add_ok {x y r : Nat} (h : double.add x y = some r) : isNan r = false ∧ r < 18446744073709551616 := by
  unfold Format.add at h
  cases hx : double.read x <;> cases hy : double.read y <;> rw [hx, hy] at h <;> simp only [Datum.sum] at h
  · cases h; exact write_num _ _ _
  · cases h; exact write_inf_ok _
  · cases h
  · cases h; exact write_inf_ok _
  · split at h
    · cases h; exact write_inf_ok _
    · cases h
  · cases h
  · cases h
  · cases h
  · cases h
theorem add_nan_l {x y : Nat} (h : isNan x = true) : double.add x y = none := by
  obtain ⟨s, f, e⟩ := read_nan h
  unfold Format.add; rw [e]; cases double.read y <;> rfl
theorem add_nan_r {x y : Nat} (h : isNan y = true) : double.add x y = none := by
  obtain ⟨s, f, e⟩ := read_nan h
  unfold Format.add; rw [e]; cases double.read x <;> rfl
theorem add_inf_l (s : Bool) (y : Nat) : double.add (if s then 18442240474082181120 else 9218868437227405312) y = none ∨ double.add (if s then 18442240474082181120 else 9218868437227405312) y = some (if s then 18442240474082181120 else 9218868437227405312) := by
  have e : double.read (if s then 18442240474082181120 else 9218868437227405312) = .infinity s := by cases s; exact read_pi; exact read_ni
  unfold Format.add; rw [e, ← write_inf]
  cases double.read y with
  | number t m e => exact .inr rfl
  | nan t f => exact .inl rfl
  | infinity t => simp only [Datum.sum]; split; exact .inr rfl; exact .inl rfl
theorem add_inf_r (s : Bool) (x : Nat) : double.add x (if s then 18442240474082181120 else 9218868437227405312) = none ∨ double.add x (if s then 18442240474082181120 else 9218868437227405312) = some (if s then 18442240474082181120 else 9218868437227405312) := by
  have e : double.read (if s then 18442240474082181120 else 9218868437227405312) = .infinity s := by cases s; exact read_pi; exact read_ni
  unfold Format.add; rw [e, ← write_inf]
  cases double.read x with
  | number t m e => exact .inr rfl
  | nan t f => exact .inl rfl
  | infinity t => simp only [Datum.sum]; split; (rename_i h; rw [h]; exact .inr rfl); exact .inl rfl

theorem cut_arith (a c : Nat) (h1 : a < 2) (h2 : c < 4503599627370495) : isNan (a * 2 ^ 63 + 9218868437227405312 + 1 + c) = true ∧ a * 2 ^ 63 + 9218868437227405312 + 1 + c < 18446744073709551616 := by
  unfold isNan
  rcases (by omega : a = 0 ∨ a = 1) with e | e <;> subst e <;> refine ⟨decide_eq_true ?_, ?_⟩ <;> omega
theorem cut_nan (x y t : Nat) : isNan (Question.cut (.nanBits .f64 x y) t) = true ∧ Question.cut (.nanBits .f64 x y) t < 18446744073709551616 := by
  exact cut_arith (t % 2) ((t / 2) % (2 ^ 52 - 1)) (Nat.mod_lt _ (by decide)) (Nat.mod_lt _ (by decide))

/-- THE WALK's LAW of '+' on floats: the exact sum rounded, or any that is no number -/
theorem run_fadd {P : Program} (w : World) (t : TypeId) {o : Option Nat} {x y : Nat} (hx : Rel o x) :
    ∃ r w', (binOp .add t (.float .f64 x) (.float .f64 y)).run P w = .ok (.float .f64 r) w' ∧ Rel (o.bind fun c => double.add c y) r ∧ Below w.heap.size w w' := by
  have fmt : FloatKind.f64.format = double := rfl
  cases hs : double.add x y with
  | some r =>
    refine ⟨r, w, ?_, ?_, Below.refl _ _⟩
    · exact run_float_arith w .add t .f64 x y r hs
    · have ok := add_ok hs
      cases o with
      | some c =>
        rw [hx.2.1] at hs
        have e : (some c).bind (fun c => double.add c y) = some r := hs
        rw [e]; exact ⟨ok.2, rfl, ok.1⟩
      | none => rw [add_nan_l hx.2] at hs; cases hs
  | none =>
    refine ⟨Question.cut (.nanBits .f64 x y) (w.tape w.drawn (.nanBits .f64 x y)), w.drew, ?_, ?_, (Below.refl _ _).drew⟩
    · simp [binOp, Op.floatArith, fmt, hs, Question.forced]
    · have ok := cut_nan x y (w.tape w.drawn (.nanBits .f64 x y))
      cases o with
      | some c =>
        rw [hx.2.1] at hs ok ⊢
        have e : (some c).bind (fun c => double.add c y) = none := hs
        rw [e]; exact ⟨ok.2, ok.1⟩
      | none => exact ⟨ok.2, ok.1⟩

/-- '/' on floats -/
theorem div_ok {x y r : Nat} (h : double.div x y = some r) : isNan r = false ∧ r < 18446744073709551616 := by
  unfold Format.div at h
  cases hq : (double.read x).quotient (double.fractionBits + 2) (double.read y) with
  | none => rw [hq] at h; cases h
  | some d =>
    rw [hq] at h
    cases h
    cases d with
    | number s m e => exact write_num _ _ _
    | infinity s => exact write_inf_ok _
    | nan s f =>
      exfalso
      cases hx : double.read x <;> cases hy : double.read y <;> rw [hx, hy] at hq <;> simp only [Datum.quotient] at hq <;> (repeat (split at hq)) <;> cases hq
theorem div_nan {x y : Nat} (h : isNan x = true) : double.div x y = none := by
  obtain ⟨s, f, e⟩ := read_nan h
  unfold Format.div; rw [e]; cases double.read y <;> rfl

theorem run_fdiv {P : Program} (w : World) (t : TypeId) {o : Option Nat} {x y : Nat} (hx : Rel o x) :
    ∃ r w', (binOp .quo t (.float .f64 x) (.float .f64 y)).run P w = .ok (.float .f64 r) w' ∧ Rel (o.bind fun c => double.div c y) r ∧ Below w.heap.size w w' := by
  have fmt : FloatKind.f64.format = double := rfl
  cases hs : double.div x y with
  | some r =>
    refine ⟨r, w, run_float_arith w .quo t .f64 x y r hs, ?_, Below.refl _ _⟩
    have ok := div_ok hs
    cases o with
    | some c =>
      rw [hx.2.1] at hs
      have e : (some c).bind (fun c => double.div c y) = some r := hs
      rw [e]; exact ⟨ok.2, rfl, ok.1⟩
    | none => rw [div_nan hx.2] at hs; cases hs
  | none =>
    refine ⟨Question.cut (.nanBits .f64 x y) (w.tape w.drawn (.nanBits .f64 x y)), w.drew, ?_, ?_, (Below.refl _ _).drew⟩
    · simp [binOp, Op.floatArith, fmt, hs, Question.forced]
    · have ok := cut_nan x y (w.tape w.drawn (.nanBits .f64 x y))
      cases o with
      | some c =>
        rw [hx.2.1] at hs ok ⊢
        have e : (some c).bind (fun c => double.div c y) = none := hs
        rw [e]; exact ⟨ok.2, ok.1⟩
      | none => exact ⟨ok.2, ok.1⟩

/-- the sum of the first k -/
def canon (a : Nat) : Option Nat := if isNan a then none else some a
def sumTo (l : List Nat) : Nat → Option Nat
  | 0 => some 0
  | k + 1 => if k = 0 then canon (nth l 0) else (sumTo l k).bind fun c => double.add c (nth l k)
theorem rel_canon {a : Nat} (h : a < 18446744073709551616) : Rel (canon a) a := by
  unfold canon
  cases hn : isNan a
  · exact ⟨h, rfl, hn⟩
  · exact ⟨h, hn⟩
theorem rel_zero : Rel (some 0) 0 := ⟨by decide, rfl, by decide⟩
theorem sumTo_one (l : List Nat) : sumTo l 1 = canon (nth l 0) := rfl
theorem sumTo_step (l : List Nat) (k : Nat) (h : 0 < k) : sumTo l (k + 1) = (sumTo l k).bind fun c => double.add c (nth l k) := by
  show (if k = 0 then _ else _) = _
  rw [if_neg (by omega)]

def SumIs (o : Option Nat) (w : World) (e : Ending) (w' : World) : Prop := ∃ r, e = .returned (.float .f64 r) ∧ Rel o r ∧ Below w.heap.size w w'

theorem sum_nil (w : World) : Calls Try.prog 29 #[.slice none 0 0] w (SumIs (some 0) w) := by
  go_enter Try.func29, Try.ntmps29
  go_wp2
  go_ret
  exact ⟨_, rfl, rel_zero, Below.refl _ _⟩

theorem sum_one (l : List Nat) (hl : ∀ k, k < l.length → nth l k < 18446744073709551616) (g c : Nat) (hn : l.length = 1) (hc1 : 1 ≤ c) (hc2 : c ≤ maxLen) (w : World)
    (hc : ∀ k, k < l.length → w.cell? ⟨g, k, none⟩ = some (.float .f64 (nth l k))) :
    Calls Try.prog 29 #[.slice (some ⟨g, 0, none⟩) 1 c] w (SumIs (sumTo l 1) w) := by
  unfold maxLen at hc2
  have h0 := hc 0 (by omega)
  have hx := hid (hl 0 (by omega))
  clear hc hl hn
  by_cases h : c = 1
  · subst h
    go_enter Try.func29, Try.ntmps29
    go_wp2
    go_rounds 1
    go_ret
    exact ⟨_, rfl, rel_canon hx.out, Below.refl _ _⟩
  · go_enter Try.func29, Try.ntmps29
    go_wp2
    go_rounds 1
    go_ret
    exact ⟨_, rfl, rel_canon hx.out, Below.refl _ _⟩

set_option maxHeartbeats 1000000 in
theorem sum_many (l : List Nat) (hl : ∀ k, k < l.length → nth l k < 18446744073709551616) (g n c : Nat) (hn : n = l.length) (h2 : 2 ≤ n) (hc1 : n ≤ c) (hc2 : c ≤ maxLen) (w : World) (hg : g < w.heap.size)
    (hc : ∀ k, k < l.length → w.cell? ⟨g, k, none⟩ = some (.float .f64 (nth l k))) :
    Calls Try.prog 29 #[.slice (some ⟨g, 0, none⟩) n c] w (SumIs (sumTo l l.length) w) := by
  unfold maxLen at hc2
  have h0 := hc 0 (by omega)
  have HC := hid hc
  have HL := hid hl
  have HN := hid hn
  have hn1 : n ≤ l.length := by omega
  have hn2 : l.length ≤ n := by omega
  have hne : ((n : Int) == 0) = false := by rw [beq_eq_false_iff_ne]; omega
  clear hc hl hn
  go_enter Try.func29, Try.ntmps29
  go_wp2_with fail
  go_loopw [3, 15] (fun v i wr => ∃ k : Nat, k ≤ n - 1 ∧ i = .int .i64 k ∧ (∃ r, v = .float .f64 r ∧ Rel (sumTo l (k + 1)) r) ∧ Below w.heap.size w wr) (fun _ i _ => n - (intOf i).toNat)
  case atStart => exact ⟨0, by omega, rfl, ⟨_, rfl, rel_canon (HL.out 0 (by omega))⟩, Below.refl _ _⟩
  case round =>
    obtain ⟨k, hk, rfl, ⟨r, rfl, hr⟩, hbl⟩ := hrel
    by_cases hlt : k < n - 1
    · have hc1 : wr.cell? ⟨g, 1 + k, none⟩ = some (.float .f64 (nth l (k + 1))) := by
        rw [Nat.add_comm 1 k]
        exact (hbl.cell (p := ⟨g, k + 1, none⟩) hg).trans (HC.out (k + 1) (by omega))
      obtain ⟨r', w1, hrun, hr', hb1⟩ := run_fadd (P := Try.prog) wr 23 (y := nth l (k + 1)) hr
      rw [← sumTo_step l (k + 1) (by omega)] at hr'
      have hb2 := below_trans hbl hb1
      clear hb1 hr h0
      go_wp2
      go_roundw
      case rel => exact ⟨k + 1, by omega, by go_num, ⟨r', rfl, hr'⟩, hb2⟩
      case measure => simp [intOf]; omega
    · have hkn : k + 1 = l.length := by omega
      go_wp2_with fail
      go_ret
      refine ⟨_, rfl, ?_, hbl⟩
      rw [hkn] at hr
      exact hr

/-- the sum of a row, nil or not -/
theorem sum_row (l : List Nat) (hl : ∀ k, k < l.length → nth l k < 18446744073709551616) (v : Value) (w0 w : World) (h : w.ownsRow w0.heap.size 23 1 v l.length (floats l)) :
    Calls Try.prog 29 #[v] w (SumIs (sumTo l l.length) w) := by
  rcases ownsRow_one h with ⟨rfl, hz, _⟩ | ⟨g, c, rfl, _, hg, hnc, hcm, hcell⟩
  · rw [hz]; exact sum_nil w
  · have hc : ∀ k, k < l.length → w.cell? ⟨g, k, none⟩ = some (.float .f64 (nth l k)) := fun i hi => hcell i _ (floats_get hi)
    rcases Nat.lt_trichotomy l.length 1 with h1 | h1 | h1
    · have h0 : l.length = 0 := by omega
      rw [h0]
      clear hc hcell h hnc hl
      go_enter Try.func29, Try.ntmps29
      go_wp2
      go_ret
      exact ⟨_, rfl, rel_zero, Below.refl _ _⟩
    · have := sum_one l hl g c h1 (by omega) hcm w hc
      rw [h1]; exact this
    · exact sum_many l hl g l.length c rfl (by omega) hnc hcm w hg hc

end Go.Proofs.Ytbiopkmnajkjpaa.Sc
