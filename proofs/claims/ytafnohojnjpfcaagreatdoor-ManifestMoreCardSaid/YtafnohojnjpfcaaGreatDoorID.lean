/-
  SEVERAL TEXTS, one behind the other.
-/
import Derived.Test.YtafnohojnjpfcaaGreatDoorIA
import Derived.Test.YtafnohojnjpfcaaGreatDoorSpecComp
import Derived.Test.YtafnohojnjpfcaaGreatDoorVersionRows
import Derived.Test.YtafnohojnjpfcaaGreatDoorNums
import Derived.Lib.QuietBelow
import Derived.Deep.CutBlock
import Derived.Deep.DeepCutAuto
import Derived.Test.YtafnohojnjpfcaaGreatDoorSpecParse
import Derived.Deep.AppendLies
/-
  LAYER 4, PLAIN MATHEMATICS: a sign ahead of a version's text is a range of one comparison.
-/
namespace Go.Proofs.YtafnohojnjpfcaaGreatDoor.Sp
open Go.Proofs.YtafnohojnjpfcaaGreatDoor Go.Proofs.YtafnohojnjpfcaaGreatDoor.Nu Go.Proofs.YtafnohojnjpfcaaGreatDoor.Vs

theorem mem_cutl {c x : UInt8} (hx : x ≠ c) : ∀ (n : Nat) (l : List UInt8), l.length ≤ n → x ∈ l → ∃ p, p ∈ cutl c l ∧ x ∈ p := by
  intro n
  induction n with
  | zero => intro l h hm; obtain rfl := List.eq_nil_of_length_eq_zero (Nat.le_zero.1 h); simp at hm
  | succ n ih =>
    intro l hl hm
    by_cases h : c ∈ l
    · obtain ⟨a, r, rfl, ha⟩ := splits l h
      rw [cutl_hit ha]
      rcases List.mem_append.1 hm with h1 | h1
      · exact ⟨a, by simp, h1⟩
      · rcases List.mem_cons.1 h1 with h2 | h2
        · exact absurd h2 hx
        · obtain ⟨p, h3, h4⟩ := ih r (by simp at hl; omega) h2
          exact ⟨p, by simp [h3], h4⟩
    · rw [cutl_no h]; exact ⟨l, by simp, hm⟩
theorem pre_no {p : List UInt8} (h : p = [] ∨ preV p = true) {x : UInt8} (hx : pB x = false) (h46 : x ≠ 46) : x ∉ p := by
  rcases h with rfl | h
  · simp
  · intro hm
    obtain ⟨q, h1, h2⟩ := mem_cutl h46 _ p (Nat.le_refl _) hm
    unfold preV at h
    simp only [Bool.and_eq_true] at h
    have h3 := List.all_eq_true.1 h.2 q h1
    unfold partV at h3
    simp only [Bool.and_eq_true] at h3
    have := List.all_eq_true.1 h3.1.2 x h2
    rw [hx] at this; cases this
/-- no such byte stands in a version's text -/
theorem ver_no {l : List UInt8} (h : verV l = true) {x : UInt8} (hx : pB x = false) (h46 : x ≠ 46) (h45 : x ≠ 45) : x ∉ l := by
  obtain ⟨t1, t2, t3, t4, t5, _⟩ := text_of h
  have hd : dgB x = false := by
    unfold pB at hx
    simp only [Bool.or_eq_false_iff] at hx
    exact hx.1.1
  rw [← t1]
  unfold textV textN
  intro hm
  have n0 := dec_no _ t2 x hd
  have n1 := dec_no _ t3 x hd
  have n2 := dec_no _ t4 x hd
  have n3 := pre_no t5 hx h46
  rcases List.mem_append.1 hm with hm | hm
  · rcases List.mem_append.1 hm with hm | hm
    · exact n0 hm
    · rcases List.mem_cons.1 hm with hm | hm
      · exact h46 hm
      · rcases List.mem_append.1 hm with hm | hm
        · exact n1 hm
        · rcases List.mem_cons.1 hm with hm | hm
          · exact h46 hm
          · exact n2 hm
  · split at hm
    · simp at hm
    · rcases List.mem_cons.1 hm with hm | hm
      · exact h45 hm
      · exact n3 hm
theorem numB_head {l : List UInt8} (h : numB l = true) : ∃ d r, l = d :: r ∧ dgB d = true := by
  obtain ⟨a, _, _, d⟩ := numB_iff.1 h
  cases l with
  | nil => simp at a
  | cons c r => exact ⟨c, r, rfl, List.all_eq_true.1 d c (by simp)⟩
/-- a version's text begins with a digit -/
theorem ver_head {l : List UInt8} (h : verV l = true) : ∃ d r, l = d :: r ∧ dgB d = true := by
  unfold verV at h
  simp only [Bool.and_eq_true] at h
  obtain ⟨a, b, c, hc, ha, _, _⟩ := nums_three h.1
  obtain ⟨d, r, rfl, hd⟩ := numB_head (numV_of ha).1
  have hj := join_cutl 46 (fore 45 l)
  rw [hc] at hj
  have h1 : fore 45 l = d :: (r ++ 46 :: joinl 46 [b, c]) := hj.symm
  cases l with
  | nil => simp [fore] at h1
  | cons x l =>
    unfold fore at h1
    rw [List.takeWhile_cons] at h1
    split at h1
    · injection h1 with e _
      exact ⟨x, l, rfl, by rw [e]; exact hd⟩
    · cases h1
theorem ver_not {c : UInt8} {l : List UInt8} (h : dgB c = false) : verV (c :: l) = false := by
  rw [← Bool.not_eq_true]
  intro hv
  obtain ⟨d, r, e, hd⟩ := ver_head hv
  injection e with e1 _
  rw [e1, hd] at h; cases h

/-- the six signs of the law, in its order -/
def opI : Nat → Nat
  | 0 => 0
  | 1 => 1
  | 2 => 2
  | 3 => 5
  | 4 => 4
  | _ => 3
theorem dg_ne {d : UInt8} (h : dgB d = true) : (61 : UInt8) ≠ d ∧ (33 : UInt8) ≠ d ∧ (60 : UInt8) ≠ d ∧ (62 : UInt8) ≠ d ∧ (126 : UInt8) ≠ d ∧ (94 : UInt8) ≠ d := by
  refine ⟨?_, ?_, ?_, ?_, ?_, ?_⟩ <;> (rintro rfl; simp [dgB] at h)
theorem compOf_sign {l : List UInt8} (hv : verV l = true) : ∀ i, i < 6 → compOf (sgn (opI i) ++ l) = some (ofV (opI i) l) := by
  obtain ⟨d, r, rfl, hd⟩ := ver_head hv
  have v61 : verV (61 :: d :: r) = false := ver_not (by decide)
  intro i hi
  have ways : i = 0 ∨ i = 1 ∨ i = 2 ∨ i = 3 ∨ i = 4 ∨ i = 5 := by omega
  rcases ways with rfl | rfl | rfl | rfl | rfl | rfl <;> simp [compOf, opI, sgn, firstHit, hit, List.isPrefixOf, hv, v61]
theorem rngOf_sign {l : List UInt8} (hv : verV l = true) (hl : l.length ≤ 70) {i : Nat} (hi : i < 6) : rngOf (sgn (opI i) ++ l) = some [[ofV (opI i) l]] := by
  have hs : (124 : UInt8) ∉ sgn (opI i) ∧ (44 : UInt8) ∉ sgn (opI i) ∧ (sgn (opI i)).length ≤ 2 := by
    have ways : i = 0 ∨ i = 1 ∨ i = 2 ∨ i = 3 ∨ i = 4 ∨ i = 5 := by omega
    rcases ways with rfl | rfl | rfl | rfl | rfl | rfl <;> decide
  have h1 : (124 : UInt8) ∉ sgn (opI i) ++ l := by
    intro h
    rcases List.mem_append.1 h with h | h
    · exact hs.1 h
    · exact ver_no hv (by decide) (by decide) (by decide) h
  have h2 : (44 : UInt8) ∉ sgn (opI i) ++ l := by
    intro h
    rcases List.mem_append.1 h with h | h
    · exact hs.2.1 h
    · exact ver_no hv (by decide) (by decide) (by decide) h
  have ha : altOf (sgn (opI i) ++ l) = some [ofV (opI i) l] := by
    unfold altOf
    rw [cutl_no h2, if_pos (by simp)]
    simp only [allOf, compOf_sign hv i hi]
  unfold rngOf
  rw [cutl_no h1, if_pos ⟨by rw [List.length_append]; have := hs.2.2; omega, by simp⟩]
  simp only [allOf, ha]
theorem rngHas_sign {l : List UInt8} {i : Nat} (hi : i < 6) (x y z : Nat) : rngHas [[ofV (opI i) l]] x y z [] = okOp (opI i) (cmpV [x, y, z] [nth l 0, nth l 1, nth l 2] [] (aft 45 l)) := by
  have ways : i = 0 ∨ i = 1 ∨ i = 2 ∨ i = 3 ∨ i = 4 ∨ i = 5 := by omega
  rcases ways with rfl | rfl | rfl | rfl | rfl | rfl <;> simp [rngHas, altHas, compHas, ofV, opI]
end Go.Proofs.YtafnohojnjpfcaaGreatDoor.Sp

/-
  LAYER 4, PLAIN MATHEMATICS: a comparison's sign is all that stands ahead of its first digit.
-/
namespace Go.Proofs.YtafnohojnjpfcaaGreatDoor.Sp
open Go.Proofs.YtafnohojnjpfcaaGreatDoor Go.Proofs.YtafnohojnjpfcaaGreatDoor.Nu Go.Proofs.YtafnohojnjpfcaaGreatDoor.Vs

/-- how many bytes ahead of the first digit -/
def noDig (c : UInt8) : Bool := !dgB c
def lead (l : List UInt8) : Nat := run noDig l 0
theorem lead_le (l : List UInt8) : lead l ≤ l.length := by
  have := run_le noDig l 0 (Nat.zero_le _)
  unfold lead; omega
theorem lead_app : ∀ (s : List UInt8) {t : List UInt8}, s.all noDig = true → (∃ d r, t = d :: r ∧ dgB d = true) → lead (s ++ t) = s.length := by
  intro s t hs ht
  obtain ⟨d, r, rfl, hd⟩ := ht
  unfold lead run
  rw [List.drop_zero]
  have : (s ++ d :: r).takeWhile noDig = s := by
    rw [List.takeWhile_append_of_pos (fun x hx => List.all_eq_true.1 hs x hx), List.takeWhile_cons_of_neg (by unfold noDig; rw [hd]; decide), List.append_nil]
  rw [this]
theorem sgn_all {k : Nat} (h : k < 8) : (sgn k).all noDig = true := by
  have ways : k = 0 ∨ k = 1 ∨ k = 2 ∨ k = 3 ∨ k = 4 ∨ k = 5 ∨ k = 6 ∨ k = 7 := by omega
  rcases ways with rfl | rfl | rfl | rfl | rfl | rfl | rfl | rfl <;> rfl
theorem sgn_inj {k j : Nat} (h : k < 8) (hj : j < 8) (e : sgn k = sgn j) : k = j := by
  have ways : k = 0 ∨ k = 1 ∨ k = 2 ∨ k = 3 ∨ k = 4 ∨ k = 5 ∨ k = 6 ∨ k = 7 := by omega
  have ways' : j = 0 ∨ j = 1 ∨ j = 2 ∨ j = 3 ∨ j = 4 ∨ j = 5 ∨ j = 6 ∨ j = 7 := by omega
  rcases ways with rfl | rfl | rfl | rfl | rfl | rfl | rfl | rfl <;> rcases ways' with rfl | rfl | rfl | rfl | rfl | rfl | rfl | rfl <;> first | rfl | (exact absurd e (by decide))
theorem hit_lead {l : List UInt8} {k : Nat} (hk : k < 8) (h : hit l k = true) : l.take (lead l) = sgn k ∧ (sgn k).length = lead l := by
  unfold hit at h
  simp only [Bool.and_eq_true] at h
  have hp := List.prefix_iff_eq_append.1 (List.isPrefixOf_iff_prefix.1 h.1)
  have hl := lead_app (sgn k) (sgn_all hk) (ver_head h.2)
  rw [hp] at hl
  refine ⟨?_, hl.symm⟩
  rw [hl]
  conv => lhs; rw [← hp]
  exact List.take_left
theorem hit_is {l : List UInt8} {k : Nat} (h : l.take (lead l) = sgn k) : hit l k = verV (l.drop (lead l)) ∧ (sgn k).length = lead l := by
  have hl : (sgn k).length = lead l := by rw [← h, List.length_take]; have := lead_le l; omega
  refine ⟨?_, hl⟩
  unfold hit
  rw [hl, ← h, List.isPrefixOf_iff_prefix.2 (List.take_prefix _ _)]
  rfl
theorem firstHit_off {l : List UInt8} : ∀ (n k : Nat), (∀ j, k ≤ j → j < k + n → hit l j = false) → firstHit l n k = none := by
  intro n
  induction n with
  | zero => intro k _; rfl
  | succ n ih =>
    intro k h
    unfold firstHit
    rw [if_neg (by rw [h k (Nat.le_refl _) (by omega)]; decide)]
    exact ih (k + 1) (fun j h1 h2 => h j (by omega) (by omega))
theorem firstHit_on {l : List UInt8} {j : Nat} (hj : hit l j = true) : ∀ (n k : Nat), k ≤ j → j < k + n → (∀ i, k ≤ i → i < j → hit l i = false) → firstHit l n k = some (ofV j (l.drop (sgn j).length)) := by
  intro n
  induction n with
  | zero => intro k h1 h2 _; omega
  | succ n ih =>
    intro k h1 h2 h
    unfold firstHit
    by_cases e : k = j
    · subst e; rw [if_pos hj]
    · rw [if_neg (by rw [h k (Nat.le_refl _) (by omega)]; decide)]
      exact ih (k + 1) (by omega) (by omega) (fun i h3 h4 => h i (by omega) h4)
/-- where the sign is the k-th one: what the rest is -/
theorem one_hit {l : List UInt8} {k : Nat} (hk : k < 8) (h0 : l ≠ [42]) (h : l.take (lead l) = sgn k) : compOf l = if verV (l.drop (lead l)) then some (ofV k (l.drop (lead l))) else none := by
  obtain ⟨h1, h2⟩ := hit_is h
  unfold compOf
  rw [if_neg h0]
  cases hv : verV (l.drop (lead l))
  · rw [hv] at h1
    rw [if_neg (by decide)]
    refine firstHit_off 8 0 fun j _ hj => ?_
    cases hh : hit l j
    · rfl
    · have := (hit_lead (by omega) hh).1
      rw [h] at this
      have := sgn_inj hk (by omega) this
      subst this
      rw [h1] at hh; cases hh
  · rw [hv] at h1
    rw [if_pos rfl, firstHit_on h1 8 0 (Nat.zero_le _) (by omega) fun i _ hi => ?_, h2]
    cases hh : hit l i
    · rfl
    · have := (hit_lead (by omega) hh).1
      rw [h] at this
      have := sgn_inj hk (by omega) this
      omega
theorem one_none {l : List UInt8} (h0 : l ≠ [42]) (h : ∀ k, k < 8 → l.take (lead l) ≠ sgn k) : compOf l = none := by
  unfold compOf
  rw [if_neg h0]
  refine firstHit_off 8 0 fun j _ hj => ?_
  cases hh : hit l j
  · rfl
  · exact absurd (hit_lead (by omega) hh).1 (h j (by omega))
end Go.Proofs.YtafnohojnjpfcaaGreatDoor.Sp

/-
  LAYER 4, THE DOCUMENT'S OWN: Sign, and One: a text as a comparison.
-/
namespace Go.Proofs.YtafnohojnjpfcaaGreatDoor.Sp
open Go.RowKit Go.Sort
open Go.Proofs.YtafnohojnjpfcaaGreatDoor Go.Proofs.YtafnohojnjpfcaaGreatDoor.Nu Go.Proofs.YtafnohojnjpfcaaGreatDoor.Vs

set_option maxRecDepth 20000 in
set_option maxHeartbeats 2000000 in
theorem sign_any (k : Nat) (hk : k < 9) (w : World) : Calls Tryz.prog 180 #[.int .i64 (k : Int)] w (Gives (.string ⟨(sgn k).toArray⟩) w) := by
  have ways : k = 0 ∨ k = 1 ∨ k = 2 ∨ k = 3 ∨ k = 4 ∨ k = 5 ∨ k = 6 ∨ k = 7 ∨ k = 8 := by omega
  rcases ways with rfl | rfl | rfl | rfl | rfl | rfl | rfl | rfl | rfl
  all_goals
    go_enter Tryz.func180, Tryz.ntmps180
    go_wp2_with fail
    go_ret
    exact gives rfl rfl (below_alloc (Below.refl _ _) _)

/-- a comparison of the document's, in memory -/
def compV (c : CompT) (pa : Option Addr) (pc : Nat) : Value := .agg #[.int .i64 (c.op : Int), .int .i64 (c.a : Int), .int .i64 (c.b : Int), .int .i64 (c.c : Int), .slice pa (rows c.p).length pc]
def OneIs (o : Option CompT) (w : World) (e : Ending) (w' : World) : Prop :=
  Below w.heap.size w w' ∧ ((o = none ∧ ∃ k : Int, e = .returned (.tuple #[.agg #[.int .i64 k, .int .i64 0, .int .i64 0, .int .i64 0, .slice none 0 0], .bool false])) ∨ ∃ c pa pc, o = some c ∧ e = .returned (.tuple #[compV c pa pc, .bool true]) ∧ PreAt w' (.slice pa (rows c.p).length pc) (rows c.p))
theorem OneIs.no {o : Option CompT} {w w' : World} {k : Int} (h : o = none) (hb : Below w.heap.size w w') : OneIs o w (.returned (.tuple #[.agg #[.int .i64 k, .int .i64 0, .int .i64 0, .int .i64 0, .slice none 0 0], .bool false])) w' := ⟨hb, .inl ⟨h, k, rfl⟩⟩
theorem OneIs.yes {o : Option CompT} {w w' : World} {c : CompT} {pa : Option Addr} {pc : Nat} (h : o = some c) (hb : Below w.heap.size w w') (hp : PreAt w' (.slice pa (rows c.p).length pc) (rows c.p)) : OneIs o w (.returned (.tuple #[compV c pa pc, .bool true])) w' := ⟨hb, .inr ⟨c, pa, pc, h, rfl, hp⟩⟩

theorem preL_rows {l : List UInt8} (h : verV l = true) : preL l = rows (aft 45 l) := by
  have := rowO_eq l
  unfold rowO preO at this
  rw [h, if_pos rfl, if_pos rfl] at this
  exact this

theorem pre_five {W : World} {b : Nat} {e : TypeId} {k : IntKind} {x : Int} {r : List Value} {pv : Value} {Q : List (List UInt8)} (h : PreAt W pv Q) (hx : Blk W b (.int k x :: r) e) (a0 a1 a2 a3 a4 : Value) :
    PreAt (((((W.setCell ⟨b, 0, none⟩ a0).setCell ⟨b, 1, none⟩ a1).setCell ⟨b, 2, none⟩ a2).setCell ⟨b, 3, none⟩ a3).setCell ⟨b, 4, none⟩ a4) pv Q := by
  rcases h with h | ⟨g, cc, h1, h2, h3, h4, h5⟩
  · exact .inl h
  · have n1 := cells_ne h5 h1 hx
    exact .inr ⟨g, cc, h1, h2, h3, h4, ((((h5.other n1 a0).other n1 a1).other n1 a2).other n1 a3).other n1 a4⟩

set_option maxRecDepth 20000 in
set_option maxHeartbeats 4000000 in
theorem one_any (s : ByteArray) (hs : s.size < 4294967281) (w : World) :
    Calls Tryz.prog 135 #[.string s] w (OneIs (compOf s.data.toList) w) := by
  by_cases h0 : s.data.toList = [42]
  · obtain rfl : s = ⟨#[42]⟩ := by
      apply ByteArray.ext; apply Array.toList_inj.1; exact h0
    have hr := hid (show compOf (ByteArray.mk #[42]).data.toList = some anyC from rfl)
    clear h0
    generalize compOf (ByteArray.mk #[42]).data.toList = R at hr ⊢
    go_enter Tryz.func135, Tryz.ntmps135
    go_wp2_with fail
    have hn := Blk.new w [.int .i64 8, .int .i64 0, .int .i64 0, .int .i64 0, .slice none 0 0] 197
    have q0 := hn.cell 0 rfl
    have q1 := hn.cell 1 rfl
    have q2 := hn.cell 2 rfl
    have q3 := hn.cell 3 rfl
    have q4 := hn.cell 4 rfl
    exact bodyPost_ret (v := .tuple #[compV anyC none 0, .bool true]) (by simp [results, Tryz.results135, go_sem, q0, q1, q2, q3, q4]; rfl) rfl (OneIs.yes hr.out (below_alloc (Below.refl _ _) _) (.inl ⟨rfl, rfl⟩))
  · have hne : (s.toList == [42]) = false := by rw [ByteArray.toList_eq, beq_eq_false_iff_ne]; exact h0
    have hlen := hid (lenS s)
    have hB := hid (fun k h => byte_at s k h)
    have hll := hid (lead_le s.data.toList)
    have E1 := hid (show s.extract 0 (lead s.data.toList) = ⟨(s.data.toList.take (lead s.data.toList)).toArray⟩ by rw [extract_eq]; simp)
    have E2 := hid (show s.extract (lead s.data.toList) s.size = ⟨(s.data.toList.drop (lead s.data.toList)).toArray⟩ by
      rw [extract_eq, List.take_of_length_le (by simp)])
    have HH := hid (fun k hk => @one_hit s.data.toList k hk h0)
    have HN := hid (@one_none s.data.toList h0)
    have HR := hid (rparse_any ⟨(s.data.toList.drop (lead s.data.toList)).toArray⟩ (sizeL _ _ (by rw [List.length_drop, lenS]; omega)))
    have hrun := hid (show lead s.data.toList = 0 + run noDig s.data.toList 0 by rw [Nat.zero_add]; rfl)
    unfold RParseIs at HR
    rw [show (ByteArray.mk (s.data.toList.drop (lead s.data.toList)).toArray).data.toList = s.data.toList.drop (lead s.data.toList) from rfl] at HR
    generalize compOf s.data.toList = R at HH HN ⊢
    rw [hlen.out] at hll
    generalize s.data.toList = l at *
    generalize lead l = n at *
    generalize l.drop n = T at *
    generalize l.take n = L at *
    replace hs := hid hs
    clear h0
    go_enter Tryz.func135, Tryz.ntmps135
    go_upto_block 0 with (fail)
    have hres := hid (Blk.new w [.int .i64 0, .int .i64 0, .int .i64 0, .int .i64 0, .slice none 0 0] 197)
    have hb0 := hid (below_alloc (Below.refl w.heap.size w) (.cells #[.int .i64 0, .int .i64 0, .int .i64 0, .int .i64 0, .slice none 0 0] 197))
    generalize w.alloc (.cells #[.int .i64 0, .int .i64 0, .int .i64 0, .int .i64 0, .slice none 0 0] 197) = W0 at hres hb0 ⊢
    go_cut [4] (fun v wx => v = .int .i64 (n : Nat) ∧ wx = W0)
    case first =>
      clear HH HN HR E1 E2
      go_wp2_with fail
      go_loop [4] (fun v => ∃ k : Nat, k ≤ s.size ∧ v = .int .i64 k ∧ Hid (n = k + run noDig l k)) (fun v => s.size - (intOf v).toNat)
      case atStart => exact ⟨0, by omega, rfl, hrun⟩
      case round =>
        obtain ⟨k, hk, rfl, hp⟩ := hrel
        have hs9 : s.size < 4294967281 := hs.out
        by_cases hlt : k < s.size
        · have hb := hid (hB.out k hlt)
          have hi := hid (dgB_int s[k])
          have hcc : (s[k].toNat : Int) ≤ 255 := by have := s[k].toNat_lt; omega
          have Y := hid (fun h => run_yes (p := noDig) hb.out h)
          have Z := hid (fun h => run_no (p := noDig) hb.out h)
          by_cases h1 : (s[k].toNat : Int) < 48
          · have hn := hid (Y.out (by unfold noDig; rw [hi.out, decide_eq_false (by omega)]; rfl))
            clear Y Z
            go_wp2_with fail
            go_round
            case rel => exact ⟨k + 1, by omega, by go_num, hid (by rw [hp.out, hn.out]; omega)⟩
            case measure => simp [intOf]; omega
          · by_cases h2 : (57 : Int) < (s[k].toNat : Int)
            · have hn := hid (Y.out (by unfold noDig; rw [hi.out, decide_eq_false (p := (s[k].toNat : Int) ≤ 57) (by omega), Bool.and_false]; rfl))
              clear Y Z
              go_wp2_with fail
              go_round
              case rel => exact ⟨k + 1, by omega, by go_num, hid (by rw [hp.out, hn.out]; omega)⟩
              case measure => simp [intOf]; omega
            · have hn := hid (show n = k by
                rw [hp.out, Z.out (by unfold noDig; rw [hi.out, decide_eq_true (by omega), decide_eq_true (by omega)]; rfl)]; rfl)
              clear Y Z
              go_wp2_with fail
              go_meet
              exact ⟨by rw [hn.out], rfl⟩
        · have hn := hid (show n = k by
            rw [hp.out, run_end (by rw [hlen.out]; omega)]; rfl)
          go_wp2_with fail
          go_meet
          exact ⟨by rw [hn.out], rfl⟩
    case rest =>
      obtain ⟨rfl, rfl⟩ := hcut
      clear hrun hB hne
      have e1 := E1.out
      have e2 := E2.out
      have i1 : (n : Int) ≤ (s.size : Int) := by have := hll.out; omega
      go_wp2_with fail
      go_loopw [5, 6, 7] (fun v _ _ wr => ∃ k : Nat, k ≤ 8 ∧ v = .int .i64 k ∧ Hid (Below w.heap.size w wr) ∧ Hid (Blk wr w.heap.size [.int .i64 0, .int .i64 0, .int .i64 0, .int .i64 0, .slice none 0 0] 197) ∧ Hid (∀ j, j < k → L ≠ sgn j)) (fun v _ _ _ => 8 - (intOf v).toNat)
      case atStart => exact ⟨0, by omega, rfl, hb0, hres, hid (fun j hj => by omega)⟩
      case round =>
        obtain ⟨k, hk, rfl, hb, hq, hp⟩ := hrel
        clear hres hb0
        by_cases hlt : k < 8
        · have SG := hid (fun w => sign_any k (by omega) w)
          have HK := hid (HH.out k hlt)
          generalize hsg : sgn k = sg at SG HK
          replace hsg := hid hsg
          have k0 : (0 : Int) ≤ (k : Int) := by omega
          by_cases hL : L = sg
          · subst hL
            have B := hid (fun d os => below_trans hb.out (below_regrown wr d os))
            have qS := hid (show ∀ d os, Calls Tryz.prog 180 #[.int .i64 (k : Int)] (grow (redrawn wr d) os) fun e w'' => e = .returned (.string ⟨L.toArray⟩) ∧ ∃ p : Regrown, w'' = grow (redrawn wr p.d) p.os from fun d os => Calls.regrown_of (SG.out _))
            go_wp2_with fail
            refine wp_region_quiet_below (by kernel_rfl) (by kernel_rfl) ?_
            repeat (quiet_step (with_reducible exact qS.out _ _))
            refine wpQuiet_nil ?_
            intro _ hw'
            obtain ⟨⟨dq, osq⟩, hw''⟩ := hw'
            subst hw''
            show Exit.then _ _ Exit.normal _ (grow (redrawn wr dq) osq)
            have hbz := hid (B.out dq osq)
            have hqz := hid (hq.out.below (below_regrown wr dq osq))
            clear qS B
            generalize grow (redrawn wr dq) osq = W5 at hbz hqz ⊢
            clear HH HN SG
            go_wp2_with fail
            refine (HR.out _).mono ?_
            rintro e w2 ⟨hb2, ⟨hv, rfl⟩ | ⟨hv, pv, rfl, hpre⟩⟩
            · have hr := hid (show R = none by rw [HK.out trivial, hv]; rfl)
              have hq4 := (hqz.out.below hb2).alloc (.cells #[.int .i64 0, .int .i64 0, .int .i64 0, .slice none 0 0] 133)
              have hb5 := hid (below_alloc (below_trans hbz.out hb2) (.cells #[.int .i64 0, .int .i64 0, .int .i64 0, .slice none 0 0] 133))
              have hnv := Blk.new w2 [.int .i64 0, .int .i64 0, .int .i64 0, .slice none 0 0] 133
              simp only [show rVal 0 0 0 (.slice none 0 0) = .agg #[.int .i64 0, .int .i64 0, .int .i64 0, .slice none 0 0] from rfl]
              have r0 := hq4.cell 0 rfl
              have r1 := hq4.cell 1 rfl
              have r2 := hq4.cell 2 rfl
              have r3 := hq4.cell 3 rfl
              have r4 := hq4.cell 4 rfl
              have rf := hq4.free
              clear HR HK hv hb2 hqz hbz
              go_wp2_with fail
              obtain ⟨q0, q1, q2, q3, q4⟩ := five_cells hq4 (.int .i64 (k : Int)) (.int .i64 0) (.int .i64 0) (.int .i64 0) (.slice none 0 0) _ rfl
              exact bodyPost_ret (v := .tuple #[.agg #[.int .i64 (k : Int), .int .i64 0, .int .i64 0, .int .i64 0, .slice none 0 0], .bool false]) (by simp [results, Tryz.results135, go_sem, q0, q1, q2, q3, q4]) rfl (OneIs.no hr.out (setCells5 hb5.out (Nat.le_refl _)))
            · have hr := hid (show R = some (ofV k T) by rw [HK.out trivial, if_pos hv])
              rw [preL_rows hv] at hpre
              obtain ⟨pa, pc, rfl⟩ := hpre.shape
              have hcv := hid (show compV (ofV k T) pa pc = .agg #[.int .i64 (k : Int), .int .i64 (nth T 0 : Int), .int .i64 (nth T 1 : Int), .int .i64 (nth T 2 : Int), .slice pa (rows (aft 45 T)).length pc] from rfl)
              have hpv := hid (fun w' (h : PreAt w' (.slice pa (rows (aft 45 T)).length pc) (rows (aft 45 T))) => show PreAt w' (.slice pa (rows (ofV k T).p).length pc) (rows (ofV k T).p) from h)
              simp only [show rVal (nth T 0) (nth T 1) (nth T 2) (.slice pa (rows (aft 45 T)).length pc) = .agg #[.int .i64 (nth T 0 : Int), .int .i64 (nth T 1 : Int), .int .i64 (nth T 2 : Int), .slice pa (rows (aft 45 T)).length pc] from rfl]
              generalize ofV k T = cc at hr hcv hpv
              generalize rows (aft 45 T) = Q at hpre hcv hpv ⊢
              generalize (nth T 0 : Int) = x0 at hcv ⊢
              generalize (nth T 1 : Int) = x1 at hcv ⊢
              generalize (nth T 2 : Int) = x2 at hcv ⊢
              have hq4 := (hqz.out.below hb2).alloc (.cells #[.int .i64 x0, .int .i64 x1, .int .i64 x2, .slice pa Q.length pc] 133)
              have hb5 := hid (below_alloc (below_trans hbz.out hb2) (.cells #[.int .i64 x0, .int .i64 x1, .int .i64 x2, .slice pa Q.length pc] 133))
              have hpre5 := hid (pre_five (hpre.below (below_alloc (Below.refl w2.heap.size w2) (.cells #[.int .i64 x0, .int .i64 x1, .int .i64 x2, .slice pa Q.length pc] 133))) hq4 (.int .i64 (k : Int)) (.int .i64 x0) (.int .i64 x1) (.int .i64 x2) (.slice pa Q.length pc))
              generalize Q.length = qn at *
              have r0 := hq4.cell 0 rfl
              have r1 := hq4.cell 1 rfl
              have r2 := hq4.cell 2 rfl
              have r3 := hq4.cell 3 rfl
              have r4 := hq4.cell 4 rfl
              have rf := hq4.free
              clear HR HK hv hb2 hqz hbz hpre
              go_wp2_with fail
              obtain ⟨q0, q1, q2, q3, q4⟩ := five_cells hq4 (.int .i64 (k : Int)) (.int .i64 x0) (.int .i64 x1) (.int .i64 x2) (.slice pa qn pc) _ rfl
              exact bodyPost_ret (v := .tuple #[.agg #[.int .i64 (k : Int), .int .i64 x0, .int .i64 x1, .int .i64 x2, .slice pa qn pc], .bool true]) (by simp [results, Tryz.results135, go_sem, q0, q1, q2, q3, q4]) rfl (by rw [← hcv.out]; exact OneIs.yes hr.out (setCells5 hb5.out (Nat.le_refl _)) (hpv.out _ hpre5.out))
          · have hLf : (L == sg) = false := beq_eq_false_iff_ne.2 hL
            have B := hid (fun d os => below_trans hb.out (below_regrown wr d os))
            have qS := hid (show ∀ d os, Calls Tryz.prog 180 #[.int .i64 (k : Int)] (grow (redrawn wr d) os) fun e w'' => e = .returned (.string ⟨sg.toArray⟩) ∧ ∃ p : Regrown, w'' = grow (redrawn wr p.d) p.os from fun d os => Calls.regrown_of (SG.out _))
            go_wp2_with fail
            refine wp_region_quiet_below (by kernel_rfl) (by kernel_rfl) ?_
            repeat (quiet_step (with_reducible exact qS.out _ _))
            refine wpQuiet_nil ?_
            intro _ hw'
            obtain ⟨⟨dq, osq⟩, hw''⟩ := hw'
            subst hw''
            show Exit.then _ _ Exit.normal _ (grow (redrawn wr dq) osq)
            have hbz := hid (B.out dq osq)
            have hqz := hid (hq.out.below (below_regrown wr dq osq))
            clear qS B
            generalize grow (redrawn wr dq) osq = W5 at hbz hqz ⊢
            clear HH HN HR SG HK
            go_wp2_with fail
            go_roundw
            case rel => exact ⟨k + 1, by omega, by go_num, hbz, hqz, hid (fun j hj => by
              by_cases e : j = k
              · subst e; rw [hsg.out]; exact hL
              · exact hp.out j (by omega))⟩
            case measure => simp [intOf]; omega
        · have hr := hid (HN.out (fun j hj => hp.out j (by omega)))
          clear HH HN HR
          have r0 := hq.out.cell 0 rfl
          have r1 := hq.out.cell 1 rfl
          have r2 := hq.out.cell 2 rfl
          have r3 := hq.out.cell 3 rfl
          have r4 := hq.out.cell 4 rfl
          have rf := hq.out.free
          go_wp2_with fail
          obtain ⟨q0, q1, q2, q3, q4⟩ := five_cells hq.out (.int .i64 0) (.int .i64 0) (.int .i64 0) (.int .i64 0) (.slice none 0 0) _ rfl
          exact bodyPost_ret (v := .tuple #[.agg #[.int .i64 0, .int .i64 0, .int .i64 0, .int .i64 0, .slice none 0 0], .bool false]) (by simp [results, Tryz.results135, go_sem, q0, q1, q2, q3, q4]) rfl (OneIs.no hr.out (setCells5 hb.out (Nat.le_refl _)))
end Go.Proofs.YtafnohojnjpfcaaGreatDoor.Sp

/-
  LAYER 4, THE DOCUMENT'S OWN: alternatives of comparisons in memory.
-/
namespace Go.Proofs.YtafnohojnjpfcaaGreatDoor.Sp
open Go.RowKit Go.Sort
open Go.Proofs.YtafnohojnjpfcaaGreatDoor Go.Proofs.YtafnohojnjpfcaaGreatDoor.Nu Go.Proofs.YtafnohojnjpfcaaGreatDoor.Vs

/-- a comparison of the document's, and what its parts are read from -/
abbrev RC := CompT × Value
def rcCells (d : RC) : List Value := [.int .i64 (d.1.op : Int), .int .i64 (d.1.a : Int), .int .i64 (d.1.b : Int), .int .i64 (d.1.c : Int), d.2]
def cellsR (ds : List RC) : List Value := ds.flatMap rcCells
theorem cellsR_at {cs : List RC} {k : Nat} {c : RC} (h : cs[k]? = some c) : ∀ j v, (rcCells c)[j]? = some v → (cellsR cs)[k * 5 + j]? = some v := by
  induction cs generalizing k with
  | nil => simp at h
  | cons d cs ih =>
    intro j v hj
    unfold cellsR at *
    rw [List.flatMap_cons]
    cases k with
    | zero =>
      simp at h; subst h
      have hjl := (List.getElem?_eq_some_iff.1 hj).1
      rw [Nat.zero_mul, Nat.zero_add, List.getElem?_append_left hjl]; exact hj
    | succ k =>
      rw [List.getElem?_cons_succ] at h
      have e5 : (rcCells d).length = 5 := rfl
      rw [List.getElem?_append_right (by rw [e5]; omega), e5, show (k + 1) * 5 + j - 5 = k * 5 + j by omega]
      exact ih h j v hj
def PresAt (w : World) (ds : List RC) : Prop := ∀ d, d ∈ ds → PreAt w d.2 (rows d.1.p)
theorem PresAt.below {w w' : World} {ds : List RC} (h : PresAt w ds) (hb : Below w.heap.size w w') : PresAt w' ds := fun d hd => (h d hd).below hb
theorem PresAt.push {w : World} {ds : List RC} {d : RC} (h : PresAt w ds) (hd : PreAt w d.2 (rows d.1.p)) : PresAt w (ds ++ [d]) := fun e he => by
  rcases List.mem_append.1 he with he | he
  · exact h e he
  · rw [List.mem_singleton.1 he]; exact hd
/-- what begins with a text stays -/
def Keeps (w w' : World) (ok : Value → Prop) : Prop := ∀ B u, B < w.heap.size → w.cell? ⟨B, 0, none⟩ = some u → ok u → B < w'.heap.size ∧ ∀ k, w'.cell? ⟨B, k, none⟩ = w.cell? ⟨B, k, none⟩
def isStr (u : Value) : Prop := ∃ t, u = .string t
def isIntStr (u : Value) : Prop := (∃ x, u = .int .i64 x) ∨ ∃ t, u = .string t
theorem Keeps.mono {w w' : World} {p q : Value → Prop} (h : Keeps w w' p) (hq : ∀ u, q u → p u) : Keeps w w' q := fun B u h1 h2 h3 => h B u h1 h2 (hq u h3)
theorem pre_keeps {w w' : World} {pv : Value} {Q : List (List UInt8)} (h : PreAt w pv Q) (hk : Keeps w w' isStr) : PreAt w' pv Q := by
  rcases h with h | ⟨g, c, h1, h2, h3, h4, h5⟩
  · exact .inl h
  · have h0 := h5.2 0 (List.length_pos_iff.2 h1)
    rw [Nat.zero_add] at h0
    obtain ⟨k1, k2⟩ := hk g _ h5.1 h0 ⟨_, rfl⟩
    exact .inr ⟨g, c, h1, h2, h3, h4, k1, fun k hkl => by rw [k2]; exact h5.2 k hkl⟩
theorem PresAt.keeps {w w' : World} {ds : List RC} (h : PresAt w ds) (hk : Keeps w w' isStr) : PresAt w' ds := fun d hd => pre_keeps (h d hd) hk
/-- a row that grows turns no block but its own -/
theorem grown_keeps {w w' : World} {base n : Nat} {T : TypeId} {size : Nat} {rv : Value} {xs : List Value} (ho : w.ownsRow base T size rv n xs) (hs : 0 < size) {ok : Value → Prop} (hx : ∀ x, xs[0]? = some x → ¬ ok x) (h0 : n = 0 → rv.ownBlock = none) (hg : w.grownBy w' rv.ownBlock) : Keeps w w' ok := by
  intro B u hB hcx hu
  have hn : some B ≠ rv.ownBlock := by
    intro e
    have hn0 : n ≠ 0 := fun e0 => by rw [h0 e0] at e; cases e
    obtain ⟨g, c, hv, _, _, _, _, h6⟩ := ownsRow_any ho hn0
    rw [hv] at e
    have eg : B = g := by simpa [Value.ownBlock] using e
    subst eg
    have hl : xs.length = n * size := ho.1
    have h00 : 0 < xs.length := by rw [hl]; exact Nat.mul_pos (by omega) hs
    have := h6 0 xs[0] (List.getElem?_eq_getElem h00)
    rw [hcx] at this
    cases this
    exact hx _ (List.getElem?_eq_getElem h00) hu
  refine ⟨Nat.lt_of_lt_of_le hB hg.size, fun k => ?_⟩
  unfold World.cell?
  simp only [hg.block B hB hn]
theorem cellsR_int {ds : List RC} : ∀ x, (cellsR ds)[0]? = some x → ¬ isStr x := by
  intro x hx
  cases ds with
  | nil => simp [cellsR] at hx
  | cons d ds =>
    have : x = .int .i64 (d.1.op : Int) := by
      unfold cellsR at hx
      rw [List.flatMap_cons] at hx
      simpa [rcCells] using hx.symm
    subst this
    rintro ⟨t, h⟩; cases h

/-- comparisons of the document's in memory -/
def RAltAt (w : World) (v : Value) (cs : List CompT) : Prop :=
  ∃ B cp ds, v = .slice (some ⟨B, 0, none⟩) cs.length cp ∧ cs.length ≤ cp ∧ cp ≤ maxLen ∧ B < w.heap.size ∧ ds.map Prod.fst = cs ∧ PresAt w ds ∧ ∀ k x, (cellsR ds)[k]? = some x → w.cell? ⟨B, k, none⟩ = some x
theorem RAltAt.below {w w' : World} {v : Value} {cs : List CompT} (h : RAltAt w v cs) (hb : Below w.heap.size w w') : RAltAt w' v cs := by
  obtain ⟨B, cp, ds, h1, h2, h3, h4, h5, h6, h7⟩ := h
  exact ⟨B, cp, ds, h1, h2, h3, Nat.lt_of_lt_of_le h4 hb.size, h5, h6.below hb, fun k x hk => by rw [hb.cell h4]; exact h7 k x hk⟩
theorem RAltAt.keeps {w w' : World} {v : Value} {cs : List CompT} (h : RAltAt w v cs) (hne : cs ≠ []) (hk : Keeps w w' isIntStr) : RAltAt w' v cs := by
  obtain ⟨B, cp, ds, h1, h2, h3, h4, h5, h6, h7⟩ := h
  have h0 : (cellsR ds)[0]? = some (.int .i64 ((cs.head hne).op : Int)) := by
    cases ds with
    | nil => exact absurd h5.symm (by simpa using hne)
    | cons d ds =>
      subst h5
      unfold cellsR
      rw [List.flatMap_cons]
      rfl
  obtain ⟨k1, k2⟩ := hk B _ h4 (h7 0 _ h0) (.inl ⟨_, rfl⟩)
  exact ⟨B, cp, ds, h1, h2, h3, k1, h5, h6.keeps (hk.mono fun u hu => .inr hu), fun k x hx => by rw [k2]; exact h7 k x hx⟩
/-- what the cells of a row of alternatives hold -/
def RAltsAt (w : World) (vs : List Value) (rs : List (List CompT)) : Prop := vs.length = rs.length ∧ ∀ (k : Nat) (cs : List CompT), rs[k]? = some cs → cs ≠ [] ∧ ∃ v, vs[k]? = some v ∧ RAltAt w v cs
theorem RAltsAt.map {w w' : World} {vs : List Value} {rs : List (List CompT)} (h : RAltsAt w vs rs) (hk : ∀ v cs, cs ≠ [] → RAltAt w v cs → RAltAt w' v cs) : RAltsAt w' vs rs :=
  ⟨h.1, fun k cs hc => by obtain ⟨h1, v, h2, h3⟩ := h.2 k cs hc; exact ⟨h1, v, h2, hk v cs h1 h3⟩⟩
theorem RAltsAt.below {w w' : World} {vs : List Value} {rs : List (List CompT)} (h : RAltsAt w vs rs) (hb : Below w.heap.size w w') : RAltsAt w' vs rs := h.map fun _ _ _ h => h.below hb
theorem RAltsAt.keeps {w w' : World} {vs : List Value} {rs : List (List CompT)} (h : RAltsAt w vs rs) (hk : Keeps w w' isIntStr) : RAltsAt w' vs rs := h.map fun _ _ hne h => h.keeps hne hk
theorem RAltsAt.push {w : World} {vs : List Value} {rs : List (List CompT)} {v : Value} {cs : List CompT} (h : RAltsAt w vs rs) (hne : cs ≠ []) (hv : RAltAt w v cs) : RAltsAt w (vs ++ [v]) (rs ++ [cs]) := by
  refine ⟨by rw [List.length_append, List.length_append, h.1]; rfl, fun k ds hd => ?_⟩
  by_cases hk : k < rs.length
  · rw [List.getElem?_append_left hk] at hd
    obtain ⟨h1, u, h2, h3⟩ := h.2 k ds hd
    exact ⟨h1, u, by rw [List.getElem?_append_left (by rw [h.1]; exact hk)]; exact h2, h3⟩
  · rw [List.getElem?_append_right (by omega)] at hd
    have hk0 : k - rs.length = 0 := by
      have := (List.getElem?_eq_some_iff.1 hd).1
      simp at this; omega
    rw [hk0] at hd
    simp at hd
    subst hd
    exact ⟨hne, v, by rw [List.getElem?_append_right (by rw [h.1]; omega), h.1, hk0]; rfl, hv⟩
theorem RAltsAt.slice {w : World} {vs : List Value} {rs : List (List CompT)} (h : RAltsAt w vs rs) : ∀ x, vs[0]? = some x → ¬ isIntStr x := by
  intro x hx
  have h0 := (List.getElem?_eq_some_iff.1 hx).1
  have h1 : 0 < rs.length := by rw [← h.1]; exact h0
  obtain ⟨_, v, h2, h3⟩ := h.2 0 rs[0] (List.getElem?_eq_getElem h1)
  rw [hx] at h2
  cases h2
  obtain ⟨B, cp, _, e, _⟩ := h3
  subst e
  rintro (⟨x, h⟩ | ⟨t, h⟩) <;> cases h
/-- the document's range in memory -/
def RRngAt (w : World) (v : Value) (rs : List (List CompT)) : Prop :=
  ∃ G cp vs, v = .slice (some ⟨G, 0, none⟩) rs.length cp ∧ rs.length ≤ cp ∧ cp ≤ maxLen ∧ G < w.heap.size ∧ (∀ k x, vs[k]? = some x → w.cell? ⟨G, k, none⟩ = some x) ∧ RAltsAt w vs rs
theorem RRngAt.below {w w' : World} {v : Value} {rs : List (List CompT)} (h : RRngAt w v rs) (hb : Below w.heap.size w w') : RRngAt w' v rs := by
  obtain ⟨G, cp, vs, h1, h2, h3, h4, h5, h6⟩ := h
  exact ⟨G, cp, vs, h1, h2, h3, Nat.lt_of_lt_of_le h4 hb.size, fun k x hk => by rw [hb.cell h4]; exact h5 k x hk, h6.below hb⟩
theorem infoRC : (Tryz.prog.info? 197).map (fun i => (i.zero, i.size, i.bytes)) = some (some (.agg #[.int .i64 0, .int .i64 0, .int .i64 0, .int .i64 0, .slice none 0 0]), 5, 56) := by kernel_rfl
theorem infoRA : (Tryz.prog.info? 195).map (fun i => (i.zero, i.size, i.bytes)) = some (some (.slice none 0 0), 1, 24) := by kernel_rfl
end Go.Proofs.YtafnohojnjpfcaaGreatDoor.Sp

/-
  LAYER 4, THE DOCUMENT'S OWN: Parse: a text as alternatives of comparisons.
-/
namespace Go.Proofs.YtafnohojnjpfcaaGreatDoor.Sp
open Go.RowKit Go.Sort
open Go.Proofs.YtafnohojnjpfcaaGreatDoor Go.Proofs.YtafnohojnjpfcaaGreatDoor.Nu Go.Proofs.YtafnohojnjpfcaaGreatDoor.Vs

def OneNo (w : World) (e : Ending) (w' : World) : Prop := ∃ k : Int, e = .returned (.tuple #[.agg #[.int .i64 k, .int .i64 0, .int .i64 0, .int .i64 0, .slice none 0 0], .bool false]) ∧ Below w.heap.size w w'
def OneYes (c : CompT) (w : World) (e : Ending) (w' : World) : Prop := ∃ pa pc, e = .returned (.tuple #[.agg #[.int .i64 (c.op : Int), .int .i64 (c.a : Int), .int .i64 (c.b : Int), .int .i64 (c.c : Int), .slice pa (rows c.p).length pc], .bool true]) ∧ Below w.heap.size w w' ∧ PreAt w' (.slice pa (rows c.p).length pc) (rows c.p)
theorem one_no (s : ByteArray) (hs : s.size < 4294967281) (h : compOf s.data.toList = none) (w : World) : Calls Tryz.prog 135 #[.string s] w (OneNo w) := by
  refine (one_any s hs w).mono ?_
  rintro e w' ⟨hb, ⟨_, k, rfl⟩ | ⟨c, pa, pc, h1, _⟩⟩
  · exact ⟨k, rfl, hb⟩
  · rw [h] at h1; cases h1
theorem one_yes (s : ByteArray) (hs : s.size < 4294967281) {c : CompT} (h : compOf s.data.toList = some c) (w : World) : Calls Tryz.prog 135 #[.string s] w (OneYes c w) := by
  refine (one_any s hs w).mono ?_
  rintro e w' ⟨hb, ⟨h1, _⟩ | ⟨c', pa, pc, h1, rfl, hp⟩⟩
  · rw [h] at h1; cases h1
  · rw [h] at h1
    cases h1
    exact ⟨pa, pc, rfl, hb, hp⟩

def RParseRes (o : Option (List (List CompT))) (w : World) (e : Ending) (w' : World) : Prop :=
  Below w.heap.size w w' ∧ ((o = none ∧ e = .returned (.tuple #[.slice none 0 0, .bool false])) ∨ ∃ rs v, o = some rs ∧ e = .returned (.tuple #[v, .bool true]) ∧ RRngAt w' v rs)

set_option maxRecDepth 20000 in
set_option maxHeartbeats 8000000 in
theorem rrparse_any (s : ByteArray) (hs : s.size < 4294967281) (w : World) :
    Calls Tryz.prog 74 #[.string s] w (RParseRes (rngOf s.data.toList) w) := by
  have HS : Hid (∀ w, Calls Tryz.prog 132 #[.string s, .int .u8 124] w (RCutIs 124 s.data.toList w)) := hid (rcut_any s hs 124)
  have hlen := hid (lenS s)
  have HV := hid (show rngOf s.data.toList = if s.data.toList.length ≤ 80 ∧ (cutl 124 s.data.toList).length ≤ 4 then allOf altOf (cutl 124 s.data.toList) else none from rfl)
  rw [hlen.out] at HV
  have HM := hid (fun p (h : p ∈ cutl 124 s.data.toList) => part_size h)
  have hne := hid (cutl_ne 124 s.data.toList)
  have HCM := hid (fun (x y : List UInt8) (h : y ∈ cutl 44 x) => part_size h)
  unfold RParseRes
  generalize rngOf s.data.toList = R at HV ⊢
  unfold RCutIs at HS
  generalize cutl 124 s.data.toList = P at HS HV HM hne
  have hs' := hid hs
  clear hs
  by_cases h80 : (80 : Int) < (s.size : Int)
  · have hr := hid (HV.out.trans (if_neg (by omega)))
    go_enter Tryz.func74, Tryz.ntmps74
    go_wp2_with (go_at_call 132; (with_reducible refine (HS.out _).mono ?_); rintro e w1 ⟨B, d1, _, rfl, _, _, hb1, hc1⟩)
    go_ret2
    exact ⟨hb1, .inl ⟨hr.out, rfl⟩⟩
  · by_cases h4 : 4 < P.length
    · have hr := hid (HV.out.trans (if_neg (by omega)))
      have h4' : (4 : Int) < (P.length : Int) := by omega
      go_enter Tryz.func74, Tryz.ntmps74
      go_wp2_with (go_at_call 132; (with_reducible refine (HS.out _).mono ?_); rintro e w1 ⟨B, d1, _, rfl, _, _, hb1, hc1⟩)
      go_ret2
      exact ⟨hb1, .inl ⟨hr.out, rfl⟩⟩
    · have hr := hid (show R = (allOf altOf (P.drop 0)).map ([] ++ ·) by
        rw [HV.out, if_pos ⟨by omega, by omega⟩, List.drop_zero]; cases allOf altOf P <;> rfl)
      have h4' : ¬ (4 : Int) < (P.length : Int) := by omega
      have h4'' := hid (show P.length ≤ 4 by omega)
      clear HV
      go_enter Tryz.func74, Tryz.ntmps74
      go_wp2_with (go_at_call 132; (with_reducible refine (HS.out _).mono ?_); rintro e w1 ⟨B, d1, _, rfl, hd1, hd2, hb1, hc1⟩)
      replace hb1 := hid hb1
      replace hc1 := hid hc1
      clear HS h4 h4'
      go_loopw [5, 6, 7, 8, 9, 10, 11] (fun o i _ _ _ _ _ wr => ∃ (k : Nat) (out : List (List CompT)) (vs : List Value), k ≤ P.length ∧ i = .int .i64 k ∧ Hid (out.length = k) ∧ Hid (Below w1.heap.size w1 wr) ∧ Hid (wr.ownsRow w1.heap.size 195 1 o out.length vs) ∧ Hid (out.length = 0 → o.ownBlock = none) ∧ Hid (RAltsAt wr vs out) ∧ Hid (R = (allOf altOf (P.drop k)).map (out ++ ·))) (fun _ i _ _ _ _ _ _ => P.length - (intOf i).toNat)
      case atStart => exact ⟨0, [], [], by omega, rfl, hid rfl, hid (Below.refl _ _), hid (World.ownsRow_nil _ _ _ _), hid (fun _ => rfl), hid ⟨rfl, fun k cs h => by simp at h⟩, hr⟩
      case round =>
        obtain ⟨k, out, vs, hk, rfl, hol, hb, hown, ho0, hat, hp⟩ := hrel
        clear hr
        obtain ⟨oa, oc, hoe⟩ := own_shape hown.out
        subst hoe
        by_cases hlt : k < P.length
        · have hcb := hc1.out.below hb.out
          have hcell := hcb.2 k hlt
          rw [Nat.zero_add] at hcell
          have hbl := hcb.1
          have hx := hid (at_getD ([] : List UInt8) hlt)
          generalize P.getD k [] = x at hcell hx
          have hxl := HM.out x (List.mem_of_getElem? hx.out)
          rw [hlen.out] at hxl
          have hx4 := hid (show x.length < 4294967281 by have := hs'.out; omega)
          have HCX : Hid (∀ w, Calls Tryz.prog 132 #[.string ⟨x.toArray⟩, .int .u8 44] w (RCutIs 44 x w)) := hid (rcut_any ⟨x.toArray⟩ (sizeL _ _ hx4.out) 44)
          unfold RCutIs at HCX
          have hst := hid (@allOf_step _ _ altOf P k x hx.out)
          have hQne := hid (cutl_ne 44 x)
          have HQM := hid (fun y h => HCM.out x y h)
          have hax := hid (show altOf x = if (cutl 44 x).length ≤ 4 then allOf compOf (cutl 44 x) else none from rfl)
          have k4 : k < 4 := Nat.lt_of_lt_of_le hlt h4''.out
          clear hx hxl hcb
          generalize cutl 44 x = Q at HCX hQne HQM hax
          go_wp2_with fail
          refine (HCX.out _).mono ?_
          rintro e w2 ⟨C, d2, _, rfl, hd3, hd4, hb2, hc2⟩
          replace hc2 := hid hc2
          have hbz := hid (below_trans hb.out hb2)
          have hown2 := hid (ownsRow_below hown.out hb2)
          have hat2 := hid (hat.out.below hb2)
          clear HCX hcell hbl hown hat hb hb2
          by_cases hq4 : 4 < Q.length
          · have hr := hid (show R = none by rw [hp.out, hst.out, hax.out, if_neg (by omega)]; rfl)
            have hq4' : (4 : Int) < (Q.length : Int) := by omega
            go_wp2_with fail
            go_ret2
            exact ⟨below_trans hb1.out hbz.out, .inl ⟨hr.out, rfl⟩⟩
          · have hr2 := hid (show altOf x = (allOf compOf (Q.drop 0)).map ([] ++ ·) by
              rw [hax.out, if_pos (by omega), List.drop_zero]; cases allOf compOf Q <;> rfl)
            have hq4' : ¬ (4 : Int) < (Q.length : Int) := by omega
            have hq4'' := hid (show Q.length ≤ 4 by omega)
            clear hax
            go_wp2_with fail
            clear hq4 hq4'
            go_loopw [8, 9, 10, 11] (fun a i _ _ wr => ∃ (j : Nat) (ds : List RC), j ≤ Q.length ∧ i = .int .i64 j ∧ Hid (ds.length = j) ∧ Hid (Below w2.heap.size w2 wr) ∧ Hid (wr.ownsRow w2.heap.size 197 5 a ds.length (cellsR ds)) ∧ Hid (ds.length = 0 → a.ownBlock = none) ∧ Hid (PresAt wr ds) ∧ Hid (altOf x = (allOf compOf (Q.drop j)).map (ds.map Prod.fst ++ ·))) (fun _ i _ _ _ => Q.length - (intOf i).toNat)
            case atStart => exact ⟨0, [], by omega, rfl, hid rfl, hid (Below.refl _ _), hid (World.ownsRow_nil _ _ _ _), hid (fun _ => rfl), hid (fun d hd => by simp at hd), hr2⟩
            case round =>
              obtain ⟨j, ds, hj, rfl, hdl, hbi, hia, hi0, hpr, hq⟩ := hrel
              clear hr2
              obtain ⟨aa, ac, hae⟩ := own_shape hia.out
              subst hae
              by_cases hlt2 : j < Q.length
              · have hcb2 := hc2.out.below hbi.out
                have hcell2 := hcb2.2 j hlt2
                rw [Nat.zero_add] at hcell2
                have hbl2 := hcb2.1
                have hy := hid (at_getD ([] : List UInt8) hlt2)
                generalize Q.getD j [] = y at hcell2 hy
                have hyl := HQM.out y (List.mem_of_getElem? hy.out)
                have hst2 := hid (@allOf_step _ _ compOf Q j y hy.out)
                have hys : (⟨y.toArray⟩ : ByteArray).size < 4294967281 := sizeL _ _ (by have := hx4.out; omega)
                have j4 : j < 4 := Nat.lt_of_lt_of_le hlt2 hq4''.out
                have hd5 := hid (show ds.length ≤ 4 by have := hdl.out; omega)
                clear hy hyl hcb2
                cases hcx : compOf y with
                | none =>
                  have hr := hid (show R = none by rw [hp.out, hst.out, hq.out, hst2.out, hcx]; rfl)
                  have HO := hid (one_no ⟨y.toArray⟩ hys hcx)
                  unfold OneNo at HO
                  clear hst hp hst2 hq hcx hys
                  go_wp2_with (go_at_call 135; (with_reducible refine (HO.out _).mono ?_); rintro e w3 ⟨z, rfl, hb3⟩)
                  go_ret2
                  exact ⟨below_trans hb1.out (below_trans hbz.out (below_alloc (below_trans hbi.out hb3) _)), .inl ⟨hr.out, rfl⟩⟩
                | some c =>
                  have hr := hid (show altOf x = (allOf compOf (Q.drop (j + 1))).map ((ds.map Prod.fst ++ [c]) ++ ·) by
                    rw [hq.out, hst2.out, hcx]
                    cases allOf compOf (Q.drop (j + 1)) with
                    | none => rfl
                    | some ys => simp)
                  have HO := hid (one_yes ⟨y.toArray⟩ hys hcx)
                  unfold OneYes at HO
                  clear hst2 hq hcx hys
                  generalize hn : (rows c.p).length = pn at HO
                  replace hn := hid hn
                  have hcells := hid (fun pv => show cellsR (ds ++ [(c, pv)]) = cellsR ds ++ [.int .i64 (c.op : Int), .int .i64 (c.a : Int), .int .i64 (c.b : Int), .int .i64 (c.c : Int), pv] by
                    unfold cellsR; rw [List.flatMap_append]; simp [rcCells])
                  generalize (c.op : Int) = x0 at HO hcells
                  generalize (c.a : Int) = x1 at HO hcells
                  generalize (c.b : Int) = x2 at HO hcells
                  generalize (c.c : Int) = x3 at HO hcells
                  obtain ⟨iC, hi, hz0, hz1, hz2⟩ := info_parts infoRC
                  have hi := hid hi
                  have hz0 := hid hz0
                  have hz1 := hid hz1
                  have hz2 := hid hz2
                  have hint := hid (@cellsR_int ds)
                  generalize cellsR ds = dc5 at hia hcells hint
                  generalize hdn : ds.length = dn at hia hdl hd5 hi0 ⊢
                  replace hdn := hid hdn
                  go_wp2_with (first
                    | (go_at_call 135; (with_reducible refine (HO.out _).mono ?_); rintro e w3 ⟨pa, pc, rfl, hb3, hp3⟩)
                    | (at_builtin; refine wpList_append_lies _ rfl _ _ 195 rfl w2.heap.size 197 iC (.agg #[.int .i64 0, .int .i64 0, .int .i64 0, .int .i64 0, .slice none 0 0]) 5 56 Tryz.underlying195 hi.out hz0.out hz1.out hz2.out rfl (by decide) _ _ _ rfl (((ownsRow_below hia.out hb3).alloc _).alloc _) ⟨_, 0, none⟩ 1 1 [.int .i64 x0, .int .i64 x1, .int .i64 x2, .int .i64 x3, .slice pa pn pc] rfl rfl ?c1 ?c2 ?cm ?c3 ?c4 ?c5 _ rfl ?_))
                  case c1 => exact cells_new _ [_, _, _, _, _] _ _ (by simp)
                  case c2 => intro u hu; simp at hu; rcases hu with rfl | rfl | rfl | rfl | rfl <;> rfl
                  case cm => decide
                  case c3 => have := hd5.out; unfold maxLen; omega
                  case c4 => have := hd5.out; omega
                  case c5 => have := (below_trans hbi.out hb3).size; simp; omega
                  intro g cap w4 hown4 hgrow hat4 hlt4
                  have hwl := hid (below_trans hbi.out hb3)
                  have AL := hid (below_alloc (below_alloc (Below.refl w3.heap.size w3) (.cells #[.int .i64 x0, .int .i64 x1, .int .i64 x2, .int .i64 x3, .slice pa pn pc] 197)) (.cells #[.int .i64 x0, .int .i64 x1, .int .i64 x2, .int .i64 x3, .slice pa pn pc] 197))
                  have kp := hid ((below_trans hwl.out AL.out).grown hgrow (by have := hwl.out.size; simp; omega) (fun k hk => (hia.out.lt k hk).1))
                  have kk := hid (grown_keeps (((ownsRow_below hia.out hb3).alloc (.cells #[.int .i64 x0, .int .i64 x1, .int .i64 x2, .int .i64 x3, .slice pa pn pc] 197)).alloc (.cells #[.int .i64 x0, .int .i64 x1, .int .i64 x2, .int .i64 x3, .slice pa pn pc] 197)) (by decide) hint.out hi0.out hgrow)
                  have hp4 := hid (pre_keeps (hp3.below AL.out) kk.out)
                  have hpr4 := hid ((((hpr.out.below hb3).below AL.out).keeps kk.out).push (d := (c, .slice pa pn pc)) hp4.out)
                  have HOWN4 := hid hown4
                  clear hown4 hgrow hat4 hia kk AL hpr hp3 hp4
                  go_wp2
                  go_roundw
                  case rel =>
                    refine ⟨j + 1, ds ++ [(c, .slice pa pn pc)], by omega, by go_num, hid (by rw [List.length_append, hdn.out, hdl.out]; rfl), kp, hid ?_, hid (fun h => by simp at h), hpr4, hid (by rw [List.map_append]; exact hr.out)⟩
                    rw [hcells.out, List.length_append, hdn.out]
                    exact HOWN4.out
                  case measure => simp [intOf]; omega
              · have hje := hid (show j = Q.length by omega)
                have hax2 := hid (show altOf x = some (ds.map Prod.fst) by
                  rw [hq.out, hje.out, List.drop_length]; simp [allOf])
                have h0 := hid (show ds.length ≠ 0 by rw [hdl.out, hje.out]; have := List.length_pos_iff.2 hQne.out; omega)
                have hcn := hid (show ds.map Prod.fst ≠ [] by
                  intro e; apply h0.out; have := congrArg List.length e; simpa using this)
                obtain ⟨g, cc, hv, _, q2, q3, q4, q5⟩ := ownsRow_any hia.out h0.out
                cases hv
                have fin := hid (show RAltAt wr (.slice (some ⟨g, 0, none⟩) ds.length ac) (ds.map Prod.fst) from ⟨g, ac, ds, by rw [List.length_map], by rw [List.length_map]; exact q3, q4, q2, rfl, hpr.out, q5⟩)
                have hr := hid (show R = (allOf altOf (P.drop (k + 1))).map ((out ++ [ds.map Prod.fst]) ++ ·) by
                  rw [hp.out, hst.out, hax2.out]
                  cases allOf altOf (P.drop (k + 1)) with
                  | none => rfl
                  | some ys => simp)
                have hown3 := hid (ownsRow_below hown2.out hbi.out)
                have hat3 := hid (hat2.out.below hbi.out)
                have hb3 := hid (below_trans hbz.out hbi.out)
                clear hst hp hq hax2 q2 q3 q4 q5 hia hpr hown2 hat2 hbz hbi hi0 hc2
                generalize ds.map Prod.fst = cs at fin hr hcn
                generalize ds.length = cl at fin h0 ⊢
                obtain ⟨iC, hi, hz0, hz1, hz2⟩ := info_parts infoRA
                have hi := hid hi
                have hz0 := hid hz0
                have hz1 := hid hz1
                have hz2 := hid hz2
                generalize hon : out.length = on at hown3 hol ho0 ⊢
                replace hon := hid hon
                have on5 := hid (show on ≤ 4 by have := hol.out; omega)
                go_wp2_with (at_builtin; refine wpList_append_lies _ rfl _ _ 136 rfl w1.heap.size 195 iC (.slice none 0 0) 1 24 Tryz.underlying136 hi.out hz0.out hz1.out hz2.out rfl (by decide) _ _ _ rfl (hown3.out.alloc _) ⟨_, 0, none⟩ 1 1 [.slice (some ⟨g, 0, none⟩) cl ac] rfl rfl ?e1 ?e2 ?em ?e3 ?e4 ?e5 _ rfl ?_)
                case e1 => exact cell_one_at _ _ _ _ (by simp)
                case e2 => intro u hu; simp at hu; subst hu; rfl
                case em => decide
                case e3 => have := on5.out; unfold maxLen; omega
                case e4 => have := on5.out; omega
                case e5 => have := hb3.out.size; simp; omega
                intro g2 cap w4 hown4 hgrow hat4 hlt4
                have AL := hid (below_alloc (Below.refl wr.heap.size wr) (.cells #[.slice (some ⟨g, 0, none⟩) cl ac] 195))
                have kp := hid ((below_trans hb3.out AL.out).grown hgrow (by have := hb3.out.size; simp; omega) (fun k hk => (hown3.out.lt k hk).1))
                have kk := hid (grown_keeps (hown3.out.alloc (.cells #[.slice (some ⟨g, 0, none⟩) cl ac] 195)) (by decide) hat3.out.slice ho0.out hgrow)
                have hat5 := hid (((hat3.out.below AL.out).keeps kk.out).push hcn.out ((fin.out.below AL.out).keeps hcn.out kk.out))
                have HOWN4 := hid hown4
                clear hown4 hgrow hat4 hown3 hat3 kk AL fin hb3
                go_wp2
                go_roundw
                case rel =>
                  refine ⟨k + 1, out ++ [cs], vs ++ [.slice (some ⟨g, 0, none⟩) cl ac], by omega, by go_num, hid (by rw [List.length_append, hon.out, hol.out]; rfl), kp, hid ?_, hid (fun h => by simp at h), hat5, hr⟩
                  rw [List.length_append, hon.out]
                  exact HOWN4.out
                case measure => simp [intOf]; omega
        · have hke := hid (show k = P.length by omega)
          have hr := hid (show R = some out by
            rw [hp.out, hke.out, List.drop_length]; simp [allOf])
          have h0 := hid (show out.length ≠ 0 by rw [hol.out, hke.out]; have := List.length_pos_iff.2 hne.out; omega)
          obtain ⟨g, cc, hv, q1, q2, q3, q4, q5⟩ := ownsRow_any hown.out h0.out
          cases hv
          have fin := hid (show RRngAt wr (.slice (some ⟨g, 0, none⟩) out.length oc) out from ⟨g, oc, vs, rfl, q3, q4, q2, q5, hat.out⟩)
          clear hp HM q1 q2 q3 q4 q5
          go_wp2_with fail
          go_ret2
          exact ⟨below_trans hb1.out hb.out, .inr ⟨out, _, hr.out, rfl, fin.out⟩⟩
end Go.Proofs.YtafnohojnjpfcaaGreatDoor.Sp
