/-
  LAYER 3, THE DOCUMENT'S Text.
-/
import Derived.Test.YtjiofenpalokoaaGreatDoorVersionRel
import Derived.Test.YtjiofenpalokoaaGreatDoorVersionRefParse
import Derived.Lib.QuietBelow
namespace Go.Proofs.YtjiofenpalokoaaGreatDoor.Vs
open Go.RowKit Go.Sort
open Go.Proofs.YtjiofenpalokoaaGreatDoor Go.Proofs.YtjiofenpalokoaaGreatDoor.Nu

def tailT : List (List UInt8) → List UInt8
  | [] => []
  | p :: ps => 45 :: joinl 46 (p :: ps)
theorem joinl_snoc (c : UInt8) (q : List UInt8) : ∀ ps : List (List UInt8), ps ≠ [] → joinl c (ps ++ [q]) = joinl c ps ++ c :: q := by
  intro ps
  induction ps with
  | nil => intro h; exact absurd rfl h
  | cons p ps ih =>
    intro _
    by_cases h : ps = []
    · subst h; rfl
    · rw [List.cons_append, joinl_cons (by simp), joinl_cons h, ih h]; simp
theorem tail_one (q : List UInt8) : tailT [q] = 45 :: q := rfl
theorem tail_snoc (q : List UInt8) {ps : List (List UInt8)} (h : ps ≠ []) : tailT (ps ++ [q]) = tailT ps ++ 46 :: q := by
  cases ps with
  | nil => exact absurd rfl h
  | cons p ps =>
    show 45 :: joinl 46 ((p :: ps) ++ [q]) = 45 :: joinl 46 (p :: ps) ++ 46 :: q
    rw [joinl_snoc 46 q _ (by simp)]; rfl

set_option maxRecDepth 100000 in
set_option maxHeartbeats 1000000 in
theorem rtext_s (a b c : Int) (A B C : ByteArray) (Q : List (List UInt8)) (pv : Value) (hA : A.size ≤ 6) (hB : B.size ≤ 6) (hC : C.size ≤ 6) (w : World) (hQ4 : Q.length ≤ 4) (hQ : ∀ k, k < Q.length → (Q.getD k []).length < 4294967281) (hP : PreAt w pv Q)
    (HA : ∀ W, Below w.heap.size w W → Calls Tryz.prog 56 #[.int .i64 a] W (Gives (.string A) W)) (HB : ∀ W, Below w.heap.size w W → Calls Tryz.prog 56 #[.int .i64 b] W (Gives (.string B) W)) (HD : ∀ W, Below w.heap.size w W → Calls Tryz.prog 56 #[.int .i64 c] W (Gives (.string C) W)) :
    Calls Tryz.prog 35 #[.agg #[.int .i64 a, .int .i64 b, .int .i64 c, pv]] w fun e w' => (∃ T : ByteArray, T.data.toList = A.data.toList ++ 46 :: (B.data.toList ++ 46 :: (C.data.toList ++ tailT Q)) ∧ e = .returned (.string T)) ∧ Below w.heap.size w w' := by
  replace HA := hid HA
  replace HB := hid HB
  replace HD := hid HD
  obtain ⟨pa, pn, pc, rfl, hpl⟩ : ∃ pa pn pc, pv = .slice pa pn pc ∧ pn = Q.length := by
    rcases hP with ⟨rfl, rfl⟩ | ⟨g, c, _, rfl, _⟩
    · exact ⟨_, _, _, rfl, rfl⟩
    · exact ⟨_, _, _, rfl, rfl⟩
  subst hpl
  replace hP := hid hP
  replace hQ := hid hQ
  replace hQ4 := hid hQ4
  have hnil := hid (show Q = [] ∨ Q ≠ [] from by by_cases h : Q = [] <;> simp [h])
  have hQL := hid (show ∃ n, n = Q.length from ⟨_, rfl⟩)
  generalize hR : (fun e w' => (∃ T : ByteArray, T.data.toList = A.data.toList ++ 46 :: (B.data.toList ++ 46 :: (C.data.toList ++ tailT Q)) ∧ e = Ending.returned (.string T)) ∧ Below w.heap.size w w') = POST
  have hR' := hid hR
  clear hR
  go_enter Tryz.func35, Tryz.ntmps35
  go_upto_block 0 with (fail)
  have hbk : Blk (w.alloc (.cells #[.int .i64 a, .int .i64 b, .int .i64 c, .slice pa Q.length pc] 45)) w.heap.size [.int .i64 a, .int .i64 b, .int .i64 c, .slice pa Q.length pc] 45 := Blk.new w _ _
  have hbx : RowKit.Below w.heap.size w (w.alloc (.cells #[.int .i64 a, .int .i64 b, .int .i64 c, .slice pa Q.length pc] 45)) := below_alloc (Below.refl _ _) _
  generalize w.alloc (.cells #[.int .i64 a, .int .i64 b, .int .i64 c, .slice pa Q.length pc] 45) = w1 at hbk hbx ⊢
  have c0 := hbk.cell 0 rfl
  have c1 := hbk.cell 1 rfl
  have c2 := hbk.cell 2 rfl
  have c3 := hbk.cell 3 rfl
  have k0 := cell_regrown c0
  have k1 := cell_regrown c1
  have k2 := cell_regrown c2
  have q0 : ∀ d os, Calls Tryz.prog 56 #[.int .i64 a] (grow (redrawn w1 d) os) fun e w'' => e = .returned (.string A) ∧ ∃ p : Regrown, w'' = grow (redrawn w1 p.d) p.os := fun d os => Calls.regrown_of (HA.out _ (below_trans hbx (below_regrown w1 d os)))
  have q1 : ∀ d os, Calls Tryz.prog 56 #[.int .i64 b] (grow (redrawn w1 d) os) fun e w'' => e = .returned (.string B) ∧ ∃ p : Regrown, w'' = grow (redrawn w1 p.d) p.os := fun d os => Calls.regrown_of (HB.out _ (below_trans hbx (below_regrown w1 d os)))
  have q2 : ∀ d os, Calls Tryz.prog 56 #[.int .i64 c] (grow (redrawn w1 d) os) fun e w'' => e = .returned (.string C) ∧ ∃ p : Regrown, w'' = grow (redrawn w1 p.d) p.os := fun d os => Calls.regrown_of (HD.out _ (below_trans hbx (below_regrown w1 d os)))
  replace q0 := hid q0
  replace q1 := hid q1
  replace q2 := hid q2
  have n1 : ¬ 9223372036854775807 < A.size + 1 := by omega
  have n2 : ¬ 9223372036854775807 < A.size + 1 + B.size := by omega
  have n3 : ¬ 9223372036854775807 < A.size + 1 + B.size + 1 := by omega
  have n4 : ¬ 9223372036854775807 < A.size + 1 + B.size + 1 + C.size := by omega
  refine wp_region_quiet_below (by kernel_rfl) (by kernel_rfl) ?_
  repeat (quiet_step (first | with_reducible exact q0.out _ _ | with_reducible exact q1.out _ _ | with_reducible exact q2.out _ _))
  refine wpQuiet_nil ?_
  intro _ hw'
  obtain ⟨⟨dq, osq⟩, hw''⟩ := hw'
  subst hw''
  have hbz := below_trans hbx (below_regrown w1 dq osq)
  have z3 := cell_regrown c3 dq osq
  have ht := hid (show (A ++ ⟨#[46]⟩ ++ B ++ ⟨#[46]⟩ ++ C).size ≤ 20 by
    have e : (⟨#[46]⟩ : ByteArray).size = 1 := rfl
    simp only [ByteArray.size_append, e]; omega)
  have htl := hid (show (A ++ ⟨#[46]⟩ ++ B ++ ⟨#[46]⟩ ++ C).data.toList = A.data.toList ++ 46 :: (B.data.toList ++ 46 :: C.data.toList) by simp)
  clear k0 k1 k2 c0 c1 c2 c3 q0 q1 q2 n1 n2 n3 n4 HA HB HD hbk hbx hA hB hC
  show Exit.then _ _ Exit.normal _ (grow (redrawn w1 dq) osq)
  generalize A ++ ⟨#[46]⟩ ++ B ++ ⟨#[46]⟩ ++ C = T at htl ht ⊢
  generalize grow (redrawn w1 dq) osq = W5 at hbz z3 ⊢
  have hP5 := hid (hP.out.below hbz)
  clear hP
  go_wp2_with fail
  go_loop [3, 4] (fun sv iv => ∃ (k : Nat) (S : ByteArray), k ≤ Q.length ∧ iv = .int .i64 k ∧ sv = .string S ∧ Hid (S.data.toList = T.data.toList ++ tailT (Q.take k)) ∧ Hid (S.size ≤ 20 + k * 4294967282)) (fun _ iv => Q.length - (intOf iv).toNat)
  case atStart => exact ⟨0, T, by omega, rfl, rfl, hid (by simp [tailT]), hid (by have := ht.out; omega)⟩
  case round =>
    obtain ⟨k, S, hk, rfl, rfl, hS, hSz⟩ := hrel
    by_cases hlt : k < Q.length
    · obtain ⟨g, c', hne, hsl, h1, h2, hc⟩ : ∃ g c, Q ≠ [] ∧ Value.slice pa Q.length pc = .slice (some ⟨g, 0, none⟩) Q.length c ∧ Q.length ≤ c ∧ c ≤ maxLen ∧ CellsAt W5 g 0 Q := by
        rcases hP5.out with ⟨h, _⟩ | h
        · rw [h] at hlt; simp at hlt
        · exact h
      obtain ⟨rfl, rfl⟩ : pa = some ⟨g, 0, none⟩ ∧ pc = c' := by injection hsl with a b c; exact ⟨a, c⟩
      have hcell := hc.2 k hlt
      rw [Nat.zero_add] at hcell
      have hx := hid (show Q[k]? = some (Q.getD k []) by simp [List.getD, List.getElem?_eq_getElem hlt])
      have hq := hQ.out k hlt
      generalize Q.getD k [] = q at hcell hx hq
      have hqs : (⟨q.toArray⟩ : ByteArray).size < 4294967281 := sizeL _ _ hq
      have hqd := hid (show (⟨q.toArray⟩ : ByteArray).data.toList = q from rfl)
      generalize (⟨q.toArray⟩ : ByteArray) = qs at hcell hqs hqd
      have hk4 : k ≤ 4 := by have := hQ4.out; omega
      have hSS := hSz.out
      have htk := hid (show Q.take (k + 1) = Q.take k ++ [q] by rw [List.take_add_one, hx.out]; rfl)
      have m1 : ¬ 9223372036854775807 < S.size + 1 := by omega
      have m2 : ¬ 9223372036854775807 < S.size + 1 + qs.size := by omega
      have e1 := hid (show ∀ y : UInt8, (S ++ ⟨#[y]⟩ ++ qs).data.toList = S.data.toList ++ y :: q from fun y => by rw [← hqd.out]; simp)
      have e2 := hid (show ∀ y : UInt8, (S ++ ⟨#[y]⟩ ++ qs).size = S.size + 1 + qs.size from fun y => by
        have e : (⟨#[y]⟩ : ByteArray).size = 1 := rfl
        simp only [ByteArray.size_append, e])
      clear hc hq hne hP5
      by_cases h0 : k = 0
      · subst h0
        go_wp2_with fail
        go_round
        case rel => exact ⟨1, _, by omega, rfl, rfl, hid (by rw [e1.out, hS.out, htk.out]; simp [tailT, joinl]), hid (by rw [e2.out]; omega)⟩
        case measure => simp [intOf]; omega
      · have h0' : ((k : Int) == 0) = false := by simpa using h0
        go_wp2_with fail
        go_round
        case rel => exact ⟨k + 1, _, by omega, by go_num, rfl, hid (by
          rw [e1.out, hS.out, htk.out, tail_snoc q (by intro e; have := congrArg List.length e; rw [List.length_take] at this; have h9 : min k Q.length = 0 := this; omega)]; simp), hid (by rw [e2.out]; omega)⟩
        case measure => simp [intOf]; omega
    · have hQk := hid (show Q.take k = Q from List.take_of_length_le (by omega))
      go_wp2_with fail
      rw [← hR'.out]
      refine ⟨⟨S, ?_, rfl⟩, hbz⟩
      rw [hS.out, hQk.out, htl.out]; simp

theorem rdig_any (n : Nat) (hn : n < 1000000) (w : World) : Calls Tryz.prog 56 #[.int .i64 (n : Int)] w (Gives (.string ⟨(decS n).toArray⟩) w) :=
  (digits_any n (by omega) w).mono fun _ _ ⟨he, hb⟩ => ⟨he, hb⟩
/-- of a version that was read the document's text is the text -/
theorem rtext_any (l : List UInt8) (hl : l.length < 4294967281) (hv : verV l = true) (pv : Value) (w : World) (hP : PreAt w pv (preL l)) :
    Calls Tryz.prog 35 #[.agg #[.int .i64 (nth l 0 : Int), .int .i64 (nth l 1 : Int), .int .i64 (nth l 2 : Int), pv]] w (Gives (.string ⟨l.toArray⟩) w) := by
  obtain ⟨htx, h0, h1, h2, hp, hh⟩ := text_of hv
  have hal := aft_le l
  have hpl : (preL l).length ≤ 4 := by
    unfold preL
    rw [hh]
    by_cases h : aft 45 l = []
    · rw [h]; simp
    · rw [decide_eq_true h, if_pos rfl]
      rcases hp with hp | hp
      · exact absurd hp h
      · unfold preV at hp; simp only [Bool.and_eq_true, decide_eq_true_eq] at hp; exact hp.1
  have hpe : ∀ k, k < (preL l).length → ((preL l).getD k []).length < 4294967281 := by
    intro k hk
    have : (preL l).getD k [] ∈ preL l := by simp [List.getD, List.getElem?_eq_getElem hk]
    unfold preL at this ⊢
    split at this
    · rename_i h
      rw [if_pos h] at *
      have := part_size this
      omega
    · simp at this
  have ht : textN (nth l 0) (nth l 1) (nth l 2) ++ tailT (preL l) = l := by
    refine Eq.trans ?_ htx
    unfold textV
    congr 1
    unfold preL
    rw [hh]
    by_cases h : aft 45 l = []
    · rw [h]; simp [tailT]
    · rw [decide_eq_true h, if_pos rfl, if_neg h]
      have hne := cutl_ne 46 (aft 45 l)
      have hj := join_cutl 46 (aft 45 l)
      cases hc : cutl 46 (aft 45 l) with
      | nil => exact absurd hc hne
      | cons p ps => rw [hc] at hj; show 45 :: joinl 46 (p :: ps) = _; rw [hj]
  refine (rtext_s _ _ _ ⟨(decS (nth l 0)).toArray⟩ ⟨(decS (nth l 1)).toArray⟩ ⟨(decS (nth l 2)).toArray⟩ (preL l) pv (dec_six _ h0) (dec_six _ h1) (dec_six _ h2) w hpl hpe hP (fun W _ => rdig_any _ h0 W) (fun W _ => rdig_any _ h1 W) (fun W _ => rdig_any _ h2 W)).mono ?_
  rintro e w' ⟨⟨T, hT, rfl⟩, hb⟩
  refine gives rfl ?_ hb
  congr 1
  apply ByteArray.ext
  apply Array.toList_inj.1
  refine hT.trans (Eq.trans ?_ ht)
  unfold textN
  simp
end Go.Proofs.YtjiofenpalokoaaGreatDoor.Vs
