/-
  LAYER 3, PACKAGE version: contracts of its calls over plain functions of a text's bytes: the small ones.
-/
import Derived.Test.YtmeaajhongalaaaGreatDoorIA
import Derived.Test.YtmeaajhongalaaaGreatDoorShelf
import Derived.Lib.SmallJoins
namespace Go.Proofs.YtmeaajhongalaaaGreatDoor.Vs
open Go.RowKit
open Go.Proofs.YtmeaajhongalaaaGreatDoor Go.Proofs.YtmeaajhongalaaaGreatDoor.Nu

/-- what a call comes to that gives v, and makes memory of its own at most -/
def Gives (v : Value) (w : World) (e : Ending) (w' : World) : Prop := e = .returned v ∧ Below w.heap.size w w'
theorem gives {v v' : Value} {w w' : World} {e : Ending} (he : e = .returned v') (h : v' = v) (hb : Below w.heap.size w w') : Gives v w e w' := ⟨by rw [he, h], hb⟩

theorem info256 : (Tryz.prog.info? (Tryz.lays161_ren.t 116)).map (fun i => (i.zero, i.size)) = some (some (.agg (Array.replicate 256 (.bool false))), 256) := by kernel_rfl

def digC : List UInt8 := [48, 49, 50, 51, 52, 53, 54, 55, 56, 57]
def prtC : List UInt8 := [48, 49, 50, 51, 52, 53, 54, 55, 56, 57, 97, 98, 99, 100, 101, 102, 103, 104, 105, 106, 107, 108, 109, 110, 111, 112, 113, 114, 115, 116, 117, 118, 119, 120, 121, 122, 45]
theorem digC_ok (c : UInt8) : digC.contains c = dgB c := by
  have h : ((List.range 256).all fun n => digC.contains (UInt8.ofNat n) == dgB (UInt8.ofNat n)) = true := by decide +kernel
  have := List.all_eq_true.1 h c.toNat (List.mem_range.2 c.toNat_lt)
  simpa using this
theorem prtC_ok (c : UInt8) : prtC.contains c = pB c := by
  have h : ((List.range 256).all fun n => prtC.contains (UInt8.ofNat n) == pB (UInt8.ofNat n)) = true := by decide +kernel
  have := List.all_eq_true.1 h c.toNat (List.mem_range.2 c.toNat_lt)
  simpa using this

theorem trim_nil (q : List UInt8) (p : UInt8 → Bool) (hq : ∀ c, q.contains c = p c) (l : List UInt8) : (Lib.trimLeftS l q).isEmpty = l.all p := by
  unfold Lib.trimLeftS
  rw [show (fun x => q.contains x) = p from funext hq]
  induction l with
  | nil => rfl
  | cons c l ih =>
    rw [List.dropWhile_cons, List.all_cons]
    cases h : p c
    · rfl
    · simpa using ih

set_option maxHeartbeats 1000000 in
theorem among_by (q : List UInt8) (p : UInt8 → Bool) (hq : ∀ c, q.contains c = p c) (h1 : (⟨q.toArray⟩ : ByteArray).size < 4294967281) (h2 : ∀ (j : Nat) b, (⟨q.toArray⟩ : ByteArray).data.toList[j]? = some b → b.toNat < 128) (s : ByteArray) (w : World) :
    Calls Tryz.prog 145 #[.string s, .string ⟨q.toArray⟩] w (Gives (.bool (s.data.toList.all p)) w) := by
  have HT : Hid (∀ w, Calls Tryz.prog 159 #[.string s, .string ⟨q.toArray⟩] w (Gives (.string ⟨(Lib.trimLeftS s.data.toList q).toArray⟩) w)) := hid (fun w => Any.strings_TrimLeft_laid Tryz.lays161 info256 s ⟨q.toArray⟩ w h1 h2)
  have HV := hid (trim_nil q p hq s.data.toList)
  clear h1 h2 hq
  generalize s.data.toList.all p = b at HV ⊢
  generalize Lib.trimLeftS s.data.toList q = T at HT HV
  generalize (⟨q.toArray⟩ : ByteArray) = Q at HT ⊢
  go_enter Tryz.func145, Tryz.ntmps145
  go_wp2_with (go_at_call 159; (with_reducible refine (HT.out _).mono ?_); rintro e w' ⟨rfl, hb'⟩)
  go_ret
  exact gives rfl (bool_eq HV.out) hb'

theorem amongD (s : ByteArray) (w : World) :
    Calls Tryz.prog 145 #[.string s, .string ⟨#[48, 49, 50, 51, 52, 53, 54, 55, 56, 57]⟩] w (Gives (.bool (s.data.toList.all dgB)) w) :=
  among_by digC dgB digC_ok (by decide) (ascii_of_all (by decide +kernel)) s w
theorem amongP (s : ByteArray) (w : World) :
    Calls Tryz.prog 145 #[.string s, .string ⟨#[48, 49, 50, 51, 52, 53, 54, 55, 56, 57, 97, 98, 99, 100, 101, 102, 103, 104, 105, 106, 107, 108, 109, 110, 111, 112, 113, 114, 115, 116, 117, 118, 119, 120, 121, 122, 45]⟩] w (Gives (.bool (s.data.toList.all pB)) w) :=
  among_by prtC pB prtC_ok (by decide) (ascii_of_all (by decide +kernel)) s w

theorem lenS (s : ByteArray) : s.data.toList.length = s.size := by simp
theorem padB_at (s : ByteArray) (h1 : 1 < s.size) (h0 : 0 < s.size) : padB s.data.toList = ((s[0].toNat : Int) == 48) := by
  unfold padB
  have hb := byte_at s 0 h0
  rw [hb, Bool.eq_iff_iff]
  simp only [decide_eq_true_eq, lenS, Option.some.injEq, beq_iff_eq, ← UInt8.toNat_inj]
  have e : (48 : UInt8).toNat = 48 := rfl
  omega
theorem padB_no (s : ByteArray) (h1 : ¬ 1 < s.size) : padB s.data.toList = false := by
  unfold padB; exact decide_eq_false (by rw [lenS]; omega)

theorem padded_any (s : ByteArray) (hs : s.size ≤ maxLen) (w : World) :
    Calls Tryz.prog 190 #[.string s] w (Gives (.bool (padB s.data.toList)) w) := by
  unfold maxLen at hs
  by_cases h1 : 1 < s.size
  · have h0 : 0 < s.size := by omega
    have h1' : (1 : Int) < (s.size : Int) := by omega
    have HV := hid (padB_at s h1 h0)
    generalize padB s.data.toList = b at HV ⊢
    go_enter Tryz.func190, Tryz.ntmps190
    go_wp2_with fail
    go_ret
    exact gives rfl (bool_eq HV.out.symm) (Below.refl _ _)
  · have HV := hid (padB_no s h1)
    have h1' : ¬ (1 : Int) < (s.size : Int) := by omega
    generalize padB s.data.toList = b at HV ⊢
    go_enter Tryz.func190, Tryz.ntmps190
    go_wp2_with fail
    go_ret
    exact gives rfl (bool_eq HV.out.symm) (Below.refl _ _)

theorem numV_eq (l : List UInt8) : numV l = (decide (1 ≤ l.length) && decide (l.length ≤ 6) && l.all dgB && !padB l) := by
  unfold numV padB
  rw [Bool.eq_iff_iff]
  simp only [Bool.and_eq_true, decide_eq_true_eq, numB_iff, Bool.not_eq_true', decide_eq_false_iff_not]
  constructor
  · rintro ⟨⟨a, b, c, d⟩, e⟩; exact ⟨⟨⟨a, e⟩, d⟩, c⟩
  · rintro ⟨⟨⟨a, e⟩, d⟩, c⟩; exact ⟨⟨a, by omega, c, d⟩, e⟩
def numR (l : List UInt8) : Nat := if numV l then numN l else 0

theorem empty_eq (s : ByteArray) (h0 : s.size ≠ 0) : (s.toList == []) = false := by
  rw [ByteArray.toList_eq, beq_eq_false_iff_ne]
  intro h; apply h0
  have := congrArg List.length h
  simpa using this
theorem atoi_any (s : ByteArray) (hv : numV s.data.toList = true) (w : World) :
    Calls Tryz.prog 222 #[.string s] w (Gives (.tuple #[.int .i64 (numR s.data.toList : Int), .nilIface]) w) := by
  obtain ⟨h1, h2⟩ := numV_of hv
  obtain ⟨a, b, c, d⟩ := numB_iff.1 h1
  refine (Tryz.strconv_Atoi s (digV s.data.toList : Nat) (by rw [lenS] at h2; omega) (atoi_dig (List.length_pos_iff.1 a) (List.all_eq_true.1 d)) w).mono ?_
  rintro e w' ⟨rfl, t, rfl⟩
  refine gives rfl ?_ ?_
  · unfold numR numN; rw [hv, h1]; rfl
  · exact Joins.below_bytesWorld _ w _ t (Nat.le_refl _)

set_option maxHeartbeats 1000000 in
theorem number_any (s : ByteArray) (hs : s.size ≤ maxLen) (w : World) :
    Calls Tryz.prog 200 #[.string s] w (Gives (.tuple #[.int .i64 (numR s.data.toList : Int), .bool (numV s.data.toList)]) w) := by
  have NO := hid (show ∀ w' : World, numV s.data.toList = false → Below w.heap.size w w' → Gives (.tuple #[.int .i64 (numR s.data.toList : Int), .bool (numV s.data.toList)]) w (.returned (.tuple #[.int .i64 0, .bool false])) w' by
    intro w' h hb; exact gives rfl (by unfold numR; rw [h]; rfl) hb)
  have HS := hid hs
  unfold maxLen at hs
  have hE := hid (numV_eq s.data.toList)
  have hL := hid (lenS s)
  have HP := hid (padded_any s HS.out)
  have HA := hid (amongD s)
  by_cases h0 : s.size = 0
  · have hn := hid (show numV s.data.toList = false by rw [hE.out, hL.out, h0]; rfl)
    obtain rfl : s = ByteArray.empty := by
      apply ByteArray.ext; apply Array.eq_empty_of_size_eq_zero; exact h0
    clear HP HA hL hE
    go_enter Tryz.func200, Tryz.ntmps200
    go_wp2
    go_ret2
    exact NO.out _ hn.out (Below.refl _ _)
  · have hq := empty_eq s h0
    by_cases h6 : (6 : Int) < s.size
    · have hn := hid (show numV s.data.toList = false by rw [hE.out, hL.out, decide_eq_false (show ¬ s.size ≤ 6 by omega)]; simp)
      clear HP HA hL hE
      go_enter Tryz.func200, Tryz.ntmps200
      go_wp2_with fail
      go_ret2
      exact NO.out _ hn.out (Below.refl _ _)
    · have hE2 := hid (show numV s.data.toList = (s.data.toList.all dgB && !padB s.data.toList) by
        rw [hE.out, hL.out, decide_eq_true (by omega), decide_eq_true (by omega)]; simp)
      have HAt := hid (atoi_any s)
      clear hE hL
      cases ha : s.data.toList.all dgB
      · have hn := hid (show numV s.data.toList = false by rw [hE2.out, ha]; rfl)
        rw [ha] at HA
        clear HP HAt hE2 ha
        go_enter Tryz.func200, Tryz.ntmps200
        go_wp2_with (go_at_call 145; (with_reducible refine (HA.out _).mono ?_); rintro e w' ⟨rfl, hb'⟩)
        go_ret2
        exact NO.out _ hn.out hb'
      · rw [ha] at HA
        cases hp : padB s.data.toList
        · have hv : numV s.data.toList = true := by rw [hE2.out, ha, hp]; rfl
          have HAt := hid (HAt.out hv)
          rw [hp] at HP
          rw [hv]
          clear NO hE2 ha hp hv
          generalize numR s.data.toList = N at HAt ⊢
          go_enter Tryz.func200, Tryz.ntmps200
          go_wp2_with (first
            | (go_at_call 145; (with_reducible refine (HA.out _).mono ?_); rintro e w1 ⟨rfl, hb1⟩)
            | (go_at_call 190; (with_reducible refine (HP.out _).mono ?_); rintro e w2 ⟨rfl, hb2⟩)
            | (go_at_call 222; (with_reducible refine (HAt.out _).mono ?_); rintro e w3 ⟨rfl, hb3⟩))
          go_quiet (fail)
          go_wp2
          go_ret2
          exact gives rfl rfl (below_drewN' (below_trans (below_trans hb1 hb2) hb3) _)
        · have hn := hid (show numV s.data.toList = false by rw [hE2.out, ha, hp]; rfl)
          rw [hp] at HP
          clear HAt hE2 ha hp
          go_enter Tryz.func200, Tryz.ntmps200
          go_wp2_with (first
            | (go_at_call 145; (with_reducible refine (HA.out _).mono ?_); rintro e w1 ⟨rfl, hb1⟩)
            | (go_at_call 190; (with_reducible refine (HP.out _).mono ?_); rintro e w2 ⟨rfl, hb2⟩))
          go_ret2
          exact NO.out _ hn.out (below_trans hb1 hb2)

theorem partV_eq (l : List UInt8) : partV l = (decide (1 ≤ l.length) && decide (l.length ≤ 8) && l.all pB && (!l.all dgB || !padB l)) := by
  unfold partV
  rw [Bool.decide_and, Bool.not_and]

set_option maxHeartbeats 1000000 in
theorem checkPart_any (s : ByteArray) (hs : s.size ≤ maxLen) (w : World) :
    Calls Tryz.prog 156 #[.string s] w (Gives (.bool (partV s.data.toList)) w) := by
  have HS := hid hs
  unfold maxLen at hs
  have hE := hid (partV_eq s.data.toList)
  have hL := hid (lenS s)
  have HP := hid (padded_any s HS.out)
  have HA := hid (amongD s)
  have HB := hid (amongP s)
  by_cases h0 : s.size = 0
  · have hn := hid (show partV s.data.toList = false by rw [hE.out, hL.out, h0]; rfl)
    obtain rfl : s = ByteArray.empty := by
      apply ByteArray.ext; apply Array.eq_empty_of_size_eq_zero; exact h0
    clear HP HA HB hL hE
    go_enter Tryz.func156, Tryz.ntmps156
    go_wp2
    go_ret
    exact gives rfl (bool_eq hn.out.symm) (Below.refl _ _)
  · have hq := empty_eq s h0
    by_cases h6 : (8 : Int) < s.size
    · have hn := hid (show partV s.data.toList = false by rw [hE.out, hL.out, decide_eq_false (show ¬ s.size ≤ 8 by omega)]; simp)
      clear HP HA HB hL hE
      go_enter Tryz.func156, Tryz.ntmps156
      go_wp2_with fail
      go_ret
      exact gives rfl (bool_eq hn.out.symm) (Below.refl _ _)
    · have hE2 := hid (show partV s.data.toList = (s.data.toList.all pB && (!s.data.toList.all dgB || !padB s.data.toList)) by
        rw [hE.out, hL.out, decide_eq_true (by omega), decide_eq_true (by omega)]; simp)
      clear hE hL
      generalize partV s.data.toList = R at hE2 ⊢
      generalize s.data.toList.all pB = b1 at HB hE2
      generalize s.data.toList.all dgB = b2 at HA hE2
      generalize padB s.data.toList = b3 at HP hE2
      cases b1
      · go_enter Tryz.func156, Tryz.ntmps156
        go_wp2_with (go_at_call 145; (with_reducible refine (HB.out _).mono ?_); rintro e w' ⟨rfl, hb'⟩)
        go_ret
        exact gives rfl (bool_eq hE2.out.symm) hb'
      · cases b2
        · go_enter Tryz.func156, Tryz.ntmps156
          go_wp2_with (go_at_call 145; first
            | ((with_reducible refine (HB.out _).mono ?_); rintro e w1 ⟨rfl, hb1⟩)
            | ((with_reducible refine (HA.out _).mono ?_); rintro e w2 ⟨rfl, hb2⟩))
          go_ret
          exact gives rfl (bool_eq hE2.out.symm) (below_trans hb1 hb2)
        · go_enter Tryz.func156, Tryz.ntmps156
          go_wp2_with (first
            | (go_at_call 145; first
              | ((with_reducible refine (HB.out _).mono ?_); rintro e w1 ⟨rfl, hb1⟩)
              | ((with_reducible refine (HA.out _).mono ?_); rintro e w2 ⟨rfl, hb2⟩))
            | (go_at_call 190; (with_reducible refine (HP.out _).mono ?_); rintro e w3 ⟨rfl, hb3⟩))
          go_ret
          exact gives rfl (bool_eq (by rw [hE2.out]; cases b3 <;> rfl)) (below_trans (below_trans hb1 hb2) hb3)
end Go.Proofs.YtmeaajhongalaaaGreatDoor.Vs
