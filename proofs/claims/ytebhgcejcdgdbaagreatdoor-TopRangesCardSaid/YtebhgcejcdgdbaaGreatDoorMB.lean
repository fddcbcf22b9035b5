/-
  SEVERAL TEXTS, one behind the other.
-/
import Derived.Test.YtebhgcejcdgdbaaGreatDoorMA
import Derived.Test.YtebhgcejcdgdbaaGreatDoorShelf
import Derived.Lib.SmallJoins
import Derived.Deep.DeepCutAuto
import Derived.Deep.CutBlock
/-
  LAYER 3, PACKAGE version: contracts of its calls over plain functions of a text's bytes: the small ones.
-/
namespace Go.Proofs.YtebhgcejcdgdbaaGreatDoor.Vs
open Go.RowKit
open Go.Proofs.YtebhgcejcdgdbaaGreatDoor Go.Proofs.YtebhgcejcdgdbaaGreatDoor.Nu

/-- what a call comes to that gives v, and makes memory of its own at most -/
def Gives (v : Value) (w : World) (e : Ending) (w' : World) : Prop := e = .returned v ∧ Below w.heap.size w w'
theorem gives {v v' : Value} {w w' : World} {e : Ending} (he : e = .returned v') (h : v' = v) (hb : Below w.heap.size w w') : Gives v w e w' := ⟨by rw [he, h], hb⟩

theorem info256 : (Tryz.prog.info? (Tryz.lays161_ren.t 116)).map (fun i => (i.zero, i.size)) = some (some (.agg (Array.replicate 256 (.bool false))), 256) := by kernel_rfl

def digC : List UInt8 := [48, 49, 50, 51, 52, 53, 54, 55, 56, 57]
def prtC : List UInt8 := [48, 49, 50, 51, 52, 53, 54, 55, 56, 57, 97, 98, 99, 100, 101, 102, 103, 104, 105, 106, 107, 108, 109, 110, 111, 112, 113, 114, 115, 116, 117, 118, 119, 120, 121, 122, 45]
theorem digC_ok (c : UInt8) : digC.contains c = dgB c := by
  have h : ((List.range 256).all fun n => digC.contains (UInt8.ofNat n) == dgB (UInt8.ofNat n)) = true := by decide +kernel
  have := List.all_eq_true.1 h c.toNat (List.mem_range.2 c.toNat_lt)
  simpa using this
theorem prtC_ok (c : UInt8) : prtC.contains c = pB c := by
  have h : ((List.range 256).all fun n => prtC.contains (UInt8.ofNat n) == pB (UInt8.ofNat n)) = true := by decide +kernel
  have := List.all_eq_true.1 h c.toNat (List.mem_range.2 c.toNat_lt)
  simpa using this

theorem trim_nil (q : List UInt8) (p : UInt8 → Bool) (hq : ∀ c, q.contains c = p c) (l : List UInt8) : (Lib.trimLeftS l q).isEmpty = l.all p := by
  unfold Lib.trimLeftS
  rw [show (fun x => q.contains x) = p from funext hq]
  induction l with
  | nil => rfl
  | cons c l ih =>
    rw [List.dropWhile_cons, List.all_cons]
    cases h : p c
    · rfl
    · simpa using ih

set_option maxHeartbeats 1000000 in
theorem among_by (q : List UInt8) (p : UInt8 → Bool) (hq : ∀ c, q.contains c = p c) (h1 : (⟨q.toArray⟩ : ByteArray).size < 4294967281) (h2 : ∀ (j : Nat) b, (⟨q.toArray⟩ : ByteArray).data.toList[j]? = some b → b.toNat < 128) (s : ByteArray) (w : World) :
    Calls Tryz.prog 66 #[.string s, .string ⟨q.toArray⟩] w (Gives (.bool (s.data.toList.all p)) w) := by
  have HT : Hid (∀ w, Calls Tryz.prog 80 #[.string s, .string ⟨q.toArray⟩] w (Gives (.string ⟨(Lib.trimLeftS s.data.toList q).toArray⟩) w)) := hid (fun w => Any.strings_TrimLeft_laid Tryz.lays161 info256 s ⟨q.toArray⟩ w h1 h2)
  have HV := hid (trim_nil q p hq s.data.toList)
  clear h1 h2 hq
  generalize s.data.toList.all p = b at HV ⊢
  generalize Lib.trimLeftS s.data.toList q = T at HT HV
  generalize (⟨q.toArray⟩ : ByteArray) = Q at HT ⊢
  go_enter Tryz.func66, Tryz.ntmps66
  go_wp2_with (go_at_call 80; (with_reducible refine (HT.out _).mono ?_); rintro e w' ⟨rfl, hb'⟩)
  go_ret
  exact gives rfl (bool_eq HV.out) hb'

theorem amongD (s : ByteArray) (w : World) :
    Calls Tryz.prog 66 #[.string s, .string ⟨#[48, 49, 50, 51, 52, 53, 54, 55, 56, 57]⟩] w (Gives (.bool (s.data.toList.all dgB)) w) :=
  among_by digC dgB digC_ok (by decide) (ascii_of_all (by decide +kernel)) s w
theorem amongP (s : ByteArray) (w : World) :
    Calls Tryz.prog 66 #[.string s, .string ⟨#[48, 49, 50, 51, 52, 53, 54, 55, 56, 57, 97, 98, 99, 100, 101, 102, 103, 104, 105, 106, 107, 108, 109, 110, 111, 112, 113, 114, 115, 116, 117, 118, 119, 120, 121, 122, 45]⟩] w (Gives (.bool (s.data.toList.all pB)) w) :=
  among_by prtC pB prtC_ok (by decide) (ascii_of_all (by decide +kernel)) s w

theorem lenS (s : ByteArray) : s.data.toList.length = s.size := by simp
theorem padB_at (s : ByteArray) (h1 : 1 < s.size) (h0 : 0 < s.size) : padB s.data.toList = ((s[0].toNat : Int) == 48) := by
  unfold padB
  have hb := byte_at s 0 h0
  rw [hb, Bool.eq_iff_iff]
  simp only [decide_eq_true_eq, lenS, Option.some.injEq, beq_iff_eq, ← UInt8.toNat_inj]
  have e : (48 : UInt8).toNat = 48 := rfl
  omega
theorem padB_no (s : ByteArray) (h1 : ¬ 1 < s.size) : padB s.data.toList = false := by
  unfold padB; exact decide_eq_false (by rw [lenS]; omega)

theorem padded_any (s : ByteArray) (hs : s.size ≤ maxLen) (w : World) :
    Calls Tryz.prog 67 #[.string s] w (Gives (.bool (padB s.data.toList)) w) := by
  unfold maxLen at hs
  by_cases h1 : 1 < s.size
  · have h0 : 0 < s.size := by omega
    have h1' : (1 : Int) < (s.size : Int) := by omega
    have HV := hid (padB_at s h1 h0)
    generalize padB s.data.toList = b at HV ⊢
    go_enter Tryz.func67, Tryz.ntmps67
    go_wp2_with fail
    go_ret
    exact gives rfl (bool_eq HV.out.symm) (Below.refl _ _)
  · have HV := hid (padB_no s h1)
    have h1' : ¬ (1 : Int) < (s.size : Int) := by omega
    generalize padB s.data.toList = b at HV ⊢
    go_enter Tryz.func67, Tryz.ntmps67
    go_wp2_with fail
    go_ret
    exact gives rfl (bool_eq HV.out.symm) (Below.refl _ _)

theorem numV_eq (l : List UInt8) : numV l = (decide (1 ≤ l.length) && decide (l.length ≤ 6) && l.all dgB && !padB l) := by
  unfold numV padB
  rw [Bool.eq_iff_iff]
  simp only [Bool.and_eq_true, decide_eq_true_eq, numB_iff, Bool.not_eq_true', decide_eq_false_iff_not]
  constructor
  · rintro ⟨⟨a, b, c, d⟩, e⟩; exact ⟨⟨⟨a, e⟩, d⟩, c⟩
  · rintro ⟨⟨⟨a, e⟩, d⟩, c⟩; exact ⟨⟨a, by omega, c, d⟩, e⟩
def numR (l : List UInt8) : Nat := if numV l then numN l else 0

theorem empty_eq (s : ByteArray) (h0 : s.size ≠ 0) : (s.toList == []) = false := by
  rw [ByteArray.toList_eq, beq_eq_false_iff_ne]
  intro h; apply h0
  have := congrArg List.length h
  simpa using this
theorem atoi_any (s : ByteArray) (hv : numV s.data.toList = true) (w : World) :
    Calls Tryz.prog 68 #[.string s] w (Gives (.tuple #[.int .i64 (numR s.data.toList : Int), .nilIface]) w) := by
  obtain ⟨h1, h2⟩ := numV_of hv
  obtain ⟨a, b, c, d⟩ := numB_iff.1 h1
  refine (Tryz.strconv_Atoi s (digV s.data.toList : Nat) (by rw [lenS] at h2; omega) (atoi_dig (List.length_pos_iff.1 a) (List.all_eq_true.1 d)) w).mono ?_
  rintro e w' ⟨rfl, t, rfl⟩
  refine gives rfl ?_ ?_
  · unfold numR numN; rw [hv, h1]; rfl
  · exact Joins.below_bytesWorld _ w _ t (Nat.le_refl _)

set_option maxHeartbeats 1000000 in
theorem number_any (s : ByteArray) (hs : s.size ≤ maxLen) (w : World) :
    Calls Tryz.prog 44 #[.string s] w (Gives (.tuple #[.int .i64 (numR s.data.toList : Int), .bool (numV s.data.toList)]) w) := by
  have NO := hid (show ∀ w' : World, numV s.data.toList = false → Below w.heap.size w w' → Gives (.tuple #[.int .i64 (numR s.data.toList : Int), .bool (numV s.data.toList)]) w (.returned (.tuple #[.int .i64 0, .bool false])) w' by
    intro w' h hb; exact gives rfl (by unfold numR; rw [h]; rfl) hb)
  have HS := hid hs
  unfold maxLen at hs
  have hE := hid (numV_eq s.data.toList)
  have hL := hid (lenS s)
  have HP := hid (padded_any s HS.out)
  have HA := hid (amongD s)
  by_cases h0 : s.size = 0
  · have hn := hid (show numV s.data.toList = false by rw [hE.out, hL.out, h0]; rfl)
    obtain rfl : s = ByteArray.empty := by
      apply ByteArray.ext; apply Array.eq_empty_of_size_eq_zero; exact h0
    clear HP HA hL hE
    go_enter Tryz.func44, Tryz.ntmps44
    go_wp2
    go_ret2
    exact NO.out _ hn.out (Below.refl _ _)
  · have hq := empty_eq s h0
    by_cases h6 : (6 : Int) < s.size
    · have hn := hid (show numV s.data.toList = false by rw [hE.out, hL.out, decide_eq_false (show ¬ s.size ≤ 6 by omega)]; simp)
      clear HP HA hL hE
      go_enter Tryz.func44, Tryz.ntmps44
      go_wp2_with fail
      go_ret2
      exact NO.out _ hn.out (Below.refl _ _)
    · have hE2 := hid (show numV s.data.toList = (s.data.toList.all dgB && !padB s.data.toList) by
        rw [hE.out, hL.out, decide_eq_true (by omega), decide_eq_true (by omega)]; simp)
      have HAt := hid (atoi_any s)
      clear hE hL
      cases ha : s.data.toList.all dgB
      · have hn := hid (show numV s.data.toList = false by rw [hE2.out, ha]; rfl)
        rw [ha] at HA
        clear HP HAt hE2 ha
        go_enter Tryz.func44, Tryz.ntmps44
        go_wp2_with (go_at_call 66; (with_reducible refine (HA.out _).mono ?_); rintro e w' ⟨rfl, hb'⟩)
        go_ret2
        exact NO.out _ hn.out hb'
      · rw [ha] at HA
        cases hp : padB s.data.toList
        · have hv : numV s.data.toList = true := by rw [hE2.out, ha, hp]; rfl
          have HAt := hid (HAt.out hv)
          rw [hp] at HP
          rw [hv]
          clear NO hE2 ha hp hv
          generalize numR s.data.toList = N at HAt ⊢
          go_enter Tryz.func44, Tryz.ntmps44
          go_wp2_with (first
            | (go_at_call 66; (with_reducible refine (HA.out _).mono ?_); rintro e w1 ⟨rfl, hb1⟩)
            | (go_at_call 67; (with_reducible refine (HP.out _).mono ?_); rintro e w2 ⟨rfl, hb2⟩)
            | (go_at_call 68; (with_reducible refine (HAt.out _).mono ?_); rintro e w3 ⟨rfl, hb3⟩))
          go_quiet (fail)
          go_wp2
          go_ret2
          exact gives rfl rfl (below_drewN' (below_trans (below_trans hb1 hb2) hb3) _)
        · have hn := hid (show numV s.data.toList = false by rw [hE2.out, ha, hp]; rfl)
          rw [hp] at HP
          clear HAt hE2 ha hp
          go_enter Tryz.func44, Tryz.ntmps44
          go_wp2_with (first
            | (go_at_call 66; (with_reducible refine (HA.out _).mono ?_); rintro e w1 ⟨rfl, hb1⟩)
            | (go_at_call 67; (with_reducible refine (HP.out _).mono ?_); rintro e w2 ⟨rfl, hb2⟩))
          go_ret2
          exact NO.out _ hn.out (below_trans hb1 hb2)

theorem partV_eq (l : List UInt8) : partV l = (decide (1 ≤ l.length) && decide (l.length ≤ 8) && l.all pB && (!l.all dgB || !padB l)) := by
  unfold partV
  rw [Bool.decide_and, Bool.not_and]

set_option maxHeartbeats 1000000 in
theorem checkPart_any (s : ByteArray) (hs : s.size ≤ maxLen) (w : World) :
    Calls Tryz.prog 59 #[.string s] w (Gives (.bool (partV s.data.toList)) w) := by
  have HS := hid hs
  unfold maxLen at hs
  have hE := hid (partV_eq s.data.toList)
  have hL := hid (lenS s)
  have HP := hid (padded_any s HS.out)
  have HA := hid (amongD s)
  have HB := hid (amongP s)
  by_cases h0 : s.size = 0
  · have hn := hid (show partV s.data.toList = false by rw [hE.out, hL.out, h0]; rfl)
    obtain rfl : s = ByteArray.empty := by
      apply ByteArray.ext; apply Array.eq_empty_of_size_eq_zero; exact h0
    clear HP HA HB hL hE
    go_enter Tryz.func59, Tryz.ntmps59
    go_wp2
    go_ret
    exact gives rfl (bool_eq hn.out.symm) (Below.refl _ _)
  · have hq := empty_eq s h0
    by_cases h6 : (8 : Int) < s.size
    · have hn := hid (show partV s.data.toList = false by rw [hE.out, hL.out, decide_eq_false (show ¬ s.size ≤ 8 by omega)]; simp)
      clear HP HA HB hL hE
      go_enter Tryz.func59, Tryz.ntmps59
      go_wp2_with fail
      go_ret
      exact gives rfl (bool_eq hn.out.symm) (Below.refl _ _)
    · have hE2 := hid (show partV s.data.toList = (s.data.toList.all pB && (!s.data.toList.all dgB || !padB s.data.toList)) by
        rw [hE.out, hL.out, decide_eq_true (by omega), decide_eq_true (by omega)]; simp)
      clear hE hL
      generalize partV s.data.toList = R at hE2 ⊢
      generalize s.data.toList.all pB = b1 at HB hE2
      generalize s.data.toList.all dgB = b2 at HA hE2
      generalize padB s.data.toList = b3 at HP hE2
      cases b1
      · go_enter Tryz.func59, Tryz.ntmps59
        go_wp2_with (go_at_call 66; (with_reducible refine (HB.out _).mono ?_); rintro e w' ⟨rfl, hb'⟩)
        go_ret
        exact gives rfl (bool_eq hE2.out.symm) hb'
      · cases b2
        · go_enter Tryz.func59, Tryz.ntmps59
          go_wp2_with (go_at_call 66; first
            | ((with_reducible refine (HB.out _).mono ?_); rintro e w1 ⟨rfl, hb1⟩)
            | ((with_reducible refine (HA.out _).mono ?_); rintro e w2 ⟨rfl, hb2⟩))
          go_ret
          exact gives rfl (bool_eq hE2.out.symm) (below_trans hb1 hb2)
        · go_enter Tryz.func59, Tryz.ntmps59
          go_wp2_with (first
            | (go_at_call 66; first
              | ((with_reducible refine (HB.out _).mono ?_); rintro e w1 ⟨rfl, hb1⟩)
              | ((with_reducible refine (HA.out _).mono ?_); rintro e w2 ⟨rfl, hb2⟩))
            | (go_at_call 67; (with_reducible refine (HP.out _).mono ?_); rintro e w3 ⟨rfl, hb3⟩))
          go_ret
          exact gives rfl (bool_eq (by rw [hE2.out]; cases b3 <;> rfl)) (below_trans (below_trans hb1 hb2) hb3)
end Go.Proofs.YtebhgcejcdgdbaaGreatDoor.Vs

/-
  LAYER 3, PACKAGE version: what stands between points; what may stand behind a version's numbers.
-/
namespace Go.Proofs.YtebhgcejcdgdbaaGreatDoor.Vs
open Go.RowKit
open Go.Proofs.YtebhgcejcdgdbaaGreatDoor Go.Proofs.YtebhgcejcdgdbaaGreatDoor.Nu

/-- a slice of texts: its cells -/
def CellsAt (w : World) (B o : Nat) (gs : List (List UInt8)) : Prop := B < w.heap.size ∧ ∀ k, k < gs.length → w.cell? ⟨B, o + k, none⟩ = some (.string ⟨(gs.getD k []).toArray⟩)
theorem CellsAt.below {w w' : World} {B o : Nat} {gs : List (List UInt8)} (h : CellsAt w B o gs) (hb : Below w.heap.size w w') : CellsAt w' B o gs :=
  ⟨Nat.lt_of_lt_of_le h.1 hb.size, fun k hk => by rw [hb.cell h.1]; exact h.2 k hk⟩
/-- the library's number of bytes up to which it looks for texts in another way: some number -/
def MaxAt (w : World) : Prop := ∃ m : Int, 1 < w.heap.size ∧ w.cell? ⟨1, 0, none⟩ = some (.int .i64 m)
theorem MaxAt.below {w w' : World} (h : MaxAt w) (hb : Below w.heap.size w w') : MaxAt w' := by
  obtain ⟨m, h1, h2⟩ := h
  exact ⟨m, Nat.lt_of_lt_of_le h1 hb.size, by rw [hb.cell h1]; exact h2⟩

/-- what a text is cut into, n pieces at most -/
def Cuts (n : Nat) (l : List UInt8) (gs : List (List UInt8)) : Prop := ((cutl 46 l).length ≤ n → gs = cutl 46 l) ∧ (n < (cutl 46 l).length → gs.length = n) ∧ gs.length ≤ n
def SplitIs (n : Nat) (l : List UInt8) (w : World) (e : Ending) (w' : World) : Prop :=
  ∃ gs c B, w.heap.size ≤ B ∧ Cuts n l gs ∧ gs.length ≤ c ∧ c ≤ n ∧ e = .returned (.slice (some ⟨B, 0, none⟩) gs.length c) ∧ Below w.heap.size w w' ∧ CellsAt w' B 0 gs

theorem info9 : (Tryz.prog.info? (Tryz.lays147_ren.t 9)).map (fun i => (i.zero, i.size, i.bytes)) = some (some (.string ByteArray.empty), 1, 16) := by kernel_rfl

theorem splitN_any (s : ByteArray) (hs : s.size < 4294967281) (n : Nat) (hn : 1 ≤ n) (hn9 : n ≤ 100) (w : World) (hm : MaxAt w) :
    Calls Tryz.prog 43 #[.string s, .string ⟨#[46]⟩, .int .i64 n] w (SplitIs n s.data.toList w) := by
  obtain ⟨m, _, hm⟩ := hm
  obtain ⟨h1, h2⟩ := splitN_cut 46 n hn s
  have hle := Lib.splitB_length_le ⟨#[46]⟩ 0 (min n (s.size + 1) - 1) s
  refine (Any.strings_SplitN Tryz.lays147 info9 s ⟨#[46]⟩ n m w hs hm (by decide) hn (by omega)).mono ?_
  rintro e w' ⟨rfl, rfl⟩
  generalize hP : Lib.splitB ⟨#[46]⟩ 0 (min n (s.size + 1) - 1) s = P at h1 h2 hle ⊢
  have hc : 1 ≤ (cutl 46 s.data.toList).length := List.length_pos_iff.2 (cutl_ne _ _)
  have hcl := cutl_len 46 _ s.data.toList (Nat.le_refl _)
  have hsl := lenS s
  refine ⟨P.map (·.data.toList), min n (s.size + 1), w.heap.size, Nat.le_refl _, ⟨fun h => ?_, fun h => ?_, ?_⟩, ?_, by omega, by rw [List.length_map], ?_, ?_⟩
  · rw [h1 h, List.map_map]
    rw [List.map_congr_left (g := id) (fun x _ => by simp)]; simp
  · rw [List.length_map, h2 h]
  · rw [List.length_map]; omega
  · rw [List.length_map]; omega
  · exact below_alloc (Below.refl _ _) _
  · have hsz : P.length ≤ min n (s.size + 1) := by omega
    refine ⟨by simp, fun k hk => ?_⟩
    rw [List.length_map] at hk
    rw [World.cell?_alloc_at _ _ _ _ rfl, Nat.zero_add]
    unfold Lib.cellsOf
    rw [List.getElem?_toArray, List.getElem?_append_left (by simpa using hk), List.getElem?_map, List.getElem?_eq_getElem hk]
    simp [List.getD, List.getElem?_eq_getElem hk]

theorem parts_any (s : ByteArray) (hs : s.size < 4294967281) (w : World) (hm : MaxAt w) :
    Calls Tryz.prog 48 #[.string s] w (SplitIs 5 s.data.toList w) := by
  have HS : Hid (∀ w, MaxAt w → Calls Tryz.prog 43 #[.string s, .string ⟨#[46]⟩, .int .i64 5] w (SplitIs 5 s.data.toList w)) := hid (splitN_any s hs 5 (by decide) (by decide))
  clear hs
  go_enter Tryz.func48, Tryz.ntmps48
  go_wp2_with (go_at_call 43; (with_reducible refine (HS.out _ hm).mono ?_); rintro e w' ⟨gs, c, B, h0, h1, h2, h3, rfl, h5, h6⟩)
  go_ret
  exact ⟨gs, c, B, h0, h1, h2, h3, rfl, h5, h6⟩

theorem part_size {c : UInt8} {l p : List UInt8} (h : p ∈ cutl c l) : p.length ≤ l.length := (cutl_mem c _ l (Nat.le_refl _) p h).2
theorem take_all {α : Type} {p : α → Bool} {l : List α} {k : Nat} {x : α} (h : (l.take k).all p = true) (hx : l[k]? = some x) (hp : p x = true) : (l.take (k + 1)).all p = true := by
  rw [List.take_add_one, hx, List.all_append, h]; simpa using hp
theorem all_off {α : Type} {p : α → Bool} {l : List α} {k : Nat} {x : α} (hx : l[k]? = some x) (hp : p x = false) : l.all p = false := by
  rw [← Bool.not_eq_true, List.all_eq_true]
  intro h
  have := h x (List.mem_of_getElem? hx)
  rw [hp] at this; cases this

set_option maxHeartbeats 1000000 in
theorem checkPre_any (s : ByteArray) (hs : s.size < 4294967281) (w : World) (hm : MaxAt w) :
    Calls Tryz.prog 37 #[.string s] w (Gives (.bool (preV s.data.toList)) w) := by
  have HS := hid (parts_any s hs)
  have hlen := hid (lenS s)
  have HV := hid (show preV s.data.toList = (decide ((cutl 46 s.data.toList).length ≤ 4) && (cutl 46 s.data.toList).all partV) from rfl)
  have HM := hid (fun p (h : p ∈ cutl 46 s.data.toList) => part_size h)
  generalize preV s.data.toList = R at HV ⊢
  generalize hC : cutl 46 s.data.toList = C at HV HM
  have hC' := hid hC
  clear hC
  have hs' := hid hs
  go_enter Tryz.func37, Tryz.ntmps37
  go_wp2_with (go_at_call 48; (with_reducible refine (HS.out _ hm).mono ?_); rintro e w' ⟨gs, c, B, hB, ⟨h1, h2, h2'⟩, h3, h4, rfl, hb, hc⟩)
  all_goals rw [hC'.out] at h1 h2
  · rename_i h4'
    have h5 : 4 < C.length := by
      rcases Nat.lt_or_ge 5 C.length with h | h
      · omega
      · rw [← h1 h]; omega
    go_ret
    exact gives rfl (bool_eq (by rw [HV.out, decide_eq_false (by omega)]; rfl)) hb
  · rename_i h4'
    have h5 : C.length ≤ 5 := by
      rcases Nat.lt_or_ge 5 C.length with h | h
      · have := h2 h; omega
      · exact h
    have hg := h1 h5
    subst hg
    clear h1 h2 h5 h2'
    have hd := hid (show gs.length ≤ 4 by omega)
    go_loopw [5, 13] (fun _ i wr => ∃ k : Nat, k ≤ gs.length ∧ i = .int .i64 k ∧ Below w.heap.size w wr ∧ CellsAt wr B 0 gs ∧ Hid ((gs.take k).all partV = true)) (fun _ i _ => gs.length - (intOf i).toNat)
    case atStart => exact ⟨0, Nat.zero_le _, rfl, hb, hc, hid rfl⟩
    case round =>
      obtain ⟨k, hk, rfl, hb1, hc1, hp⟩ := hrel
      by_cases hlt : k < gs.length
      · have hcell := hc1.2 k hlt
        rw [Nat.zero_add] at hcell
        have hbl := hc1.1
        have hx := hid (show gs[k]? = some (gs.getD k []) by simp [List.getD, List.getElem?_eq_getElem hlt])
        generalize gs.getD k [] = g at hcell hx
        have hgl : g.length ≤ s.size := by rw [← hlen.out]; exact HM.out g (List.mem_of_getElem? hx.out)
        have HG : Hid (∀ w, Calls Tryz.prog 59 #[.string ⟨g.toArray⟩] w (Gives (.bool (partV g)) w)) := hid (checkPart_any ⟨g.toArray⟩ (by show g.toArray.size ≤ maxLen; unfold maxLen; simp; omega))
        have Y := hid (fun h => take_all hp.out hx.out h)
        have Z := hid (fun h => all_off (p := partV) hx.out h)
        clear hx hgl hc hb
        generalize partV g = b at *
        cases b
        · go_wp2_with (go_at_call 59; (with_reducible refine (HG.out _).mono ?_); rintro e w2 ⟨rfl, hb2⟩)
          go_ret
          exact gives rfl (bool_eq (by rw [HV.out, Z.out (by first | rfl | trivial), Bool.and_false])) (below_trans hb1 hb2)
        · go_wp2_with (go_at_call 59; (with_reducible refine (HG.out _).mono ?_); rintro e w2 ⟨rfl, hb2⟩)
          go_roundw
          case rel => exact ⟨k + 1, by omega, by go_num, below_trans hb1 hb2, hc1.below hb2, hid (Y.out (by first | rfl | trivial))⟩
          case measure => simp [intOf]; omega
      · have hke := hid (show k = gs.length by omega)
        go_wp2_with fail
        go_ret
        exact gives rfl (bool_eq (by rw [HV.out, decide_eq_true hd.out]; have := hp.out; rw [hke.out, List.take_length] at this; rw [this]; rfl)) hb1
end Go.Proofs.YtebhgcejcdgdbaaGreatDoor.Vs

/-
  LAYER 3, PACKAGE version: Parse.
-/
namespace Go.Proofs.YtebhgcejcdgdbaaGreatDoor.Vs
open Go.RowKit
open Go.Proofs.YtebhgcejcdgdbaaGreatDoor Go.Proofs.YtebhgcejcdgdbaaGreatDoor.Nu

def verVal (a b c : Nat) (pre : List UInt8) : Value := .agg #[.int .i64 (a : Int), .int .i64 (b : Int), .int .i64 (c : Int), .string ⟨pre.toArray⟩]
def parseT (l : List UInt8) : Value := .tuple #[if verV l then verVal (nth l 0) (nth l 1) (nth l 2) (aft 45 l) else verVal 0 0 0 [], .bool (verV l)]

theorem cut45 (s : ByteArray) (hs : s.size ≤ maxLen) (w : World) :
    Calls Tryz.prog 42 #[.string s, .string ⟨#[45]⟩] w (Gives (.tuple #[.string ⟨(fore 45 s.data.toList).toArray⟩, .string ⟨(aft 45 s.data.toList).toArray⟩, .bool (hasPre s.data.toList)]) w) :=
  Cb.cut_any s hs 45 w
theorem sizeL (l : List UInt8) (n : Nat) (h : l.length < n) : (⟨l.toArray⟩ : ByteArray).size < n := by
  show l.toArray.size < n; simpa using h
theorem aft_le (l : List UInt8) : (aft 45 l).length ≤ l.length := by
  rcases hasPre_cases l with ⟨_, _, _, h⟩ | ⟨_, _, h⟩
  · rw [h]; simp
  · have := congrArg List.length h; simp at this; omega
theorem fore_le (l : List UInt8) : (fore 45 l).length ≤ l.length := (List.takeWhile_sublist _).length_le

/-- three numbers and a text in memory -/
def rowV (xs : List Nat) (A : List UInt8) : List Value := xs.map (fun (x : Nat) => Value.int .i64 (x : Int)) ++ [.string ⟨A.toArray⟩]
theorem rowV_set {xs : List Nat} {A : List UInt8} {k : Nat} (h : k < xs.length) (x : Nat) : (rowV xs A).set k (.int .i64 (x : Int)) = rowV (xs.set k x) A := by
  unfold rowV
  rw [List.set_append_left _ _ (by simpa using h), List.map_set]
theorem four_cells {wr : World} {B : Nat} {e : TypeId} {x y z p : Value} (h : Blk wr B [x, y, z, p] e) (a b c d : Value) :
    ∀ W, W = ((((wr.setCell ⟨B, 0, none⟩ a).setCell ⟨B, 1, none⟩ b).setCell ⟨B, 2, none⟩ c).setCell ⟨B, 3, none⟩ d) →
    W.cell? ⟨B, 0, none⟩ = some a ∧ W.cell? ⟨B, 1, none⟩ = some b ∧ W.cell? ⟨B, 2, none⟩ = some c ∧ W.cell? ⟨B, 3, none⟩ = some d := by
  intro W hW
  subst hW
  have h' := (((h.set 0 a).set 1 b).set 2 c).set 3 d
  exact ⟨h'.cell 0 rfl, h'.cell 1 rfl, h'.cell 2 rfl, h'.cell 3 rfl⟩
theorem setCells4 {w wr : World} {B : Nat} (h : Below w.heap.size w wr) (hB : w.heap.size ≤ B) {a b c d : Nat} {va vb vc vd : Value} :
    Below w.heap.size w ((((wr.setCell ⟨B, a, none⟩ va).setCell ⟨B, b, none⟩ vb).setCell ⟨B, c, none⟩ vc).setCell ⟨B, d, none⟩ vd) :=
  (((h.setCell hB _).setCell hB _).setCell hB _).setCell hB _

theorem CellsAt.other {w : World} {B V : Nat} {gs : List (List UInt8)} (h : CellsAt w B 0 gs) (hne : V ≠ B) {k : Nat} (v : Value) : CellsAt (w.setCell ⟨V, k, none⟩ v) B 0 gs :=
  ⟨by have := h.1; simpa using this, fun j hj => by rw [World.cell?_setCell_other _ _ _ _ (by intro e; injection e with e; exact hne e)]; exact h.2 j hj⟩
/-- how the world stands in the midst of Parse -/
structure PSt (w wr : World) (V : Nat) (xs : List Nat) (A : List UInt8) : Prop where
  kept : Below w.heap.size w wr
  low : w.heap.size < V
  res : Blk wr w.heap.size [.int .i64 0, .int .i64 0, .int .i64 0, .string ⟨#[]⟩] 38
  var : Blk wr V (rowV xs A) 38
theorem PSt.below {w wr wx : World} {V : Nat} {xs : List Nat} {A : List UInt8} (h : PSt w wr V xs A) (hb : Below wr.heap.size wr wx) : PSt w wx V xs A :=
  ⟨below_trans h.kept hb, h.low, h.res.below hb, h.var.below hb⟩
theorem PSt.set {w wr : World} {V : Nat} {xs : List Nat} {A : List UInt8} (h : PSt w wr V xs A) {k : Nat} (hk : k < xs.length) (x : Nat) : PSt w (wr.setCell ⟨V, k, none⟩ (.int .i64 (x : Int))) V (xs.set k x) A :=
  ⟨h.kept.setCell (Nat.le_of_lt h.low) _, h.low, h.res.other (by have := h.low; show w.heap.size ≠ V; omega) _, by have := h.var.set k (.int .i64 (x : Int)); rwa [rowV_set hk] at this⟩

theorem PSt.make {w wr : World} (hx : Below w.heap.size w wr) (hr : Blk wr w.heap.size [.int .i64 0, .int .i64 0, .int .i64 0, .string ⟨#[]⟩] 38) (A : List UInt8) :
    ∃ W2 Vb, wr.alloc (.cells #[.int .i64 0, .int .i64 0, .int .i64 0, .string ⟨A.toArray⟩] 38) = W2 ∧ wr.heap.size = Vb ∧ PSt w W2 Vb [0, 0, 0] A :=
  ⟨_, _, rfl, rfl, below_alloc hx _, hr.lt, hr.alloc _, Blk.new _ _ _⟩

set_option maxHeartbeats 4000000 in
theorem parse_any (s : ByteArray) (hs : s.size < 4294967281) (w : World) (hm : MaxAt w) :
    Calls Tryz.prog 24 #[.string s] w (Gives (parseT s.data.toList) w) := by
  have hlen := hid (lenS s)
  have HC := hid (cut45 s (by unfold maxLen; omega))
  have ha := aft_le s.data.toList
  have hf := fore_le s.data.toList
  rw [hlen.out] at ha hf
  have HP : Hid (∀ w, MaxAt w → Calls Tryz.prog 37 #[.string ⟨(aft 45 s.data.toList).toArray⟩] w (Gives (.bool (preV (aft 45 s.data.toList))) w)) :=
    hid (checkPre_any ⟨(aft 45 s.data.toList).toArray⟩ (sizeL _ _ (by omega)))
  have HS : Hid (∀ w, MaxAt w → Calls Tryz.prog 43 #[.string ⟨(fore 45 s.data.toList).toArray⟩, .string ⟨#[46]⟩, .int .i64 4] w (SplitIs 4 (fore 45 s.data.toList) w)) :=
    hid (splitN_any ⟨(fore 45 s.data.toList).toArray⟩ (sizeL _ _ (by omega)) 4 (by decide) (by decide))
  have HV := hid (show verV s.data.toList = (numsV (fore 45 s.data.toList) && (!hasPre s.data.toList || preV (aft 45 s.data.toList))) from rfl)
  have HR := hid (show parseT s.data.toList = .tuple #[if verV s.data.toList then verVal (nth s.data.toList 0) (nth s.data.toList 1) (nth s.data.toList 2) (aft 45 s.data.toList) else verVal 0 0 0 [], .bool (verV s.data.toList)] from rfl)
  have HN := hid (show ∀ i, nth s.data.toList i = numN ((cutl 46 (fore 45 s.data.toList)).getD i []) from fun _ => rfl)
  have HQ := hid (show numsV (fore 45 s.data.toList) = (decide ((cutl 46 (fore 45 s.data.toList)).length = 3) && (cutl 46 (fore 45 s.data.toList)).all numV) from rfl)
  have HM := hid (fun p (h : p ∈ cutl 46 (fore 45 s.data.toList)) => part_size h)
  generalize parseT s.data.toList = R at HR ⊢
  generalize nth s.data.toList = N at HR HN
  generalize verV s.data.toList = V at HV HR
  generalize hasPre s.data.toList = hp at HC HV
  generalize hA : aft 45 s.data.toList = A at *
  generalize hF : fore 45 s.data.toList = F at *
  clear hA hF
  generalize preV A = pv at HP HV
  generalize numsV F = nv at HV HQ
  have bad : V = false → ∀ w', Below w.heap.size w w' → Hid (Gives R w (.returned (.tuple #[verVal 0 0 0 [], .bool false])) w') := by
    intro h w' hb; exact hid (gives rfl (by rw [HR.out, h]; rfl) hb)
  have BAD := hid bad
  clear bad
  have go : (hp = true ∧ pv = false) ∨ (!hp || pv) = true := by cases hp <;> cases pv <;> simp
  rcases go with ⟨rfl, rfl⟩ | go
  · have hV := hid (show V = false by rw [HV.out]; simp)
    clear HS HQ HM
    go_enter Tryz.func24, Tryz.ntmps24
    go_upto_block 0 with (fail)
    have hres : Blk (w.alloc (.cells #[.int .i64 0, .int .i64 0, .int .i64 0, .string ⟨#[]⟩] 38)) w.heap.size [.int .i64 0, .int .i64 0, .int .i64 0, .string ⟨#[]⟩] 38 := Blk.new w _ _
    have hb0 : Below w.heap.size w (w.alloc (.cells #[.int .i64 0, .int .i64 0, .int .i64 0, .string ⟨#[]⟩] 38)) := below_alloc (Below.refl _ _) _
    generalize w.alloc (.cells #[.int .i64 0, .int .i64 0, .int .i64 0, .string ⟨#[]⟩] 38) = W0 at hres hb0 ⊢
    go_wp2_with (first
      | (go_at_call 42; (with_reducible refine (HC.out _).mono ?_); rintro e w1 ⟨rfl, hb1⟩)
      | (go_at_call 37; (with_reducible refine (HP.out _ ((hm.below hb0).below hb1)).mono ?_); rintro e w2 ⟨rfl, hb2⟩; have hq := (hres.below hb1).below hb2; have r0 := hq.cell 0 rfl; have r1 := hq.cell 1 rfl; have r2 := hq.cell 2 rfl; have r3 := hq.cell 3 rfl; have rf := hq.free))
    obtain ⟨q0, q1, q2, q3⟩ := four_cells hq (.int .i64 0) (.int .i64 0) (.int .i64 0) (.string ⟨#[]⟩) _ rfl
    exact bodyPost_ret (v := .tuple #[verVal 0 0 0 [], .bool false]) (by simp [results, Tryz.results24, go_sem, q0, q1, q2, q3]; rfl) rfl (BAD.out hV.out _ (setCells4 (below_trans (below_trans hb0 hb1) hb2) (Nat.le_refl _))).out
  · have hV := hid (show V = nv by rw [HV.out, go, Bool.and_true])
    have two : hp = false ∨ (hp = true ∧ pv = true) := by revert go; cases hp <;> cases pv <;> simp
    clear HV go
    have hF := hid hf
    have hS := hid hs
    clear hf ha hs
    rcases two with rfl | ⟨rfl, rfl⟩
    all_goals
      go_enter Tryz.func24, Tryz.ntmps24
      go_upto_block 0 with (fail)
      have hres : Blk (w.alloc (.cells #[.int .i64 0, .int .i64 0, .int .i64 0, .string ⟨#[]⟩] 38)) w.heap.size [.int .i64 0, .int .i64 0, .int .i64 0, .string ⟨#[]⟩] 38 := Blk.new w _ _
      have hb0 : Below w.heap.size w (w.alloc (.cells #[.int .i64 0, .int .i64 0, .int .i64 0, .string ⟨#[]⟩] 38)) := below_alloc (Below.refl _ _) _
      generalize w.alloc (.cells #[.int .i64 0, .int .i64 0, .int .i64 0, .string ⟨#[]⟩] 38) = W0 at hres hb0 ⊢
      go_wp2_with (first
        | (go_at_call 42; (with_reducible refine (HC.out _).mono ?_); rintro e w1 ⟨rfl, hb1⟩)
        | (go_at_call 37; (with_reducible refine (HP.out _ ((hm.below hb0).below hb1)).mono ?_); rintro e w2 ⟨rfl, hb2⟩))
      first
        | (have hx := below_trans (below_trans hb0 hb1) hb2; have hr := (hres.below hb1).below hb2)
        | (have hx := below_trans hb0 hb1; have hr := hres.below hb1)
      obtain ⟨W2, Vb, hW2, hVb, hst⟩ := PSt.make hx hr A
      simp only [hW2, hVb]
      clear hW2 hVb hx hr hb1 hb0 hres
      refine (HS.out _ (hm.below hst.kept)).mono ?_
      rintro e w3 ⟨gs, c, B, hB, ⟨h1, h2, h2'⟩, h3, h4, rfl, hb3, hc⟩
      have hBV : Vb ≠ B := by have := hst.var.lt; omega
      have hst := hst.below hb3
      clear hb3 hB
      by_cases hg : gs.length = 3
      · have hC : gs = cutl 46 F := by
          rcases Nat.lt_or_ge 4 (cutl 46 F).length with h | h
          · have := h2 h; omega
          · exact h1 h
        clear h1 h2 h2'
        have hne : ((gs.length : Int) != 3) = false := by rw [hg]; rfl
        rw [← hC] at HQ HM HN
        have hC' := hid hC
        clear hC
        have hg' := hid hg
        go_wp2_with fail
        go_loopw [36] (fun i wr => ∃ (k : Nat) (xs : List Nat), k ≤ 3 ∧ i = .int .i64 k ∧ PSt w wr Vb xs A ∧ CellsAt wr B 0 gs ∧ xs.length = 3 ∧ Hid ((gs.take k).all numV = true) ∧ Hid (∀ j, j < k → xs[j]? = some (numN (gs.getD j [])))) (fun i _ => 3 - (intOf i).toNat)
        case atStart => exact ⟨0, [0, 0, 0], by omega, rfl, hst, hc, rfl, hid rfl, hid (fun j hj => by omega)⟩
        case round =>
          obtain ⟨k, xs, hk, rfl, st, hc1, hxl, hp, hn⟩ := hrel
          clear hst hc
          by_cases hlt : k < 3
          · have hlt' : k < gs.length := by omega
            have hcell := hc1.2 k hlt'
            rw [Nat.zero_add] at hcell
            have hx := hid (show gs[k]? = some (gs.getD k []) by simp [List.getD, List.getElem?_eq_getElem hlt'])
            have hn' := hid (show ∀ x, x = numN (gs.getD k []) → ∀ j, j < k + 1 → (xs.set k x)[j]? = some (numN (gs.getD j [])) by
              rintro x rfl j hj
              rw [List.getElem?_set]
              by_cases e : k = j
              · subst e; rw [if_pos rfl, if_pos (by omega)]
              · rw [if_neg e]; exact hn.out j (by omega))
            generalize gs.getD k [] = g at hcell hx hn'
            have hgl : g.length ≤ s.size := Nat.le_trans (HM.out g (List.mem_of_getElem? hx.out)) hF.out
            have HG : Hid (∀ w, Calls Tryz.prog 44 #[.string ⟨g.toArray⟩] w (Gives (.tuple #[.int .i64 (numR g : Int), .bool (numV g)]) w)) := hid (number_any ⟨g.toArray⟩ (by show g.toArray.size ≤ maxLen; unfold maxLen; have := hS.out; simp; omega))
            have Y := hid (fun h => take_all hp.out hx.out h)
            have Z := hid (fun h => all_off (p := numV) hx.out h)
            have E := hid (show numV g = true → numR g = numN g from fun h => by unfold numR; rw [h]; rfl)
            clear hx hgl
            generalize numV g = b at *
            generalize numR g = nr at *
            cases b
            · have st2 := hid (fun wx (h : Below wr.heap.size wr wx) => st.below h)
              go_wp2_with (go_at_call 44; (with_reducible refine (HG.out _).mono ?_); rintro e w4 ⟨rfl, hb4⟩; have hq := (st2.out _ hb4).res; have r0 := hq.cell 0 rfl; have r1 := hq.cell 1 rfl; have r2 := hq.cell 2 rfl; have r3 := hq.cell 3 rfl; have rf := hq.free)
              obtain ⟨q0, q1, q2, q3⟩ := four_cells hq (.int .i64 0) (.int .i64 0) (.int .i64 0) (.string ⟨#[]⟩) _ rfl
              have hq := hid (show V = false by rw [hV.out, HQ.out, Z.out (by first | rfl | trivial), Bool.and_false])
              exact bodyPost_ret (v := .tuple #[verVal 0 0 0 [], .bool false]) (by simp [results, Tryz.results24, go_sem, q0, q1, q2, q3]; rfl) rfl (BAD.out hq.out _ (setCells4 (st2.out _ hb4).kept (Nat.le_refl _))).out
            · have st2 := hid (fun wx (h : Below wr.heap.size wr wx) => st.below h)
              go_wp2_with (go_at_call 44; (with_reducible refine (HG.out _).mono ?_); rintro e w4 ⟨rfl, hb4⟩; have hq := (st2.out _ hb4).var; have rf := hq.free; have rk := hq.cell k (v := .int .i64 ((xs.getD k 0 : Nat) : Int)) (by unfold rowV; rw [List.getElem?_append_left (by simp; omega)]; simp [List.getD, List.getElem?_eq_getElem (show k < xs.length by omega)]))
              go_roundw
              case rel => exact ⟨k + 1, xs.set k nr, by omega, by go_num, (st2.out _ hb4).set (by omega) nr, (hc1.below hb4).other hBV _, by simpa using hxl, hid (Y.out (by first | rfl | trivial)), hid (hn'.out nr (E.out (by first | rfl | trivial)))⟩
              case measure => simp [intOf]; omega
          · have hk3 : k = 3 := by omega
            subst hk3
            obtain ⟨x0, x1, x2, rfl⟩ : ∃ a b c, xs = [a, b, c] := by
              match xs, hxl with
              | [a, b, c], _ => exact ⟨a, b, c, rfl⟩
            have e0 := Option.some.inj (hn.out 0 (by decide))
            have e1 := Option.some.inj (hn.out 1 (by decide))
            have e2 := Option.some.inj (hn.out 2 (by decide))
            have hok := hid (show R = .tuple #[verVal x0 x1 x2 A, .bool true] by
              have hv : V = true := by
                rw [hV.out, HQ.out, decide_eq_true hg'.out]
                have := hp.out
                rw [List.take_of_length_le (by omega)] at this
                rw [this]; rfl
              rw [HR.out, hv, HN.out 0, HN.out 1, HN.out 2, e0, e1, e2]; rfl)
            clear e0 e1 e2 hn hp
            have v0 := st.var.cell 0 rfl
            have v1 := st.var.cell 1 rfl
            have v2 := st.var.cell 2 rfl
            have v3 := st.var.cell 3 rfl
            have vf := st.var.free
            have r0 := st.res.cell 0 rfl
            have r1 := st.res.cell 1 rfl
            have r2 := st.res.cell 2 rfl
            have r3 := st.res.cell 3 rfl
            have rf := st.res.free
            go_wp2_with fail
            obtain ⟨q0, q1, q2, q3⟩ := four_cells st.res (.int .i64 (x0 : Int)) (.int .i64 (x1 : Int)) (.int .i64 (x2 : Int)) (.string ⟨A.toArray⟩) _ rfl
            exact bodyPost_ret (v := .tuple #[verVal x0 x1 x2 A, .bool true]) (by simp [results, Tryz.results24, go_sem, q0, q1, q2, q3]; rfl) rfl (gives rfl hok.out.symm (setCells4 st.kept (Nat.le_refl _)))
      · have hne : ((gs.length : Int) != 3) = true := by simp; omega
        have hq := hid (show V = false by
          rw [hV.out, HQ.out, decide_eq_false]; rfl
          intro h
          exact hg (by rw [h1 (by omega), h]))
        clear h1 h2 h2'
        have r0 := hst.res.cell 0 rfl
        have r1 := hst.res.cell 1 rfl
        have r2 := hst.res.cell 2 rfl
        have r3 := hst.res.cell 3 rfl
        have rf := hst.res.free
        go_wp2_with fail
        obtain ⟨q0, q1, q2, q3⟩ := four_cells hst.res (.int .i64 0) (.int .i64 0) (.int .i64 0) (.string ⟨#[]⟩) _ rfl
        exact bodyPost_ret (v := .tuple #[verVal 0 0 0 [], .bool false]) (by simp [results, Tryz.results24, go_sem, q0, q1, q2, q3]; rfl) rfl (BAD.out hq.out _ (setCells4 hst.kept (Nat.le_refl _))).out
end Go.Proofs.YtebhgcejcdgdbaaGreatDoor.Vs
