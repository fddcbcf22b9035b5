/-
  LAYER 3, PACKAGE version: Compare, behind the same numbers.
-/
import Derived.Test.YtjiofenpalokoaaGreatDoorVersionCmpC
import Derived.Test.YtjiofenpalokoaaGreatDoorVersionRel
import Derived.Deep.RegionHeld3
namespace Go.Proofs.YtjiofenpalokoaaGreatDoor.Vs
open Go.RowKit
open Go.Proofs.YtjiofenpalokoaaGreatDoor Go.Proofs.YtjiofenpalokoaaGreatDoor.Nu

/-- the cells of two versions that stand in memory: what stands behind the numbers -/
def Pre2 (w : World) (b1 b2 : Nat) (s t : ByteArray) (w' : World) : Prop := Below w.heap.size w w' ∧ w'.cell? ⟨b1, 3, none⟩ = some (.string s) ∧ w'.cell? ⟨b2, 3, none⟩ = some (.string t)
theorem keep2 {w a b : World} {b1 b2 : Nat} {s t : ByteArray} (hb : Below a.heap.size a b) (h : Below w.heap.size w a ∧ a.cell? ⟨b1, 3, none⟩ = some (.string s) ∧ a.cell? ⟨b2, 3, none⟩ = some (.string t)) :
    Below w.heap.size w b ∧ b.cell? ⟨b1, 3, none⟩ = some (.string s) ∧ b.cell? ⟨b2, 3, none⟩ = some (.string t) :=
  ⟨below_trans h.1 hb, by rw [hb.cell (World.block_lt_of_cell? _ _ h.2.1)]; exact h.2.1, by rw [hb.cell (World.block_lt_of_cell? _ _ h.2.2)]; exact h.2.2⟩
/-- what a text that is no more than so many parts is cut into -/
def PartsIs (G : List (List UInt8)) (w : World) (e : Ending) (w' : World) : Prop := ∃ c B, e = .returned (.slice (some ⟨B, 0, none⟩) G.length c) ∧ Below w.heap.size w w' ∧ CellsAt w' B 0 G
theorem parts_ok (s : ByteArray) (hs : s.size < 4294967281) (h : (cutl 46 s.data.toList).length ≤ 5) (w : World) (hm : MaxAt w) : Calls Tryz.prog 48 #[.string s] w (PartsIs (cutl 46 s.data.toList) w) := by
  refine (parts_any s hs w hm).mono ?_
  rintro e w' ⟨gs, c, B, h0, ⟨h1, _, _⟩, h2, h3, rfl, h5, h6⟩
  have := h1 h
  subst this
  exact ⟨c, B, rfl, h5, h6⟩

theorem cells_keep {a b : World} {B o : Nat} {G : List (List UInt8)} (h : CellsAt a B o G) (hb : Below a.heap.size a b) : CellsAt b B o G := h.below hb

set_option maxRecDepth 20000 in
set_option maxHeartbeats 4000000 in
theorem compare_parts (a b c : Int) (s t : ByteArray) (hs : s.size < 4294967281) (ht : t.size < 4294967281) (hcs : (cutl 46 s.data.toList).length ≤ 5) (hct : (cutl 46 t.data.toList).length ≤ 5)
    (hne : (s.toList == t.toList) = false) (h0 : (s.toList == []) = false) (h1 : (t.toList == []) = false) (w : World) (hm : MaxAt w) :
    Calls Tryz.prog 26 #[.agg #[.int .i64 a, .int .i64 b, .int .i64 c, .string s], .agg #[.int .i64 a, .int .i64 b, .int .i64 c, .string t]] w (Gives (.int .i64 (cmpL cmpP (cutl 46 s.data.toList) (cutl 46 t.data.toList))) w) := by
  have g1 : Tryz.prog.eqGuardType Tryz.prog.depth 36 = false := by kernel_rfl
  have P1 := hid (parts_ok s hs hcs)
  have P2 := hid (parts_ok t ht hct)
  have HF := hid (fun B o c B' o' c' w h1 h2 => cmpFunc_any (cutl 46 s.data.toList) (cutl 46 t.data.toList) (by omega) (by omega) B o c B' o' c' w h1 h2)
  clear hs ht hcs hct
  generalize cutl 46 s.data.toList = G1 at P1 HF ⊢
  generalize cutl 46 t.data.toList = G2 at P2 HF ⊢
  generalize cmpL cmpP G1 G2 = R at HF ⊢
  obtain ⟨hA, hB⟩ := two_blk w [.int .i64 a, .int .i64 b, .int .i64 c, .string s] [.int .i64 a, .int .i64 b, .int .i64 c, .string t] 38 38
  have hbx := below_alloc (below_alloc (Below.refl w.heap.size w) (.cells #[.int .i64 a, .int .i64 b, .int .i64 c, .string s] 38)) (.cells #[.int .i64 a, .int .i64 b, .int .i64 c, .string t] 38)
  replace hA := hid hA
  replace hB := hid hB
  replace hbx := hid hbx
  go_enter Tryz.func26, Tryz.ntmps26
  go_wp2_with fail
  have c1 := hA.out.cell 3 rfl
  have c2 := hB.out.cell 3 rfl
  replace hbx := hbx.out
  clear hA hB
  generalize ((w.alloc (.cells #[.int .i64 a, .int .i64 b, .int .i64 c, .string s] 38)).alloc (.cells #[.int .i64 a, .int .i64 b, .int .i64 c, .string t] 38)) = W at c1 c2 hbx ⊢
  generalize w.heap.size + 1 = b2 at c2 ⊢
  generalize w.heap.size = b1 at c1 ⊢
  have hS := hid (show Below w.heap.size w W.drew ∧ W.drew.cell? ⟨b1, 3, none⟩ = some (.string s) ∧ W.drew.cell? ⟨b2, 3, none⟩ = some (.string t) from keep2 (Below.refl W.heap.size W).drew ⟨hbx, c1, c2⟩)
  go_region_held3 (fun w' => Below w.heap.size w w' ∧ w'.cell? ⟨b1, 3, none⟩ = some (.string s) ∧ w'.cell? ⟨b2, 3, none⟩ = some (.string t)) (first | (exact keep2 (by assumption) (by assumption)) | (exact hS.out))
    (first
      | (go_at_call 48; (with_reducible refine (P1.out _ (hm.below (And.left (by assumption)))).mono ?_); rintro e w' ⟨c, B, rfl, hb, hc⟩)
      | (go_at_call 48; (with_reducible refine (P2.out _ (hm.below (And.left (by assumption)))).mono ?_); rintro e w' ⟨c, B, rfl, hb, hc⟩)
      | (go_at_call 47; (with_reducible refine (HF.out _ _ _ _ _ _ _ (by first | assumption | exact cells_keep (by assumption) (by assumption)) (by first | assumption | exact cells_keep (by assumption) (by assumption))).mono ?_); rintro e w' ⟨rfl, hb⟩))
  go_wp2_with fail
  go_ret
  exact gives rfl rfl (And.left (by assumption))

set_option maxRecDepth 20000 in
set_option maxHeartbeats 400000 in
theorem compare_same (a b c : Int) (s : ByteArray) (w : World) :
    Calls Tryz.prog 26 #[.agg #[.int .i64 a, .int .i64 b, .int .i64 c, .string s], .agg #[.int .i64 a, .int .i64 b, .int .i64 c, .string s]] w (Gives (.int .i64 0) w) := by
  have g1 : Tryz.prog.eqGuardType Tryz.prog.depth 36 = false := by kernel_rfl
  go_enter Tryz.func26, Tryz.ntmps26
  go_wp2_with fail
  go_ret
  exact gives rfl rfl (below_alloc (below_alloc (Below.refl _ _) _) _)
set_option maxRecDepth 20000 in
set_option maxHeartbeats 400000 in
theorem compare_above (a b c : Int) (s : ByteArray) (h : s.size ≠ 0) (w : World) :
    Calls Tryz.prog 26 #[.agg #[.int .i64 a, .int .i64 b, .int .i64 c, .string ⟨#[]⟩], .agg #[.int .i64 a, .int .i64 b, .int .i64 c, .string s]] w (Gives (.int .i64 1) w) := by
  have hq := empty_eq s h
  have hq2 : ([] == s.toList) = false := by rw [beq_eq_false_iff_ne] at hq ⊢; exact fun e => hq e.symm
  have g1 : Tryz.prog.eqGuardType Tryz.prog.depth 36 = false := by kernel_rfl
  clear h
  go_enter Tryz.func26, Tryz.ntmps26
  go_wp2_with fail
  go_ret
  exact gives rfl rfl (below_alloc (below_alloc (Below.refl _ _) _) _)

def natL (l : List Nat) : List Int := l.map Int.ofNat
theorem cmpL_nat : ∀ l m : List Nat, cmpL cz (natL l) (natL m) = cmpL ci l m := by
  intro l
  induction l with
  | nil => intro m; cases m <;> rfl
  | cons x l ih =>
    intro m
    cases m with
    | nil => rfl
    | cons y m =>
      show (if cz (x : Int) (y : Int) = 0 then cmpL cz (natL l) (natL m) else cz (x : Int) (y : Int)) = _
      rw [cz_nat, ih m]; rfl
def verA (a b c : Nat) (s : List UInt8) : Value := .agg #[.int .i64 (a : Int), .int .i64 (b : Int), .int .i64 (c : Int), .string ⟨s.toArray⟩]
/-- what may stand behind a version's numbers -/
def OkPre (s : List UInt8) : Prop := s.length < 4294967281 ∧ (s = [] ∨ preV s = true)
theorem OkPre.cut {s : List UInt8} (h : OkPre s) : (cutl 46 s).length ≤ 4 := by
  rcases h.2 with rfl | h
  · rw [cutl_no (by simp)]; simp
  · unfold preV at h; simp only [Bool.and_eq_true, decide_eq_true_eq] at h; exact h.1
theorem list_ne {s t : List UInt8} (h : s ≠ t) : ((⟨s.toArray⟩ : ByteArray).toList == (⟨t.toArray⟩ : ByteArray).toList) = false := by
  rw [ByteArray.toList_eq, ByteArray.toList_eq, beq_eq_false_iff_ne]
  exact h

/-- of two versions, which one is higher -/
theorem compare_any (a b c a' b' c' : Nat) (s t : List UInt8) (hs : OkPre s) (ht : OkPre t) (w : World) (hm : MaxAt w) :
    Calls Tryz.prog 26 #[verA a b c s, verA a' b' c' t] w (Gives (.int .i64 (cmpV [a, b, c] [a', b', c'] s t)) w) := by
  unfold verA
  by_cases hn : [a, b, c] = [a', b', c']
  · obtain ⟨rfl, rfl, rfl⟩ : a = a' ∧ b = b' ∧ c = c' := by simpa using hn
    unfold cmpV cmpB
    rw [if_pos rfl]
    by_cases h : s = t
    · subst h; rw [if_pos rfl]; exact compare_same _ _ _ _ w
    · rw [if_neg h]
      by_cases h0 : s = []
      · subst h0; rw [if_pos rfl]
        exact compare_above a b c ⟨t.toArray⟩ (by show t.toArray.size ≠ 0; simpa using Ne.symm h) w
      · rw [if_neg h0]
        by_cases h1 : t = []
        · subst h1; rw [if_pos rfl]
          exact compare_rel a b c ⟨s.toArray⟩ (by show s.toArray.size ≠ 0; simpa using h0) w
        · rw [if_neg h1]
          have hc := hs.cut
          have hd := ht.cut
          exact compare_parts a b c ⟨s.toArray⟩ ⟨t.toArray⟩ (sizeL _ _ hs.1) (sizeL _ _ ht.1) (by show (cutl 46 s).length ≤ 5; omega) (by show (cutl 46 t).length ≤ 5; omega) (list_ne h)
            (empty_eq _ (by show s.toArray.size ≠ 0; simpa using h0)) (empty_eq _ (by show t.toArray.size ≠ 0; simpa using h1)) w hm
  · unfold cmpV
    rw [if_neg hn]
    have := compare_num a b c a' b' c' ⟨s.toArray⟩ ⟨t.toArray⟩ (by
      by_cases h1 : a = a'
      · right
        by_cases h2 : b = b'
        · right
          have h3 : c ≠ c' := by intro h3; exact hn (by rw [h1, h2, h3])
          exact ⟨by simp [h1], by simp [h2], by rw [beq_eq_false_iff_ne]; omega⟩
        · left; exact ⟨by simp [h1], by rw [beq_eq_false_iff_ne]; omega⟩
      · left; rw [beq_eq_false_iff_ne]; omega) w
    rwa [show ([(a : Int), (b : Int), (c : Int)] : List Int) = natL [a, b, c] from rfl, show ([(a' : Int), (b' : Int), (c' : Int)] : List Int) = natL [a', b', c'] from rfl, cmpL_nat] at this

set_option maxRecDepth 20000 in
theorem twin_any (a b c a' b' c' : Int) (s t : ByteArray) (w : World) :
    Calls Tryz.prog 78 #[.agg #[.int .i64 a, .int .i64 b, .int .i64 c, .string s], .agg #[.int .i64 a', .int .i64 b', .int .i64 c', .string t]] w (Gives (.bool (a == a' && b == b' && c == c')) w) := by
  have g1 : Tryz.prog.eqGuardType Tryz.prog.depth 36 = false := by kernel_rfl
  generalize hR : (a == a' && b == b' && c == c') = R
  replace hR := hid hR
  go_enter Tryz.func78, Tryz.ntmps78
  go_wp2_with fail
  go_ret
  exact gives rfl (bool_eq hR.out) (below_alloc (below_alloc (Below.refl _ _) _) _)
end Go.Proofs.YtjiofenpalokoaaGreatDoor.Vs
