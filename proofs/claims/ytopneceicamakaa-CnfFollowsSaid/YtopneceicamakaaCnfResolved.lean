/-
  LAYER 12: the laws' own play of the document's example answers true; lists of numbers are compared.
-/
import Derived.Test.YtopneceicamakaaCnfSpread
import Derived.Test.YtopneceicamakaaCnfResolve
import Derived.Deep.QuietTactic
import Derived.BigQuiet
namespace Go.Proofs.Ytopneceicamakaa.Cf
open Go.RowKit Go.Proofs.Ytopneceicamakaa Go.Proofs.Ytopneceicamakaa.Ln

theorem list_eq_iff {a b : List Int} (hl : a.length = b.length) : a = b ↔ ∀ k, k < a.length → a.getD k 0 = b.getD k 0 := by
  constructor
  · rintro rfl; intro k _; rfl
  · intro h
    apply List.ext_getElem hl
    intro k h1 h2
    have := h k h1
    rwa [List.getD_eq_getElem?_getD, List.getElem?_eq_getElem h1, List.getD_eq_getElem?_getD, List.getElem?_eq_getElem h2] at this

set_option maxHeartbeats 1000000 in
theorem ints_any (va vb : Value) (a b : List Int) (w : World) (hA : Ints w va a) (hB : Ints w vb b) :
    Calls Try.prog 17 #[va, vb] w fun e w' => e = .returned (.bool (decide (a = b))) ∧ Drawn w w' := by
  obtain ⟨aa, ca, rfl, ha1, ha2, ha3⟩ := hA.shape
  obtain ⟨ab, cb, rfl, hb1, hb2, hb3⟩ := hB.shape
  by_cases hl : a.length = b.length
  · have hne : ((a.length : Int) != (b.length : Int)) = false := by rw [hl]; simp
    have HA := hid ha3
    have HB := hid hb3
    have HL := hid hl
    have hab : a.length ≤ b.length := by omega
    have hba : b.length ≤ a.length := by omega
    clear hA hB ha3 hb3 hl
    go_enter Try.func17, Try.ntmps17
    go_wp2_with fail
    go_loopw [5] (fun u wr => ∃ k : Nat, u = .int .i64 (k : Int) ∧ k ≤ a.length ∧ Hid (Drawn w wr ∧ ∀ i, i < k → a.getD i 0 = b.getD i 0)) (fun u _ => a.length - (intOf u).toNat)
    case atStart => exact ⟨0, rfl, by omega, hid ⟨Drawn.refl _, fun i h => by omega⟩⟩
    case round =>
      obtain ⟨k, rfl, hk, HD⟩ := hrel
      by_cases hlt : k < a.length
      · obtain ⟨B, o, rfl, hBl, hcell⟩ := HA.out (by omega)
        obtain ⟨B2, o2, rfl, hBl2, hcell2⟩ := HB.out (by omega)
        have c1 : wr.cell? ⟨B, o + k, none⟩ = some (.int .i64 (a.getD k 0)) := (HD.out.1.below.cell (p := ⟨B, o + k, none⟩) hBl).trans (hcell k hlt)
        have c2 : wr.cell? ⟨B2, o2 + k, none⟩ = some (.int .i64 (b.getD k 0)) := (HD.out.1.below.cell (p := ⟨B2, o2 + k, none⟩) hBl2).trans (hcell2 k (by omega))
        have hlb : k < b.length := by omega
        clear hcell hcell2
        have hmore : ∀ (h : a.getD k 0 = b.getD k 0), ∀ i, i < k + 1 → a.getD i 0 = b.getD i 0 := fun h i hi => by
          by_cases e : i = k
          · subst e; exact h
          · exact HD.out.2 i (by omega)
        have HM := hid hmore
        have HNE := hid (show ∀ (h : a.getD k 0 ≠ b.getD k 0), decide (a = b) = false from fun h => decide_eq_false (fun e => h (by rw [e])))
        by_cases he : a.getD k 0 = b.getD k 0
        · have HX := hid (HM.out he)
          have n1 : (a.getD k 0 != b.getD k 0) = false := by rw [he]; simp
          clear he hmore HM HNE
          obtain ⟨x, hx⟩ : ∃ x, x = a.getD k 0 := ⟨_, rfl⟩
          obtain ⟨y, hy⟩ : ∃ y, y = b.getD k 0 := ⟨_, rfl⟩
          rw [← hx] at c1 n1
          rw [← hy] at c2 n1
          clear hx hy
          go_wp2_with fail
          go_quiet (fail)
          go_wp2_with fail
          go_roundw
          case rel => exact ⟨k + 1, by go_num, by omega, hid ⟨HD.out.1.more _, HX.out⟩⟩
          case measure => simp [intOf]; omega
        · have HX := hid (HNE.out he)
          have n1 : (a.getD k 0 != b.getD k 0) = true := by rw [bne_iff_ne]; exact he
          clear he hmore HM HNE
          obtain ⟨x, hx⟩ : ∃ x, x = a.getD k 0 := ⟨_, rfl⟩
          obtain ⟨y, hy⟩ : ∃ y, y = b.getD k 0 := ⟨_, rfl⟩
          rw [← hx] at c1 n1
          rw [← hy] at c2 n1
          clear hx hy
          go_wp2_with fail
          go_quiet (fail)
          go_wp2_with fail
          go_ret
          exact ⟨by rw [HX.out]; rfl, HD.out.1.more _⟩
      · have HX := hid (show decide (a = b) = true from decide_eq_true ((list_eq_iff HL.out).2 (fun i hi => HD.out.2 i (by omega))))
        go_wp2_with fail
        go_ret
        exact ⟨by rw [HX.out]; rfl, HD.out.1⟩
  · have hne : ((a.length : Int) != (b.length : Int)) = true := by rw [bne_iff_ne]; omega
    have HX := hid (show decide (a = b) = false from decide_eq_false (fun e => hl (by rw [e])))
    clear hA hB ha3 hb3 hl
    go_enter Try.func17, Try.ntmps17
    go_wp2_with fail
    go_ret
    exact ⟨by rw [HX.out]; rfl, Drawn.refl _⟩

theorem Ints.of_blk {w : World} {b n c : Nat} {l : List Int} {t : TypeId} (h : Blk w b (intsV l) t) (hn : n = l.length) (hc : n ≤ c) (hs : n ≤ 17592186044416) : Ints w (.slice (some ⟨b, 0, none⟩) n c) l := by
  subst hn
  refine ⟨some ⟨b, 0, none⟩, c, by simp [intsV], by simpa [intsV] using hc, by simpa [intsV] using hs, fun _ => ⟨b, 0, rfl, h.lt, fun j hj => ?_⟩⟩
  rw [Nat.zero_add]
  exact h.cell j (List.getElem?_eq_getElem hj)

theorem Bools.of_blk {w : World} {b n c : Nat} {l : List Bool} {t : TypeId} (h : Blk w b (boolsV l) t) (hn : n = l.length) (hc : n ≤ c) (hs : n ≤ 17592186044416) : Bools w (.slice (some ⟨b, 0, none⟩) n c) l := by
  subst hn
  refine ⟨some ⟨b, 0, none⟩, c, by simp [boolsV], by simpa [boolsV] using hc, by simpa [boolsV] using hs, fun _ => ⟨b, 0, rfl, h.lt, fun j hj => ?_⟩⟩
  rw [Nat.zero_add]
  exact h.cell j (List.getElem?_eq_getElem hj)

theorem okL_of {l : List Int} (h : (l.all fun x => decide (-9223372036854775807 ≤ x) && decide (x ≤ 9223372036854775807)) = true) : okL l := by
  intro x hx
  have := List.all_eq_true.1 h x hx
  simpa using this

/-- two clauses, laid as a literal lays them -/
theorem lists_lit (w : World) : Lists (((w.alloc (.cells #[.int .i64 1] 3)).alloc (.cells #[.int .i64 (-1), .int .i64 2] 3)).alloc (.cells #[.slice (some ⟨w.heap.size, 0, none⟩) 1 1, .slice (some ⟨w.heap.size + 1, 0, none⟩) 2 2] 31)) (.slice (some ⟨w.heap.size + 1 + 1, 0, none⟩) 2 2) [[1], [-1, 2]] := by
  have n1 := Blk.new w (intsV [1]) 3
  have n2 := Blk.new (w.alloc (.cells (intsV [1]).toArray 3)) (intsV [-1, 2]) 3
  have n3 := Blk.new ((w.alloc (.cells (intsV [1]).toArray 3)).alloc (.cells (intsV [-1, 2]).toArray 3)) [.slice (some ⟨w.heap.size, 0, none⟩) 1 1, .slice (some ⟨w.heap.size + 1, 0, none⟩) 2 2] 31
  simp only [World.size_alloc] at n2 n3
  refine ⟨[.slice (some ⟨w.heap.size, 0, none⟩) 1 1, .slice (some ⟨w.heap.size + 1, 0, none⟩) 2 2], ⟨_, _, rfl, Nat.le_refl 2, (show (2 : Nat) ≤ 17592186044416 by decide), fun _ => ⟨_, 0, rfl, n3.lt, fun j hj => ?_⟩⟩, rfl, fun j hj hk => ?_⟩
  · rw [Nat.zero_add]
    exact n3.cell j (List.getElem?_eq_getElem hj)
  · match j, hj with
    | 0, _ => exact Ints.of_blk ((n1.alloc _).alloc _) rfl (by decide) (by decide)
    | 1, _ => exact Ints.of_blk (n2.alloc _) rfl (by decide) (by decide)

set_option maxHeartbeats 2000000 in
theorem resolved_any (w : World) :
    Calls Try.prog 10 #[] w fun e w' => e = .returned (.bool true) ∧ Below w.heap.size w w' := by
  have R1 : resC [1, 2] [-1, 3] 1 = some [2, 3] := by decide +kernel
  have R2 : spreadC 2 [[1], [-1, 2]] [] = (some [1, 2], false) := by decide +kernel
  have R3 : holdsC [[1], [-1, 2]] [true, true] = true := by decide +kernel
  have R4 : holdsC [[1], [-1, 2]] [] = false := by decide +kernel
  have R := hid (And.intro R1 (And.intro R2 (And.intro R3 R4)))
  clear R1 R2 R3 R4
  go_enter Try.func10, Try.ntmps10
  go_wp2_with fail
  refine (resolve_any _ _ [1, 2] [-1, 3] 1 (by decide) (okL_of (by decide)) (okL_of (by decide)) (by decide) (by decide) _ ?hA ?hB).mono ?_
  case hA => exact (Ints.of_blk (Blk.new w (intsV [1, 2]) 3) rfl (by decide) (by decide)).below ((Below.refl _ _).alloc (Nat.le_refl _) _)
  case hB => exact Ints.of_blk (b := w.heap.size + 1) (by have := Blk.new (w.alloc (.cells (intsV [1, 2]).toArray 3)) (intsV [-1, 3]) 3; rwa [World.size_alloc] at this) rfl (by decide) (by decide)
  rintro e w1 ⟨⟨v1, rfl, hi1, _⟩, hb1⟩
  rw [R.out.1] at hi1 ⊢
  have HI1 := hid (show Ints w1 v1 [2, 3] from hi1)
  have HB1 := hid (below_trans (below_alloc (below_alloc (Below.refl w.heap.size w) _) _) hb1)
  obtain ⟨a1, c1, rfl, _, _, _⟩ := hi1.shape
  clear hi1 hb1
  go_wp2_with fail
  have HL := hid ((lists_lit w1).below ((Below.refl _ _).alloc (Nat.le_refl _) (.cells #[.int .i64 2, .slice (some ⟨w1.heap.size + 1 + 1, 0, none⟩) 2 2] 26)))
  have HB2 := hid (below_alloc (below_alloc (below_alloc (below_alloc HB1.out (.cells #[.int .i64 1] 3)) (.cells #[.int .i64 (-1), .int .i64 2] 3)) (.cells #[.slice (some ⟨w1.heap.size, 0, none⟩) 1 1, .slice (some ⟨w1.heap.size + 1, 0, none⟩) 2 2] 31)) (.cells #[.int .i64 2, .slice (some ⟨w1.heap.size + 1 + 1, 0, none⟩) 2 2] 26))
  have HI2 := hid (((((HI1.out.below ((Below.refl _ _).alloc (Nat.le_refl _) (.cells #[.int .i64 1] 3))).below ((Below.refl _ _).alloc (Nat.le_refl _) (.cells #[.int .i64 (-1), .int .i64 2] 3))).below ((Below.refl _ _).alloc (Nat.le_refl _) (.cells #[.slice (some ⟨w1.heap.size, 0, none⟩) 1 1, .slice (some ⟨w1.heap.size + 1, 0, none⟩) 2 2] 31))).below ((Below.refl _ _).alloc (Nat.le_refl _) (.cells #[.int .i64 2, .slice (some ⟨w1.heap.size + 1 + 1, 0, none⟩) 2 2] 26))))
  have f0 : ((((w1.alloc (.cells #[.int .i64 1] 3)).alloc (.cells #[.int .i64 (-1), .int .i64 2] 3)).alloc (.cells #[.slice (some ⟨w1.heap.size, 0, none⟩) 1 1, .slice (some ⟨w1.heap.size + 1, 0, none⟩) 2 2] 31)).alloc (.cells #[.int .i64 2, .slice (some ⟨w1.heap.size + 1 + 1, 0, none⟩) 2 2] 26)).cell? ⟨w1.heap.size + 1 + 1 + 1, 0, none⟩ = some (.int .i64 2) := by simp [go_sem]
  have f1 : ((((w1.alloc (.cells #[.int .i64 1] 3)).alloc (.cells #[.int .i64 (-1), .int .i64 2] 3)).alloc (.cells #[.slice (some ⟨w1.heap.size, 0, none⟩) 1 1, .slice (some ⟨w1.heap.size + 1, 0, none⟩) 2 2] 31)).alloc (.cells #[.int .i64 2, .slice (some ⟨w1.heap.size + 1 + 1, 0, none⟩) 2 2] 26)).cell? ⟨w1.heap.size + 1 + 1 + 1, 1, none⟩ = some (.slice (some ⟨w1.heap.size + 1 + 1, 0, none⟩) 2 2) := by simp [go_sem]
  clear HB1 HI1
  generalize ((((w1.alloc (.cells #[.int .i64 1] 3)).alloc (.cells #[.int .i64 (-1), .int .i64 2] 3)).alloc (.cells #[.slice (some ⟨w1.heap.size, 0, none⟩) 1 1, .slice (some ⟨w1.heap.size + 1, 0, none⟩) 2 2] 31)).alloc (.cells #[.int .i64 2, .slice (some ⟨w1.heap.size + 1 + 1, 0, none⟩) 2 2] 26)) = W4 at *
  generalize w1.heap.size + 1 + 1 + 1 = fp at *
  generalize w1.heap.size + 1 + 1 = lp at *
  have l0 := World.block_lt_of_cell? W4 _ f0
  refine (spread_any 2 (by decide) _ (.slice none 0 0) _ [] _ HL.out (Cells.nil _ none 0)).mono ?_
  rintro e w5 ⟨⟨v5, rfl, hi5, _⟩, hb5⟩
  rw [R.out.2.1] at hi5 ⊢
  have HI5 := hid (show Ints w5 v5 [1, 2] from hi5)
  have HB5 := hid (HB2.out.trans (hb5.mono HB2.out.size))
  have HIc := hid (HI2.out.below hb5)
  have HLc := hid (HL.out.below hb5)
  have g0 := (hb5.cell (p := ⟨fp, 0, none⟩) l0).trans f0
  have g1 := (hb5.cell (p := ⟨fp, 1, none⟩) l0).trans f1
  have m0 := World.block_lt_of_cell? w5 _ g0
  obtain ⟨a5, c5, rfl, _, _, _⟩ := hi5.shape
  clear hi5 hb5 HB2 HI2 HL f0 f1 l0
  go_wp2_with fail
  refine (ints_any _ _ [2, 3] [2, 3] _ (HIc.out.below ((Below.refl _ _).alloc (Nat.le_refl _) _)) (Ints.of_blk (Blk.new w5 (intsV [2, 3]) 3) rfl (by decide) (by decide))).mono ?_
  rintro e w6 ⟨rfl, hd⟩
  have hbb := below_trans (below_alloc (Below.refl w5.heap.size w5) _) hd.below
  have HB6 := hid (HB5.out.trans (hbb.mono HB5.out.size))
  have HI6 := hid (HI5.out.below hbb)
  have HL6 := hid (HLc.out.below hbb)
  have p0 := (hbb.cell (p := ⟨fp, 0, none⟩) m0).trans g0
  have p1 := (hbb.cell (p := ⟨fp, 1, none⟩) m0).trans g1
  have r0 := World.block_lt_of_cell? w6 _ p0
  clear g0 g1 m0 hbb hd HIc HLc HB5 HI5
  go_wp2_with fail
  refine (ints_any _ _ [1, 2] [1, 2] _ (HI6.out.below ((Below.refl _ _).alloc (Nat.le_refl _) _)) (Ints.of_blk (Blk.new w6 (intsV [1, 2]) 3) rfl (by decide) (by decide))).mono ?_
  rintro e w7 ⟨rfl, hd⟩
  have hbb := below_trans (below_alloc (Below.refl w6.heap.size w6) _) hd.below
  have HB7 := hid (HB6.out.trans (hbb.mono HB6.out.size))
  have HL7 := hid (HL6.out.below hbb)
  have g0 := (hbb.cell (p := ⟨fp, 0, none⟩) r0).trans p0
  have g1 := (hbb.cell (p := ⟨fp, 1, none⟩) r0).trans p1
  have m0 := World.block_lt_of_cell? w7 _ g0
  clear p0 p1 r0 hbb hd HL6 HB6 HI6
  have okl : ∀ l ∈ ([[1], [-1, 2]] : List (List Int)), okL l := by
    intro l hl
    simp only [List.mem_cons, List.not_mem_nil, or_false] at hl
    rcases hl with rfl | rfl
    · exact okL_of (by decide)
    · exact okL_of (by decide)
  have OKL := hid okl
  clear okl
  go_wp2_with fail
  refine (holds_any 2 _ _ OKL.out _ [true, true] _ (HL7.out.below ((Below.refl _ _).alloc (Nat.le_refl _) _)) (Bools.of_blk (Blk.new w7 (boolsV [true, true]) 4) rfl (by decide) (by decide))).mono ?_
  rintro e w8 ⟨rfl, hd⟩
  rw [R.out.2.2.1]
  have hbb := below_trans (below_alloc (Below.refl w7.heap.size w7) _) hd
  have HB8 := hid (HB7.out.trans (hbb.mono HB7.out.size))
  have HL8 := hid (HL7.out.below hbb)
  have p0 := (hbb.cell (p := ⟨fp, 0, none⟩) m0).trans g0
  have p1 := (hbb.cell (p := ⟨fp, 1, none⟩) m0).trans g1
  clear g0 g1 m0 hbb hd HL7 HB7
  go_wp2_with fail
  refine (holds_any 2 _ _ OKL.out (.slice none 0 0) [] _ HL8.out (Cells.nil _ none 0)).mono ?_
  rintro e w9 ⟨rfl, hd⟩
  rw [R.out.2.2.2]
  have HB9 := hid (HB8.out.trans (hd.mono HB8.out.size))
  clear p0 p1 hd
  go_wp2_with fail
  go_ret
  exact ⟨rfl, HB9.out⟩
end Go.Proofs.Ytopneceicamakaa.Cf
