/-
  LAYER 3: strings.SplitN at a point, of texts of whatever length.
-/
import Derived.Test.YtebhgcejcdgdbaaGreatDoorMB
namespace Go.Proofs.YtebhgcejcdgdbaaGreatDoor.Vs
open Go.RowKit
open Go.Proofs.YtebhgcejcdgdbaaGreatDoor Go.Proofs.YtebhgcejcdgdbaaGreatDoor.Nu Go.Proofs.YtebhgcejcdgdbaaGreatDoor.Cb

theorem sindex_one (s : ByteArray) (c : UInt8) (w : World) :
    Calls Tryz.prog 74 #[.string s, .string ⟨#[c]⟩] w fun e w' => e = .returned (.int .i64 (Lib.indexByte s.data.toList c)) ∧ w = w' := by
  go_enter Tryz.func74, Tryz.ntmps74
  go_wp2_with (go_at_call 79; (with_reducible refine (index_one _ _ _).mono ?_); rintro e w' ⟨rfl, rfl⟩)
  go_ret
  exact ⟨rfl, rfl⟩

/-- n texts: those, and empty ones behind -/
def padT (n : Nat) (gs : List (List UInt8)) : List Value := gs.map (fun g => Value.string ⟨g.toArray⟩) ++ List.replicate (n - gs.length) (.string ByteArray.empty)
theorem padT_set {n : Nat} {gs : List (List UInt8)} {g : List UInt8} (h : gs.length < n) : (padT n gs).set gs.length (.string ⟨g.toArray⟩) = padT n (gs ++ [g]) := by
  unfold padT
  have e : n - gs.length = (n - (gs ++ [g]).length) + 1 := by simp; omega
  rw [e, List.replicate_succ, List.set_append_right _ _ (by simp)]
  simp
theorem padT_at {n : Nat} {gs : List (List UInt8)} {k : Nat} (h : k < gs.length) : (padT n gs)[k]? = some (.string ⟨(gs.getD k []).toArray⟩) := by
  unfold padT
  rw [List.getElem?_append_left (by simpa using h), List.getElem?_map, List.getElem?_eq_getElem h]
  simp [List.getD, List.getElem?_eq_getElem h]
theorem padT_gap {n : Nat} {gs : List (List UInt8)} (h : gs.length < n) : (padT n gs)[gs.length]? = some (.string ByteArray.empty) := by
  unfold padT
  rw [List.getElem?_append_right (by simp)]
  rw [List.length_map, Nat.sub_self, List.getElem?_replicate, if_pos (by omega)]
theorem aft_app {l : List UInt8} (h : (Cb.fore 46 l).length < l.length) : l = Cb.fore 46 l ++ 46 :: Cb.aft 46 l := by
  have e := List.takeWhile_append_dropWhile (p := (· != (46 : UInt8))) (l := l)
  unfold Cb.fore Cb.aft at *
  cases hd : l.dropWhile (· != (46 : UInt8)) with
  | nil => rw [hd, List.append_nil] at e; rw [e] at h; omega
  | cons x r =>
    have hx : x = 46 := by
      have := List.head_dropWhile_not (p := (· != (46 : UInt8))) (l := l) (by rw [hd]; simp)
      simp only [hd, List.head_cons] at this
      simpa using this
    rw [hd, hx] at e
    simpa using e.symm
theorem fore_no (l : List UInt8) : (46 : UInt8) ∉ Cb.fore 46 l := by
  intro h
  have h2 := List.all_takeWhile (p := (· != (46 : UInt8))) (l := l)
  have := List.all_eq_true.1 h2 46 h
  simp at this
theorem cutl_step {l : List UInt8} (h : (Cb.fore 46 l).length < l.length) : cutl 46 l = Cb.fore 46 l :: cutl 46 (Cb.aft 46 l) := by
  have e := cutl_hit (c := 46) (a := Cb.fore 46 l) (r := Cb.aft 46 l) (fore_no l)
  rwa [← aft_app h] at e
theorem cutl_end {l : List UInt8} (h : ¬ (Cb.fore 46 l).length < l.length) : cutl 46 l = [l] := cutl_no (by
  have := fore_no l; rw [(fore_all h).1] at this; exact this)
theorem cuts_full {n : Nat} {l T : List UInt8} {gs : List (List UInt8)} (h : cutl 46 l = gs ++ cutl 46 T) (hn : gs.length + 1 = n) : Cuts n l (gs ++ [T]) := by
  have hc : 1 ≤ (cutl 46 T).length := List.length_pos_iff.2 (cutl_ne _ _)
  refine ⟨fun hle => ?_, fun _ => by simp; omega, by simp; omega⟩
  rw [h, List.length_append] at hle
  have h1 : (cutl 46 T).length = 1 := by omega
  rw [h]
  congr 1
  by_cases hf : (Cb.fore 46 T).length < T.length
  · rw [cutl_step hf, List.length_cons] at h1
    exact absurd (List.length_eq_zero_iff.1 (show (cutl 46 (Cb.aft 46 T)).length = 0 by omega)) (cutl_ne _ _)
  · exact (cutl_end hf).symm
theorem cuts_end {n : Nat} {l T : List UInt8} {gs : List (List UInt8)} (h : cutl 46 l = gs ++ cutl 46 T) (hf : ¬ (Cb.fore 46 T).length < T.length) (hn : gs.length + 1 ≤ n) : Cuts n l (gs ++ [T]) := by
  rw [cutl_end hf] at h
  exact ⟨fun _ => h.symm, fun hlt => by rw [h, List.length_append, List.length_singleton] at hlt; omega, by rw [List.length_append, List.length_singleton]; omega⟩

theorem bar2 (s : ByteArray) : (⟨s.data.toList.toArray⟩ : ByteArray) = s := by simp
theorem split_fin {n : Nat} {l : List UInt8} {gs : List (List UInt8)} {T : ByteArray} {w wr : World} (hC : Cuts n l (gs ++ [T.data.toList])) (hl : gs.length < n) (hbk : Blk wr w.heap.size (padT n gs) 9) (hb : Below w.heap.size w wr) :
    SplitIs n l w (.returned (.slice (some ⟨w.heap.size, 0, none⟩) (gs.length + 1) n)) (wr.setCell ⟨w.heap.size, gs.length, none⟩ (.string T)) := by
  have hk := hbk.set gs.length (.string T)
  rw [show Value.string T = .string ⟨T.data.toList.toArray⟩ by rw [bar2], padT_set hl] at hk
  rw [bar2] at hk
  refine ⟨gs ++ [T.data.toList], n, w.heap.size, Nat.le_refl _, hC, by rw [List.length_append, List.length_singleton]; omega, Nat.le_refl _, by rw [List.length_append]; rfl, hb.setCell (p := ⟨w.heap.size, gs.length, none⟩) (Nat.le_refl _) _, hk.lt, fun k hk2 => ?_⟩
  rw [Nat.zero_add]
  exact hk.cell k (padT_at hk2)

set_option maxRecDepth 20000 in
set_option maxHeartbeats 4000000 in
theorem genSplit_4 (s : ByteArray) (hs : s.size ≤ 140737488355328) (hbig : 5 ≤ s.size) (w : World) :
    Calls Tryz.prog 50 #[.string s, .string ⟨#[46]⟩, .int .i64 0, .int .i64 4] w (SplitIs 4 s.data.toList w) := by
  have IX := hid (fun T w => sindex_one T 46 w)
  have hNB := hid (Blk.new w (padT 4 []) 9)
  have hB0 := hid (below_alloc (Below.refl w.heap.size w) (.cells (padT 4 []).toArray 9))
  have hmk : ∀ w, (Instr.makeSlice 43 (.int .i64 4) (.int .i64 4)).run Tryz.prog w = .ok (.slice (some ⟨w.heap.size, 0, none⟩) 4 4) (w.alloc (.cells (padT 4 []).toArray 9)) := fun _ => by kernel_rfl
  have hmn : min (4 : Int) ((s.size : Int) + 1) = 4 := by omega
  generalize hL : s.data.toList = l
  replace hL := hid hL
  have hLs := hid hs
  go_enter Tryz.func50, Tryz.ntmps50
  go_wp2_with fail
  generalize w.alloc (.cells (padT 4 []).toArray 9) = W at hNB hB0 ⊢
  clear hmk hmn
  go_loopw [0, 10, 11] (fun t i _ wr => ∃ (gs : List (List UInt8)) (T : ByteArray), gs.length < 4 ∧ t = .string T ∧ i = .int .i64 gs.length ∧ Hid (T.size ≤ 140737488355328) ∧ Hid (cutl 46 l = gs ++ cutl 46 T.data.toList) ∧ Hid (Blk wr w.heap.size (padT 4 gs) 9) ∧ Hid (Below w.heap.size w wr)) (fun _ i _ _ => 4 - (intOf i).toNat)
  case atStart => exact ⟨[], s, by decide, rfl, rfl, hLs, hid (by rw [hL.out]; rfl), hNB, hB0⟩
  case round =>
    obtain ⟨gs, T, hl, rfl, rfl, hT, hcl, hbk, hb⟩ := hrel
    have g0 := hbk.out.cell gs.length (padT_gap hl)
    have gf := hbk.out.free gs.length
    have gl := hbk.out.lt
    have hTs := hT.out
    by_cases hi : (gs.length : Int) < 3
    · by_cases hf : (Cb.fore 46 T.data.toList).length < T.size
      · have HI := hid (fun w => by have h := sindex_one T 46 w; rw [indexByte_yes hf] at h; exact h)
        have H1 := hid (fore_take 46 T.data.toList)
        have H2 := hid (aft_drop 46 T.data.toList)
        have H3 := hid (cutl_step (l := T.data.toList) (by simpa using hf))
        have hst := hid (padT_set (n := 4) (gs := gs) (g := Cb.fore 46 T.data.toList) hl)
        have hq1 : ((Cb.fore 46 T.data.toList).length : Int) + 1 ≤ (T.size : Int) := by omega
        generalize hq : (Cb.fore 46 T.data.toList).length = q at hf HI H1 H2 hq1
        replace hq := hid hq
        go_wp2_with (go_at_call 74; (with_reducible refine (HI.out _).mono ?_); rintro e w' ⟨rfl, rfl⟩)
        have hT2 : T.extract (q + 1) T.size = ⟨(Cb.aft 46 T.data.toList).toArray⟩ := by rw [← H2.out, extract_eq, List.take_of_length_le]; simp
        have hT1 : T.extract 0 q = ⟨(Cb.fore 46 T.data.toList).toArray⟩ := by rw [← H1.out, extract_eq]; simp
        have hk := hbk.out.set gs.length (.string ⟨(Cb.fore 46 T.data.toList).toArray⟩)
        rw [hst.out] at hk
        rw [hT2, hT1]
        have hsz : (⟨(Cb.aft 46 T.data.toList).toArray⟩ : ByteArray).size ≤ T.size := by
          have h9 := lenS T
          show (Cb.aft 46 T.data.toList).toArray.size ≤ T.size
          rw [List.size_toArray, ← H2.out, List.length_drop]; omega
        exact ⟨⟨gs ++ [Cb.fore 46 T.data.toList], _, by rw [List.length_append, List.length_singleton]; omega, rfl, by rw [List.length_append, List.length_singleton]; rfl, hid (by omega), hid (by rw [hcl.out, H3.out, List.append_assoc]; rfl), hid hk, hid (hb.out.setCell (p := ⟨w.heap.size, gs.length, none⟩) (Nat.le_refl _) _)⟩, by simp only [intOf]; omega⟩
      · have HI := hid (fun w => by have h := sindex_one T 46 w; rw [indexByte_no hf] at h; exact h)
        have hC := hid (cuts_end (n := 4) hcl.out (by simpa using hf) (by omega))
        have hst := hid (padT_set (n := 4) (gs := gs) (g := T.data.toList) hl)
        replace hf := hid hf
        go_wp2_with (go_at_call 74; (with_reducible refine (HI.out _).mono ?_); rintro e w' ⟨rfl, rfl⟩)
        go_ret
        exact split_fin hC.out hl hbk.out hb.out
    · have hC := hid (cuts_full (n := 4) hcl.out (by omega))
      have hst := hid (padT_set (n := 4) (gs := gs) (g := T.data.toList) hl)
      go_wp2_with fail
      go_ret
      exact split_fin hC.out hl hbk.out hb.out

set_option maxRecDepth 20000 in
set_option maxHeartbeats 4000000 in
theorem genSplit_5 (s : ByteArray) (hs : s.size ≤ 140737488355328) (hbig : 5 ≤ s.size) (w : World) :
    Calls Tryz.prog 50 #[.string s, .string ⟨#[46]⟩, .int .i64 0, .int .i64 5] w (SplitIs 5 s.data.toList w) := by
  have IX := hid (fun T w => sindex_one T 46 w)
  have hNB := hid (Blk.new w (padT 5 []) 9)
  have hB0 := hid (below_alloc (Below.refl w.heap.size w) (.cells (padT 5 []).toArray 9))
  have hmk : ∀ w, (Instr.makeSlice 43 (.int .i64 5) (.int .i64 5)).run Tryz.prog w = .ok (.slice (some ⟨w.heap.size, 0, none⟩) 5 5) (w.alloc (.cells (padT 5 []).toArray 9)) := fun _ => by kernel_rfl
  have hmn : min (5 : Int) ((s.size : Int) + 1) = 5 := by omega
  generalize hL : s.data.toList = l
  replace hL := hid hL
  have hLs := hid hs
  go_enter Tryz.func50, Tryz.ntmps50
  go_wp2_with fail
  generalize w.alloc (.cells (padT 5 []).toArray 9) = W at hNB hB0 ⊢
  clear hmk hmn
  go_loopw [0, 10, 11] (fun t i _ wr => ∃ (gs : List (List UInt8)) (T : ByteArray), gs.length < 5 ∧ t = .string T ∧ i = .int .i64 gs.length ∧ Hid (T.size ≤ 140737488355328) ∧ Hid (cutl 46 l = gs ++ cutl 46 T.data.toList) ∧ Hid (Blk wr w.heap.size (padT 5 gs) 9) ∧ Hid (Below w.heap.size w wr)) (fun _ i _ _ => 5 - (intOf i).toNat)
  case atStart => exact ⟨[], s, by decide, rfl, rfl, hLs, hid (by rw [hL.out]; rfl), hNB, hB0⟩
  case round =>
    obtain ⟨gs, T, hl, rfl, rfl, hT, hcl, hbk, hb⟩ := hrel
    have g0 := hbk.out.cell gs.length (padT_gap hl)
    have gf := hbk.out.free gs.length
    have gl := hbk.out.lt
    have hTs := hT.out
    by_cases hi : (gs.length : Int) < 4
    · by_cases hf : (Cb.fore 46 T.data.toList).length < T.size
      · have HI := hid (fun w => by have h := sindex_one T 46 w; rw [indexByte_yes hf] at h; exact h)
        have H1 := hid (fore_take 46 T.data.toList)
        have H2 := hid (aft_drop 46 T.data.toList)
        have H3 := hid (cutl_step (l := T.data.toList) (by simpa using hf))
        have hst := hid (padT_set (n := 5) (gs := gs) (g := Cb.fore 46 T.data.toList) hl)
        have hq1 : ((Cb.fore 46 T.data.toList).length : Int) + 1 ≤ (T.size : Int) := by omega
        generalize hq : (Cb.fore 46 T.data.toList).length = q at hf HI H1 H2 hq1
        replace hq := hid hq
        go_wp2_with (go_at_call 74; (with_reducible refine (HI.out _).mono ?_); rintro e w' ⟨rfl, rfl⟩)
        have hT2 : T.extract (q + 1) T.size = ⟨(Cb.aft 46 T.data.toList).toArray⟩ := by rw [← H2.out, extract_eq, List.take_of_length_le]; simp
        have hT1 : T.extract 0 q = ⟨(Cb.fore 46 T.data.toList).toArray⟩ := by rw [← H1.out, extract_eq]; simp
        have hk := hbk.out.set gs.length (.string ⟨(Cb.fore 46 T.data.toList).toArray⟩)
        rw [hst.out] at hk
        rw [hT2, hT1]
        have hsz : (⟨(Cb.aft 46 T.data.toList).toArray⟩ : ByteArray).size ≤ T.size := by
          have h9 := lenS T
          show (Cb.aft 46 T.data.toList).toArray.size ≤ T.size
          rw [List.size_toArray, ← H2.out, List.length_drop]; omega
        exact ⟨⟨gs ++ [Cb.fore 46 T.data.toList], _, by rw [List.length_append, List.length_singleton]; omega, rfl, by rw [List.length_append, List.length_singleton]; rfl, hid (by omega), hid (by rw [hcl.out, H3.out, List.append_assoc]; rfl), hid hk, hid (hb.out.setCell (p := ⟨w.heap.size, gs.length, none⟩) (Nat.le_refl _) _)⟩, by simp only [intOf]; omega⟩
      · have HI := hid (fun w => by have h := sindex_one T 46 w; rw [indexByte_no hf] at h; exact h)
        have hC := hid (cuts_end (n := 5) hcl.out (by simpa using hf) (by omega))
        have hst := hid (padT_set (n := 5) (gs := gs) (g := T.data.toList) hl)
        replace hf := hid hf
        go_wp2_with (go_at_call 74; (with_reducible refine (HI.out _).mono ?_); rintro e w' ⟨rfl, rfl⟩)
        go_ret
        exact split_fin hC.out hl hbk.out hb.out
    · have hC := hid (cuts_full (n := 5) hcl.out (by omega))
      have hst := hid (padT_set (n := 5) (gs := gs) (g := T.data.toList) hl)
      go_wp2_with fail
      go_ret
      exact split_fin hC.out hl hbk.out hb.out
end Go.Proofs.YtebhgcejcdgdbaaGreatDoor.Vs
