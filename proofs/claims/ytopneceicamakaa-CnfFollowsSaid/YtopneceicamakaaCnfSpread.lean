/-
  LAYER 12: Spread.
-/
import Derived.Test.YtopneceicamakaaCnfHeld
import Derived.Test.YtopneceicamakaaSpreadSpec
import Derived.Test.YtopneceicamakaaCnfTaut
import Derived.Laws.MakeOwn
namespace Go.Proofs.Ytopneceicamakaa.Cf
open Go.RowKit Go.Proofs.Ytopneceicamakaa Go.Proofs.Ytopneceicamakaa.Ln

/-- what is so, in memory: the cell of the slice, the formula's box, the row -/
structure IsAt (w : World) (N iB fB sB : Nat) (cv : Value) (is : List Bool) : Prop where
  len : is.length = 2 * N + 1
  si : sB ≠ iB
  sf : sB ≠ fB
  cell : w.cell? ⟨iB, 0, none⟩ = some (.slice (some ⟨sB, 0, none⟩) (2 * N + 1) (2 * N + 1))
  fN : w.cell? ⟨fB, 0, none⟩ = some (.int .i64 (N : Int))
  fC : w.cell? ⟨fB, 1, none⟩ = some cv
  row : Blk w sB (boolsV is) 4
theorem IsAt.below {w w' : World} {N iB fB sB : Nat} {cv : Value} {is : List Bool} (h : IsAt w N iB fB sB cv is) (hb : Below w.heap.size w w') : IsAt w' N iB fB sB cv is :=
  { h with
    cell := (hb.cell (p := ⟨iB, 0, none⟩) (World.block_lt_of_cell? w _ h.cell)).trans h.cell
    fN := (hb.cell (p := ⟨fB, 0, none⟩) (World.block_lt_of_cell? w _ h.fN)).trans h.fN
    fC := (hb.cell (p := ⟨fB, 1, none⟩) (World.block_lt_of_cell? w _ h.fC)).trans h.fC
    row := h.row.below hb }
theorem IsAt.get {w : World} {N iB fB sB : Nat} {cv : Value} {is : List Bool} (h : IsAt w N iB fB sB cv is) {j : Nat} (hj : j < 2 * N + 1) : w.cell? ⟨sB, j, none⟩ = some (.bool (is.getD j false)) :=
  h.row.cell j (by
    have := h.len
    rw [boolsV, List.getElem?_map, List.getElem?_eq_getElem (by omega), List.getD_eq_getElem?_getD, List.getElem?_eq_getElem (by omega)]; rfl)
theorem IsAt.set {w : World} {N iB fB sB : Nat} {cv : Value} {is : List Bool} (h : IsAt w N iB fB sB cv is) (j : Nat) : IsAt (w.setCell ⟨sB, j, none⟩ (.bool true)) N iB fB sB cv (is.set j true) :=
  { h with
    len := by simp [h.len]
    cell := by
      have ho : Only (· = sB) w (w.setCell ⟨sB, j, none⟩ (.bool true)) := (Only.refl (· = sB) w).setCell (p := ⟨sB, j, none⟩) rfl _
      exact ho.cell (fun e => h.si e.symm) h.cell
    fN := by
      have ho : Only (· = sB) w (w.setCell ⟨sB, j, none⟩ (.bool true)) := (Only.refl (· = sB) w).setCell (p := ⟨sB, j, none⟩) rfl _
      exact ho.cell (fun e => h.sf e.symm) h.fN
    fC := by
      have ho : Only (· = sB) w (w.setCell ⟨sB, j, none⟩ (.bool true)) := (Only.refl (· = sB) w).setCell (p := ⟨sB, j, none⟩) rfl _
      exact ho.cell (fun e => h.sf e.symm) h.fC
    row := by rw [boolsV, List.map_set]; exact h.row.set j _ }

theorem spread1_any {w : World} {N iB fB sB : Nat} {cv : Value} {is : List Bool} (h : IsAt w N iB fB sB cv is) (hN : N ≤ 400) (x : Int) (h1 : -(N : Int) ≤ x) (h2 : x ≤ N) :
    Calls Try.prog 54 #[.int .i64 x, .pointer (some ⟨iB, 0, none⟩), .pointer (some ⟨fB, 0, none⟩)] w fun e w' => e = .returned (.bool (wrongAt N is x)) ∧ w = w' := by
  have ci := h.cell
  have cn := h.fN
  obtain ⟨j, hj⟩ : ∃ j : Nat, (N : Int) - x = (j : Int) := ⟨((N : Int) - x).toNat, by omega⟩
  have cj := h.get (j := j) (by omega)
  have hjl : j < 2 * N + 1 := by omega
  have E := hid (show wrongAt N is x = is.getD j false by unfold wrongAt; rw [hj, Int.toNat_natCast])
  clear h
  generalize is.getD j false = b at *
  go_enter Try.func54, Try.ntmps54
  go_wp2
  go_ret
  exact ⟨ret_bool E.out.symm, rfl⟩

theorem make_bools (n : Nat) (hn : n ≤ 10000) (w : World) :
    (Instr.makeSlice 44 (.int .i64 (n : Int)) (.int .i64 (n : Int))).run Try.prog w = .ok (.slice (some ⟨w.heap.size, 0, none⟩) n n) (w.alloc (.cells (boolsV (List.replicate n false)).toArray 4)) := by
  have inf : (Try.prog.info? 4).map (fun i => (i.zero, i.size, i.bytes)) = some (some (.bool false), 1, 1) := by kernel_rfl
  obtain ⟨i0, q1, q2, q3, q4⟩ := info_parts inf
  have h := run_makeSlice (P := Try.prog) w 44 4 i0 (.bool false) Try.underlying44 q1 q2 .i64 .i64 (n : Int) (n : Int) (by omega) (by omega) (by rw [q3]; omega) (by rw [q4]; omega) (by omega)
  have e : madeCells (Value.cells (.bool false)) (n * 1) = (boolsV (List.replicate n false)).toArray := by
    apply Array.ext
    · simp [madeCells, boolsV]
    · intro i h1 h2
      simp [madeCells, boolsV, Value.cells, Nat.mod_one]
  rw [q3, Int.toNat_natCast, e] at h
  exact h

def setAll (N : Nat) (lits : List Int) : List Bool := lits.foldl (fun is x => is.set (x + (N : Int)).toNat true) (List.replicate (2 * N + 1) false)
/-- what Spread comes to: 0: it may not be; 1: it can't be; 2: those are so -/
def spreadC (N : Int) (cls : List (List Int)) (lits : List Int) : Option (List Int) × Bool :=
  if checkE N cls ≠ 0 ∨ ckC lits N = false then (none, false)
  else if adjT (normC lits) then (none, true)
  else match runAll N.toNat cls (setAll N.toNat lits) with
    | none => (none, true)
    | some is => (some (heldTo N.toNat is N.toNat), false)

/-- what Spread leaves -/
def Spr (N : Int) (cls : List (List Int)) (lits : List Int) (w : World) (e : Ending) (w' : World) : Prop :=
  (∃ v' : Value, e = .returned (.tuple #[v', .bool (spreadC N cls lits).2]) ∧ Ints w' v' ((spreadC N cls lits).1.getD []) ∧ ((spreadC N cls lits).1 = none → v' = .slice none 0 0)) ∧ Below w.heap.size w w'
theorem Spr.no {N : Int} {cls : List (List Int)} {lits : List Int} {w w' : World} {b : Bool} (h : spreadC N cls lits = (none, b)) (hb : Below w.heap.size w w') : Spr N cls lits w (.returned (.tuple #[.slice none 0 0, .bool b])) w' := by
  refine ⟨⟨_, by rw [h], ?_, fun _ => rfl⟩, hb⟩
  rw [h]; exact Cells.nil _ none 0
theorem Spr.yes {N : Int} {cls : List (List Int)} {lits l : List Int} {w w' : World} {v' : Value} {b : Bool} (h : spreadC N cls lits = (some l, b)) (hi : Ints w' v' l) (hb : Below w.heap.size w w') : Spr N cls lits w (.returned (.tuple #[v', .bool b])) w' := by
  refine ⟨⟨_, by rw [h], ?_, fun e => by rw [h] at e; cases e⟩, hb⟩
  rw [h]; exact hi

theorem ckC_in {l : List Int} {N : Nat} (h : ckC l (N : Int) = true) : ∀ x ∈ l, -(N : Int) ≤ x ∧ x ≤ N ∧ x ≠ 0 := by
  intro x hx
  unfold ckC mostI at h
  rw [if_neg (by omega)] at h
  have h2 : l.any (badL (N : Int)) = false := by simpa using h
  have := List.any_eq_false.1 h2 x hx
  unfold badL at this
  simp at this
  omega
theorem checkE_zero {N : Int} {cls : List (List Int)} (h : checkE N cls = 0) : 0 ≤ N ∧ N ≤ 400 ∧ cls.length ≤ 8000 ∧ ∀ c ∈ cls, ckC c N = true := by
  unfold checkE at h
  split at h
  · cases h
  · split at h
    · cases h
    · split at h
      · cases h
      · rename_i h1 h2 h3
        refine ⟨by omega, by omega, by omega, fun c hc => ?_⟩
        have h3' : cls.any (fun l => !ckC l N) = false := by simpa using h3
        have := List.any_eq_false.1 h3' c hc
        simpa using this
theorem setAll_len (N : Nat) (l : List Int) : (setAll N l).length = 2 * N + 1 := by
  unfold setAll
  have : ∀ (l : List Int) (is : List Bool), (l.foldl (fun is x => is.set (x + (N : Int)).toNat true) is).length = is.length := by
    intro l
    induction l with
    | nil => intro is; rfl
    | cons x l ih => intro is; rw [List.foldl_cons, ih]; simp
  rw [this]; simp
theorem setAll_snoc (N : Nat) (l : List Int) (k : Nat) (hk : k < l.length) : setAll N (l.take (k + 1)) = (setAll N (l.take k)).set (l.getD k 0 + (N : Int)).toNat true := by
  unfold setAll
  rw [List.take_succ_eq_append_getElem hk, List.foldl_append, List.getD_eq_getElem?_getD, List.getElem?_eq_getElem hk]
  rfl

set_option maxRecDepth 100000 in
set_option maxHeartbeats 8000000 in
theorem spread_any (N : Int) (hNm : N ≤ 9223372036854775807) (cv v : Value) (cls : List (List Int)) (lits : List Int) (w : World) (hC : Lists w cv cls) (hL : Ints w v lits) :
    Calls Try.prog 30 #[.agg #[.int .i64 N, cv], v] w (Spr N cls lits w) := by
  have KC := hid hC
  have KL := hid hL
  obtain ⟨vs, hvs, hvl, hvi⟩ := lists_get hC
  obtain ⟨ac, cc, rfl, _, _, _⟩ := id hvs
  obtain ⟨al, cl, rfl, _, _, hl4⟩ := hL.shape
  have hal := below_alloc (Below.refl w.heap.size w) (.cells #[.int .i64 N, .slice ac vs.length cc] 26)
  have CE := hid (check_any _ N hNm cls _ (hC.below hal))
  by_cases h0 : checkE N cls = 0
  · obtain ⟨n0, n1, ncl, hall⟩ := checkE_zero h0
    obtain ⟨M, rfl⟩ : ∃ M : Nat, N = (M : Int) := ⟨N.toNat, by omega⟩
    rw [h0] at CE
    have H0 := hid h0
    cases hck : ckC lits (M : Int)
    · have E := hid (show spreadC M cls lits = (none, false) by unfold spreadC; rw [if_pos (.inr hck)])
      have HCK := hid hck
      clear h0 hck hvi hl4 hC hL hvs hall hvl
      go_enter Try.func30, Try.ntmps30
      go_wp2_with fail
      refine CE.out.mono ?_
      rintro e w1 ⟨rfl, hb1⟩
      have HB1 := hid (below_trans hal hb1)
      have cn : w1.cell? ⟨w.heap.size, 0, none⟩ = some (.int .i64 (M : Int)) := (hb1.cell (p := ⟨w.heap.size, 0, none⟩) (by simp)).trans (by simp [go_sem])
      clear hal hb1
      go_wp2_with fail
      refine (checkClause_any _ lits M hNm _ (KL.out.below HB1.out)).mono ?_
      rintro e w2 ⟨rfl, hb2⟩
      have HB2 := hid (HB1.out.trans (hb2.mono HB1.out.size))
      rw [HCK.out]
      clear hb2
      go_wp2_with fail
      go_ret2
      exact Spr.no E.out HB2.out
    · have hin := ckC_in hck
      have hokl : okL lits := fun x hx => by have := hin x hx; omega
      have HCK := hid hck
      have hin2 : ∀ c ∈ cls, ∀ x ∈ c, -(M : Int) ≤ x ∧ x ≤ M := fun c hc x hx => ⟨(ckC_in (hall c hc) x hx).1, (ckC_in (hall c hc) x hx).2.1⟩
      have HIN := hid hin
      have HIN2 := hid hin2
      have HOK := hid hokl
      cases htt : adjT (normC lits)
      · have HR := hid (show spreadC M cls lits = (match runAll M cls (setAll M lits) with | none => (none, true) | some is => (some (heldTo M is M), false)) by
          unfold spreadC; rw [if_neg (by rw [h0, hck]; simp), htt]; rfl)
        have HTT := hid htt
        have HVS := hid (And.intro hvs (And.intro hvl hvi))
        have HVL := hid hvl
        have MK := hid (make_bools (2 * M + 1) (by omega))
        rw [show ((2 * M + 1 : Nat) : Int) = 2 * (M : Int) + 1 by omega] at MK
        have MK' := fun z => MK.out z
        have HL4 := hid hl4
        have hlits := hL.shape.choose_spec.choose_spec.2.2.1
        clear h0 hck htt hvi hl4 hC hL hvs hall hin hin2 hokl hvl MK
        go_enter Try.func30, Try.ntmps30
        go_wp2_with fail
        refine CE.out.mono ?_
        rintro e w1 ⟨rfl, hb1⟩
        have HB1 := hid (below_trans hal hb1)
        have cn : w1.cell? ⟨w.heap.size, 0, none⟩ = some (.int .i64 (M : Int)) := (hb1.cell (p := ⟨w.heap.size, 0, none⟩) (by simp)).trans (by simp [go_sem])
        have cf : w1.cell? ⟨w.heap.size, 1, none⟩ = some (.slice ac vs.length cc) := (hb1.cell (p := ⟨w.heap.size, 1, none⟩) (by simp)).trans (by simp [go_sem])
        have hs1 : w.heap.size + 1 ≤ w1.heap.size := by have := hb1.size; simpa using this
        clear hal hb1
        go_wp2_with fail
        refine (checkClause_any _ lits M hNm _ (KL.out.below HB1.out)).mono ?_
        rintro e w2 ⟨rfl, hb2⟩
        have HB2 := hid (HB1.out.trans (hb2.mono HB1.out.size))
        replace cn := (hb2.cell (p := ⟨w.heap.size, 0, none⟩) (by show w.heap.size < w1.heap.size; omega)).trans cn
        replace cf := (hb2.cell (p := ⟨w.heap.size, 1, none⟩) (by show w.heap.size < w1.heap.size; omega)).trans cf
        have hs2 : w.heap.size + 1 ≤ w2.heap.size := by have := hb2.size; omega
        rw [HCK.out]
        clear hb2
        go_wp2_with fail
        refine (taut_any _ lits HOK.out _ (KL.out.below HB2.out)).mono ?_
        rintro e w3 ⟨rfl, hb3⟩
        have HB3 := hid (HB2.out.trans (hb3.mono HB2.out.size))
        replace cn := (hb3.cell (p := ⟨w.heap.size, 0, none⟩) (by show w.heap.size < w2.heap.size; omega)).trans cn
        replace cf := (hb3.cell (p := ⟨w.heap.size, 1, none⟩) (by show w.heap.size < w2.heap.size; omega)).trans cf
        have hs3 : w.heap.size + 1 ≤ w3.heap.size := by have := hb3.size; omega
        rw [HTT.out]
        clear hb3
        go_wp2_with fail
        have IA := hid (show IsAt ((w3.alloc (.cells (boolsV (List.replicate (2 * M + 1) false)).toArray 4)).alloc (.cells #[.slice (some ⟨w3.heap.size, 0, none⟩) (2 * M + 1) (2 * M + 1)] 44)) M (w3.heap.size + 1) w.heap.size w3.heap.size (.slice ac vs.length cc) (List.replicate (2 * M + 1) false) from
          { len := by simp
            si := by omega
            sf := by omega
            cell := by simp [go_sem]
            fN := (((Below.refl w3.heap.size w3).alloc (Nat.le_refl _) _ |>.alloc (by simp) _).cell (p := ⟨w.heap.size, 0, none⟩) (by show w.heap.size < w3.heap.size; omega)).trans cn
            fC := (((Below.refl w3.heap.size w3).alloc (Nat.le_refl _) _ |>.alloc (by simp) _).cell (p := ⟨w.heap.size, 1, none⟩) (by show w.heap.size < w3.heap.size; omega)).trans cf
            row := (Blk.new w3 (boolsV (List.replicate (2 * M + 1) false)) 4).alloc _ })
        have HB4 := hid (below_alloc (below_alloc HB3.out (.cells (boolsV (List.replicate (2 * M + 1) false)).toArray 4)) (.cells #[.slice (some ⟨w3.heap.size, 0, none⟩) (2 * M + 1) (2 * M + 1)] 44))
        have hsB : w.heap.size ≤ w3.heap.size := by omega
        clear cn cf hs1 hs2 hs3 MK' CE HB1 HB2 HB3
        generalize ((w3.alloc (.cells (boolsV (List.replicate (2 * M + 1) false)).toArray 4)).alloc (.cells #[.slice (some ⟨w3.heap.size, 0, none⟩) (2 * M + 1) (2 * M + 1)] 44)) = W4 at *
        generalize hiB : w3.heap.size + 1 = iB at *
        generalize w3.heap.size = sB at *
        clear hiB
        generalize hfB : w.heap.size = fB at *
        have HF := hid hfB
        clear hfB
        have IA2 := hid (show IsAt W4 M iB fB sB (.slice ac vs.length cc) (setAll M (lits.take 0)) from IA.out)
        clear IA
        go_loopw [35, 8] (fun u _ wr => ∃ k : Nat, u = .int .i64 (k : Int) ∧ k ≤ lits.length ∧ Hid (Below fB w wr ∧ IsAt wr M iB fB sB (.slice ac vs.length cc) (setAll M (lits.take k)))) (fun u _ _ => lits.length - (intOf u).toNat)
        case atStart => exact ⟨0, rfl, by omega, hid ⟨HB4.out, IA2.out⟩⟩
        case round =>
          clear IA2 HB4
          obtain ⟨k, rfl, hk, HH⟩ := hrel
          by_cases hlt : k < lits.length
          · obtain ⟨B, o, rfl, hBl, hcell⟩ := HL4.out (by omega)
            have ck : wr.cell? ⟨B, o + k, none⟩ = some (.int .i64 (lits.getD k 0)) := (HH.out.1.cell (p := ⟨B, o + k, none⟩) hBl).trans (hcell k hlt)
            have hx := HIN.out (lits.getD k 0) (by rw [List.getD_eq_getElem?_getD, List.getElem?_eq_getElem hlt]; exact List.getElem_mem _)
            have ci := HH.out.2.cell
            have cN := HH.out.2.fN
            obtain ⟨j, hj⟩ : ∃ j : Nat, lits.getD k 0 + (M : Int) = (j : Int) := ⟨(lits.getD k 0 + (M : Int)).toNat, by omega⟩
            have hjl : j < 2 * M + 1 := by omega
            have cj := HH.out.2.get hjl
            have fj := HH.out.2.row.free j
            have HST := hid (show setAll M (lits.take (k + 1)) = (setAll M (lits.take k)).set j true by rw [setAll_snoc M lits k hlt, hj, Int.toNat_natCast])
            clear hcell
            generalize lits.getD k 0 = x at *
            go_wp2_with fail
            go_roundw
            case rel => exact ⟨k + 1, by go_num, by omega, hid ⟨HH.out.1.setCell (by show fB ≤ sB; omega) _, by rw [HST.out]; exact HH.out.2.set j⟩⟩
            case measure => simp [intOf]; omega
          · have hfull : lits.take k = lits := List.take_of_length_le (by omega)
            rw [hfull] at HH
            have IS := hid HH.out
            clear hfull HH HL4
            obtain ⟨wo, rfl⟩ : ∃ wo : World, wo = wr := ⟨_, rfl⟩
            go_wp2_with fail
            go_loopg [9, 11, 12, 13, 50, 48, 49] (offs (setAll M lits) + 1) (fun gg u9 _ _ _ _ _ _ wr => ∃ is, (u9 = .bool true ∧ offs is + 1 ≤ gg ∧ Hid (Below fB w wr ∧ IsAt wr M iB fB sB (.slice ac vs.length cc) is ∧ runAll M cls (setAll M lits) = runAll M cls is)) ∨ (u9 = .bool false ∧ Hid (Below fB w wr ∧ IsAt wr M iB fB sB (.slice ac vs.length cc) is ∧ runAll M cls (setAll M lits) = some is)))
            case atStart => exact ⟨setAll M lits, .inl ⟨rfl, Nat.le_refl _, hid ⟨IS.out.1, IS.out.2, rfl⟩⟩⟩
            case round =>
              clear IS
              obtain ⟨is, ⟨rfl, hgg, HH⟩ | ⟨rfl, HH⟩⟩ := hrel
              · have cF := HH.out.2.1.fC
                obtain ⟨wp, rfl⟩ : ∃ wp : World, wp = wr := ⟨_, rfl⟩
                go_wp2_with fail
                have hisl := HH.out.2.1.len
                go_loopw [50, 9, 11, 12, 13] (fun u50 u9 _ _ _ wi => ∃ k is1 b, u50 = .int .i64 ((k : Nat) : Int) ∧ u9 = .bool b ∧ k ≤ vs.length ∧ Hid (Below fB w wi ∧ IsAt wi M iB fB sB (.slice ac vs.length cc) is1 ∧ passTo M (cls.take k) is = some (is1, b))) (fun u50 _ _ _ _ _ => vs.length - (intOf u50).toNat)
                case atStart => exact ⟨0, is, false, rfl, rfl, by omega, hid ⟨HH.out.1, HH.out.2.1, rfl⟩⟩
                case round =>
                  obtain ⟨j, is1, b, rfl, rfl, hj, HI⟩ := hrel
                  by_cases hjl : j < vs.length
                  · have hjc : j < cls.length := by have := HVL.out; omega
                    obtain ⟨ac', cc', e0, hc1, hc2, hc3⟩ := HVS.out.1
                    simp only [Value.slice.injEq] at e0
                    obtain ⟨rfl, _, rfl⟩ := e0
                    obtain ⟨B, o, rfl, hBl, hcell⟩ := hc3 (by omega)
                    have cv := (HI.out.1.cell (p := ⟨B, o + j, none⟩) (by rw [← HF.out]; exact hBl)).trans (hcell j hjl)
                    have hvj := HVS.out.2.2 j hjl
                    have hgetc : cls.getD j [] = cls[j] := by rw [List.getD_eq_getElem?_getD, List.getElem?_eq_getElem hjc]; rfl
                    rw [hgetc] at hvj
                    have hbw : Below w.heap.size w wr := by rw [HF.out]; exact HI.out.1
                    have hvr := hid (hvj.below hbw)
                    have OP := hid (open_any vs[j] cls[j] 54 #[.pointer (some ⟨iB, 0, none⟩), .pointer (some ⟨fB, 0, none⟩)] (fun _ _ => by kernel_rfl) (wrongAt M is1) wr hvr.out (by
                      intro x hx W hW
                      have hh := HIN2.out cls[j] (List.getElem_mem _) x hx
                      exact spread1_any (HI.out.2.1.below hW) (by omega) x hh.1 hh.2))
                    have PT := hid (pass_take HI.out.2.2 hjc)
                    have hone := hid (show oneC M is1 cls[j] = (if (openC cls[j] (wrongAt M is1)).1 = 0 then none else if (openC cls[j] (wrongAt M is1)).2 = false ∧ onAt M is1 (openC cls[j] (wrongAt M is1)).1 = false then some (is1.set ((openC cls[j] (wrongAt M is1)).1 + (M : Int)).toNat true, true) else some (is1, false)) from rfl)
                    have hmem := hid (show (openC cls[j] (wrongAt M is1)).1 ≠ 0 → -(M : Int) ≤ (openC cls[j] (wrongAt M is1)).1 ∧ (openC cls[j] (wrongAt M is1)).1 ≤ M from fun h => HIN2.out cls[j] (List.getElem_mem _) _ (by
                      unfold openC at h ⊢
                      cases hf : cls[j].find? (fun x => !wrongAt M is1 x) with
                      | none => rw [hf] at h; exact absurd rfl h
                      | some x => exact List.mem_of_find?_eq_some hf))
                    obtain ⟨xa, xc, hvx, _, _, _⟩ := hvr.out.shape
                    rw [hvx] at cv OP
                    clear hcell hvj hgetc hbw hc1 hc2 hc3 hvx
                    generalize (openC cls[j] (wrongAt M is1)).1 = x at *
                    generalize (openC cls[j] (wrongAt M is1)).2 = more at *
                    go_wp2_with fail
                    refine OP.out.mono ?_
                    rintro e wz ⟨rfl, hbz⟩
                    have HZ := hid (And.intro (HI.out.1.trans (hbz.mono (by rw [← HF.out]; exact HI.out.1.size))) (HI.out.2.1.below hbz))
                    clear hbz
                    have hdr : ∀ e w', (oneC M is1 cls[j] = none → Spr M cls lits w e w' → True) := fun _ _ _ _ => trivial
                    clear hdr
                    by_cases hx0 : x = 0
                    · have E := hid (show spreadC M cls lits = (none, true) by
                        rw [HR.out, HH.out.2.2, runAll_none (PT.out.1 (by rw [hone.out, if_pos hx0]))])
                      have t1 : (x == 0) = true := by rw [hx0]; rfl
                      have HB5 := hid (show Below w.heap.size w wz by rw [HF.out]; exact HZ.out.1)
                      clear hx0
                      go_wp2_with fail
                      go_ret2
                      exact Spr.no E.out HB5.out
                    · have t1 : (x == 0) = false := by rw [beq_eq_false_iff_ne]; exact hx0
                      have hxr := hmem.out hx0
                      have hxr1 := hxr.1
                      have hxr2 := hxr.2
                      cases hmore : more
                      · obtain ⟨jx, hjx⟩ : ∃ jx : Nat, x + (M : Int) = (jx : Int) := ⟨(x + (M : Int)).toNat, by omega⟩
                        have hjxl : jx < 2 * M + 1 := by omega
                        have ci := HZ.out.2.cell
                        have cN := HZ.out.2.fN
                        have cj := HZ.out.2.get hjxl
                        have fj := HZ.out.2.row.free jx
                        have hon := hid (show onAt M is1 x = is1.getD jx false by unfold onAt; rw [hjx, Int.toNat_natCast])
                        have hsetj := hid (show (x + (M : Int)).toNat = jx by rw [hjx, Int.toNat_natCast])
                        cases hb1 : is1.getD jx false
                        · have HN := hid (PT.out.2 (is1.set jx true) true (by rw [hone.out, if_neg hx0, if_pos ⟨hmore, by rw [hon.out, hb1]⟩, hsetj.out]))
                          rw [hb1] at cj
                          clear hx0 hmore hb1 hxr
                          go_wp2_with fail
                          go_roundw
                          case rel => exact ⟨j + 1, _, true, by go_num, rfl, by omega, hid ⟨HZ.out.1.setCell (by show fB ≤ sB; omega) _, HZ.out.2.set jx, by rw [HN.out, Bool.or_true]⟩⟩
                          case measure => simp [intOf]; omega
                        · have HN := hid (PT.out.2 is1 false (by rw [hone.out, if_neg hx0, if_neg]; rw [hon.out, hb1]; simp))
                          rw [hb1] at cj
                          clear hx0 hmore hb1 hxr
                          go_wp2_with fail
                          go_roundw
                          case rel => exact ⟨j + 1, _, b, by go_num, rfl, by omega, hid ⟨HZ.out.1, HZ.out.2, by rw [HN.out, Bool.or_false]⟩⟩
                          case measure => simp [intOf]; omega
                      · have HN := hid (PT.out.2 is1 false (by rw [hone.out, if_neg hx0, if_neg]; rw [hmore]; simp))
                        clear hx0 hmore hxr
                        go_wp2_with fail
                        go_roundw
                        case rel => exact ⟨j + 1, _, b, by go_num, rfl, by omega, hid ⟨HZ.out.1, HZ.out.2, by rw [HN.out, Bool.or_false]⟩⟩
                        case measure => simp [intOf]; omega
                  · have hfin := hid (show passTo M cls is = some (is1, b) by
                      have h := HI.out.2.2
                      rwa [List.take_of_length_le (by have := HVL.out; omega)] at h)
                    cases b
                    · go_wp2_with fail
                      go_roundg (offs is)
                      case measure => omega
                      case rel => exact ⟨is1, .inr ⟨rfl, hid ⟨HI.out.1, HI.out.2.1, by rw [HH.out.2.2]; exact runAll_end hfin.out⟩⟩⟩
                    · have ho := (pass_offs HIN2.out hisl hfin.out).2.1 rfl
                      go_wp2_with fail
                      go_roundg (offs is1 + 1)
                      case measure => omega
                      case rel => exact ⟨is1, .inl ⟨rfl, by omega, hid ⟨HI.out.1, HI.out.2.1, by rw [HH.out.2.2]; exact runAll_step HIN2.out hisl hfin.out⟩⟩⟩
              · have ci := HH.out.2.1.cell
                have cN := HH.out.2.1.fN
                have E := hid (show spreadC M cls lits = (some (heldTo M is M), false) by rw [HR.out, HH.out.2.2])
                have HL := hid (held_any M (by omega) is sB (2 * M + 1) wr HH.out.2.1.row.lt (fun j hj => HH.out.2.1.get hj))
                have hlen := heldTo_len M is M
                go_wp2_with fail
                refine HL.out.mono ?_
                rintro e wz ⟨v', rfl, ho, hbz⟩
                have HB5 := hid (show Below w.heap.size w wz by rw [HF.out]; exact HH.out.1.trans (hbz.mono (by rw [← HF.out]; exact HH.out.1.size)))
                have HO := hid (Owned.ints ho (by omega))
                obtain ⟨a9, c9, rfl⟩ := own_shape ho
                clear ho hbz
                go_wp2_with fail
                go_ret2
                exact Spr.yes E.out HO.out HB5.out
      · have E := hid (show spreadC M cls lits = (none, true) by unfold spreadC; rw [if_neg (by rw [h0, hck]; simp), htt]; rfl)
        have HTT := hid htt
        clear h0 hck htt hvi hl4 hC hL hvs hall hvl hin hin2 hokl
        go_enter Try.func30, Try.ntmps30
        go_wp2_with fail
        refine CE.out.mono ?_
        rintro e w1 ⟨rfl, hb1⟩
        have HB1 := hid (below_trans hal hb1)
        have cn : w1.cell? ⟨w.heap.size, 0, none⟩ = some (.int .i64 (M : Int)) := (hb1.cell (p := ⟨w.heap.size, 0, none⟩) (by simp)).trans (by simp [go_sem])
        clear hal hb1
        go_wp2_with fail
        refine (checkClause_any _ lits M hNm _ (KL.out.below HB1.out)).mono ?_
        rintro e w2 ⟨rfl, hb2⟩
        have HB2 := hid (HB1.out.trans (hb2.mono HB1.out.size))
        rw [HCK.out]
        clear hb2
        go_wp2_with fail
        refine (taut_any _ lits HOK.out _ (KL.out.below HB2.out)).mono ?_
        rintro e w3 ⟨rfl, hb3⟩
        have HB3 := hid (HB2.out.trans (hb3.mono HB2.out.size))
        rw [HTT.out]
        clear hb3
        go_wp2_with fail
        go_ret2
        exact Spr.no E.out HB3.out
  · have E := hid (show spreadC N cls lits = (none, false) by unfold spreadC; rw [if_pos (.inl h0)])
    have hq : (checkE N cls != 0) = true := by rw [bne_iff_ne]; exact h0
    clear h0 hvi hl4 hC hL hvs hvl
    generalize checkE N cls = x at *
    go_enter Try.func30, Try.ntmps30
    go_wp2_with fail
    refine CE.out.mono ?_
    rintro e w1 ⟨rfl, hb1⟩
    have HB1 := hid (below_trans hal hb1)
    clear hal hb1
    go_wp2_with fail
    go_ret2
    exact Spr.no E.out HB1.out
end Go.Proofs.Ytopneceicamakaa.Cf
