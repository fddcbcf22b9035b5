/-
  LAYER 12: Plain; the law's small; what CnfFollows rests on.
-/
import Derived.Test.YtopneceicamakaaCnfDocSpread
import Derived.Test.YtopneceicamakaaCnfSubsLaw
import Derived.Test.YtopneceicamakaaCnfResLaw
namespace Go.Proofs.Ytopneceicamakaa.Cf
open Go.RowKit Go.Proofs.Ytopneceicamakaa Go.Proofs.Ytopneceicamakaa.Ln

def negL (l : List Int) : List Int := l.map fun x => -x
theorem negL_neg (l : List Int) : negL (negL l) = l := by
  unfold negL; rw [List.map_map]
  have : ((fun x : Int => -x) ∘ fun x : Int => -x) = id := by funext x; simp
  rw [this, List.map_id]
theorem negL_take {l : List Int} {k : Nat} (h : k < l.length) : negL (l.take (k + 1)) = negL (l.take k) ++ [-(l.getD k 0)] := by
  unfold negL; rw [take_one h, List.map_append]; rfl

set_option maxHeartbeats 4000000 in
theorem plain_any (N : Int) (hNm : N ≤ 9223372036854775807) (cv v : Value) (cls : List (List Int)) (l : List Int) (hl : okL l) (hlen : l.length ≤ 1000) (w : World) (hC : Lists w cv cls) (hL : Ints w v l) :
    Calls Try.prog 33 #[.agg #[.int .i64 N, cv], v] w fun e w' => e = .returned (.bool (spreadC N cls (negL l)).2) ∧ Below w.heap.size w w' := by
  obtain ⟨i0, q1, q2, q3, q4⟩ := info_parts infoI
  have hi := hid q1
  have hz0 := hid q2
  have hz1 := hid q3
  have hz2 := hid q4
  clear q1 q2 q3 q4
  have KC := hid hC
  have OK := hid hl
  obtain ⟨vs, hvs, g7, g8⟩ := lists_get hC
  obtain ⟨ac, cc, rfl, g1, g2, g3⟩ := hvs
  obtain ⟨al, cl, rfl, g4, g5, hcells⟩ := hL.shape
  have HC := hid hcells
  have NT := hid (fun k (h : k < l.length) => negL_take h)
  have NF := hid (show negL (l.take l.length) = negL l by rw [List.take_length])
  have LN := hid (show (negL l).length = l.length from List.length_map _)
  clear g1 g2 g3 g4 g5 g7 g8 hcells hC hL hl
  generalize vs.length = q at *
  generalize hk : l.length = n at *
  have HK := hid hk
  clear hk
  obtain ⟨W0, hW0⟩ : ∃ W0, W0 = w.alloc (.cells #[.int .i64 N, .slice ac q cc] 26) := ⟨_, rfl⟩
  have hs0 : W0.heap.size = w.heap.size + 1 := by rw [hW0]; simp
  have hb0 : Below w.heap.size w W0 := by rw [hW0]; exact below_alloc (Below.refl _ _) _
  have f0 : W0.cell? ⟨w.heap.size, 0, none⟩ = some (.int .i64 N) := by rw [hW0]; simp [go_sem]
  have f1 : W0.cell? ⟨w.heap.size, 1, none⟩ = some (.slice ac q cc) := by rw [hW0]; simp [go_sem]
  have F := hid (And.intro f0 f1)
  have B0 := hid hb0
  have HW := hid hW0
  clear f0 f1 hb0 hW0
  have SP0 := fun W v9 (hW : Below w.heap.size w W) (hv9 : Ints W v9 (negL l)) => hid (spread_any N hNm _ v9 cls (negL l) W (KC.out.below hW) hv9)
  unfold Spr at SP0
  generalize spreadC N cls (negL l) = r at *
  obtain ⟨ro, rb⟩ := r
  go_enter Try.func33, Try.ntmps33
  go_wp2_with fail
  rw [← HW.out]
  go_loopw [5, 7, 12] (fun u5 _ u12 wr => ∃ k : Nat, u12 = .int .i64 (k : Int) ∧ k ≤ n ∧ Hid (Owned W0.heap.size wr u5 (negL (l.take k)) ∧ Below W0.heap.size W0 wr)) (fun _ _ u12 _ => n - (intOf u12).toNat)
  case atStart => exact ⟨0, rfl, Nat.zero_le _, hid ⟨World.ownsRow_nil _ _ _ _, Below.refl _ _⟩⟩
  case round =>
    obtain ⟨k, rfl, hkn, HW2⟩ := hrel
    by_cases hlt : k < n
    · obtain ⟨B, o, rfl, hB, hcc⟩ := HC.out (by omega)
      have hck := (HW2.out.2.cell (p := ⟨B, o + k, none⟩) (by show B < W0.heap.size; omega)).trans ((B0.out.cell (p := ⟨B, o + k, none⟩) hB).trans (hcc k hlt))
      have hx := OK.out.at k (by rw [HK.out]; exact hlt)
      have E := hid (NT.out k hlt)
      have hown := HW2.out.1
      have hbl := HW2.out.2
      have hsz := hbl.size
      unfold Owned at hown
      rw [show (negL (l.take k)).length = k by unfold negL; rw [List.length_map, List.length_take, HK.out]; omega] at hown
      clear hcc HW2 NT NF HC
      generalize l.getD k 0 = x at *
      have hneg : IntKind.i64.wrap (-x) = -x := IntWalk.i64_in _ (by omega)
      go_wp2_with (at_builtin; refine wpList_append_own _ rfl (.tmp 16) (.tmp 19) 31 rfl W0.heap.size 3 i0 (.int .i64 0) 1 8 Try.underlying31 hi.out hz0.out hz1.out hz2.out rfl (by decide) _ _ _ rfl (hown.alloc _) ⟨wr.heap.size, 0, none⟩ 1 1 [.int .i64 (-x)] rfl rfl ?e1 ?e2 ?e3 ?e4 ?e5 ?_)
      case e1 => exact cell_one_new _ _ _
      case e2 => intro u hu; simp at hu; subst hu; rfl
      case e3 => unfold maxLen; omega
      case e4 => omega
      case e5 => simp; omega
      intro v2 w2 hown2 hgrow2 _
      have hb2 : Below W0.heap.size W0 w2 := (hbl.alloc (by omega) _).grown hgrow2 (by simp; omega) (fun k hk => (hown.lt k hk).1)
      clear hgrow2 hown hbl
      go_wp2_with fail
      go_roundw
      case rel => exact ⟨k + 1, by go_num, by omega, hid ⟨by rw [E.out]; exact own_join hown2 (by simp [intsV]) (by omega), hb2⟩⟩
      case measure => simp [intOf]; omega
    · have hk2 : k = n := by omega
      subst hk2
      rw [NF.out] at HW2
      have OI := hid (Owned.ints HW2.out.1 (by have := LN.out; omega))
      have hsz := HW2.out.2.size
      have c0 := (HW2.out.2.cell (p := ⟨w.heap.size, 0, none⟩) (by show w.heap.size < W0.heap.size; omega)).trans F.out.1
      have c1 := (HW2.out.2.cell (p := ⟨w.heap.size, 1, none⟩) (by show w.heap.size < W0.heap.size; omega)).trans F.out.2
      obtain ⟨a9, c9, rfl⟩ := own_shape HW2.out.1
      have HB2 := hid (B0.out.trans (HW2.out.2.mono B0.out.size))
      have SP := SP0 wr _ HB2.out OI.out
      rw [LN.out] at SP
      rw [LN.out]
      clear HW2 NT NF HC OI SP0
      go_wp2_with fail
      refine SP.out.mono ?_
      rintro e w3 ⟨⟨v3, rfl, _, _⟩, hb3⟩
      have HB3 := hid (HB2.out.trans (hb3.mono HB2.out.size))
      clear hb3
      go_wp2_with fail
      go_ret
      exact ⟨rfl, HB3.out⟩

def smallC (N : Int) (cls : List (List Int)) : Bool := decide (N ≤ 10) && fewC cls 60 12 && (checkE N cls == 0)
theorem smallC_yes {N : Int} {cls : List (List Int)} (h : smallC N cls = true) : N ≤ 10 ∧ fewC cls 60 12 = true ∧ checkE N cls = 0 := by
  unfold smallC at h
  rw [Bool.and_eq_true, Bool.and_eq_true] at h
  exact ⟨of_decide_eq_true h.1.1, h.1.2, by simpa using h.2⟩

set_option maxHeartbeats 2000000 in
theorem small_any (N : Int) (hN : N ≤ 9223372036854775807) (cv : Value) (cls : List (List Int)) (w : World) (hC : RawL w cv cls) :
    Calls Try.prog 32 #[.int .i64 N, cv] w fun e w' => e = .returned (.bool (smallC N cls)) ∧ w = w' := by
  have FW := hid (few_any cv cls 60 12 (by decide) w hC)
  have KC := hid hC
  obtain ⟨a, n, c, rfl, hl, hc, hcells⟩ := rawL_shape hC
  clear hC hcells hl hc
  by_cases h1 : N ≤ 10
  · cases hf : fewC cls 60 12
    · have E := hid (show smallC N cls = false by unfold smallC; rw [hf, Bool.and_false, Bool.false_and])
      rw [hf] at FW
      have d1 : decide (N ≤ 10) = true := decide_eq_true h1
      clear hf KC
      go_enter Try.func32, Try.ntmps32
      go_wp2_with fail
      refine FW.out.mono ?_
      rintro e w2 ⟨rfl, rfl⟩
      go_wp2_with fail
      go_ret
      exact ⟨ret_bool E.out.symm, rfl⟩
    · have E := hid (show smallC N cls = (checkE N cls == 0) by unfold smallC; rw [hf, decide_eq_true h1]; rfl)
      obtain ⟨hlen, hshort⟩ := fewC_yes hf
      have CK := hid (refCheck_any N hN _ cls w (KC.out.lists (by omega) (fun l hl => by have := hshort l hl; omega)))
      rw [hf] at FW
      have d1 : decide (N ≤ 10) = true := decide_eq_true h1
      clear hf KC hlen hshort
      generalize checkE N cls = z at *
      go_enter Try.func32, Try.ntmps32
      go_wp2_with fail
      refine FW.out.mono ?_
      rintro e w2 ⟨rfl, rfl⟩
      go_wp2_with fail
      refine CK.out.mono ?_
      rintro e w2 ⟨rfl, rfl⟩
      go_wp2_with fail
      go_ret
      exact ⟨ret_bool E.out.symm, rfl⟩
  · have E := hid (show smallC N cls = false by unfold smallC; rw [decide_eq_false h1]; rfl)
    have d1 : decide (N ≤ 10) = false := decide_eq_false h1
    clear KC FW
    go_enter Try.func32, Try.ntmps32
    go_wp2_with fail
    go_ret
    exact ⟨ret_bool E.out.symm, rfl⟩

/-- a formula's clauses, and literals that must be true -/
def withL (cls : List (List Int)) (lits : List Int) : List (List Int) := cls ++ lits.map fun x => [x]
theorem holds_with (cls : List (List Int)) (lits : List Int) (m : List Bool) : holdsC (withL cls lits) m = true ↔ ((∀ c ∈ cls, someT c m = true) ∧ ∀ x ∈ lits, trueC x m = true) := by
  unfold holdsC withL
  rw [List.all_append, Bool.and_eq_true, List.all_eq_true, List.all_map, List.all_eq_true]
  constructor
  · rintro ⟨a, b⟩
    refine ⟨a, fun x hx => ?_⟩
    have := b x hx
    simpa [someT] using this
  · rintro ⟨a, b⟩
    refine ⟨a, fun x hx => ?_⟩
    have := b x hx
    simpa [someT] using this
theorem trueC_neg0 {x : Int} (hx : x ≠ 0) (m : List Bool) : trueC (-x) m = !trueC x m := by
  by_cases hp : 1 ≤ x
  · exact trueC_neg hp m
  · have := trueC_neg (v := -x) (by omega) m
    rw [Int.neg_neg] at this
    rw [this, Bool.not_not]
/-- where it can't be, there is no model -/
theorem clash_none {N : Nat} (hN : N ≤ 400) {cls : List (List Int)} {lits : List Int} (h0 : checkE N cls = 0) (h1 : ckC lits N = true) (hs : (spreadC N cls lits).2 = true) {m : List Bool} (hm : holdsC (withL cls lits) m = true) : False := by
  obtain ⟨m1, m2⟩ := (holds_with cls lits m).1 hm
  obtain ⟨_, _, _, hall⟩ := checkE_zero h0
  have hz : ∀ c ∈ cls, ∀ x ∈ c, x ≠ 0 := fun c hc x hx => (ckC_in (hall c hc) x hx).2.2
  have hl : litsOk lits := fun x hx => by have := ckC_in h1 x hx; exact ⟨by omega, by omega, by omega⟩
  cases ha : adjT (normC lits)
  · rcases (spread_says hN h0 h1).2 ha with ⟨S, g1, ⟨c, hc, hcl⟩, _⟩ | ⟨S, l, _, _, _, _, g5⟩
    · exact clash_sound hz m2 m1 g1 hc hcl
    · rw [g5] at hs; cases hs
  · rw [adj_taut hl] at ha
    unfold tautD at ha
    rw [List.any_eq_true] at ha
    obtain ⟨x, hx, hc⟩ := ha
    rw [List.contains_iff_mem] at hc
    have e1 := m2 x hx
    have e2 := m2 (-x) hc
    rw [trueC_neg0 (hl x hx).1, e1] at e2
    cases e2
theorem clash_follows {N : Nat} (hN : N ≤ 400) {cls : List (List Int)} {lits : List Int} (h0 : checkE N cls = 0) (h1 : ckC lits N = true) (hs : (spreadC N cls lits).2 = true) :
    followsC N (withL cls lits) [] = true ∧ followsC N cls (negL lits) = true := by
  refine ⟨follows_of fun m hm => (clash_none hN h0 h1 hs hm).elim, follows_of fun m hm => ?_⟩
  cases h : someT (negL lits) m
  · exfalso
    refine clash_none hN h0 h1 hs ((holds_with cls lits m).2 ⟨fun c hc => ?_, fun x hx => ?_⟩)
    · unfold holdsC at hm; rw [List.all_eq_true] at hm; exact hm c hc
    · unfold someT at h
      have := List.any_eq_false.1 h (-x) (List.mem_map.2 ⟨x, hx, rfl⟩)
      rw [trueC_neg0 (ckC_in h1 x hx).2.2] at this
      simpa using this
  · rfl
theorem spread_follows {N : Nat} (hN : N ≤ 400) {cls : List (List Int)} {lits : List Int} (h0 : checkE N cls = 0) (h1 : ckC lits N = true) (hs : (spreadC N cls lits).2 = false) :
    ∀ x ∈ (spreadC N cls lits).1.getD [], followsC N (withL cls lits) [x] = true ∧ -(N : Int) ≤ x ∧ x ≤ N ∧ x ≠ 0 := by
  obtain ⟨_, _, _, hall⟩ := checkE_zero h0
  have hin : ∀ c ∈ cls, ∀ x ∈ c, -(N : Int) ≤ x ∧ x ≤ N ∧ x ≠ 0 := fun c hc => ckC_in (hall c hc)
  cases ha : adjT (normC lits)
  · rcases (spread_says hN h0 h1).2 ha with ⟨S, _, _, g⟩ | ⟨S, l, g1, _, _, g4, g5⟩
    · rw [g] at hs; cases hs
    · rw [g5]
      intro x hx
      have hSx := (g4 x).1 hx
      refine ⟨follows_of fun m hm => ?_, ?_⟩
      · obtain ⟨m1, m2⟩ := (holds_with cls lits m).1 hm
        have := g1.sound (fun c hc x hx => (hin c hc x hx).2.2) m2 m1 x hSx
        simpa [someT] using this
      · have : ∀ S, Reach cls (· ∈ lits) S → ∀ x, S x → -(N : Int) ≤ x ∧ x ≤ N ∧ x ≠ 0 := by
          intro S h
          induction h with
          | start e => exact fun x hx => ckC_in h1 x ((e x).1 hx)
          | step _ hc hu e ih =>
            intro x hx
            rcases (e x).1 hx with h | h
            · exact ih x h
            · rw [h]; exact hin _ hc _ hu.1
        exact this S g1 x hSx
  · have := (spread_says hN h0 h1).1 ha
    rw [this] at hs; cases hs
end Go.Proofs.Ytopneceicamakaa.Cf
