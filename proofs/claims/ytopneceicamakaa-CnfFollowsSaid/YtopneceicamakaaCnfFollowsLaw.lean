/-
  LAYER 12: the law CnfFollows walked.
-/
import Derived.Test.YtopneceicamakaaCnfPlain
namespace Go.Proofs.Ytopneceicamakaa.Cf
open Go.RowKit Go.Proofs.Ytopneceicamakaa Go.Proofs.Ytopneceicamakaa.Ln

theorem infoL : (Try.prog.info? 31).map (fun i => (i.zero, i.size, i.bytes)) = some (some (.slice none 0 0), 1, 24) := by kernel_rfl

set_option maxHeartbeats 4000000 in
/-- where the law asks nothing -/
theorem law_follows_off (N : Int) (hN : N ≤ 9223372036854775807) (cv : Value) (cls : List (List Int)) (v : Value) (lits : List Int) (w : World) (hC : RawL w cv cls) (hL : RawC w v (intsV lits)) (hoff : 12 < lits.length ∨ smallC N cls = false ∨ ckC lits N = false) :
    Calls Try.prog 8 #[.int .i64 N, cv, v] w fun e w' => e = .returned (.bool true) ∧ Below w.heap.size w w' := by
  have R0 := hid (resolved_any w)
  have RW := fun W => hid (resolved_any W)
  have KC := hid hC
  have KL := hid hL
  obtain ⟨a, n, c, rfl, hl, hc, hcells⟩ := rawL_shape hC
  obtain ⟨al, cl, rfl, hcl⟩ := rawI hL
  clear hC hL hcells hl hc
  by_cases h1 : 12 < lits.length
  · have d1 : (12 : Int) < (lits.length : Int) := by omega
    generalize lits.length = k at *
    clear hoff KC KL h1
    go_enter Try.func8, Try.ntmps8
    go_wp2_with fail
    refine R0.out.mono ?_
    rintro e w1 ⟨rfl, hb1⟩
    have B1 := hid hb1
    clear hb1 R0
    go_wp2_with fail
    refine (RW w1).out.mono ?_
    rintro e w2 ⟨rfl, hb2⟩
    have B2 := hid (B1.out.trans (hb2.mono B1.out.size))
    clear hb2 B1
    go_wp2_with fail
    go_ret
    exact ⟨rfl, B2.out⟩
  have d1 : ¬ (12 : Int) < (lits.length : Int) := by omega
  have SW := fun W (hW : Below w.heap.size w W) => hid (small_any N hN _ cls W (KC.out.below hW))
  cases h2 : smallC N cls
  · rw [h2] at SW
    generalize lits.length = k at *
    clear hoff KC KL h1 h2
    go_enter Try.func8, Try.ntmps8
    go_wp2_with fail
    refine R0.out.mono ?_
    rintro e w1 ⟨rfl, hb1⟩
    have B1 := hid hb1
    clear hb1 R0
    go_wp2_with fail
    refine (SW w1 B1.out).out.mono ?_
    rintro e w2 ⟨rfl, rfl⟩
    clear SW
    go_wp2_with fail
    refine (RW w1).out.mono ?_
    rintro e w2 ⟨rfl, hb2⟩
    have B2 := hid (B1.out.trans (hb2.mono B1.out.size))
    clear hb2 B1
    go_wp2_with fail
    go_ret
    exact ⟨rfl, B2.out⟩
  · have h3 : ckC lits N = false := by
      rcases hoff with h | h | h
      · exact absurd h h1
      · rw [h2] at h; cases h
      · exact h
    have LI := hid (show Ints w (.slice al lits.length cl) lits from RawC.cells KL.out (by rw [show (intsV lits).length = lits.length from List.length_map _]; omega))
    have CC := fun W (hW : Below w.heap.size w W) => hid (refCheckClause_any _ lits N hN W (LI.out.below hW))
    rw [show rangeE (ckC lits N) = 8 by rw [h3]; rfl] at CC
    rw [h2] at SW
    generalize lits.length = k at *
    clear hoff KC KL h1 h2 h3
    go_enter Try.func8, Try.ntmps8
    go_wp2_with fail
    refine R0.out.mono ?_
    rintro e w1 ⟨rfl, hb1⟩
    have B1 := hid hb1
    clear hb1 R0
    go_wp2_with fail
    refine (SW w1 B1.out).out.mono ?_
    rintro e w2 ⟨rfl, rfl⟩
    clear SW
    go_wp2_with fail
    refine (CC w1 B1.out).out.mono ?_
    rintro e w2 ⟨rfl, rfl⟩
    clear CC
    go_wp2_with fail
    refine (RW w1).out.mono ?_
    rintro e w2 ⟨rfl, hb2⟩
    have B2 := hid (B1.out.trans (hb2.mono B1.out.size))
    clear hb2 B1
    go_wp2_with fail
    go_ret
    exact ⟨rfl, B2.out⟩

/-- a block with one number is not where a longer row lies, or a row of another number -/
theorem blk_apart {w : World} {base g : Nat} {v : Value} {L : List Int} {x : Int} (hb : Blk w g [.int .i64 x] 3) (h : Owned base w v L) (h1 : L ≠ []) (h2 : L ≠ [x]) : some g ≠ v.ownBlock := by
  intro e
  rcases h.2 with ⟨rfl, _⟩ | ⟨g', cap, cur, rfl, _, hh, hcap, _, hsz, htake⟩
  · cases e
  · simp only [Value.ownBlock, Option.some.injEq] at e
    subst e
    unfold Blk at hb
    rw [hb] at hh
    simp only [Option.some.injEq, Obj.cells.injEq] at hh
    obtain ⟨hc, _, _⟩ := hh
    have hs : cur.size = 1 := by rw [← hc]; rfl
    have hl : L.length ≤ 1 := by omega
    match L, hl with
    | [], _ => exact h1 rfl
    | [y], _ =>
      have ht : (cur.toList.take 1) = intsV [y] := htake
      rw [← hc] at ht
      simp [intsV] at ht
      exact h2 (by rw [ht])
theorem blk_type {w : World} {base g : Nat} {v : Value} {n : Nat} {xs : List Value} {x : Int} (hb : Blk w g [.int .i64 x] 3) (h : w.ownsRow base 31 1 v n xs) : some g ≠ v.ownBlock := by
  intro e
  rcases h.2 with ⟨rfl, _⟩ | ⟨g', cap, cur, rfl, _, hh, _⟩
  · cases e
  · simp only [Value.ownBlock, Option.some.injEq] at e
    subst e
    unfold Blk at hb
    rw [hb] at hh
    simp at hh

/-- the lists that have come about: i literals, each a clause of its own; k of them turned about -/
structure ListsAt (base : Nat) (w0 wr : World) (vs : List Value) (lits : List Int) (i k : Nat) (v8 v9 : Value) : Prop where
  us : ∃ us : List Value, us.length = i ∧ wr.ownsRow base 31 1 v8 (vs.length + i) (vs ++ us) ∧ ∀ j (h : j < us.length), ∃ g, us[j] = .slice (some ⟨g, 0, none⟩) 1 1 ∧ Blk wr g [.int .i64 (lits.getD j 0)] 3 ∧ some g ≠ v9.ownBlock
  neg : Owned base wr v9 (negL (lits.take k))
  below : Below base w0 wr

theorem add_all {base i : Nat} {w0 wr w3 : World} {vs us : List Value} {lits : List Int} {v8 v9 v8' : Value} (hl : us.length = i) (hA : wr.ownsRow base 31 1 v8 (vs.length + i) (vs ++ us))
    (hU : ∀ j (h : j < us.length), ∃ g, us[j] = .slice (some ⟨g, 0, none⟩) 1 1 ∧ Blk wr g [.int .i64 (lits.getD j 0)] 3 ∧ some g ≠ v9.ownBlock) (hN : Owned base wr v9 (negL (lits.take i))) (hB : Below base w0 wr) (hb : base ≤ wr.heap.size)
    (ho : w3.ownsRow base 31 1 v8' (vs.length + i + 1) (vs ++ us ++ [.slice (some ⟨wr.heap.size, 0, none⟩) 1 1])) (hg : ((wr.alloc (.cells #[.int .i64 (lits.getD i 0)] 3)).alloc (.cells #[.slice (some ⟨wr.heap.size, 0, none⟩) 1 1] 31)).grownBy w3 v8.ownBlock) :
    ListsAt base w0 w3 vs lits (i + 1) i v8' v9 := by
  have hA2 := (hA.alloc (.cells #[.int .i64 (lits.getD i 0)] 3)).alloc (.cells #[.slice (some ⟨wr.heap.size, 0, none⟩) 1 1] 31)
  have hN2 := (World.ownsRow.alloc hN (.cells #[.int .i64 (lits.getD i 0)] 3)).alloc (.cells #[.slice (some ⟨wr.heap.size, 0, none⟩) 1 1] 31)
  refine ⟨⟨us ++ [.slice (some ⟨wr.heap.size, 0, none⟩) 1 1], by simp [hl], by rw [← List.append_assoc]; exact ho, fun j hj => ?_⟩, hN2.kept hg (ownsRow_apart hN2 hA2 (by decide)), ?_⟩
  · have key : ∀ g, Blk wr g [.int .i64 (lits.getD j 0)] 3 → Blk w3 g [.int .i64 (lits.getD j 0)] 3 := fun g hk => ((hk.alloc _).alloc _).grown hg (blk_type ((hk.alloc _).alloc _) hA2)
    by_cases e : j < us.length
    · obtain ⟨g, e1, e2, e3⟩ := hU j e
      exact ⟨g, by rw [List.getElem_append_left e]; exact e1, key g e2, e3⟩
    · have e2 : j = i := by simp at hj; omega
      subst e2
      refine ⟨wr.heap.size, ?_, ?_, ?_⟩
      · rw [List.getElem_append_right (by omega)]; simp [hl]
      · have hk := (Blk.new wr [.int .i64 (lits.getD j 0)] 3).alloc (.cells #[.slice (some ⟨wr.heap.size, 0, none⟩) 1 1] 31)
        exact hk.grown hg (blk_type hk hA2)
      · intro e
        have := (World.ownsRow.lt hN _ e.symm).2
        omega
  · exact ((hB.alloc (by omega) _).alloc (by simp; omega) _).grown hg (by simp; omega) (fun k hk => (hA.lt k hk).1)
theorem add_neg {base i : Nat} {w0 w3 w5 : World} {vs : List Value} {lits : List Int} {v8 v9 v9' : Value} (h : ListsAt base w0 w3 vs lits (i + 1) i v8 v9) (hz : ∀ x ∈ lits, x ≠ 0) (hi : i < lits.length) (hb : base ≤ w3.heap.size)
    (ho : w5.ownsRow base 3 1 v9' (i + 1) (intsV (negL (lits.take i)) ++ [.int .i64 (-(lits.getD i 0))])) (hg : (w3.alloc (.cells #[.int .i64 (-(lits.getD i 0))] 3)).grownBy w5 v9.ownBlock) :
    ListsAt base w0 w5 vs lits (i + 1) (i + 1) v8 v9' := by
  obtain ⟨us, hl, hA, hU⟩ := h.us
  have hA2 := hA.alloc (.cells #[.int .i64 (-(lits.getD i 0))] 3)
  have hN2 := World.ownsRow.alloc h.neg (.cells #[.int .i64 (-(lits.getD i 0))] 3)
  have hN5 : Owned base w5 v9' (negL (lits.take (i + 1))) := own_join ho (by rw [negL_take hi]; simp [intsV]) (Nat.le_refl _)
  refine ⟨⟨us, hl, hA2.kept hg (ownsRow_apart hA2 hN2 (by decide)), fun j hj => ?_⟩, hN5, ?_⟩
  · obtain ⟨g, e1, e2, e3⟩ := hU j hj
    have hk := (e2.alloc (.cells #[.int .i64 (-(lits.getD i 0))] 3)).grown hg e3
    refine ⟨g, e1, hk, blk_apart hk hN5 ?_ ?_⟩
    · rw [negL_take hi]; simp
    · intro e
      have hlen := congrArg List.length e
      unfold negL at hlen
      rw [List.length_map, List.length_take] at hlen
      simp at hlen
      have hi0 : i = 0 := by omega
      subst hi0
      have hj0 : j = 0 := by omega
      subst hj0
      rw [negL_take hi] at e
      simp [negL] at e
      exact hz _ (mem_getD hi) (by rw [List.getD_eq_getElem?_getD]; omega)
  · exact (h.below.alloc (by omega) _).grown hg (by simp; omega) (fun k hk => (h.neg.lt k hk).1)
theorem lists_end {base : Nat} {w0 wr : World} {vs : List Value} {cls : List (List Int)} {lits : List Int} {v8 v9 : Value} (h : ListsAt base w0 wr vs lits lits.length lits.length v8 v9) (hb : base = w0.heap.size) (hv : vs.length = cls.length) (hlen : vs.length + lits.length ≤ 1000)
    (hi : ∀ j (_ : j < vs.length), Ints w0 vs[j] (cls.getD j [])) : Lists wr v8 (withL cls lits) ∧ Ints wr v9 (negL lits) := by
  obtain ⟨us, hl, hA, hU⟩ := h.us
  subst hb
  refine ⟨⟨vs ++ us, Cells.of_own hA (by omega), by simp [withL, hl, hv], fun j hj hk => ?_⟩, ?_⟩
  · by_cases e : j < vs.length
    · have h1 := (hi j e).below h.below
      rw [List.getD_eq_getElem?_getD, List.getElem?_eq_getElem (by omega)] at h1
      rw [List.getElem_append_left e]
      simp only [withL]
      rw [List.getElem_append_left (by omega)]
      exact h1
    · have hj2 : j - vs.length < us.length := by simp at hj; omega
      obtain ⟨g, e1, e2, _⟩ := hU (j - vs.length) hj2
      rw [List.getElem_append_right (by omega)]
      simp only [withL]
      rw [List.getElem_append_right (by omega), List.getElem_map]
      have e3 : us[j - vs.length] = .slice (some ⟨g, 0, none⟩) 1 1 := e1
      rw [e3]
      have hjl : j - vs.length < lits.length := by omega
      rw [List.getD_eq_getElem?_getD, List.getElem?_eq_getElem hjl] at e2
      simp only [← hv]
      refine ⟨some ⟨g, 0, none⟩, 1, rfl, Nat.le_refl _, by simp [intsV], fun _ => ⟨g, 0, rfl, e2.lt, fun a ha => ?_⟩⟩
      have ha0 : a = 0 := by simpa [intsV] using ha
      subst ha0
      exact e2.cell 0 rfl
  · have := Owned.ints h.neg (by unfold negL; rw [List.length_map, List.length_take]; omega)
    rwa [List.take_length] at this

theorem ownsEmptyT (W : World) (T : TypeId) (n : Nat) (hn : n = W.heap.size) : (W.alloc (.cells #[] T)).ownsRow n T 1 (.slice (some ⟨n, 0, none⟩) 0 0) 0 [] := by
  subst hn
  exact ⟨rfl, .inr ⟨W.heap.size, 0, #[], rfl, Nat.le_refl _, (by show (W.heap.push _)[W.heap.size]? = _; simp), Nat.le_refl _, Nat.zero_le _, rfl, rfl⟩⟩

set_option maxRecDepth 100000 in
set_option maxHeartbeats 8000000 in
theorem law_follows (N : Nat) (hN : N ≤ 10) (cv : Value) (cls : List (List Int)) (v : Value) (lits : List Int) (w : World) (hC : RawL w cv cls) (hL : RawC w v (intsV lits)) (h1 : ¬ 12 < lits.length) (h2 : smallC N cls = true) (h3 : ckC lits N = true) :
    Calls Try.prog 8 #[.int .i64 (N : Int), cv, v] w fun e w' => e = .returned (.bool true) ∧ Below w.heap.size w w' := by
  obtain ⟨i0, q1, q2, q3, q4⟩ := info_parts infoI
  have hi := hid q1
  have hz0 := hid q2
  have hz1 := hid q3
  have hz2 := hid q4
  obtain ⟨i1, r1, r2, r3, r4⟩ := info_parts infoL
  have hj := hid r1
  have hy0 := hid r2
  have hy1 := hid r3
  have hy2 := hid r4
  clear q1 q2 q3 q4 r1 r2 r3 r4
  have R0 := hid (resolved_any w)
  have d1 : ¬ (12 : Int) < (lits.length : Int) := by omega
  obtain ⟨_, s2, s3⟩ := smallC_yes h2
  obtain ⟨hlen, hshort⟩ := fewC_yes s2
  have LC := hid (hC.lists (by omega) (fun l hl => by have := hshort l hl; omega))
  have LI := hid (show Ints w v lits from RawC.cells hL (by rw [show (intsV lits).length = lits.length from List.length_map _]; omega))
  have SW := fun W (hW : Below w.heap.size w W) => hid (small_any (N : Int) (by omega) cv cls W (hC.below hW))
  have CC := fun W (hW : Below w.heap.size w W) => hid (refCheckClause_any v lits (N : Int) (by omega) W (LI.out.below hW))
  rw [h2] at SW
  rw [show rangeE (ckC lits N) = 0 by rw [h3]; rfl] at CC
  have hin := ckC_in h3
  have LIT := hid (show litsOk lits from fun x hx => by have := hin x hx; exact ⟨this.2.2, by omega, by omega⟩)
  have ALL := hid (checkE_zero s3).2.2.2
  have CF := hid (fun hs => clash_follows (N := N) (by omega) s3 h3 hs)
  have SF := hid (fun hs => spread_follows (N := N) (by omega) s3 h3 hs)
  have WOK : Hid (∀ l ∈ withL cls lits, litsOk l) := hid (fun l hl => by
    rcases List.mem_append.1 hl with h | h
    · exact fun x hx => by have := ckC_in ((checkE_zero s3).2.2.2 l h) x hx; exact ⟨this.2.2, by omega, by omega⟩
    · obtain ⟨x, hx, rfl⟩ := List.mem_map.1 h
      exact fun y hy => by rw [List.mem_singleton.1 hy]; exact LIT.out x hx)
  have COK : Hid (∀ l ∈ cls, litsOk l) := hid (fun l h x hx => by have := ckC_in ((checkE_zero s3).2.2.2 l h) x hx; exact ⟨this.2.2, by omega, by omega⟩)
  have NOK : Hid (litsOk (negL lits)) := hid (fun x hx => by
    obtain ⟨y, hy, rfl⟩ := List.mem_map.1 hx
    have := hin y hy; exact ⟨by omega, by omega, by omega⟩)
  have SPW := fun W (hW : Below w.heap.size w W) => hid (spread_any (N : Int) (by omega) cv v cls lits W (LC.out.below hW) (LI.out.below hW))
  have PLW := fun W v9 (hW : Below w.heap.size w W) (h9 : Ints W v9 (negL lits)) => hid (plain_any (N : Int) (by omega) cv v9 cls (negL lits) NOK.out.ok (by unfold negL; rw [List.length_map]; omega) W (LC.out.below hW) h9)
  rw [negL_neg] at PLW
  unfold Spr at SPW
  generalize spreadC (N : Int) cls lits = r at *
  obtain ⟨ro, rb⟩ := r
  simp only [] at CF SF SPW PLW
  generalize hxs : ro.getD [] = xs at *
  clear hxs
  obtain ⟨vs, hvs, hvl, hvi⟩ := lists_get LC.out
  have HVS := hid (And.intro hvs (And.intro hvl hvi))
  obtain ⟨ac, cc, rfl, _, _, _⟩ := id hvs
  obtain ⟨al, cl, rfl, _, _, hlc⟩ := LI.out.shape
  have HLC := hid hlc
  have HV := hid (And.intro hvl hlen)
  clear hC hL h1 h2 h3 s2 s3 hshort hin hvs hvl hvi hlc hlen
  generalize hk : lits.length = k at *
  have HK := hid hk
  clear hk
  go_enter Try.func8, Try.ntmps8
  go_wp2_with fail
  refine R0.out.mono ?_
  rintro e w1 ⟨rfl, hb1⟩
  have B1 := hid hb1
  clear hb1 R0
  go_wp2_with fail
  refine (SW w1 B1.out).out.mono ?_
  rintro e w2 ⟨rfl, rfl⟩
  clear SW
  go_wp2_with fail
  refine (CC w1 B1.out).out.mono ?_
  rintro e w2 ⟨rfl, rfl⟩
  clear CC
  have hbf : Below w.heap.size w (w1.alloc (.cells #[.int .i64 (N : Int), .slice ac vs.length cc] 26)) := B1.out.alloc B1.out.size _
  have hsf : (w1.alloc (.cells #[.int .i64 (N : Int), .slice ac vs.length cc] 26)).heap.size = w1.heap.size + 1 := by simp
  have f0 : (w1.alloc (.cells #[.int .i64 (N : Int), .slice ac vs.length cc] 26)).cell? ⟨w1.heap.size, 0, none⟩ = some (.int .i64 (N : Int)) := by simp [go_sem]
  have f1 : (w1.alloc (.cells #[.int .i64 (N : Int), .slice ac vs.length cc] 26)).cell? ⟨w1.heap.size, 1, none⟩ = some (.slice ac vs.length cc) := by simp [go_sem]
  have F := hid (And.intro f0 (And.intro f1 (And.intro hsf hbf)))
  clear f0 f1 hsf hbf
  have NW := hid (fun W (hW : Below w.heap.size w W) => (HVS.out.1.below hW).news)
  have VL := hid (show vs.length ≤ 60 by have := HV.out; omega)
  have VC : Hid (∀ u ∈ vs, u.oneCell' = true) := hid (fun u hu => by
    obtain ⟨j, hj, rfl⟩ := List.mem_iff_getElem.1 hu
    obtain ⟨a, c, e, _⟩ := (HVS.out.2.2 j hj).shape
    rw [e]; rfl)
  go_wp2_with (at_builtin; refine wpList_append_own_any _ rfl (.tmp 37) (.tmp 38) 22 rfl (w1.heap.size + 1) 31 i1 (.slice none 0 0) 1 24 Try.underlying22 hj.out hy0.out hy1.out hy2.out rfl (by decide) _ 0 [] rfl ?b0 ac vs.length cc vs rfl ?b1 ?b2 ?b3 ?b4 ?b5 ?b6 ?b7 ?_)
  case b0 => exact ownsEmptyT _ _ _ F.out.2.2.1.symm
  case b1 => rw [Nat.mul_one]
  case b2 => exact (NW.out w (Below.refl _ _)).1
  case b3 => exact (NW.out _ (F.out.2.2.2.alloc F.out.2.2.2.size _)).2
  case b4 => exact VC.out
  case b5 => unfold maxLen; have := VL.out; omega
  case b6 => have := VL.out; omega
  case b7 => simp
  intro v8 w3 hown3 hgrow3
  have LA0 : ListsAt (w1.heap.size + 1) (w1.alloc (.cells #[.int .i64 (N : Int), .slice ac vs.length cc] 26)) w3 vs lits 0 0 v8 (.slice none 0 0) :=
    { us := ⟨[], rfl, by rw [List.append_nil, Nat.add_zero]; simpa using hown3, fun j hj => absurd hj (Nat.not_lt_zero _)⟩
      neg := World.ownsRow_nil _ _ _ _
      below := ((Below.refl _ _).alloc (by simp) _).grown hgrow3 (by simp) (fun k hk => by cases hk; exact Nat.le_refl _) }
  have LZ := hid LA0
  obtain ⟨a8, c8, rfl⟩ := own_shape hown3
  clear hown3 hgrow3 LA0
  generalize w1.alloc (.cells #[.int .i64 (N : Int), .slice ac vs.length cc] 26) = W0 at *
  have hs0 := F.out.2.2.1
  go_wp2_with fail
  go_loopw [8, 9, 10] (fun u8 u9 u10 wr => ∃ i : Nat, u10 = .int .i64 (i : Int) ∧ i ≤ k ∧ Hid (ListsAt (w1.heap.size + 1) W0 wr vs lits i i u8 u9)) (fun _ _ u10 _ => k - (intOf u10).toNat)
  case atStart => exact ⟨0, rfl, Nat.zero_le _, LZ⟩
  case round =>
    obtain ⟨i, rfl, hik, HI⟩ := hrel
    clear LZ
    by_cases hlt : i < k
    · obtain ⟨B, o, rfl, hB, hcc⟩ := HLC.out (by omega)
      have hbw := F.out.2.2.2.trans (HI.out.below.mono (by have := F.out.2.2.2.size; omega))
      have hci := (hbw.cell (p := ⟨B, o + i, none⟩) hB).trans (hcc i hlt)
      have hx := LIT.out.at i (by rw [HK.out]; exact hlt)
      have hsz : w1.heap.size + 1 ≤ wr.heap.size := by have := HI.out.below.size; omega
      have HI2 := hid HI.out.us
      have HN := hid HI.out.neg
      have HBL := hid HI.out.below
      obtain ⟨us, hl, hA, hU⟩ := HI2.out
      have HU := hid hU
      have HL := hid hl
      have hvl := VL.out
      have ADD := hid (fun (v8' : Value) (w3 : World) (ho : w3.ownsRow (w1.heap.size + 1) 31 1 v8' (vs.length + i + 1) (vs ++ us ++ [.slice (some ⟨wr.heap.size, 0, none⟩) 1 1])) hg => add_all HL.out hA HU.out HN.out HBL.out hsz ho hg)
      clear hcc HI HI2 hU hl
      generalize hxe : lits.getD i 0 = x at *
      have HX := hid hxe
      clear hxe
      have hneg : IntKind.i64.wrap (-x) = -x := IntWalk.i64_in _ (by omega)
      go_wp2_with (at_builtin; go_loud (refine wpList_append_own _ rfl (.tmp 46) (.tmp 52) 22 rfl (w1.heap.size + 1) 31 i1 (.slice none 0 0) 1 24 Try.underlying22 hj.out hy0.out hy1.out hy2.out rfl (by decide) _ _ _ rfl ((hA.alloc _).alloc _) ⟨wr.heap.size + 1, 0, none⟩ 1 1 [.slice (some ⟨wr.heap.size, 0, none⟩) 1 1] rfl rfl ?e1 ?e2 ?e3 ?e4 ?e5 ?_))
      case e1 => exact cell_one_at _ _ _ _ (by simp)
      case e2 => intro u hu; simp at hu; subst hu; rfl
      case e3 => unfold maxLen; omega
      case e4 => omega
      case e5 => simp; omega
      intro v8b w4 hown4 hgrow4 _
      have MID := hid (ADD.out v8b w4 (by rw [List.append_assoc]; exact hown4) hgrow4)
      have hbx := HBL.out
      have hgr : Below (w1.heap.size + 1) W0 w4 := MID.out.below
      have hbw4 := F.out.2.2.2.trans (hgr.mono (by have := F.out.2.2.2.size; omega))
      have hci4 := (hbw4.cell (p := ⟨B, o + i, none⟩) hB).trans ((hbw.cell (p := ⟨B, o + i, none⟩) hB).symm.trans hci)
      have hsz4 : w1.heap.size + 1 ≤ w4.heap.size := by have := hgr.size; omega
      have hN4 := MID.out.neg
      unfold Owned at hN4
      rw [show (negL (lits.take i)).length = i by unfold negL; rw [List.length_map, List.length_take, HK.out]; omega] at hN4
      obtain ⟨a8b, c8b, rfl⟩ := own_shape hown4
      clear hown4 hgrow4 ADD hci hbw hbw4 hA HN HBL HU HL hgr hbx
      go_wp2_with (at_builtin; go_loud (refine wpList_append_own _ rfl (.tmp 54) (.tmp 60) 31 rfl (w1.heap.size + 1) 3 i0 (.int .i64 0) 1 8 Try.underlying31 hi.out hz0.out hz1.out hz2.out rfl (by decide) _ _ _ rfl (hN4.alloc _) ⟨w4.heap.size, 0, none⟩ 1 1 [.int .i64 (-x)] rfl rfl ?h1 ?h2 ?h3 ?h4 ?h5 ?_))
      case h1 => exact cell_one_new _ _ _
      case h2 => intro u hu; simp at hu; subst hu; rfl
      case h3 => unfold maxLen; omega
      case h4 => omega
      case h5 => simp; omega
      intro v9b w5 hown5 hgrow5 _
      have LN5 := hid (add_neg MID.out (fun x hx => (LIT.out x hx).1) (by rw [HK.out]; exact hlt) hsz4 (by rw [HX.out]; exact hown5) (by rw [HX.out]; exact hgrow5))
      clear hown5 hgrow5 hN4 MID
      go_wp2_with fail
      go_roundw
      case rel => exact ⟨i + 1, by go_num, by omega, LN5⟩
      case measure => simp [intOf]; omega
    · have hi2 : i = k := by omega
      subst hi2
      have hbw := F.out.2.2.2.trans (HI.out.below.mono (by have := F.out.2.2.2.size; omega))
      have HB := hid hbw
      have LE := hid (lists_end (cls := cls) (by rw [HK.out]; exact HI.out) hs0.symm HV.out.1 (by have := VL.out; have := HK.out; omega) (fun j hj => (HVS.out.2.2 j hj).below F.out.2.2.2))
      have FC := hid (And.intro ((HI.out.below.cell (p := ⟨w1.heap.size, 0, none⟩) (by show w1.heap.size < _; omega)).trans F.out.1) ((HI.out.below.cell (p := ⟨w1.heap.size, 1, none⟩) (by show w1.heap.size < _; omega)).trans F.out.2.1))
      obtain ⟨us, hl, hA, _⟩ := HI.out.us
      obtain ⟨a8b, c8b, rfl⟩ := own_shape hA
      obtain ⟨a9, c9, rfl⟩ := own_shape HI.out.neg
      have hsz1 : w1.heap.size + 1 ≤ wr.heap.size := by have := HI.out.below.size; omega
      clear HI hbw hl hA F HLC NW VC
      rw [show (negL (lits.take i)).length = i by unfold negL; rw [List.length_map, List.length_take, HK.out]; omega] at *
      have c0 := FC.out.1
      have c1 := FC.out.2
      cases rb
      · have SFX := hid (SF.out rfl)
        clear CF SF
        go_wp2_with fail
        refine (SPW wr HB.out).out.mono ?_
        rintro e w4 ⟨⟨v4, rfl, hi4, _⟩, hb4⟩
        have HB4 := hid (HB.out.trans (hb4.mono HB.out.size))
        have c04 := (hb4.cell (p := ⟨w1.heap.size, 0, none⟩) (by show w1.heap.size < wr.heap.size; omega)).trans c0
        have c14 := (hb4.cell (p := ⟨w1.heap.size, 1, none⟩) (by show w1.heap.size < wr.heap.size; omega)).trans c1
        have L4 := hid (And.intro (LE.out.1.below hb4) (LE.out.2.below hb4))
        have X4 := hid hi4
        clear hb4 c0 c1 LE hi4 SPW
        obtain ⟨a4, c4, rfl, _, _, _⟩ := X4.out.shape
        go_wp2_with fail
        refine (PLW w4 _ HB4.out L4.out.2).out.mono ?_
        rintro e w5 ⟨rfl, hb5⟩
        have HB5 := hid (HB4.out.trans (hb5.mono HB4.out.size))
        have L5 := hid (L4.out.1.below hb5)
        have X5 := hid (X4.out.below hb5)
        clear hb5 c04 c14 L4 X4 PLW FC
        obtain ⟨_, _, e5, _, hx5, hc5⟩ := X5.out.shape
        simp only [Value.slice.injEq] at e5
        obtain ⟨rfl, _, rfl⟩ := e5
        have HC5 := hid hc5
        clear hc5
        generalize hnx : xs.length = nx at *
        have HNX := hid hnx
        clear hnx
        go_wp2_with fail
        go_loopw [13] (fun u13 wj => ∃ j : Nat, u13 = .int .i64 (j : Int) ∧ j ≤ nx ∧ Hid (Below w5.heap.size w5 wj)) (fun u13 _ => nx - (intOf u13).toNat)
        case atStart => exact ⟨0, rfl, Nat.zero_le _, hid (Below.refl _ _)⟩
        case round =>
          obtain ⟨j, rfl, hjn, HJ⟩ := hrel
          by_cases hjl : j < nx
          · obtain ⟨B, o, rfl, hB, hcc⟩ := HC5.out (by omega)
            have hcj := (HJ.out.cell (p := ⟨B, o + j, none⟩) hB).trans (hcc j hjl)
            have hxm : xs.getD j 0 ∈ xs := mem_getD (by rw [HNX.out]; exact hjl)
            have hx := SFX.out _ hxm
            have FX := hid hx.1
            have OX := hid (show litsOk [xs.getD j 0] from fun y hy => by rw [List.mem_singleton.1 hy]; exact ⟨hx.2.2.2, by omega, by omega⟩)
            generalize xs.getD j 0 = x at *
            have RF := hid (refFollows_any N (by omega) _ (withL cls lits) WOK.out (.slice (some ⟨wr.heap.size, 0, none⟩) 1 1) [x] OX.out (wr.alloc (.cells #[.int .i64 x] 3)) (L5.out.below (HJ.out.alloc HJ.out.size _)) (by
              refine ⟨some ⟨wr.heap.size, 0, none⟩, 1, rfl, Nat.le_refl _, by simp [intsV], fun _ => ⟨wr.heap.size, 0, rfl, by simp, fun a ha => ?_⟩⟩
              have ha0 : a = 0 := by simpa [intsV] using ha
              subst ha0
              exact (Blk.new wr [.int .i64 x] 3).cell 0 rfl))
            rw [FX.out] at RF
            clear hcc hx hxm
            go_wp2_with fail
            refine RF.out.mono ?_
            rintro e w6 ⟨rfl, hb6⟩
            have HJ6 := hid (HJ.out.trans ((below_trans (below_alloc (Below.refl wr.heap.size wr) _) hb6).mono HJ.out.size))
            clear hb6
            go_wp2_with fail
            go_roundw
            case rel => exact ⟨j + 1, by go_num, by omega, HJ6⟩
            case measure => simp [intOf]; omega
          · have hj2 : j = nx := by omega
            subst hj2
            have HBF := hid (HB5.out.trans (HJ.out.mono HB5.out.size))
            go_wp2_with fail
            go_ret
            exact ⟨rfl, HBF.out⟩
      · have CFX := hid (CF.out rfl)
        clear CF SF
        go_wp2_with fail
        refine (SPW wr HB.out).out.mono ?_
        rintro e w4 ⟨⟨v4, rfl, hi4, _⟩, hb4⟩
        have HB4 := hid (HB.out.trans (hb4.mono HB.out.size))
        have c04 := (hb4.cell (p := ⟨w1.heap.size, 0, none⟩) (by show w1.heap.size < wr.heap.size; omega)).trans c0
        have c14 := (hb4.cell (p := ⟨w1.heap.size, 1, none⟩) (by show w1.heap.size < wr.heap.size; omega)).trans c1
        have L4 := hid (And.intro (LE.out.1.below hb4) (LE.out.2.below hb4))
        obtain ⟨a4, c4, rfl, _, _, _⟩ := hi4.shape
        clear hb4 c0 c1 LE hi4 SPW
        go_wp2_with fail
        refine (PLW w4 _ HB4.out L4.out.2).out.mono ?_
        rintro e w5 ⟨rfl, hb5⟩
        have HB5 := hid (HB4.out.trans (hb5.mono HB4.out.size))
        have L5 := hid (And.intro (L4.out.1.below hb5) (L4.out.2.below hb5))
        clear hb5 c04 c14 L4 PLW FC
        have RF := hid (refFollows_any N (by omega) _ (withL cls lits) WOK.out (.slice none 0 0) [] (fun x hx => absurd hx List.not_mem_nil) w5 L5.out.1 (Cells.nil _ none 0))
        rw [CFX.out.1] at RF
        go_wp2_with fail
        refine RF.out.mono ?_
        rintro e w6 ⟨rfl, hb6⟩
        have HB6 := hid (HB5.out.trans (hb6.mono HB5.out.size))
        have RG := hid (refFollows_any N (by omega) _ cls COK.out _ (negL lits) NOK.out w6 (LC.out.below HB6.out) (L5.out.2.below hb6))
        rw [CFX.out.2] at RG
        clear hb6 RF
        go_wp2_with fail
        refine RG.out.mono ?_
        rintro e w7 ⟨rfl, hb7⟩
        have HB7 := hid (HB6.out.trans (hb7.mono HB6.out.size))
        clear hb7 RG
        go_wp2_with fail
        go_ret
        exact ⟨rfl, HB7.out⟩
end Go.Proofs.Ytopneceicamakaa.Cf
