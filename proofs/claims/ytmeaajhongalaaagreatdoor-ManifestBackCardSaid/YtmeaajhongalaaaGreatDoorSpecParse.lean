/-
  LAYER 4, PACKAGE spec: Parse.
-/
import Derived.Test.YtmeaajhongalaaaGreatDoorSpecAlt
namespace Go.Proofs.YtmeaajhongalaaaGreatDoor.Sp
open Go.RowKit
open Go.Proofs.YtmeaajhongalaaaGreatDoor Go.Proofs.YtmeaajhongalaaaGreatDoor.Nu Go.Proofs.YtmeaajhongalaaaGreatDoor.Vs

theorem AltAt.first {w : World} {v : Value} {cs : List CompT} (h : AltAt w v cs) (hne : cs ≠ []) : ∃ B cp x, v = .slice (some ⟨B, 0, none⟩) cs.length cp ∧ B < w.heap.size ∧ w.cell? ⟨B, 0, none⟩ = some (.int .i64 x) := by
  obtain ⟨B, cp, h1, h2, h3, h4, h5⟩ := h
  obtain ⟨c, ds, rfl⟩ := List.exists_cons_of_ne_nil hne
  exact ⟨B, cp, _, h1, h4, h5 0 _ rfl⟩
theorem AltAt.same {w w' : World} {v : Value} {cs : List CompT} (h : AltAt w v cs) (hne : cs ≠ []) (hk : ∀ B x, B < w.heap.size → w.cell? ⟨B, 0, none⟩ = some (.int .i64 x) → B < w'.heap.size ∧ ∀ k, w'.cell? ⟨B, k, none⟩ = w.cell? ⟨B, k, none⟩) : AltAt w' v cs := by
  obtain ⟨B, cp, h1, h2, h3, h4, h5⟩ := h
  obtain ⟨c, ds, rfl⟩ := List.exists_cons_of_ne_nil hne
  obtain ⟨k1, k2⟩ := hk B _ h4 (h5 0 _ rfl)
  exact ⟨B, cp, h1, h2, h3, k1, fun k x hx => by rw [k2]; exact h5 k x hx⟩
theorem AltAt.other {w : World} {v : Value} {cs : List CompT} (h : AltAt w v cs) (hne : cs ≠ []) {b j : Nat} {a : Option Addr} {n c : Nat} {e : TypeId} {r : List Value} (hb : Blk w b (.slice a n c :: r) e) (u : Value) : AltAt (w.setCell ⟨b, j, none⟩ u) v cs := by
  refine h.same hne fun B x hB hx => ?_
  have hn : B ≠ b := by
    rintro rfl
    rw [hb.cell 0 rfl] at hx; cases hx
  exact ⟨by simpa using hB, fun k => World.cell?_setCell_other _ _ _ _ (by intro e; injection e with e; exact hn e.symm)⟩
theorem AltAt.grown {w w' : World} {v : Value} {cs : List CompT} (h : AltAt w v cs) (hne : cs ≠ []) {base n : Nat} {T : TypeId} {rv : Value} {xs : List Value} (ho : w.ownsRow base T 1 rv n xs) (hx : ∀ x, xs[0]? = some x → ∃ a m c, x = .slice a m c) (h0 : n = 0 → rv.ownBlock = none) (hg : w.grownBy w' rv.ownBlock) : AltAt w' v cs := by
  refine h.same hne fun B x hB hcx => ?_
  have hn : some B ≠ rv.ownBlock := by
    intro e
    have hn0 : n ≠ 0 := fun e0 => by rw [h0 e0] at e; cases e
    obtain ⟨g, c, hv, _, _, _, _, h6⟩ := ownsRow_any ho hn0
    rw [hv] at e
    have eg : B = g := by simpa [Value.ownBlock] using e
    subst eg
    have hl : xs.length = n * 1 := ho.1
    have h00 : 0 < xs.length := by omega
    obtain ⟨a, m, cc, ex⟩ := hx xs[0] (List.getElem?_eq_getElem h00)
    have := h6 0 xs[0] (List.getElem?_eq_getElem h00)
    rw [hcx, ex] at this; cases this
  refine ⟨Nat.lt_of_lt_of_le hB hg.size, fun k => ?_⟩
  unfold World.cell?
  simp only [hg.block B hB hn]

/-- alternatives in memory: what the cells of a row hold -/
def AltsAt (w : World) (vs : List Value) (rs : List (List CompT)) : Prop := vs.length = rs.length ∧ ∀ (k : Nat) (cs : List CompT), rs[k]? = some cs → cs ≠ [] ∧ ∃ v, vs[k]? = some v ∧ AltAt w v cs
theorem AltsAt.map {w w' : World} {vs : List Value} {rs : List (List CompT)} (h : AltsAt w vs rs) (hk : ∀ v cs, cs ≠ [] → AltAt w v cs → AltAt w' v cs) : AltsAt w' vs rs :=
  ⟨h.1, fun k cs hc => by obtain ⟨h1, v, h2, h3⟩ := h.2 k cs hc; exact ⟨h1, v, h2, hk v cs h1 h3⟩⟩
theorem AltsAt.below {w w' : World} {vs : List Value} {rs : List (List CompT)} (h : AltsAt w vs rs) (hb : Below w.heap.size w w') : AltsAt w' vs rs := h.map fun _ _ _ h => h.below hb
theorem AltsAt.push {w : World} {vs : List Value} {rs : List (List CompT)} {v : Value} {cs : List CompT} (h : AltsAt w vs rs) (hne : cs ≠ []) (hv : AltAt w v cs) : AltsAt w (vs ++ [v]) (rs ++ [cs]) := by
  refine ⟨by rw [List.length_append, List.length_append, h.1]; rfl, fun k ds hd => ?_⟩
  by_cases hk : k < rs.length
  · rw [List.getElem?_append_left hk] at hd
    obtain ⟨h1, u, h2, h3⟩ := h.2 k ds hd
    exact ⟨h1, u, by rw [List.getElem?_append_left (by rw [h.1]; exact hk)]; exact h2, h3⟩
  · rw [List.getElem?_append_right (by omega)] at hd
    have hk0 : k - rs.length = 0 := by
      have := (List.getElem?_eq_some_iff.1 hd).1
      simp at this; omega
    rw [hk0] at hd
    simp at hd
    subst hd
    exact ⟨hne, v, by rw [List.getElem?_append_right (by rw [h.1]; omega), h.1, hk0]; rfl, hv⟩
theorem AltsAt.slice {w : World} {vs : List Value} {rs : List (List CompT)} (h : AltsAt w vs rs) : ∀ x, vs[0]? = some x → ∃ a m c, x = .slice a m c := by
  intro x hx
  have h0 := (List.getElem?_eq_some_iff.1 hx).1
  have h1 : 0 < rs.length := by rw [← h.1]; exact h0
  obtain ⟨_, v, h2, h3⟩ := h.2 0 rs[0] (List.getElem?_eq_getElem h1)
  rw [hx] at h2
  cases h2
  obtain ⟨B, cp, e, _⟩ := h3
  exact ⟨_, _, _, e⟩
/-- a range's alternatives in memory -/
def RngAt (w : World) (v : Value) (rs : List (List CompT)) : Prop :=
  ∃ G cp vs, v = .slice (some ⟨G, 0, none⟩) rs.length cp ∧ rs.length ≤ cp ∧ cp ≤ maxLen ∧ G < w.heap.size ∧ (∀ k x, vs[k]? = some x → w.cell? ⟨G, k, none⟩ = some x) ∧ AltsAt w vs rs
theorem RngAt.below {w w' : World} {v : Value} {rs : List (List CompT)} (h : RngAt w v rs) (hb : Below w.heap.size w w') : RngAt w' v rs := by
  obtain ⟨G, cp, vs, h1, h2, h3, h4, h5, h6⟩ := h
  exact ⟨G, cp, vs, h1, h2, h3, Nat.lt_of_lt_of_le h4 hb.size, fun k x hk => by rw [hb.cell h4]; exact h5 k x hk, h6.below hb⟩

def RngRes (l : List UInt8) (w : World) (e : Ending) (w' : World) : Prop :=
  Below w.heap.size w w' ∧ ((rngOf l = none ∧ e = .returned (.tuple #[.agg #[.slice none 0 0], .bool false])) ∨ ∃ rs v, rngOf l = some rs ∧ e = .returned (.tuple #[.agg #[v], .bool true]) ∧ RngAt w' v rs)
theorem infoA : (Tryz.prog.info? 185).map (fun i => (i.zero, i.size, i.bytes)) = some (some (.slice none 0 0), 1, 24) := by kernel_rfl

theorem cells_grown {w w' : World} {B o : Nat} {gs : List (List UInt8)} (h : CellsAt w B o gs) {row : Option Nat} (hg : w.grownBy w' row) (hne : some B ≠ row) : CellsAt w' B o gs :=
  ⟨Nat.lt_of_lt_of_le h.1 hg.size, fun k hk => by
    have := h.2 k hk
    unfold World.cell? at this ⊢
    simp only [hg.block B h.1 hne] at this ⊢; exact this⟩
theorem cells_ne_slice {w : World} {B b : Nat} {P : List (List UInt8)} {a : Option Addr} {n c : Nat} {e : TypeId} {r : List Value} (h : CellsAt w B 0 P) (hP : P ≠ []) (hb : Blk w b (.slice a n c :: r) e) : b ≠ B := by
  rintro rfl
  have h1 := h.2 0 (List.length_pos_iff.2 hP)
  rw [Nat.zero_add, hb.cell 0 rfl] at h1
  cases h1

set_option maxRecDepth 20000 in
set_option maxHeartbeats 4000000 in
theorem parse_rng (s : ByteArray) (hs : s.size < 4294967281) (w : World) (hm : MaxAt w) (hg : SignsAt w) :
    Calls Tryz.prog 87 #[.string s] w (RngRes s.data.toList w) := by
  have HS := hid (split_any s hs 124)
  have hlen := hid (lenS s)
  unfold RngRes
  have HV := hid (show rngOf s.data.toList = if s.data.toList.length ≤ 80 ∧ (cutl 124 s.data.toList).length ≤ 4 then allOf altOf (cutl 124 s.data.toList) else none from rfl)
  rw [hlen.out] at HV
  have HM := hid (fun p (h : p ∈ cutl 124 s.data.toList) => part_size h)
  have hne := hid (cutl_ne 124 s.data.toList)
  generalize rngOf s.data.toList = R at HV ⊢
  unfold SplitA at HS
  generalize cutl 124 s.data.toList = P at HS HV HM hne
  have hs' := hid hs
  clear hs
  by_cases h80 : (80 : Int) < (s.size : Int)
  · have hr := hid (HV.out.trans (if_neg (by omega)))
    have hn := Blk.new w [.slice none 0 0] 61
    have hn0 := hn.cell 0 rfl
    go_enter Tryz.func87, Tryz.ntmps87
    go_wp2_with fail
    exact bodyPost_ret (v := .tuple #[.agg #[.slice none 0 0], .bool false]) (by simp [results, Tryz.results87, go_sem, hn0]) rfl ⟨below_alloc (Below.refl _ _) _, .inl ⟨hr.out, rfl⟩⟩
  · have hb0 := below_alloc (Below.refl w.heap.size w) (.cells #[.slice none 0 0] 61)
    have hn := hid (Blk.new w [.slice none 0 0] 61)
    by_cases h4 : 4 < P.length
    · have hr := hid (HV.out.trans (if_neg (by omega)))
      have h4' : (4 : Int) < (P.length : Int) := by omega
      replace hb0 := hid hb0
      go_enter Tryz.func87, Tryz.ntmps87
      go_wp2_with fail
      refine (HS.out _ (hm.below hb0.out)).mono ?_
      rintro e w1 ⟨B, rfl, hb1, hc1⟩
      have hn1 := hn.out.below hb1
      have hbz := hid (below_trans hb0.out hb1)
      have c0 := hn1.cell 0 rfl
      have cf := hn1.free
      clear hc1 hb1
      go_wp2_with fail
      have q0 := (hn1.set 0 (.slice none 0 0)).cell 0 rfl
      exact bodyPost_ret (v := .tuple #[.agg #[.slice none 0 0], .bool false]) (by simp [results, Tryz.results87, go_sem, q0]) rfl ⟨hbz.out.setCell (Nat.le_refl _) _, .inl ⟨hr.out, rfl⟩⟩
    · have hr := hid (show R = (allOf altOf (P.drop 0)).map ([] ++ ·) by
        rw [HV.out, if_pos ⟨by omega, by omega⟩, List.drop_zero]; cases allOf altOf P <;> rfl)
      have h4' : ¬ (4 : Int) < (P.length : Int) := by omega
      have h4'' := hid (show P.length ≤ 4 by omega)
      clear HV
      replace hb0 := hid hb0
      go_enter Tryz.func87, Tryz.ntmps87
      go_wp2_with fail
      refine (HS.out _ (hm.below hb0.out)).mono ?_
      rintro e w1 ⟨B, rfl, hb1, hc1⟩
      have hb2 := hid (below_alloc (below_trans hb0.out hb1) (.cells #[.slice none 0 0] 61))
      have hc2 := hid (hc1.below (below_alloc (Below.refl w1.heap.size w1) (.cells #[.slice none 0 0] 61)))
      have hr2 := hid ((hn.out.below hb1).alloc (.cells #[.slice none 0 0] 61))
      have hv2 := hid (Blk.new w1 [.slice none 0 0] 61)
      have l1 := hid (show w.heap.size < w1.heap.size from (hn.out.below hb1).lt)
      clear hb1 hc1 HS h4
      go_wp2_with fail
      clear h4'
      generalize w1.alloc (.cells [.slice none 0 0].toArray 61) = W2 at hb2 hc2 hr2 hv2 ⊢
      generalize w1.heap.size = b5 at hv2 l1 ⊢
      have l5 := hid hv2.out.lt
      have lB := hid hc2.out.1
      generalize hnb : W2.heap.size = nb at l5 lB
      replace hnb := hid hnb
      go_loopw [7, 8, 9, 22] (fun _ _ _ i wr => ∃ (k : Nat) (out : List (List CompT)) (vs : List Value) (o : Value), k ≤ P.length ∧ i = .int .i64 k ∧ Hid (out.length = k) ∧ Hid (Below w.heap.size w wr) ∧ Hid (nb ≤ wr.heap.size) ∧ Hid (CellsAt wr B 0 P) ∧ Hid (Blk wr w.heap.size [.slice none 0 0] 61) ∧ Hid (Blk wr b5 [o] 61) ∧ Hid (wr.ownsRow nb 185 1 o out.length vs) ∧ Hid (out.length = 0 → o.ownBlock = none) ∧ Hid (AltsAt wr vs out) ∧ Hid (R = (allOf altOf (P.drop k)).map (out ++ ·))) (fun _ _ _ i _ => P.length - (intOf i).toNat)
      case atStart => exact ⟨0, [], [], .slice none 0 0, by omega, rfl, hid rfl, hb2, hid (by rw [hnb.out]; exact Nat.le_refl _), hc2, hr2, hv2, hid (World.ownsRow_nil _ _ _ _), hid (fun _ => rfl), hid ⟨rfl, fun k cs h => by simp at h⟩, hr⟩
      case round =>
        obtain ⟨k, out, vs, o, hk, rfl, hol, hb, hnz, hc, hbr, hbv, hown, ho0, hat, hp⟩ := hrel
        clear hr hb2 hc2 hr2 hv2 hn hb0
        obtain ⟨oa, oc, hoe⟩ := own_shape hown.out
        subst hoe
        by_cases hlt : k < P.length
        · have hcell := hc.out.2 k hlt
          rw [Nat.zero_add] at hcell
          have hbl := hc.out.1
          have hx := hid (at_getD ([] : List UInt8) hlt)
          generalize P.getD k [] = x at hcell hx
          have hxl := HM.out x (List.mem_of_getElem? hx.out)
          rw [hlen.out] at hxl
          have HPA := hid (fun w hm hg => parseAlt_any ⟨x.toArray⟩ (sizeL _ _ (by have := hs'.out; omega)) w hm hg)
          unfold AltRes at HPA
          have hst := hid (@allOf_step _ _ altOf P k x hx.out)
          have hmr := hm.below hb.out
          have hgr := hid (hg.below hb.out)
          have k4 : k < 4 := Nat.lt_of_lt_of_le hlt h4''.out
          clear hx hxl
          go_wp2_with fail
          refine (HPA.out _ hmr hgr.out).mono ?_
          rintro e w2 ⟨hb2, hcase⟩
          clear HPA
          rcases hcase with ⟨hcx, rfl⟩ | ⟨cs, v, hcx, rfl, hv⟩
          · have hr := hid (show R = none by
              have : altOf x = none := hcx
              rw [hp.out, hst.out, this]; rfl)
            have hn1 := hbr.out.below hb2
            have hbz := hid (below_trans hb.out hb2)
            have c0 := hn1.cell 0 rfl
            have cf := hn1.free
            clear hst hp hcx hb2 hcell hbl hmr
            go_wp2_with fail
            have q0 := (hn1.set 0 (.slice none 0 0)).cell 0 rfl
            exact bodyPost_ret (v := .tuple #[.agg #[.slice none 0 0], .bool false]) (by simp [results, Tryz.results87, go_sem, q0]) rfl ⟨hbz.out.setCell (Nat.le_refl _) _, .inl ⟨hr.out, rfl⟩⟩
          · have hcx' : altOf x = some cs := hcx
            have hr := hid (show R = (allOf altOf (P.drop (k + 1))).map ((out ++ [cs]) ++ ·) by
              rw [hp.out, hst.out, hcx']
              cases allOf altOf (P.drop (k + 1)) with
              | none => rfl
              | some ys => simp)
            have hcn := hid (show cs ≠ [] by
              have := (altOf_ok hcx').2.1
              intro e; rw [e] at this; simp at this)
            clear hst hp hcx hcx' hcell hbl hmr
            obtain ⟨vB, vc, _, rfl, _, _⟩ := hv.first hcn.out
            replace hv := hid hv
            have hb3 := hid (below_trans hb.out hb2)
            have hc3 := hid (hc.out.below hb2)
            have hbr3 := hid (hbr.out.below hb2)
            have hbv3 := hid (hbv.out.below hb2)
            have hown3 := hid (ownsRow_below hown.out hb2)
            have hat3 := hid (hat.out.below hb2)
            have hnz3 := hid (Nat.le_trans hnz.out hb2.size)
            clear hb hc hbr hbv hown hat hnz hb2
            generalize cs.length = cl at hv ⊢
            obtain ⟨iC, hi, hz0, hz1, hz2⟩ := info_parts infoA
            have hi := hid hi
            have hz0 := hid hz0
            have hz1 := hid hz1
            have hz2 := hid hz2
            generalize hon : out.length = on at hown3 hol ho0 hbv3 ⊢
            replace hon := hid hon
            have on5 := hid (show on ≤ 4 by have := hol.out; omega)
            have d0 := hbv3.out.cell 0 rfl
            have d1 := hbv3.out.lt
            go_wp2_with (at_builtin; refine wpList_append_lies _ rfl _ _ 59 rfl nb 185 iC (.slice none 0 0) 1 24 Tryz.underlying59 hi.out hz0.out hz1.out hz2.out rfl (by decide) _ _ _ rfl (hown3.out.alloc _) ⟨_, 0, none⟩ 1 1 [.slice (some ⟨vB, 0, none⟩) cl vc] rfl rfl ?c1 ?c2 ?cm ?c3 ?c4 ?c5 _ rfl ?_)
            case c1 => exact cell_one_at _ _ _ _ (by simp)
            case c2 => intro u hu; simp at hu; subst hu; rfl
            case cm => decide
            case c3 => have := on5.out; unfold maxLen; omega
            case c4 => have := on5.out; omega
            case c5 => have := hnz3.out; simp; omega
            intro g cap w3 hown4 hgrow hat4 hlt3
            have far := hid (fun (b : Nat) (hb : b < nb) => show some b ≠ (Value.slice oa on oc).ownBlock from fun e => by
              have := (hown3.out.lt b e.symm).1; omega)
            have kp := hid ((below_alloc hb3.out (.cells #[.slice (some ⟨vB, 0, none⟩) cl vc] 185)).grown hgrow (by have := hb3.out.size; simp; omega) (fun k hk => by
              have h1 := (hown3.out.lt k hk).1
              have := l1.out; have := l5.out; omega))
            have hc4 := hid (cells_grown (hc3.out.below (below_alloc (Below.refl _ _) (.cells #[.slice (some ⟨vB, 0, none⟩) cl vc] 185))) hgrow (far.out B lB.out))
            have hbr4 := hid ((hbr3.out.alloc (.cells #[.slice (some ⟨vB, 0, none⟩) cl vc] 185)).grown hgrow (far.out _ (by have := l1.out; have := l5.out; omega)))
            have hbv4 := hid ((hbv3.out.alloc (.cells #[.slice (some ⟨vB, 0, none⟩) cl vc] 185)).grown hgrow (far.out _ l5.out))
            have gr := hid (fun v cs (hne : cs ≠ []) (h : AltAt w2 v cs) => (h.below (below_alloc (Below.refl w2.heap.size w2) (.cells #[.slice (some ⟨vB, 0, none⟩) cl vc] 185))).grown hne (hown3.out.alloc _) hat3.out.slice ho0.out hgrow)
            have hat5 := hid ((hat3.out.map gr.out).push hcn.out (gr.out _ _ hcn.out hv.out))
            have hnz4 := hid (show nb ≤ w3.heap.size from by have := hnz3.out; have := hgrow.size; simp at this; omega)
            replace hown4 := hid hown4
            clear hgrow hat4 hown3 gr far hb3 hc3 hbr3 hbv3 hat3 hnz3 d0 d1 hv
            have e0 := hbv4.out.cell 0 rfl
            have ef := hbv4.out.free
            go_wp2_with fail
            go_roundw
            case rel =>
              refine ⟨k + 1, out ++ [cs], vs ++ [.slice (some ⟨vB, 0, none⟩) cl vc], .slice (some ⟨g, 0, none⟩) (on + 1) cap, by omega, by go_num, hid (by rw [List.length_append, hon.out, hol.out]; rfl), hid (kp.out.setCell (Nat.le_of_lt l1.out) _), hid (by have := hnz4.out; simpa using this), hid (hc4.out.other (cells_ne_slice hc4.out hne.out hbv4.out).symm.symm _), hid (hbr4.out.other (by have := l1.out; show w.heap.size ≠ b5; omega) _), hid (hbv4.out.set 0 _), hid ?_, hid (fun h => by simp at h), hid (hat5.out.map fun v cs hne h => h.other hne hbv4.out _), hr⟩
              rw [List.length_append, hon.out]
              exact ownsRow_setCell_below hown4.out l5.out _
            case measure => simp [intOf]; omega
        · have hke := hid (show k = P.length by omega)
          have hr := hid (show R = some out by
            rw [hp.out, hke.out, List.drop_length]; simp [allOf])
          have h0 := hid (show out.length ≠ 0 by rw [hol.out, hke.out]; have := List.length_pos_iff.2 hne.out; omega)
          obtain ⟨g, cc, hv, q1, q2, q3, q4, q5⟩ := ownsRow_any hown.out h0.out
          cases hv
          have hgb := hid (show w.heap.size < g by have := l1.out; have := l5.out; omega)
          have fin := hid (show RngAt (wr.setCell ⟨w.heap.size, 0, none⟩ (.slice (some ⟨g, 0, none⟩) out.length oc)) (.slice (some ⟨g, 0, none⟩) out.length oc) out from
            ⟨g, oc, vs, rfl, q3, q4, by simpa using q2, fun k x hk => by rw [World.cell?_setCell_other _ _ _ _ (by intro e; injection e with e; have := hgb.out; omega)]; exact q5 k x hk, hat.out.map fun v cs hne h => h.other hne hbr.out _⟩)
          have e0 := hbv.out.cell 0 rfl
          have f0 := hbr.out.cell 0 rfl
          have ff := hbr.out.free
          have hset := hid ((hbr.out.set 0 (.slice (some ⟨g, 0, none⟩) out.length oc)).cell 0 rfl)
          clear hp HM q1 q2 q3 q4 q5
          go_wp2_with fail
          have q0 := hset.out
          exact bodyPost_ret (v := .tuple #[.agg #[.slice (some ⟨g, 0, none⟩) out.length oc], .bool true]) (by simp [results, Tryz.results87, go_sem, q0]) rfl ⟨hb.out.setCell (Nat.le_refl _) _, .inr ⟨out, _, hr.out, rfl, fin.out⟩⟩
end Go.Proofs.YtmeaajhongalaaaGreatDoor.Sp
