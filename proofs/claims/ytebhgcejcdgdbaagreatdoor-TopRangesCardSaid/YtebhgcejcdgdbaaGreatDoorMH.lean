/-
  SEVERAL TEXTS, one behind the other.
-/
import Derived.Test.YtebhgcejcdgdbaaGreatDoorMC
import Derived.Test.YtebhgcejcdgdbaaGreatDoorMG
import Derived.Deep.AppendLies
import Derived.Test.YtebhgcejcdgdbaaGreatDoorShelf
import Derived.Shelf.Strings.BuilderK
import Derived.Test.YtebhgcejcdgdbaaGreatDoorMA
import Derived.Test.YtebhgcejcdgdbaaGreatDoorME
/-
  LAYER 4, PACKAGE spec: parseAlt.
-/
namespace Go.Proofs.YtebhgcejcdgdbaaGreatDoor.Sp
open Go.RowKit
open Go.Proofs.YtebhgcejcdgdbaaGreatDoor Go.Proofs.YtebhgcejcdgdbaaGreatDoor.Nu Go.Proofs.YtebhgcejcdgdbaaGreatDoor.Vs

def compCells (c : CompT) : List Value := [.int .i64 (c.op : Int), .int .i64 (c.a : Int), .int .i64 (c.b : Int), .int .i64 (c.c : Int), .string ⟨c.p.toArray⟩]
def cellsC (cs : List CompT) : List Value := cs.flatMap compCells
theorem cellsC_len (cs : List CompT) : (cellsC cs).length = cs.length * 5 := by
  induction cs with
  | nil => rfl
  | cons c cs ih => unfold cellsC at *; rw [List.flatMap_cons, List.length_append, ih]; simp [compCells]; omega
theorem cellsC_at {cs : List CompT} {k : Nat} {c : CompT} (h : cs[k]? = some c) : ∀ j v, (compCells c)[j]? = some v → (cellsC cs)[k * 5 + j]? = some v := by
  induction cs generalizing k with
  | nil => simp at h
  | cons d cs ih =>
    intro j v hj
    unfold cellsC at *
    rw [List.flatMap_cons]
    cases k with
    | zero =>
      simp at h; subst h
      have hjl := (List.getElem?_eq_some_iff.1 hj).1
      rw [Nat.zero_mul, Nat.zero_add, List.getElem?_append_left hjl]; exact hj
    | succ k =>
      rw [List.getElem?_cons_succ] at h
      have e5 : (compCells d).length = 5 := rfl
      rw [List.getElem?_append_right (by rw [e5]; omega), e5, show (k + 1) * 5 + j - 5 = k * 5 + j by omega]
      exact ih h j v hj

/-- comparisons in memory -/
def AltAt (w : World) (v : Value) (cs : List CompT) : Prop :=
  ∃ B cp, v = .slice (some ⟨B, 0, none⟩) cs.length cp ∧ cs.length ≤ cp ∧ cp ≤ maxLen ∧ B < w.heap.size ∧ ∀ k x, (cellsC cs)[k]? = some x → w.cell? ⟨B, k, none⟩ = some x
theorem AltAt.below {w w' : World} {v : Value} {cs : List CompT} (h : AltAt w v cs) (hb : Below w.heap.size w w') : AltAt w' v cs := by
  obtain ⟨B, cp, h1, h2, h3, h4, h5⟩ := h
  exact ⟨B, cp, h1, h2, h3, Nat.lt_of_lt_of_le h4 hb.size, fun k x hk => by rw [hb.cell h4]; exact h5 k x hk⟩
/-- a row that the call owns: nil, or a block whose first cells are those -/
theorem ownsRow_any {w : World} {base : Nat} {e : TypeId} {size : Nat} {v : Value} {n : Nat} {xs : List Value} (h : w.ownsRow base e size v n xs) (hn : n ≠ 0) :
    ∃ g c, v = .slice (some ⟨g, 0, none⟩) n c ∧ base ≤ g ∧ g < w.heap.size ∧ n ≤ c ∧ c ≤ maxLen ∧ ∀ k x, xs[k]? = some x → w.cell? ⟨g, k, none⟩ = some x := by
  rcases h.2 with ⟨hv, h0⟩ | ⟨g, cap, cur, hv, hg, hh, h1, h2, h3, h4⟩
  · exact absurd h0 hn
  · refine ⟨g, cap, hv, hg, (Array.getElem?_eq_some_iff.1 hh).1, h1, h2, ?_⟩
    intro k x hk
    have := h.cells (g := g) (by rw [hv]; rfl) k x hk
    rwa [addr_add, Nat.zero_add] at this

def AltRes (l : List UInt8) (w : World) (e : Ending) (w' : World) : Prop :=
  Below w.heap.size w w' ∧ ((altOf l = none ∧ e = .returned (.tuple #[.slice none 0 0, .bool false])) ∨ ∃ cs v, altOf l = some cs ∧ e = .returned (.tuple #[v, .bool true]) ∧ AltAt w' v cs)
theorem infoC : (Tryz.prog.info? 40).map (fun i => (i.zero, i.size, i.bytes)) = some (some (.agg #[.int .i64 0, .int .i64 0, .int .i64 0, .int .i64 0, .string ⟨#[]⟩]), 5, 48) := by kernel_rfl

set_option maxRecDepth 20000 in
set_option maxHeartbeats 4000000 in
theorem parseAlt_any (s : ByteArray) (hs : s.size < 4294967281) (w : World) (hm : MaxAt w) (hg : SignsAt w) :
    Calls Tryz.prog 29 #[.string s] w (AltRes s.data.toList w) := by
  have HS := hid (split_any s hs 44)
  have hlen := hid (lenS s)
  unfold AltRes
  have HV := hid (show altOf s.data.toList = if (cutl 44 s.data.toList).length ≤ 4 then allOf compOf (cutl 44 s.data.toList) else none from rfl)
  have HM := hid (fun p (h : p ∈ cutl 44 s.data.toList) => part_size h)
  have hne := hid (cutl_ne 44 s.data.toList)
  generalize altOf s.data.toList = R at HV ⊢
  unfold SplitA at HS
  generalize cutl 44 s.data.toList = P at HS HV HM hne
  have hs' := hid hs
  clear hs
  by_cases h4 : 4 < P.length
  · have hr := hid (HV.out.trans (if_neg (by omega)))
    have h4' : (4 : Int) < (P.length : Int) := by omega
    go_enter Tryz.func29, Tryz.ntmps29
    go_wp2_with (go_at_call 28; (with_reducible refine (HS.out _ hm).mono ?_); rintro e w1 ⟨B, rfl, hb1, hc1⟩)
    go_ret2
    exact ⟨hb1, .inl ⟨hr.out, rfl⟩⟩
  · have hr := hid (show R = (allOf compOf (P.drop 0)).map ([] ++ ·) by
      rw [HV.out, if_pos (by omega), List.drop_zero]; cases allOf compOf P <;> rfl)
    have h4' : ¬ (4 : Int) < (P.length : Int) := by omega
    have h4'' := hid (show P.length ≤ 4 by omega)
    clear HV
    go_enter Tryz.func29, Tryz.ntmps29
    go_wp2_with (go_at_call 28; (with_reducible refine (HS.out _ hm).mono ?_); rintro e w1 ⟨B, rfl, hb1, hc1⟩)
    replace hm := hm.below hb1
    replace hg := hid (hg.below hb1)
    replace hc1 := hid hc1
    replace hb1 := hid hb1
    clear HS h4 h4'
    go_loopw [5, 7, 8, 9, 17] (fun o _ _ _ i wr => ∃ (k : Nat) (out : List CompT), k ≤ P.length ∧ i = .int .i64 k ∧ Hid (out.length = k) ∧ Hid (Below w1.heap.size w1 wr) ∧ Hid (wr.ownsRow w1.heap.size 40 5 o out.length (cellsC out)) ∧ Hid (R = (allOf compOf (P.drop k)).map (out ++ ·))) (fun _ _ _ _ i _ => P.length - (intOf i).toNat)
    case atStart => exact ⟨0, [], by omega, rfl, hid rfl, hid (Below.refl _ _), hid (World.ownsRow_nil _ _ _ _), hr⟩
    case round =>
      obtain ⟨k, out, hk, rfl, hol, hb, hown, hp⟩ := hrel
      clear hr
      obtain ⟨oa, oc, ho⟩ := own_shape hown.out
      subst ho
      by_cases hlt : k < P.length
      · have hcb := hc1.out.below hb.out
        have hcell := hcb.2 k hlt
        rw [Nat.zero_add] at hcell
        have hbl := hcb.1
        have hx := hid (at_getD ([] : List UInt8) hlt)
        generalize P.getD k [] = x at hcell hx
        have hxl := HM.out x (List.mem_of_getElem? hx.out)
        rw [hlen.out] at hxl
        have HPC := hid (fun w hm hg => parseComp_any ⟨x.toArray⟩ (sizeL _ _ (by have := hs'.out; omega)) w hm hg)
        have hst := hid (@allOf_step _ _ compOf P k x hx.out)
        have hmr := hm.below hb.out
        have hgr := hid (hg.out.below hb.out)
        have k4 : k < 4 := Nat.lt_of_lt_of_le hlt h4''.out
        clear hx hxl hcb
        cases hcx : compOf x with
        | none =>
          have hr := hid (show R = none by rw [hp.out, hst.out, hcx]; rfl)
          rw [hcx] at HPC
          unfold compRes compVal at HPC
          clear hst hp hcx
          go_wp2_with (go_at_call 51; (with_reducible refine (HPC.out _ hmr hgr.out).mono ?_); rintro e w2 ⟨rfl, hb2⟩)
          go_ret2
          exact ⟨below_trans hb1.out (below_alloc (below_trans hb.out hb2) _), .inl ⟨hr.out, rfl⟩⟩
        | some c =>
          have hr := hid (show R = (allOf compOf (P.drop (k + 1))).map ((out ++ [c]) ++ ·) by
            rw [hp.out, hst.out, hcx]
            cases allOf compOf (P.drop (k + 1)) with
            | none => rfl
            | some ys => simp)
          rw [hcx] at HPC
          unfold compRes compVal at HPC
          clear hst hp hcx
          have hcells := hid (show cellsC (out ++ [c]) = cellsC out ++ [.int .i64 (c.op : Int), .int .i64 (c.a : Int), .int .i64 (c.b : Int), .int .i64 (c.c : Int), .string ⟨c.p.toArray⟩] by
            unfold cellsC; rw [List.flatMap_append]; simp [compCells])
          simp only at HPC
          generalize (c.op : Int) = x0 at HPC hcells
          generalize (c.a : Int) = x1 at HPC hcells
          generalize (c.b : Int) = x2 at HPC hcells
          generalize (c.c : Int) = x3 at HPC hcells
          generalize (⟨c.p.toArray⟩ : ByteArray) = x4 at HPC hcells
          obtain ⟨iC, hi, hz0, hz1, hz2⟩ := info_parts infoC
          have hi := hid hi
          have hz0 := hid hz0
          have hz1 := hid hz1
          have hz2 := hid hz2
          generalize cellsC out = oc5 at hown hcells
          generalize hon : out.length = on at hown hol ⊢
          replace hon := hid hon
          have on5 := hid (show on ≤ 4 by have := hol.out; omega)
          go_wp2_with (first
            | (go_at_call 51; (with_reducible refine (HPC.out _ hmr hgr.out).mono ?_); rintro e w2 ⟨rfl, hb2⟩)
            | (at_builtin; refine wpList_append_lies _ rfl _ _ 35 rfl w1.heap.size 40 iC (.agg #[.int .i64 0, .int .i64 0, .int .i64 0, .int .i64 0, .string ⟨#[]⟩]) 5 48 Tryz.underlying35 hi.out hz0.out hz1.out hz2.out rfl (by decide) _ _ _ rfl (((ownsRow_below hown.out hb2).alloc _).alloc _) ⟨_, 0, none⟩ 1 1 [.int .i64 x0, .int .i64 x1, .int .i64 x2, .int .i64 x3, .string x4] rfl rfl ?c1 ?c2 ?cm ?c3 ?c4 ?c5 _ rfl ?_))
          case c1 => exact cells_new _ [_, _, _, _, _] _ _ (by simp)
          case c2 => intro u hu; simp at hu; rcases hu with rfl | rfl | rfl | rfl | rfl <;> rfl
          case cm => decide
          case c3 => have := on5.out; unfold maxLen; omega
          case c4 => have := on5.out; omega
          case c5 => have := (below_trans hb.out hb2).size; simp; omega
          intro g cap w3 hown3 hgrow hat hlt3
          have hwl := hid (below_trans hb.out hb2)
          have kp := (below_alloc (below_alloc (below_trans hb.out hb2) (.cells #[.int .i64 x0, .int .i64 x1, .int .i64 x2, .int .i64 x3, .string x4] 40)) (.cells #[.int .i64 x0, .int .i64 x1, .int .i64 x2, .int .i64 x3, .string x4] 40)).grown hgrow (by have := hwl.out.size; simp; omega) (fun k hk => (hown.out.lt k hk).1)
          have HOWN3 := hid hown3
          clear hown3 hgrow hat hown
          go_wp2
          go_roundw
          case rel =>
            refine ⟨k + 1, out ++ [c], by omega, by go_num, hid (by rw [List.length_append, hon.out, hol.out]; rfl), hid kp, hid ?_, hr⟩
            rw [hcells.out, List.length_append, hon.out]
            exact HOWN3.out
          case measure => simp [intOf]; omega
      · have hke := hid (show k = P.length by omega)
        have hr := hid (show R = some out by
          rw [hp.out, hke.out, List.drop_length]; simp [allOf])
        have h0 := hid (show out.length ≠ 0 by rw [hol.out, hke.out]; have := List.length_pos_iff.2 hne.out; omega)
        obtain ⟨g, cc, hv, _, q2, q3, q4, q5⟩ := ownsRow_any hown.out h0.out
        cases hv
        have fin := hid (show AltAt wr (.slice (some ⟨g, 0, none⟩) out.length oc) out from ⟨g, oc, rfl, q3, q4, q2, q5⟩)
        clear hp HM q2 q3 q4 q5
        go_wp2_with fail
        go_ret2
        exact ⟨below_trans hb1.out hb.out, .inr ⟨out, _, hr.out, rfl, fin.out⟩⟩
end Go.Proofs.YtebhgcejcdgdbaaGreatDoor.Sp

/-
  LAYER 4, PACKAGE spec: Parse.
-/
namespace Go.Proofs.YtebhgcejcdgdbaaGreatDoor.Sp
open Go.RowKit
open Go.Proofs.YtebhgcejcdgdbaaGreatDoor Go.Proofs.YtebhgcejcdgdbaaGreatDoor.Nu Go.Proofs.YtebhgcejcdgdbaaGreatDoor.Vs

theorem AltAt.first {w : World} {v : Value} {cs : List CompT} (h : AltAt w v cs) (hne : cs ≠ []) : ∃ B cp x, v = .slice (some ⟨B, 0, none⟩) cs.length cp ∧ B < w.heap.size ∧ w.cell? ⟨B, 0, none⟩ = some (.int .i64 x) := by
  obtain ⟨B, cp, h1, h2, h3, h4, h5⟩ := h
  obtain ⟨c, ds, rfl⟩ := List.exists_cons_of_ne_nil hne
  exact ⟨B, cp, _, h1, h4, h5 0 _ rfl⟩
theorem AltAt.same {w w' : World} {v : Value} {cs : List CompT} (h : AltAt w v cs) (hne : cs ≠ []) (hk : ∀ B x, B < w.heap.size → w.cell? ⟨B, 0, none⟩ = some (.int .i64 x) → B < w'.heap.size ∧ ∀ k, w'.cell? ⟨B, k, none⟩ = w.cell? ⟨B, k, none⟩) : AltAt w' v cs := by
  obtain ⟨B, cp, h1, h2, h3, h4, h5⟩ := h
  obtain ⟨c, ds, rfl⟩ := List.exists_cons_of_ne_nil hne
  obtain ⟨k1, k2⟩ := hk B _ h4 (h5 0 _ rfl)
  exact ⟨B, cp, h1, h2, h3, k1, fun k x hx => by rw [k2]; exact h5 k x hx⟩
theorem AltAt.other {w : World} {v : Value} {cs : List CompT} (h : AltAt w v cs) (hne : cs ≠ []) {b j : Nat} {a : Option Addr} {n c : Nat} {e : TypeId} {r : List Value} (hb : Blk w b (.slice a n c :: r) e) (u : Value) : AltAt (w.setCell ⟨b, j, none⟩ u) v cs := by
  refine h.same hne fun B x hB hx => ?_
  have hn : B ≠ b := by
    rintro rfl
    rw [hb.cell 0 rfl] at hx; cases hx
  exact ⟨by simpa using hB, fun k => World.cell?_setCell_other _ _ _ _ (by intro e; injection e with e; exact hn e.symm)⟩
theorem AltAt.grown {w w' : World} {v : Value} {cs : List CompT} (h : AltAt w v cs) (hne : cs ≠ []) {base n : Nat} {T : TypeId} {rv : Value} {xs : List Value} (ho : w.ownsRow base T 1 rv n xs) (hx : ∀ x, xs[0]? = some x → ∃ a m c, x = .slice a m c) (h0 : n = 0 → rv.ownBlock = none) (hg : w.grownBy w' rv.ownBlock) : AltAt w' v cs := by
  refine h.same hne fun B x hB hcx => ?_
  have hn : some B ≠ rv.ownBlock := by
    intro e
    have hn0 : n ≠ 0 := fun e0 => by rw [h0 e0] at e; cases e
    obtain ⟨g, c, hv, _, _, _, _, h6⟩ := ownsRow_any ho hn0
    rw [hv] at e
    have eg : B = g := by simpa [Value.ownBlock] using e
    subst eg
    have hl : xs.length = n * 1 := ho.1
    have h00 : 0 < xs.length := by omega
    obtain ⟨a, m, cc, ex⟩ := hx xs[0] (List.getElem?_eq_getElem h00)
    have := h6 0 xs[0] (List.getElem?_eq_getElem h00)
    rw [hcx, ex] at this; cases this
  refine ⟨Nat.lt_of_lt_of_le hB hg.size, fun k => ?_⟩
  unfold World.cell?
  simp only [hg.block B hB hn]

/-- alternatives in memory: what the cells of a row hold -/
def AltsAt (w : World) (vs : List Value) (rs : List (List CompT)) : Prop := vs.length = rs.length ∧ ∀ (k : Nat) (cs : List CompT), rs[k]? = some cs → cs ≠ [] ∧ ∃ v, vs[k]? = some v ∧ AltAt w v cs
theorem AltsAt.map {w w' : World} {vs : List Value} {rs : List (List CompT)} (h : AltsAt w vs rs) (hk : ∀ v cs, cs ≠ [] → AltAt w v cs → AltAt w' v cs) : AltsAt w' vs rs :=
  ⟨h.1, fun k cs hc => by obtain ⟨h1, v, h2, h3⟩ := h.2 k cs hc; exact ⟨h1, v, h2, hk v cs h1 h3⟩⟩
theorem AltsAt.below {w w' : World} {vs : List Value} {rs : List (List CompT)} (h : AltsAt w vs rs) (hb : Below w.heap.size w w') : AltsAt w' vs rs := h.map fun _ _ _ h => h.below hb
theorem AltsAt.push {w : World} {vs : List Value} {rs : List (List CompT)} {v : Value} {cs : List CompT} (h : AltsAt w vs rs) (hne : cs ≠ []) (hv : AltAt w v cs) : AltsAt w (vs ++ [v]) (rs ++ [cs]) := by
  refine ⟨by rw [List.length_append, List.length_append, h.1]; rfl, fun k ds hd => ?_⟩
  by_cases hk : k < rs.length
  · rw [List.getElem?_append_left hk] at hd
    obtain ⟨h1, u, h2, h3⟩ := h.2 k ds hd
    exact ⟨h1, u, by rw [List.getElem?_append_left (by rw [h.1]; exact hk)]; exact h2, h3⟩
  · rw [List.getElem?_append_right (by omega)] at hd
    have hk0 : k - rs.length = 0 := by
      have := (List.getElem?_eq_some_iff.1 hd).1
      simp at this; omega
    rw [hk0] at hd
    simp at hd
    subst hd
    exact ⟨hne, v, by rw [List.getElem?_append_right (by rw [h.1]; omega), h.1, hk0]; rfl, hv⟩
theorem AltsAt.slice {w : World} {vs : List Value} {rs : List (List CompT)} (h : AltsAt w vs rs) : ∀ x, vs[0]? = some x → ∃ a m c, x = .slice a m c := by
  intro x hx
  have h0 := (List.getElem?_eq_some_iff.1 hx).1
  have h1 : 0 < rs.length := by rw [← h.1]; exact h0
  obtain ⟨_, v, h2, h3⟩ := h.2 0 rs[0] (List.getElem?_eq_getElem h1)
  rw [hx] at h2
  cases h2
  obtain ⟨B, cp, e, _⟩ := h3
  exact ⟨_, _, _, e⟩
/-- a range's alternatives in memory -/
def RngAt (w : World) (v : Value) (rs : List (List CompT)) : Prop :=
  ∃ G cp vs, v = .slice (some ⟨G, 0, none⟩) rs.length cp ∧ rs.length ≤ cp ∧ cp ≤ maxLen ∧ G < w.heap.size ∧ (∀ k x, vs[k]? = some x → w.cell? ⟨G, k, none⟩ = some x) ∧ AltsAt w vs rs
theorem RngAt.below {w w' : World} {v : Value} {rs : List (List CompT)} (h : RngAt w v rs) (hb : Below w.heap.size w w') : RngAt w' v rs := by
  obtain ⟨G, cp, vs, h1, h2, h3, h4, h5, h6⟩ := h
  exact ⟨G, cp, vs, h1, h2, h3, Nat.lt_of_lt_of_le h4 hb.size, fun k x hk => by rw [hb.cell h4]; exact h5 k x hk, h6.below hb⟩

def RngRes (l : List UInt8) (w : World) (e : Ending) (w' : World) : Prop :=
  Below w.heap.size w w' ∧ ((rngOf l = none ∧ e = .returned (.tuple #[.agg #[.slice none 0 0], .bool false])) ∨ ∃ rs v, rngOf l = some rs ∧ e = .returned (.tuple #[.agg #[v], .bool true]) ∧ RngAt w' v rs)
theorem infoA : (Tryz.prog.info? 35).map (fun i => (i.zero, i.size, i.bytes)) = some (some (.slice none 0 0), 1, 24) := by kernel_rfl

theorem cells_grown {w w' : World} {B o : Nat} {gs : List (List UInt8)} (h : CellsAt w B o gs) {row : Option Nat} (hg : w.grownBy w' row) (hne : some B ≠ row) : CellsAt w' B o gs :=
  ⟨Nat.lt_of_lt_of_le h.1 hg.size, fun k hk => by
    have := h.2 k hk
    unfold World.cell? at this ⊢
    simp only [hg.block B h.1 hne] at this ⊢; exact this⟩
theorem cells_ne_slice {w : World} {B b : Nat} {P : List (List UInt8)} {a : Option Addr} {n c : Nat} {e : TypeId} {r : List Value} (h : CellsAt w B 0 P) (hP : P ≠ []) (hb : Blk w b (.slice a n c :: r) e) : b ≠ B := by
  rintro rfl
  have h1 := h.2 0 (List.length_pos_iff.2 hP)
  rw [Nat.zero_add, hb.cell 0 rfl] at h1
  cases h1

set_option maxRecDepth 20000 in
set_option maxHeartbeats 4000000 in
theorem parse_rng (s : ByteArray) (hs : s.size < 4294967281) (w : World) (hm : MaxAt w) (hg : SignsAt w) :
    Calls Tryz.prog 12 #[.string s] w (RngRes s.data.toList w) := by
  have HS := hid (split_any s hs 124)
  have hlen := hid (lenS s)
  unfold RngRes
  have HV := hid (show rngOf s.data.toList = if s.data.toList.length ≤ 80 ∧ (cutl 124 s.data.toList).length ≤ 4 then allOf altOf (cutl 124 s.data.toList) else none from rfl)
  rw [hlen.out] at HV
  have HM := hid (fun p (h : p ∈ cutl 124 s.data.toList) => part_size h)
  have hne := hid (cutl_ne 124 s.data.toList)
  generalize rngOf s.data.toList = R at HV ⊢
  unfold SplitA at HS
  generalize cutl 124 s.data.toList = P at HS HV HM hne
  have hs' := hid hs
  clear hs
  by_cases h80 : (80 : Int) < (s.size : Int)
  · have hr := hid (HV.out.trans (if_neg (by omega)))
    have hn := Blk.new w [.slice none 0 0] 25
    have hn0 := hn.cell 0 rfl
    go_enter Tryz.func12, Tryz.ntmps12
    go_wp2_with fail
    exact bodyPost_ret (v := .tuple #[.agg #[.slice none 0 0], .bool false]) (by simp [results, Tryz.results12, go_sem, hn0]) rfl ⟨below_alloc (Below.refl _ _) _, .inl ⟨hr.out, rfl⟩⟩
  · have hb0 := below_alloc (Below.refl w.heap.size w) (.cells #[.slice none 0 0] 25)
    have hn := hid (Blk.new w [.slice none 0 0] 25)
    by_cases h4 : 4 < P.length
    · have hr := hid (HV.out.trans (if_neg (by omega)))
      have h4' : (4 : Int) < (P.length : Int) := by omega
      replace hb0 := hid hb0
      go_enter Tryz.func12, Tryz.ntmps12
      go_wp2_with fail
      refine (HS.out _ (hm.below hb0.out)).mono ?_
      rintro e w1 ⟨B, rfl, hb1, hc1⟩
      have hn1 := hn.out.below hb1
      have hbz := hid (below_trans hb0.out hb1)
      have c0 := hn1.cell 0 rfl
      have cf := hn1.free
      clear hc1 hb1
      go_wp2_with fail
      have q0 := (hn1.set 0 (.slice none 0 0)).cell 0 rfl
      exact bodyPost_ret (v := .tuple #[.agg #[.slice none 0 0], .bool false]) (by simp [results, Tryz.results12, go_sem, q0]) rfl ⟨hbz.out.setCell (Nat.le_refl _) _, .inl ⟨hr.out, rfl⟩⟩
    · have hr := hid (show R = (allOf altOf (P.drop 0)).map ([] ++ ·) by
        rw [HV.out, if_pos ⟨by omega, by omega⟩, List.drop_zero]; cases allOf altOf P <;> rfl)
      have h4' : ¬ (4 : Int) < (P.length : Int) := by omega
      have h4'' := hid (show P.length ≤ 4 by omega)
      clear HV
      replace hb0 := hid hb0
      go_enter Tryz.func12, Tryz.ntmps12
      go_wp2_with fail
      refine (HS.out _ (hm.below hb0.out)).mono ?_
      rintro e w1 ⟨B, rfl, hb1, hc1⟩
      have hb2 := hid (below_alloc (below_trans hb0.out hb1) (.cells #[.slice none 0 0] 25))
      have hc2 := hid (hc1.below (below_alloc (Below.refl w1.heap.size w1) (.cells #[.slice none 0 0] 25)))
      have hr2 := hid ((hn.out.below hb1).alloc (.cells #[.slice none 0 0] 25))
      have hv2 := hid (Blk.new w1 [.slice none 0 0] 25)
      have l1 := hid (show w.heap.size < w1.heap.size from (hn.out.below hb1).lt)
      clear hb1 hc1 HS h4
      go_wp2_with fail
      clear h4'
      generalize w1.alloc (.cells [.slice none 0 0].toArray 25) = W2 at hb2 hc2 hr2 hv2 ⊢
      generalize w1.heap.size = b5 at hv2 l1 ⊢
      have l5 := hid hv2.out.lt
      have lB := hid hc2.out.1
      generalize hnb : W2.heap.size = nb at l5 lB
      replace hnb := hid hnb
      go_loopw [7, 8, 9, 22] (fun _ _ _ i wr => ∃ (k : Nat) (out : List (List CompT)) (vs : List Value) (o : Value), k ≤ P.length ∧ i = .int .i64 k ∧ Hid (out.length = k) ∧ Hid (Below w.heap.size w wr) ∧ Hid (nb ≤ wr.heap.size) ∧ Hid (CellsAt wr B 0 P) ∧ Hid (Blk wr w.heap.size [.slice none 0 0] 25) ∧ Hid (Blk wr b5 [o] 25) ∧ Hid (wr.ownsRow nb 35 1 o out.length vs) ∧ Hid (out.length = 0 → o.ownBlock = none) ∧ Hid (AltsAt wr vs out) ∧ Hid (R = (allOf altOf (P.drop k)).map (out ++ ·))) (fun _ _ _ i _ => P.length - (intOf i).toNat)
      case atStart => exact ⟨0, [], [], .slice none 0 0, by omega, rfl, hid rfl, hb2, hid (by rw [hnb.out]; exact Nat.le_refl _), hc2, hr2, hv2, hid (World.ownsRow_nil _ _ _ _), hid (fun _ => rfl), hid ⟨rfl, fun k cs h => by simp at h⟩, hr⟩
      case round =>
        obtain ⟨k, out, vs, o, hk, rfl, hol, hb, hnz, hc, hbr, hbv, hown, ho0, hat, hp⟩ := hrel
        clear hr hb2 hc2 hr2 hv2 hn hb0
        obtain ⟨oa, oc, hoe⟩ := own_shape hown.out
        subst hoe
        by_cases hlt : k < P.length
        · have hcell := hc.out.2 k hlt
          rw [Nat.zero_add] at hcell
          have hbl := hc.out.1
          have hx := hid (at_getD ([] : List UInt8) hlt)
          generalize P.getD k [] = x at hcell hx
          have hxl := HM.out x (List.mem_of_getElem? hx.out)
          rw [hlen.out] at hxl
          have HPA := hid (fun w hm hg => parseAlt_any ⟨x.toArray⟩ (sizeL _ _ (by have := hs'.out; omega)) w hm hg)
          unfold AltRes at HPA
          have hst := hid (@allOf_step _ _ altOf P k x hx.out)
          have hmr := hm.below hb.out
          have hgr := hid (hg.below hb.out)
          have k4 : k < 4 := Nat.lt_of_lt_of_le hlt h4''.out
          clear hx hxl
          go_wp2_with fail
          refine (HPA.out _ hmr hgr.out).mono ?_
          rintro e w2 ⟨hb2, hcase⟩
          clear HPA
          rcases hcase with ⟨hcx, rfl⟩ | ⟨cs, v, hcx, rfl, hv⟩
          · have hr := hid (show R = none by
              have : altOf x = none := hcx
              rw [hp.out, hst.out, this]; rfl)
            have hn1 := hbr.out.below hb2
            have hbz := hid (below_trans hb.out hb2)
            have c0 := hn1.cell 0 rfl
            have cf := hn1.free
            clear hst hp hcx hb2 hcell hbl hmr
            go_wp2_with fail
            have q0 := (hn1.set 0 (.slice none 0 0)).cell 0 rfl
            exact bodyPost_ret (v := .tuple #[.agg #[.slice none 0 0], .bool false]) (by simp [results, Tryz.results12, go_sem, q0]) rfl ⟨hbz.out.setCell (Nat.le_refl _) _, .inl ⟨hr.out, rfl⟩⟩
          · have hcx' : altOf x = some cs := hcx
            have hr := hid (show R = (allOf altOf (P.drop (k + 1))).map ((out ++ [cs]) ++ ·) by
              rw [hp.out, hst.out, hcx']
              cases allOf altOf (P.drop (k + 1)) with
              | none => rfl
              | some ys => simp)
            have hcn := hid (show cs ≠ [] by
              have := (altOf_ok hcx').2.1
              intro e; rw [e] at this; simp at this)
            clear hst hp hcx hcx' hcell hbl hmr
            obtain ⟨vB, vc, _, rfl, _, _⟩ := hv.first hcn.out
            replace hv := hid hv
            have hb3 := hid (below_trans hb.out hb2)
            have hc3 := hid (hc.out.below hb2)
            have hbr3 := hid (hbr.out.below hb2)
            have hbv3 := hid (hbv.out.below hb2)
            have hown3 := hid (ownsRow_below hown.out hb2)
            have hat3 := hid (hat.out.below hb2)
            have hnz3 := hid (Nat.le_trans hnz.out hb2.size)
            clear hb hc hbr hbv hown hat hnz hb2
            generalize cs.length = cl at hv ⊢
            obtain ⟨iC, hi, hz0, hz1, hz2⟩ := info_parts infoA
            have hi := hid hi
            have hz0 := hid hz0
            have hz1 := hid hz1
            have hz2 := hid hz2
            generalize hon : out.length = on at hown3 hol ho0 hbv3 ⊢
            replace hon := hid hon
            have on5 := hid (show on ≤ 4 by have := hol.out; omega)
            have d0 := hbv3.out.cell 0 rfl
            have d1 := hbv3.out.lt
            go_wp2_with (at_builtin; refine wpList_append_lies _ rfl _ _ 23 rfl nb 35 iC (.slice none 0 0) 1 24 Tryz.underlying23 hi.out hz0.out hz1.out hz2.out rfl (by decide) _ _ _ rfl (hown3.out.alloc _) ⟨_, 0, none⟩ 1 1 [.slice (some ⟨vB, 0, none⟩) cl vc] rfl rfl ?c1 ?c2 ?cm ?c3 ?c4 ?c5 _ rfl ?_)
            case c1 => exact cell_one_at _ _ _ _ (by simp)
            case c2 => intro u hu; simp at hu; subst hu; rfl
            case cm => decide
            case c3 => have := on5.out; unfold maxLen; omega
            case c4 => have := on5.out; omega
            case c5 => have := hnz3.out; simp; omega
            intro g cap w3 hown4 hgrow hat4 hlt3
            have far := hid (fun (b : Nat) (hb : b < nb) => show some b ≠ (Value.slice oa on oc).ownBlock from fun e => by
              have := (hown3.out.lt b e.symm).1; omega)
            have kp := hid ((below_alloc hb3.out (.cells #[.slice (some ⟨vB, 0, none⟩) cl vc] 35)).grown hgrow (by have := hb3.out.size; simp; omega) (fun k hk => by
              have h1 := (hown3.out.lt k hk).1
              have := l1.out; have := l5.out; omega))
            have hc4 := hid (cells_grown (hc3.out.below (below_alloc (Below.refl _ _) (.cells #[.slice (some ⟨vB, 0, none⟩) cl vc] 35))) hgrow (far.out B lB.out))
            have hbr4 := hid ((hbr3.out.alloc (.cells #[.slice (some ⟨vB, 0, none⟩) cl vc] 35)).grown hgrow (far.out _ (by have := l1.out; have := l5.out; omega)))
            have hbv4 := hid ((hbv3.out.alloc (.cells #[.slice (some ⟨vB, 0, none⟩) cl vc] 35)).grown hgrow (far.out _ l5.out))
            have gr := hid (fun v cs (hne : cs ≠ []) (h : AltAt w2 v cs) => (h.below (below_alloc (Below.refl w2.heap.size w2) (.cells #[.slice (some ⟨vB, 0, none⟩) cl vc] 35))).grown hne (hown3.out.alloc _) hat3.out.slice ho0.out hgrow)
            have hat5 := hid ((hat3.out.map gr.out).push hcn.out (gr.out _ _ hcn.out hv.out))
            have hnz4 := hid (show nb ≤ w3.heap.size from by have := hnz3.out; have := hgrow.size; simp at this; omega)
            replace hown4 := hid hown4
            clear hgrow hat4 hown3 gr far hb3 hc3 hbr3 hbv3 hat3 hnz3 d0 d1 hv
            have e0 := hbv4.out.cell 0 rfl
            have ef := hbv4.out.free
            go_wp2_with fail
            go_roundw
            case rel =>
              refine ⟨k + 1, out ++ [cs], vs ++ [.slice (some ⟨vB, 0, none⟩) cl vc], .slice (some ⟨g, 0, none⟩) (on + 1) cap, by omega, by go_num, hid (by rw [List.length_append, hon.out, hol.out]; rfl), hid (kp.out.setCell (Nat.le_of_lt l1.out) _), hid (by have := hnz4.out; simpa using this), hid (hc4.out.other (cells_ne_slice hc4.out hne.out hbv4.out).symm.symm _), hid (hbr4.out.other (by have := l1.out; show w.heap.size ≠ b5; omega) _), hid (hbv4.out.set 0 _), hid ?_, hid (fun h => by simp at h), hid (hat5.out.map fun v cs hne h => h.other hne hbv4.out _), hr⟩
              rw [List.length_append, hon.out]
              exact ownsRow_setCell_below hown4.out l5.out _
            case measure => simp [intOf]; omega
        · have hke := hid (show k = P.length by omega)
          have hr := hid (show R = some out by
            rw [hp.out, hke.out, List.drop_length]; simp [allOf])
          have h0 := hid (show out.length ≠ 0 by rw [hol.out, hke.out]; have := List.length_pos_iff.2 hne.out; omega)
          obtain ⟨g, cc, hv, q1, q2, q3, q4, q5⟩ := ownsRow_any hown.out h0.out
          cases hv
          have hgb := hid (show w.heap.size < g by have := l1.out; have := l5.out; omega)
          have fin := hid (show RngAt (wr.setCell ⟨w.heap.size, 0, none⟩ (.slice (some ⟨g, 0, none⟩) out.length oc)) (.slice (some ⟨g, 0, none⟩) out.length oc) out from
            ⟨g, oc, vs, rfl, q3, q4, by simpa using q2, fun k x hk => by rw [World.cell?_setCell_other _ _ _ _ (by intro e; injection e with e; have := hgb.out; omega)]; exact q5 k x hk, hat.out.map fun v cs hne h => h.other hne hbr.out _⟩)
          have e0 := hbv.out.cell 0 rfl
          have f0 := hbr.out.cell 0 rfl
          have ff := hbr.out.free
          have hset := hid ((hbr.out.set 0 (.slice (some ⟨g, 0, none⟩) out.length oc)).cell 0 rfl)
          clear hp HM q1 q2 q3 q4 q5
          go_wp2_with fail
          have q0 := hset.out
          exact bodyPost_ret (v := .tuple #[.agg #[.slice (some ⟨g, 0, none⟩) out.length oc], .bool true]) (by simp [results, Tryz.results12, go_sem, q0]) rfl ⟨hb.out.setCell (Nat.le_refl _) _, .inr ⟨out, _, hr.out, rfl, fin.out⟩⟩
end Go.Proofs.YtebhgcejcdgdbaaGreatDoor.Sp

/-
  strings.Builder's WriteString, held against the shelf's body: a table of numbers and one theorem.
-/
namespace Go.Proofs
open Go.Shelf
def Tryz.l166ren : Go.Shelf.Ren := ⟨fun | 166 => 53 | 240 => 76 | 276 => 90 | n => n, fun | 0 => 0 | 3 => 3 | 4 => 4 | 5 => 5 | 9 => 9 | 20 => 20 | 37 => 89 | 70 => 88 | 72 => 91 | 75 => 93 | 80 => 31 | 164 => 112 | n => n, fun | n => n⟩
theorem Tryz.l166 : Go.Proofs.Lays.n166 Tryz.prog Tryz.l166ren := {
  mixed := by kernel_rfl
  f166 := Tryz.func53.trans (congrArg some (by kernel_rfl))
  f240 := Tryz.func76.trans (congrArg some (by kernel_rfl))
  f276 := Tryz.func90.trans (congrArg some (by kernel_rfl))
  t0 := Tryz.underlying0
  a0 := Tryz.isAgg0
  z0 := Tryz.sizeOf0
  v0 := Tryz.zeroValue0
  t3 := Tryz.underlying3
  a3 := Tryz.isAgg3
  z3 := Tryz.sizeOf3
  v3 := Tryz.zeroValue3
  t4 := Tryz.underlying4
  a4 := Tryz.isAgg4
  z4 := Tryz.sizeOf4
  v4 := Tryz.zeroValue4
  t9 := Tryz.underlying9
  a9 := Tryz.isAgg9
  z9 := Tryz.sizeOf9
  v9 := Tryz.zeroValue9
  t20 := Tryz.underlying20
  a20 := Tryz.isAgg20
  z20 := Tryz.sizeOf20
  v20 := Tryz.zeroValue20
  t37 := Tryz.underlying89
  a37 := Tryz.isAgg89
  z37 := Tryz.sizeOf89
  v37 := Tryz.zeroValue89
  t70 := Tryz.underlying88
  a70 := Tryz.isAgg88
  z70 := Tryz.sizeOf88
  v70 := Tryz.zeroValue88
  t72 := Tryz.underlying91
  a72 := Tryz.isAgg91
  z72 := Tryz.sizeOf91
  v72 := Tryz.zeroValue91
  t75 := Tryz.underlying93
  a75 := Tryz.isAgg93
  z75 := Tryz.sizeOf93
  v75 := Tryz.zeroValue93
  t164 := Tryz.underlying112
  a164 := Tryz.isAgg112
  z164 := Tryz.sizeOf112
  v164 := Tryz.zeroValue112 }
theorem Tryz.x166 : Builder.Extra Tryz.prog Tryz.l166ren := {
  sizeBuilder := by kernel_rfl
  liesBuilder := by kernel_rfl
  t5 := Tryz.underlying5
  a5 := Tryz.isAgg5
  z5 := Tryz.sizeOf5
  v5 := Tryz.zeroValue5
  infoByte := by kernel_rfl
  cellsByte := by kernel_rfl
  sizeByte := by kernel_rfl
  neB5 := by decide }
end Go.Proofs
namespace Go.Proofs.YtebhgcejcdgdbaaGreatDoor
open Go.RowKit
theorem ownsRowF_below {w w' : World} {base : Nat} {e : TypeId} {size : Nat} {v : Value} {n : Nat} {xs : List Value} (h : w.ownsRowF base e size v n xs) (hb : Below w.heap.size w w') : w'.ownsRowF base e size v n xs := by
  refine ⟨h.1, ?_⟩
  rcases h.2 with hn | ⟨g, cap, cur, fz, rfl, hg, hh, rest⟩
  · exact .inl hn
  · exact .inr ⟨g, cap, cur, fz, rfl, hg, by rw [hb.block g (Array.getElem?_eq_some_iff.1 hh).1]; exact hh, rest⟩
theorem builderAt_below {T e : TypeId} {B b : Nat} {p : Value} {bs : List Value} {w w' : World} (h : Lib.BuilderAtF T e B b p bs w) (hb : Below w.heap.size w w') : Lib.BuilderAtF T e B b p bs w' := by
  have hlt := h.lt
  obtain ⟨h1, v, h2, h3, h4⟩ := h
  exact ⟨h1, v, by rw [hb.block b hlt]; exact h2, ownsRowF_below h3 hb, h4⟩
theorem isBuilder_below {T e : TypeId} {B b : Nat} {bs : List Value} {w w' : World} (h : Lib.IsBuilderF T e B b bs w) (hb : Below w.heap.size w w') : Lib.IsBuilderF T e B b bs w' := by
  rcases h with h | h
  · exact .inl (builderAt_below h hb)
  · exact .inr (builderAt_below h hb)
theorem writeString_any (B b : Nat) (bs : List Value) (s : ByteArray) (w : World) (h : Lib.IsBuilderF 91 5 B b bs w) (hlen : bs.length + s.size ≤ 140737488355328) (hBw : B ≤ w.heap.size) :
    Calls Tryz.prog 53 #[.pointer (some ⟨b, 0, none⟩), .string s] w fun e w' => e = .returned (.tuple #[.int .i64 s.size, .nilIface]) ∧ Lib.IsBuilderF 91 5 B b (bs ++ Lib.strCells s) w' ∧ Below B w w' ∧ Lib.OthersKept 5 (some b) w w' :=
  (Any.Builder_WriteString_k Tryz.l166 Tryz.x166 B b bs s w h hlen hBw).mono fun _ _ ⟨a, k, d, o⟩ => ⟨a, .inr k, d, o⟩
theorem builderString_any (B b : Nat) (l : List UInt8) (w : World) (h : Lib.IsBuilderF 91 5 B b (Lib.byteCells l) w) (hBw : B ≤ w.heap.size) :
    Calls Tryz.prog 55 #[.pointer (some ⟨b, 0, none⟩)] w fun e w' => e = .returned (.string ⟨l.toArray⟩) ∧ Below B w w' :=
  (Any.Builder_String_any_k Tryz.lays169 Tryz.Builder_Extra_169 B b l w h hBw).mono fun _ _ ⟨a, _, d, _⟩ => ⟨a, d⟩
/-- a block that holds no bytes, and is not the builder's own, stays -/
theorem Blk.others {w w' : World} {b c : Nat} {xs : List Value} {T : TypeId} (h : Blk w c xs T) (hT : T ≠ 5) (hne : c ≠ b) (ho : Lib.OthersKept 5 (some b) w w') : Blk w' c xs T :=
  ho c _ h (by intro e; exact hne (Option.some.inj e)) (by intro cs fz e; injection e with _ e2 _; exact hT e2)
end Go.Proofs.YtebhgcejcdgdbaaGreatDoor

/-
  LAYER 4, PACKAGE spec: comparisons checked, and written.
-/
namespace Go.Proofs.YtebhgcejcdgdbaaGreatDoor.Sp
open Go.RowKit Go.Sort
open Go.Proofs.YtebhgcejcdgdbaaGreatDoor Go.Proofs.YtebhgcejcdgdbaaGreatDoor.Nu Go.Proofs.YtebhgcejcdgdbaaGreatDoor.Vs

theorem joinl_len {c : UInt8} {n : Nat} : ∀ {ps : List (List UInt8)}, (∀ p, p ∈ ps → p.length ≤ n) → (joinl c ps).length ≤ (n + 1) * ps.length := by
  intro ps
  induction ps with
  | nil => intro _; simp [joinl]
  | cons p ps ih =>
    intro h
    have h1 := h p (by simp)
    have h2 := ih (fun q hq => h q (by simp [hq]))
    by_cases hp : ps = []
    · subst hp
      have : joinl c [p] = p := rfl
      rw [this]; simp; omega
    · rw [joinl_cons hp, List.length_append, List.length_cons, List.length_cons, Nat.mul_succ]; omega
theorem preV_len {p : List UInt8} (h : preV p = true) : p.length ≤ 36 := by
  unfold preV at h
  simp only [Bool.and_eq_true, decide_eq_true_eq] at h
  have hl := joinl_len (c := 46) (n := 8) (ps := cutl 46 p) (fun q hq => by
    have := List.all_eq_true.1 h.2 q hq
    unfold partV at this
    simp only [Bool.and_eq_true, decide_eq_true_eq] at this
    exact this.1.1.2)
  rw [join_cutl] at hl
  omega
theorem pre_len {p : List UInt8} (h : p = [] ∨ preV p = true) : p.length ≤ 36 := by
  rcases h with rfl | h
  · simp
  · exact preV_len h
theorem verCheck (a b c : Nat) (p : List UInt8) (ha : a < 1000000) (hb : b < 1000000) (hc : c < 1000000) (hp : p = [] ∨ preV p = true) (w : World) (hm : MaxAt w) :
    Calls Tryz.prog 18 #[.agg #[.int .i64 (a : Int), .int .i64 (b : Int), .int .i64 (c : Int), .string ⟨p.toArray⟩]] w (Gives (.bool true) w) := by
  have hl := pre_len hp
  have := check_any a b c p (by omega) w hm
  rw [check_nat _ _ _ _ ha hb hc] at this
  rcases hp with hp | hp
  · rw [decide_eq_true hp] at this; exact this
  · rw [hp, Bool.or_true] at this; exact this

set_option maxRecDepth 20000 in
set_option maxHeartbeats 1000000 in
theorem compCheck_any (c : CompT) (hc : OkC c) (w : World) (hm : MaxAt w) :
    Calls Tryz.prog 52 #[.agg #[.int .i64 (c.op : Int), .int .i64 (c.a : Int), .int .i64 (c.b : Int), .int .i64 (c.c : Int), .string ⟨c.p.toArray⟩]] w (Gives (.bool true) w) := by
  rcases hc with ⟨h8, ha, hb, hcc, hp⟩ | rfl
  · have HV := hid (verCheck c.a c.b c.c c.p ha hb hcc hp)
    have e1 : ((c.op : Int) == 8) = false := by rw [beq_eq_false_iff_ne]; omega
    have e2 : (0 : Int) ≤ (c.op : Int) := by omega
    have e3 : (c.op : Int) < 8 := by omega
    clear h8 ha hb hcc hp
    generalize (c.op : Int) = o at e1 e2 e3 ⊢
    generalize (c.a : Int) = x at HV ⊢
    generalize (c.b : Int) = y at HV ⊢
    generalize (c.c : Int) = z at HV ⊢
    generalize (⟨c.p.toArray⟩ : ByteArray) = p at HV ⊢
    have hb0 := below_alloc (Below.refl w.heap.size w) (.cells #[.int .i64 o, .int .i64 x, .int .i64 y, .int .i64 z, .string p] 40)
    go_enter Tryz.func52, Tryz.ntmps52
    go_wp2_with (go_at_call 18; (with_reducible refine (HV.out _ (hm.below hb0)).mono ?_); rintro e w1 ⟨rfl, hb1⟩)
    go_ret
    exact gives rfl rfl (below_trans hb0 hb1)
  · have g2 : Tryz.prog.eqGuardType Tryz.prog.depth 38 = false := by kernel_rfl
    show Calls Tryz.prog 52 #[.agg #[.int .i64 8, .int .i64 0, .int .i64 0, .int .i64 0, .string ⟨#[]⟩]] w (Gives (.bool true) w)
    go_enter Tryz.func52, Tryz.ntmps52
    go_wp2_with fail
    go_ret
    exact gives rfl rfl (below_alloc (Below.refl _ _) _)

theorem elem_cells {w : World} {B : Nat} {cs : List CompT} (h : ∀ k x, (cellsC cs)[k]? = some x → w.cell? ⟨B, k, none⟩ = some x) {k : Nat} {c : CompT} (hk : cs[k]? = some c) :
    w.cell? ⟨B, k * 5, none⟩ = some (.int .i64 (c.op : Int)) ∧ w.cell? ⟨B, k * 5 + 1, none⟩ = some (.int .i64 (c.a : Int)) ∧ w.cell? ⟨B, k * 5 + 2, none⟩ = some (.int .i64 (c.b : Int)) ∧ w.cell? ⟨B, k * 5 + 3, none⟩ = some (.int .i64 (c.c : Int)) ∧ w.cell? ⟨B, k * 5 + 4, none⟩ = some (.string ⟨c.p.toArray⟩) :=
  ⟨h _ _ (cellsC_at hk 0 _ rfl), h _ _ (cellsC_at hk 1 _ rfl), h _ _ (cellsC_at hk 2 _ rfl), h _ _ (cellsC_at hk 3 _ rfl), h _ _ (cellsC_at hk 4 _ rfl)⟩

set_option maxRecDepth 20000 in
set_option maxHeartbeats 1000000 in
theorem checkAlt_any (cs : List CompT) (v : Value) (h1 : 1 ≤ cs.length) (h4 : cs.length ≤ 4) (hok : ∀ c, c ∈ cs → OkC c) (w : World) (hm : MaxAt w) (ha : AltAt w v cs) :
    Calls Tryz.prog 32 #[v] w (Gives (.bool true) w) := by
  obtain ⟨B, cp, rfl, hl, hcm, hB, hcells⟩ := ha
  have HK := hid (fun c hc w hm => compCheck_any c (hok c hc) w hm)
  have hcs := hid hcells
  replace hok := hid hok
  clear hcells
  have hB' := hid hB
  clear hB
  go_enter Tryz.func32, Tryz.ntmps32
  go_wp2_with fail
  go_loopw [4, 15] (fun _ i wr => ∃ k : Nat, k ≤ cs.length ∧ i = .int .i64 k ∧ Hid (Below w.heap.size w wr)) (fun _ i _ => cs.length - (intOf i).toNat)
  case atStart => exact ⟨0, by omega, rfl, hid (Below.refl _ _)⟩
  case round =>
    obtain ⟨k, hk, rfl, hb⟩ := hrel
    by_cases hlt : k < cs.length
    · have hx := hid (List.getElem?_eq_getElem hlt)
      generalize cs[k] = c at hx
      have hce := elem_cells (w := wr) (fun k x hk => by rw [hb.out.cell hB'.out]; exact hcs.out k x hk) hx.out
      obtain ⟨c0, c1, c2, c3, c4⟩ := hce
      have hbl := Nat.lt_of_lt_of_le hB'.out hb.out.size
      have HKc := hid (HK.out c (List.mem_of_getElem? hx.out))
      have k4 : k < 4 := Nat.lt_of_lt_of_le hlt h4
      clear HK hok hx
      generalize (c.op : Int) = o at *
      generalize (c.a : Int) = x at *
      generalize (c.b : Int) = y at *
      generalize (c.c : Int) = z at *
      generalize (⟨c.p.toArray⟩ : ByteArray) = p at *
      have hb0 := hid (below_alloc hb.out (.cells #[.int .i64 o, .int .i64 x, .int .i64 y, .int .i64 z, .string p] 40))
      go_wp2_with (go_at_call 52; (with_reducible refine (HKc.out _ (hm.below hb0.out)).mono ?_); rintro e w1 ⟨rfl, hb1⟩)
      go_roundw
      case rel => exact ⟨k + 1, by omega, by go_num, hid (below_trans hb0.out hb1)⟩
      case measure => simp [intOf]; omega
    · go_wp2_with fail
      go_ret
      exact gives rfl rfl hb.out

theorem text_len (n : Nat) (h : n < 1000000) : (decS n).length ≤ 6 := by
  have := dec_six n h
  have e : (⟨(decS n).toArray⟩ : ByteArray).size = (decS n).length := by show (decS n).toArray.size = _; simp
  omega
theorem compText_len {c : CompT} (h : OkC c) : (compText c).length ≤ 59 := by
  rcases h with ⟨h8, ha, hb, hc, hp⟩ | rfl
  · have h1 := text_len _ ha
    have h2 := text_len _ hb
    have h3 := text_len _ hc
    have h4 := pre_len hp
    have hs : (sgn c.op).length ≤ 2 := by
      unfold sgn; split <;> simp
    unfold compText textV textN
    rw [if_neg (by omega)]
    split <;> simp <;> omega
  · decide

set_option maxRecDepth 20000 in
set_option maxHeartbeats 1000000 in
theorem compWrite_any (c : CompT) (hc : OkC c) (w : World) (hm : MaxAt w) (ht : TenAt w) (hg : SignsAt w) :
    Calls Tryz.prog 54 #[.agg #[.int .i64 (c.op : Int), .int .i64 (c.a : Int), .int .i64 (c.b : Int), .int .i64 (c.c : Int), .string ⟨c.p.toArray⟩]] w (Gives (.string ⟨(compText c).toArray⟩) w) := by
  rcases hc with ⟨h8, ha, hb, hcc, hp⟩ | rfl
  · have hsl := pre_len hp
    have HT := hid (fun w hm ht => text_yes c.a c.b c.c c.p (by omega) ha hb hcc hp w hm ht)
    have e1 : ((c.op : Int) == 8) = false := by rw [beq_eq_false_iff_ne]; omega
    have e2 : (0 : Int) ≤ (c.op : Int) := by omega
    have e3 : (c.op : Int) < 9 := by omega
    have hs : (sgn c.op).length ≤ 2 := by unfold sgn; split <;> simp
    have hsz1 : (⟨(sgn c.op).toArray⟩ : ByteArray).size ≤ 2 := by show (sgn c.op).toArray.size ≤ 2; simpa using hs
    have hsz2 : (⟨(textV c.a c.b c.c c.p).toArray⟩ : ByteArray).size ≤ 60 := by
      show (textV c.a c.b c.c c.p).toArray.size ≤ 60
      have h1 := text_len _ ha
      have h2 := text_len _ hb
      have h3 := text_len _ hcc
      unfold textV textN
      split <;> simp <;> omega
    have HR := hid (show (⟨(compText c).toArray⟩ : ByteArray) = ⟨(sgn c.op).toArray⟩ ++ ⟨(textV c.a c.b c.c c.p).toArray⟩ by
      rw [bytes_append]; unfold compText; rw [if_neg (by omega)])
    have hb0 := below_alloc (Below.refl w.heap.size w) (.cells #[.int .i64 (c.op : Int), .int .i64 (c.a : Int), .int .i64 (c.b : Int), .int .i64 (c.c : Int), .string ⟨c.p.toArray⟩] 40)
    have hg1 := hg.below hb0
    have g1 := hg1.1
    have g2 := hg1.2 c.op (by omega)
    have hn := Blk.new w [.int .i64 (c.op : Int), .int .i64 (c.a : Int), .int .i64 (c.b : Int), .int .i64 (c.c : Int), .string ⟨c.p.toArray⟩] 40
    clear h8 ha hb hcc hp hs hsl
    generalize (⟨(compText c).toArray⟩ : ByteArray) = RT at HR ⊢
    generalize (⟨(sgn c.op).toArray⟩ : ByteArray) = SG at HR g2 hsz1
    generalize (⟨(textV c.a c.b c.c c.p).toArray⟩ : ByteArray) = TX at HR HT hsz2
    generalize (c.a : Int) = x at *
    generalize (c.b : Int) = y at *
    generalize (c.c : Int) = z at *
    generalize (⟨c.p.toArray⟩ : ByteArray) = p at *
    replace hn := hid hn
    replace hb0 := hid hb0
    replace hg1 := hid hg1
    go_enter Tryz.func54, Tryz.ntmps54
    go_wp2_with fail
    generalize w.alloc (.cells [.int .i64 (c.op : Int), .int .i64 x, .int .i64 y, .int .i64 z, .string p].toArray 40) = W at hn hb0 hg1 g1 g2 ⊢
    generalize w.heap.size = b at hn ⊢
    have k0 := cell_regrown (hn.out.cell 0 rfl)
    have k1 := cell_regrown (hn.out.cell 1 rfl)
    have k2 := cell_regrown (hn.out.cell 2 rfl)
    have k3 := cell_regrown (hn.out.cell 3 rfl)
    have k4 := cell_regrown (hn.out.cell 4 rfl)
    have k5 := cell_regrown g2
    have q0 := hid (show ∀ d os, Calls Tryz.prog 25 #[.agg #[.int .i64 x, .int .i64 y, .int .i64 z, .string p]] (grow (redrawn W d) os) fun e w'' => e = .returned (.string TX) ∧ ∃ p : Regrown, w'' = grow (redrawn W p.d) p.os from fun d os => Calls.regrown_of (HT.out _ (hm.below (below_trans hb0.out (below_regrown W d os))) (ht.below (below_trans hb0.out (below_regrown W d os)))))
    have n1 : ¬ 9223372036854775807 < SG.size + TX.size := by omega
    refine wp_region_quiet_below (by kernel_rfl) (by kernel_rfl) ?_
    repeat (quiet_step (first | with_reducible exact q0.out _ _))
    refine wpQuiet_nil ?_
    intro _ hw'
    obtain ⟨⟨dq, osq⟩, hw''⟩ := hw'
    subst hw''
    have hbz := below_trans hb0.out (below_regrown W dq osq)
    clear k0 k1 k2 k3 k4 k5 q0
    show Exit.then _ _ Exit.normal _ (grow (redrawn W dq) osq)
    generalize grow (redrawn W dq) osq = W5 at hbz ⊢
    go_wp2_with fail
    go_ret
    exact gives rfl (Cb.str_eq HR.out.symm) hbz
  · have hb0 := below_alloc (Below.refl w.heap.size w) (.cells #[.int .i64 8, .int .i64 0, .int .i64 0, .int .i64 0, .string ⟨#[]⟩] 40)
    have hg1 := hg.below hb0
    have g1 := hg1.1
    have g2 := hg1.2 8 (by omega)
    rw [show (sgn 8) = [42] from rfl] at g2
    show Calls Tryz.prog 54 #[.agg #[.int .i64 8, .int .i64 0, .int .i64 0, .int .i64 0, .string ⟨#[]⟩]] w (Gives (.string ⟨#[42]⟩) w)
    replace hg1 := hid hg1
    replace hb0 := hid hb0
    go_enter Tryz.func54, Tryz.ntmps54
    go_wp2_with fail
    go_ret
    exact gives rfl rfl hb0.out
end Go.Proofs.YtebhgcejcdgdbaaGreatDoor.Sp

/-
  LAYER 4, PACKAGE spec: a range's text; Check.
-/
namespace Go.Proofs.YtebhgcejcdgdbaaGreatDoor.Sp
open Go.RowKit Go.Sort
open Go.Proofs.YtebhgcejcdgdbaaGreatDoor Go.Proofs.YtebhgcejcdgdbaaGreatDoor.Nu Go.Proofs.YtebhgcejcdgdbaaGreatDoor.Vs

theorem bytes_app (l m : List UInt8) : Lib.byteCells (l ++ m) = Lib.byteCells l ++ Lib.byteCells m := by simp [Lib.byteCells]
theorem strCells_l (m : List UInt8) : Lib.strCells ⟨m.toArray⟩ = Lib.byteCells m := rfl

/-- the text of the first so many -/
def upTo (c : UInt8) (ts : List (List UInt8)) (k : Nat) : List UInt8 := joinl c (ts.take k)
theorem upTo_zero (c : UInt8) (ts : List (List UInt8)) : upTo c ts 0 = [] := rfl
theorem upTo_one {c : UInt8} {ts : List (List UInt8)} {t : List UInt8} (h : ts[0]? = some t) : upTo c ts 1 = t := by
  unfold upTo
  cases ts with
  | nil => simp at h
  | cons a ts => simp at h; subst h; rfl
theorem upTo_more {c : UInt8} {ts : List (List UInt8)} {k : Nat} {t : List UInt8} (h : ts[k]? = some t) (hk : 0 < k) : upTo c ts (k + 1) = upTo c ts k ++ c :: t := by
  unfold upTo
  rw [List.take_add_one, h]
  show joinl c (ts.take k ++ [t]) = _
  have hkl := (List.getElem?_eq_some_iff.1 h).1
  rw [joinl_snoc]
  · intro e
    have := congrArg List.length e
    rw [List.length_take, List.length_nil] at this
    omega
theorem upTo_all (c : UInt8) (ts : List (List UInt8)) : upTo c ts ts.length = joinl c ts := by unfold upTo; rw [List.take_length]
theorem upTo_len {c : UInt8} {n k : Nat} {ts : List (List UInt8)} (h : ∀ p, p ∈ ts → p.length ≤ n) (hl : ts.length ≤ 4) : (upTo c ts k).length ≤ (n + 1) * 4 := by
  unfold upTo
  have h1 := joinl_len (c := c) (n := n) (ps := ts.take k) (fun p hp => h p (List.mem_of_mem_take hp))
  have h2 : (ts.take k).length ≤ 4 := by rw [List.length_take]; omega
  exact Nat.le_trans h1 (Nat.mul_le_mul_left _ h2)

theorem altText_len {cs : List CompT} (h4 : cs.length ≤ 4) (h : ∀ c, c ∈ cs → OkC c) : (altText cs).length ≤ 240 := by
  unfold altText
  have := joinl_len (c := 44) (n := 59) (ps := cs.map compText) (fun p hp => by
    obtain ⟨c, hc, rfl⟩ := List.mem_map.1 hp
    exact compText_len (h c hc))
  rw [List.length_map] at this
  omega

set_option maxRecDepth 20000 in
set_option maxHeartbeats 8000000 in
theorem write_any (rs : List (List CompT)) (v : Value) (h4 : rs.length ≤ 4) (hok : ∀ cs, cs ∈ rs → 1 ≤ cs.length ∧ cs.length ≤ 4 ∧ ∀ c, c ∈ cs → OkC c) (w : World) (hm : MaxAt w) (ht : TenAt w) (hg : SignsAt w) (hr : RngAt w v rs) :
    Calls Tryz.prog 33 #[.agg #[v]] w (Gives (.string ⟨(rngText rs).toArray⟩) w) := by
  obtain ⟨G, cp, vs, rfl, hl, hcm, hG, hcells, hat⟩ := hr
  have HW := hid (fun c hc w hm ht hg => compWrite_any c hc w hm ht hg)
  replace hok := hid hok
  replace hcells := hid hcells
  replace hat := hid hat
  replace hG := hid hG
  have hGz := hid (Nat.lt_of_lt_of_le hG.out (below_alloc (Below.refl w.heap.size w) (.cells #[.slice (some ⟨G, 0, none⟩) rs.length cp] 25)).size)
  have HB0 := hid (Lib.IsBuilderF.of (Lib.fresh_isBuilder 91 5 (w.alloc (.cells #[.slice (some ⟨G, 0, none⟩) rs.length cp] 25))))
  have hbs := hid (below_alloc (below_alloc (Below.refl w.heap.size w) (.cells #[.slice (some ⟨G, 0, none⟩) rs.length cp] 25)) (.cells #[.pointer none, .slice none 0 0] 91))
  have hsz1 : (w.alloc (.cells #[.slice (some ⟨G, 0, none⟩) rs.length cp] 25)).heap.size = w.heap.size + 1 := by simp
  rw [hsz1] at HB0
  clear hsz1
  go_enter Tryz.func33, Tryz.ntmps33
  go_wp2_with fail
  go_loopw [4, 5, 6, 7, 11] (fun _ _ _ _ i wr => ∃ k : Nat, k ≤ rs.length ∧ i = .int .i64 k ∧ Hid (Below w.heap.size w wr) ∧ Hid (w.heap.size + 1 < wr.heap.size) ∧ Hid (Lib.IsBuilderF 91 5 (w.heap.size + 1) (w.heap.size + 1) (Lib.byteCells (upTo 124 (rs.map altText) k)) wr)) (fun _ _ _ _ i _ => rs.length - (intOf i).toNat)
  case atStart => exact ⟨0, by omega, rfl, hbs, hid (by simp), HB0⟩
  case round =>
    obtain ⟨k, hk, rfl, hb, hz, hi⟩ := hrel
    clear HB0 hbs
    by_cases hlt : k < rs.length
    · have hx := hid (List.getElem?_eq_getElem hlt)
      generalize rs[k] = cs at hx
      obtain ⟨hcne, v, hv, hva⟩ := hat.out.2 k cs hx.out
      obtain ⟨Bk, cpk, rfl, hlk, hcmk, hBk, hck⟩ := hva
      have hce := hcells.out k _ hv
      rw [← hb.out.cell hG.out] at hce
      have hbl := Nat.lt_of_lt_of_le hG.out hb.out.size
      replace hBk := hid hBk
      replace hck := hid hck
      have hokc := hid (hok.out cs (List.mem_of_getElem? hx.out))
      have hxt := hid (show (rs.map altText)[k]? = some (altText cs) by rw [List.getElem?_map, hx.out]; rfl)
      have k4 : k < 4 := Nat.lt_of_lt_of_le hlt h4
      have htl := hid (show (upTo 124 (rs.map altText) k).length ≤ 964 from upTo_len (n := 240) (fun p hp => by
        obtain ⟨c', hc', rfl⟩ := List.mem_map.1 hp
        exact altText_len (hok.out c' hc').2.1 (hok.out c' hc').2.2) (by rw [List.length_map]; exact h4))
      clear hv hx hlk hcmk hcne
      by_cases hk0 : k = 0
      · have hout := hid (show ([] : List UInt8) ++ joinl 44 (cs.map compText) = upTo 124 (rs.map altText) (k + 1) by
          subst hk0; rw [upTo_one hxt.out]; rfl)
        have hPl := hid (show ([] : List UInt8).length ≤ 1000 by simp)
        have INI := hid (show Lib.IsBuilderF 91 5 (w.heap.size + 1) (w.heap.size + 1) (Lib.byteCells ([] : List UInt8)) wr by
          have := hi.out; rw [hk0, upTo_zero] at this; exact this)
        have INB := hb
        have INZ := hz
        have kI : ¬ (0 : Int) < (k : Int) := by omega
        clear hk0 hi hxt
        go_wp2_with fail
        go_loopw [6, 7, 21] (fun _ _ j wz => ∃ jj : Nat, jj ≤ cs.length ∧ j = .int .i64 jj ∧ Hid (Below w.heap.size w wz) ∧ Hid (w.heap.size + 1 < wz.heap.size) ∧ Hid (Lib.IsBuilderF 91 5 (w.heap.size + 1) (w.heap.size + 1) (Lib.byteCells (([] : List UInt8) ++ upTo 44 (cs.map compText) jj)) wz)) (fun _ _ j _ => cs.length - (intOf j).toNat)
        case atStart => exact ⟨0, by omega, rfl, INB, INZ, hid (by rw [upTo_zero, List.append_nil]; exact INI.out)⟩
        case round =>
          obtain ⟨jj, hj, rfl, hbj, hzj, hij⟩ := hrel
          clear INB INZ INI
          by_cases hltj : jj < cs.length
          · have hx := hid (List.getElem?_eq_getElem hltj)
            generalize cs[jj] = c at hx
            have hbl := Nat.lt_of_lt_of_le hBk.out hbj.out.size
            obtain ⟨c0, c1, c2, c3, c4⟩ := elem_cells (w := wr) (fun k x hk => by rw [hbj.out.cell hBk.out]; exact hck.out k x hk) hx.out
            have hxt := hid (show (cs.map compText)[jj]? = some (compText c) by rw [List.getElem?_map, hx.out]; rfl)
            have HWc := hid (HW.out c (hokc.out.2.2 c (List.mem_of_getElem? hx.out)))
            have hcl := hid (compText_len (hokc.out.2.2 c (List.mem_of_getElem? hx.out)))
            have hul := hid (show (upTo 44 (cs.map compText) jj).length ≤ 240 from upTo_len (n := 59) (fun p hp => by
              obtain ⟨c', hc', rfl⟩ := List.mem_map.1 hp
              exact compText_len (hokc.out.2.2 c' hc')) (by rw [List.length_map]; exact hokc.out.2.1))
            have jj4 : jj < 4 := Nat.lt_of_lt_of_le hltj hokc.out.2.1
            generalize hU : upTo 44 (cs.map compText) jj = U at hij hul
            replace hU := hid hU
            have hCT := hid (show (compText c).length ≤ 59 from hcl.out)
            generalize hcq : compText c = CT at HWc hxt hCT
            replace hcq := hid hcq
            have hctz := hid (show (⟨CT.toArray⟩ : ByteArray).size ≤ 59 by show CT.toArray.size ≤ 59; simpa using hCT.out)
            clear hx hcl
            generalize (c.op : Int) = o at *
            generalize (c.a : Int) = x at *
            generalize (c.b : Int) = y at *
            generalize (c.c : Int) = z at *
            generalize (⟨c.p.toArray⟩ : ByteArray) = p at *
            have hbb := hid (below_alloc hbj.out (.cells #[.int .i64 o, .int .i64 x, .int .i64 y, .int .i64 z, .string p] 40))
            have hib := hid (isBuilder_below hij.out (below_alloc (Below.refl _ _) (.cells #[.int .i64 o, .int .i64 x, .int .i64 y, .int .i64 z, .string p] 40)))
            have hzb := hid (show w.heap.size + 1 < (wr.alloc (.cells #[.int .i64 o, .int .i64 x, .int .i64 y, .int .i64 z, .string p] 40)).heap.size by have := hzj.out; simp; omega)
            have hnb := hid (Blk.new wr [.int .i64 o, .int .i64 x, .int .i64 y, .int .i64 z, .string p] 40)
            have hnl := hid (show w.heap.size + 1 < wr.heap.size from hzj.out)
            by_cases hj0 : jj = 0
            · have hfin := hid (show ([] : List UInt8) ++ upTo 44 (cs.map compText) (jj + 1) = (([] : List UInt8) ++ U) ++ CT by
                subst hj0
                rw [upTo_one hxt.out, ← hU.out, upTo_zero, List.append_nil])
              have jI : ¬ (0 : Int) < (jj : Int) := by omega
              clear hj0 hU hxt hij hcq
              go_wp2_with (go_at_call 54; (with_reducible refine (HWc.out _ (hm.below hbb.out) (ht.below hbb.out) (hg.below hbb.out)).mono ?_); rintro e wa ⟨rfl, hba⟩)
              refine (writeString_any (w.heap.size + 1) (w.heap.size + 1) (Lib.byteCells (([] : List UInt8) ++ U)) ⟨CT.toArray⟩ wa (isBuilder_below hib.out hba) (by rw [Lib.byteCells_length, List.length_append]; have := hul.out; have := hctz.out; have := hPl.out; omega) (Nat.le_of_lt (Nat.lt_of_lt_of_le hzb.out hba.size))).mono ?_
              rintro e wb ⟨rfl, hIb, hBb, _⟩
              go_wp2_with fail
              go_roundw
              case rel => exact ⟨jj + 1, by omega, by go_num, hid ((below_trans hbb.out hba).trans (hBb.mono (Nat.le_succ _))), hid (Nat.lt_of_lt_of_le (Nat.lt_of_lt_of_le hzb.out hba.size) hBb.size), hid (by rw [hfin.out, bytes_app]; exact hIb)⟩
              case measure => simp [intOf]; omega
            · have hfin := hid (show ([] : List UInt8) ++ upTo 44 (cs.map compText) (jj + 1) = ((([] : List UInt8) ++ U) ++ [44]) ++ CT by
                rw [upTo_more hxt.out (by omega), hU.out]; simp)
              have jI : (0 : Int) < (jj : Int) := by omega
              clear hj0 hU hxt hij hcq
              go_wp2_with fail
              generalize wr.alloc (.cells [.int .i64 o, .int .i64 x, .int .i64 y, .int .i64 z, .string p].toArray 40) = WA at hbb hib hzb hnb ⊢
              generalize wr.heap.size = bc at hnb hnl ⊢
              refine (writeString_any (w.heap.size + 1) (w.heap.size + 1) (Lib.byteCells (([] : List UInt8) ++ U)) ⟨#[44]⟩ WA hib.out (by rw [Lib.byteCells_length, List.length_append]; have := hul.out; have := hPl.out; have e1 : (⟨#[44]⟩ : ByteArray).size = 1 := rfl; omega) (Nat.le_of_lt hzb.out)).mono ?_
              rintro e wa ⟨rfl, hIa, hBa, hOa⟩
              have hb2 := hid (hbb.out.trans (hBa.mono (Nat.le_succ _)))
              have hn2 := hid (show Blk wa bc [.int .i64 o, .int .i64 x, .int .i64 y, .int .i64 z, .string p] 40 from hnb.out.others (by decide) (by have := hnl.out; omega) hOa)
              have hz2 := hid (Nat.lt_of_lt_of_le hzb.out hBa.size)
              have r0 := hn2.out.cell 0 rfl
              have r1 := hn2.out.cell 1 rfl
              have r2 := hn2.out.cell 2 rfl
              have r3 := hn2.out.cell 3 rfl
              have r4 := hn2.out.cell 4 rfl
              clear c0 c1 c2 c3 c4 hBa hib hnb hbb hzb
              go_wp2_with (go_at_call 54; (with_reducible refine (HWc.out _ (hm.below hb2.out) (ht.below hb2.out) (hg.below hb2.out)).mono ?_); rintro e wc ⟨rfl, hbc⟩)
              refine (writeString_any (w.heap.size + 1) (w.heap.size + 1) (Lib.byteCells ((([] : List UInt8) ++ U) ++ [44])) ⟨CT.toArray⟩ wc (isBuilder_below (by rw [bytes_app]; exact hIa) hbc) (by rw [Lib.byteCells_length, List.length_append, List.length_append]; have := hul.out; have := hctz.out; have := hPl.out; simp; omega) (Nat.le_of_lt (Nat.lt_of_lt_of_le hz2.out hbc.size))).mono ?_
              rintro e wd ⟨rfl, hId, hBd, _⟩
              go_wp2_with fail
              go_roundw
              case rel => exact ⟨jj + 1, by omega, by go_num, hid ((below_trans hb2.out hbc).trans (hBd.mono (Nat.le_succ _))), hid (Nat.lt_of_lt_of_le (Nat.lt_of_lt_of_le hz2.out hbc.size) hBd.size), hid (by rw [hfin.out, bytes_app]; exact hId)⟩
              case measure => simp [intOf]; omega
          · have hje : jj = cs.length := by omega
            have hfin := hid (show ([] : List UInt8) ++ upTo 44 (cs.map compText) jj = upTo 124 (rs.map altText) (k + 1) by
              rw [hje, show cs.length = (cs.map compText).length by simp, upTo_all]
              exact hout.out)
            rw [hfin.out] at hij
            clear hfin hje
            go_wp2_with fail
            go_roundw
            case rel => exact ⟨k + 1, by omega, by go_num, hbj, hzj, hij⟩
            case measure => simp [intOf]; omega
      · have hout := hid (show (upTo 124 (rs.map altText) k ++ [124]) ++ joinl 44 (cs.map compText) = upTo 124 (rs.map altText) (k + 1) by
          rw [upTo_more hxt.out (by omega)]; simp [altText])
        have hPl := hid (show (upTo 124 (rs.map altText) k ++ [124]).length ≤ 1000 by rw [List.length_append]; have := htl.out; simp; omega)
        have kI : (0 : Int) < (k : Int) := by omega
        clear hk0 hxt
        go_wp2_with fail
        refine (writeString_any (w.heap.size + 1) (w.heap.size + 1) _ ⟨#[124]⟩ wr hi.out (by rw [Lib.byteCells_length]; have := htl.out; have e1 : (⟨#[124]⟩ : ByteArray).size = 1 := rfl; omega) (Nat.le_of_lt hz.out)).mono ?_
        rintro e wq ⟨rfl, hIq, hBq, _⟩
        have INI := hid (show Lib.IsBuilderF 91 5 (w.heap.size + 1) (w.heap.size + 1) (Lib.byteCells (upTo 124 (rs.map altText) k ++ [124])) wq by rw [bytes_app]; exact hIq)
        have INB := hid (hb.out.trans (hBq.mono (Nat.le_succ _)))
        have INZ := hid (Nat.lt_of_lt_of_le hz.out hBq.size)
        clear hi hIq hBq hce hbl
        generalize hPP : upTo 124 (rs.map altText) k ++ [124] = PP at INI hPl hout
        replace hPP := hid hPP
        go_wp2_with fail
        go_loopw [6, 7, 21] (fun _ _ j wz => ∃ jj : Nat, jj ≤ cs.length ∧ j = .int .i64 jj ∧ Hid (Below w.heap.size w wz) ∧ Hid (w.heap.size + 1 < wz.heap.size) ∧ Hid (Lib.IsBuilderF 91 5 (w.heap.size + 1) (w.heap.size + 1) (Lib.byteCells (PP ++ upTo 44 (cs.map compText) jj)) wz)) (fun _ _ j _ => cs.length - (intOf j).toNat)
        case atStart => exact ⟨0, by omega, rfl, INB, INZ, hid (by rw [upTo_zero, List.append_nil]; exact INI.out)⟩
        case round =>
          obtain ⟨jj, hj, rfl, hbj, hzj, hij⟩ := hrel
          clear INB INZ INI
          by_cases hltj : jj < cs.length
          · have hx := hid (List.getElem?_eq_getElem hltj)
            generalize cs[jj] = c at hx
            have hbl := Nat.lt_of_lt_of_le hBk.out hbj.out.size
            obtain ⟨c0, c1, c2, c3, c4⟩ := elem_cells (w := wr) (fun k x hk => by rw [hbj.out.cell hBk.out]; exact hck.out k x hk) hx.out
            have hxt := hid (show (cs.map compText)[jj]? = some (compText c) by rw [List.getElem?_map, hx.out]; rfl)
            have HWc := hid (HW.out c (hokc.out.2.2 c (List.mem_of_getElem? hx.out)))
            have hcl := hid (compText_len (hokc.out.2.2 c (List.mem_of_getElem? hx.out)))
            have hul := hid (show (upTo 44 (cs.map compText) jj).length ≤ 240 from upTo_len (n := 59) (fun p hp => by
              obtain ⟨c', hc', rfl⟩ := List.mem_map.1 hp
              exact compText_len (hokc.out.2.2 c' hc')) (by rw [List.length_map]; exact hokc.out.2.1))
            have jj4 : jj < 4 := Nat.lt_of_lt_of_le hltj hokc.out.2.1
            generalize hU : upTo 44 (cs.map compText) jj = U at hij hul
            replace hU := hid hU
            have hCT := hid (show (compText c).length ≤ 59 from hcl.out)
            generalize hcq : compText c = CT at HWc hxt hCT
            replace hcq := hid hcq
            have hctz := hid (show (⟨CT.toArray⟩ : ByteArray).size ≤ 59 by show CT.toArray.size ≤ 59; simpa using hCT.out)
            clear hx hcl
            generalize (c.op : Int) = o at *
            generalize (c.a : Int) = x at *
            generalize (c.b : Int) = y at *
            generalize (c.c : Int) = z at *
            generalize (⟨c.p.toArray⟩ : ByteArray) = p at *
            have hbb := hid (below_alloc hbj.out (.cells #[.int .i64 o, .int .i64 x, .int .i64 y, .int .i64 z, .string p] 40))
            have hib := hid (isBuilder_below hij.out (below_alloc (Below.refl _ _) (.cells #[.int .i64 o, .int .i64 x, .int .i64 y, .int .i64 z, .string p] 40)))
            have hzb := hid (show w.heap.size + 1 < (wr.alloc (.cells #[.int .i64 o, .int .i64 x, .int .i64 y, .int .i64 z, .string p] 40)).heap.size by have := hzj.out; simp; omega)
            have hnb := hid (Blk.new wr [.int .i64 o, .int .i64 x, .int .i64 y, .int .i64 z, .string p] 40)
            have hnl := hid (show w.heap.size + 1 < wr.heap.size from hzj.out)
            by_cases hj0 : jj = 0
            · have hfin := hid (show PP ++ upTo 44 (cs.map compText) (jj + 1) = (PP ++ U) ++ CT by
                subst hj0
                rw [upTo_one hxt.out, ← hU.out, upTo_zero, List.append_nil])
              have jI : ¬ (0 : Int) < (jj : Int) := by omega
              clear hj0 hU hxt hij hcq
              go_wp2_with (go_at_call 54; (with_reducible refine (HWc.out _ (hm.below hbb.out) (ht.below hbb.out) (hg.below hbb.out)).mono ?_); rintro e wa ⟨rfl, hba⟩)
              refine (writeString_any (w.heap.size + 1) (w.heap.size + 1) (Lib.byteCells (PP ++ U)) ⟨CT.toArray⟩ wa (isBuilder_below hib.out hba) (by rw [Lib.byteCells_length, List.length_append]; have := hul.out; have := hctz.out; have := hPl.out; omega) (Nat.le_of_lt (Nat.lt_of_lt_of_le hzb.out hba.size))).mono ?_
              rintro e wb ⟨rfl, hIb, hBb, _⟩
              go_wp2_with fail
              go_roundw
              case rel => exact ⟨jj + 1, by omega, by go_num, hid ((below_trans hbb.out hba).trans (hBb.mono (Nat.le_succ _))), hid (Nat.lt_of_lt_of_le (Nat.lt_of_lt_of_le hzb.out hba.size) hBb.size), hid (by rw [hfin.out, bytes_app]; exact hIb)⟩
              case measure => simp [intOf]; omega
            · have hfin := hid (show PP ++ upTo 44 (cs.map compText) (jj + 1) = ((PP ++ U) ++ [44]) ++ CT by
                rw [upTo_more hxt.out (by omega), hU.out]; simp)
              have jI : (0 : Int) < (jj : Int) := by omega
              clear hj0 hU hxt hij hcq
              go_wp2_with fail
              generalize wr.alloc (.cells [.int .i64 o, .int .i64 x, .int .i64 y, .int .i64 z, .string p].toArray 40) = WA at hbb hib hzb hnb ⊢
              generalize wr.heap.size = bc at hnb hnl ⊢
              refine (writeString_any (w.heap.size + 1) (w.heap.size + 1) (Lib.byteCells (PP ++ U)) ⟨#[44]⟩ WA hib.out (by rw [Lib.byteCells_length, List.length_append]; have := hul.out; have := hPl.out; have e1 : (⟨#[44]⟩ : ByteArray).size = 1 := rfl; omega) (Nat.le_of_lt hzb.out)).mono ?_
              rintro e wa ⟨rfl, hIa, hBa, hOa⟩
              have hb2 := hid (hbb.out.trans (hBa.mono (Nat.le_succ _)))
              have hn2 := hid (show Blk wa bc [.int .i64 o, .int .i64 x, .int .i64 y, .int .i64 z, .string p] 40 from hnb.out.others (by decide) (by have := hnl.out; omega) hOa)
              have hz2 := hid (Nat.lt_of_lt_of_le hzb.out hBa.size)
              have r0 := hn2.out.cell 0 rfl
              have r1 := hn2.out.cell 1 rfl
              have r2 := hn2.out.cell 2 rfl
              have r3 := hn2.out.cell 3 rfl
              have r4 := hn2.out.cell 4 rfl
              clear c0 c1 c2 c3 c4 hBa hib hnb hbb hzb
              go_wp2_with (go_at_call 54; (with_reducible refine (HWc.out _ (hm.below hb2.out) (ht.below hb2.out) (hg.below hb2.out)).mono ?_); rintro e wc ⟨rfl, hbc⟩)
              refine (writeString_any (w.heap.size + 1) (w.heap.size + 1) (Lib.byteCells ((PP ++ U) ++ [44])) ⟨CT.toArray⟩ wc (isBuilder_below (by rw [bytes_app]; exact hIa) hbc) (by rw [Lib.byteCells_length, List.length_append, List.length_append]; have := hul.out; have := hctz.out; have := hPl.out; simp; omega) (Nat.le_of_lt (Nat.lt_of_lt_of_le hz2.out hbc.size))).mono ?_
              rintro e wd ⟨rfl, hId, hBd, _⟩
              go_wp2_with fail
              go_roundw
              case rel => exact ⟨jj + 1, by omega, by go_num, hid ((below_trans hb2.out hbc).trans (hBd.mono (Nat.le_succ _))), hid (Nat.lt_of_lt_of_le (Nat.lt_of_lt_of_le hz2.out hbc.size) hBd.size), hid (by rw [hfin.out, bytes_app]; exact hId)⟩
              case measure => simp [intOf]; omega
          · have hje : jj = cs.length := by omega
            have hfin := hid (show PP ++ upTo 44 (cs.map compText) jj = upTo 124 (rs.map altText) (k + 1) by
              rw [hje, show cs.length = (cs.map compText).length by simp, upTo_all]
              exact hout.out)
            rw [hfin.out] at hij
            clear hfin hje
            go_wp2_with fail
            go_roundw
            case rel => exact ⟨k + 1, by omega, by go_num, hbj, hzj, hij⟩
            case measure => simp [intOf]; omega
    · have hke : k = rs.length := by omega
      have hfin := hid (show upTo 124 (rs.map altText) k = rngText rs by
        rw [hke, show rs.length = (rs.map altText).length by simp, upTo_all]; rfl)
      rw [hfin.out] at hi
      clear hfin hke
      have hstr := hid (builderString_any (w.heap.size + 1) (w.heap.size + 1) (rngText rs) wr hi.out (Nat.le_of_lt hz.out))
      go_wp2_with fail
      refine hstr.out.mono ?_
      rintro e wq ⟨rfl, hBq⟩
      go_wp2_with fail
      go_ret
      exact gives rfl rfl (hb.out.trans (hBq.mono (Nat.le_succ _)))
end Go.Proofs.YtebhgcejcdgdbaaGreatDoor.Sp

/-
  LAYER 4, PACKAGE spec: Check, Text of a range that may be one.
-/
namespace Go.Proofs.YtebhgcejcdgdbaaGreatDoor.Sp
open Go.RowKit
open Go.Proofs.YtebhgcejcdgdbaaGreatDoor Go.Proofs.YtebhgcejcdgdbaaGreatDoor.Nu Go.Proofs.YtebhgcejcdgdbaaGreatDoor.Vs

set_option maxRecDepth 20000 in
set_option maxHeartbeats 2000000 in
theorem checkR_any (rs : List (List CompT)) (v : Value) (hok : OkR rs) (w : World) (hm : MaxAt w) (ht : TenAt w) (hg : SignsAt w) (hr : RngAt w v rs) :
    Calls Tryz.prog 14 #[.agg #[v]] w (Gives (.bool true) w) := by
  have hr0 := hid hr
  obtain ⟨G, cp, vs, rfl, hl, hcm, hG, hcells, hat⟩ := hr
  obtain ⟨h1, h4, hall, h80⟩ := hok
  have HW := hid (fun w hm ht hg hr => write_any rs (.slice (some ⟨G, 0, none⟩) rs.length cp) h4 hall w hm ht hg hr)
  have HA := hid (fun cs v h w hm ha => checkAlt_any cs v (hall cs h).1 (hall cs h).2.1 (hall cs h).2.2 w hm ha)
  have hsz := hid (show ((⟨(rngText rs).toArray⟩ : ByteArray).size : Int) ≤ 80 by
    have e : (⟨(rngText rs).toArray⟩ : ByteArray).size = (rngText rs).length := by show (rngText rs).toArray.size = _; simp
    omega)
  replace hall := hid hall
  replace hcells := hid hcells
  replace hat := hid hat
  replace hG := hid hG
  have e1 : ¬ (rs.length : Int) < 1 := by omega
  have e2 : ¬ (4 : Int) < (rs.length : Int) := by omega
  have hb0 := hid (below_alloc (Below.refl w.heap.size w) (.cells #[.slice (some ⟨G, 0, none⟩) rs.length cp] 25))
  have hn0 := hid (Blk.new w [.slice (some ⟨G, 0, none⟩) rs.length cp] 25)
  generalize (⟨(rngText rs).toArray⟩ : ByteArray) = RT at HW hsz
  go_enter Tryz.func14, Tryz.ntmps14
  go_wp2_with fail
  generalize w.alloc (.cells [.slice (some ⟨G, 0, none⟩) rs.length cp].toArray 25) = W at hb0 hn0 ⊢
  generalize w.heap.size = b at hn0 ⊢
  clear e1 e2
  go_loopw [4, 18] (fun _ i wr => ∃ k : Nat, k ≤ rs.length ∧ i = .int .i64 k ∧ Hid (Below w.heap.size w wr) ∧ Hid (Blk wr b [.slice (some ⟨G, 0, none⟩) rs.length cp] 25)) (fun _ i _ => rs.length - (intOf i).toNat)
  case atStart => exact ⟨0, by omega, rfl, hb0, hn0⟩
  case round =>
    obtain ⟨k, hk, rfl, hb, hn⟩ := hrel
    clear hb0 hn0
    by_cases hlt : k < rs.length
    · have hx := hid (List.getElem?_eq_getElem hlt)
      generalize rs[k] = cs at hx
      obtain ⟨_, v, hv, hva⟩ := hat.out.2 k cs hx.out
      have hce := hcells.out k _ hv
      rw [← hb.out.cell hG.out] at hce
      have hbl := Nat.lt_of_lt_of_le hG.out hb.out.size
      have HAc := hid (HA.out cs v (List.mem_of_getElem? hx.out))
      have hvb := hid (hva.below hb.out)
      have k4 : k < 4 := Nat.lt_of_lt_of_le hlt h4
      obtain ⟨Bk, cpk, rfl, _⟩ := hva
      clear hx hv
      generalize cs.length = cl at *
      go_wp2_with (go_at_call 32; (with_reducible refine (HAc.out _ (hm.below hb.out) hvb.out).mono ?_); rintro e w1 ⟨rfl, hb1⟩)
      go_roundw
      case rel => exact ⟨k + 1, by omega, by go_num, hid (below_trans hb.out hb1), hid (hn.out.below hb1)⟩
      case measure => simp [intOf]; omega
    · have c0 := hn.out.cell 0 rfl
      have hsz' := hsz.out
      go_wp2_with (go_at_call 33; (with_reducible refine (HW.out _ (hm.below hb.out) (ht.below hb.out) (hg.below hb.out) (hr0.out.below hb.out)).mono ?_); rintro e w1 ⟨rfl, hb1⟩)
      go_ret
      exact gives rfl rfl (below_trans hb.out hb1)

set_option maxRecDepth 20000 in
set_option maxHeartbeats 1000000 in
theorem textR_any (rs : List (List CompT)) (v : Value) (hok : OkR rs) (w : World) (hm : MaxAt w) (ht : TenAt w) (hg : SignsAt w) (hr : RngAt w v rs) :
    Calls Tryz.prog 15 #[.agg #[v]] w (Gives (.string ⟨(rngText rs).toArray⟩) w) := by
  have HC := hid (fun w hm ht hg hr => checkR_any rs v hok w hm ht hg hr)
  have HW := hid (fun w hm ht hg hr => write_any rs v hok.2.1 hok.2.2.1 w hm ht hg hr)
  have hr0 := hid hr
  obtain ⟨G, cp, vs, rfl, _⟩ := hr
  clear hok
  generalize (⟨(rngText rs).toArray⟩ : ByteArray) = RT at HW ⊢
  have hb0 := hid (below_alloc (Below.refl w.heap.size w) (.cells #[.slice (some ⟨G, 0, none⟩) rs.length cp] 25))
  have hn0 := hid (Blk.new w [.slice (some ⟨G, 0, none⟩) rs.length cp] 25)
  generalize hrl : rs.length = rl at *
  go_enter Tryz.func15, Tryz.ntmps15
  go_wp2_with (go_at_call 14; (with_reducible refine (HC.out _ (hm.below hb0.out) (ht.below hb0.out) (hg.below hb0.out) (hr0.out.below hb0.out)).mono ?_); rintro e w1 ⟨rfl, hb1⟩; have hb2 := hid (below_trans hb0.out hb1); have c0 := (hn0.out.below hb1).cell 0 rfl)
  refine (HW.out _ (hm.below hb2.out) (ht.below hb2.out) (hg.below hb2.out) (hr0.out.below hb2.out)).mono ?_
  rintro e w2 ⟨rfl, hb3⟩
  go_wp2_with fail
  go_ret
  exact gives rfl rfl (below_trans hb2.out hb3)
end Go.Proofs.YtebhgcejcdgdbaaGreatDoor.Sp
