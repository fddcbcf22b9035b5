/-
  LAYER 4, PACKAGE spec: parseAlt.
-/
import Derived.Test.YtmeaajhongalaaaGreatDoorSpecComp
import Derived.Test.YtmeaajhongalaaaGreatDoorVersionRef
import Derived.Test.YtmeaajhongalaaaGreatDoorVersionCmpL
import Derived.Deep.AppendLies
namespace Go.Proofs.YtmeaajhongalaaaGreatDoor.Sp
open Go.RowKit
open Go.Proofs.YtmeaajhongalaaaGreatDoor Go.Proofs.YtmeaajhongalaaaGreatDoor.Nu Go.Proofs.YtmeaajhongalaaaGreatDoor.Vs

def compCells (c : CompT) : List Value := [.int .i64 (c.op : Int), .int .i64 (c.a : Int), .int .i64 (c.b : Int), .int .i64 (c.c : Int), .string ⟨c.p.toArray⟩]
def cellsC (cs : List CompT) : List Value := cs.flatMap compCells
theorem cellsC_len (cs : List CompT) : (cellsC cs).length = cs.length * 5 := by
  induction cs with
  | nil => rfl
  | cons c cs ih => unfold cellsC at *; rw [List.flatMap_cons, List.length_append, ih]; simp [compCells]; omega
theorem cellsC_at {cs : List CompT} {k : Nat} {c : CompT} (h : cs[k]? = some c) : ∀ j v, (compCells c)[j]? = some v → (cellsC cs)[k * 5 + j]? = some v := by
  induction cs generalizing k with
  | nil => simp at h
  | cons d cs ih =>
    intro j v hj
    unfold cellsC at *
    rw [List.flatMap_cons]
    cases k with
    | zero =>
      simp at h; subst h
      have hjl := (List.getElem?_eq_some_iff.1 hj).1
      rw [Nat.zero_mul, Nat.zero_add, List.getElem?_append_left hjl]; exact hj
    | succ k =>
      rw [List.getElem?_cons_succ] at h
      have e5 : (compCells d).length = 5 := rfl
      rw [List.getElem?_append_right (by rw [e5]; omega), e5, show (k + 1) * 5 + j - 5 = k * 5 + j by omega]
      exact ih h j v hj

/-- comparisons in memory -/
def AltAt (w : World) (v : Value) (cs : List CompT) : Prop :=
  ∃ B cp, v = .slice (some ⟨B, 0, none⟩) cs.length cp ∧ cs.length ≤ cp ∧ cp ≤ maxLen ∧ B < w.heap.size ∧ ∀ k x, (cellsC cs)[k]? = some x → w.cell? ⟨B, k, none⟩ = some x
theorem AltAt.below {w w' : World} {v : Value} {cs : List CompT} (h : AltAt w v cs) (hb : Below w.heap.size w w') : AltAt w' v cs := by
  obtain ⟨B, cp, h1, h2, h3, h4, h5⟩ := h
  exact ⟨B, cp, h1, h2, h3, Nat.lt_of_lt_of_le h4 hb.size, fun k x hk => by rw [hb.cell h4]; exact h5 k x hk⟩
/-- a row that the call owns: nil, or a block whose first cells are those -/
theorem ownsRow_any {w : World} {base : Nat} {e : TypeId} {size : Nat} {v : Value} {n : Nat} {xs : List Value} (h : w.ownsRow base e size v n xs) (hn : n ≠ 0) :
    ∃ g c, v = .slice (some ⟨g, 0, none⟩) n c ∧ base ≤ g ∧ g < w.heap.size ∧ n ≤ c ∧ c ≤ maxLen ∧ ∀ k x, xs[k]? = some x → w.cell? ⟨g, k, none⟩ = some x := by
  rcases h.2 with ⟨hv, h0⟩ | ⟨g, cap, cur, hv, hg, hh, h1, h2, h3, h4⟩
  · exact absurd h0 hn
  · refine ⟨g, cap, hv, hg, (Array.getElem?_eq_some_iff.1 hh).1, h1, h2, ?_⟩
    intro k x hk
    have := h.cells (g := g) (by rw [hv]; rfl) k x hk
    rwa [addr_add, Nat.zero_add] at this

def AltRes (l : List UInt8) (w : World) (e : Ending) (w' : World) : Prop :=
  Below w.heap.size w w' ∧ ((altOf l = none ∧ e = .returned (.tuple #[.slice none 0 0, .bool false])) ∨ ∃ cs v, altOf l = some cs ∧ e = .returned (.tuple #[v, .bool true]) ∧ AltAt w' v cs)
theorem infoC : (Tryz.prog.info? 217).map (fun i => (i.zero, i.size, i.bytes)) = some (some (.agg #[.int .i64 0, .int .i64 0, .int .i64 0, .int .i64 0, .string ⟨#[]⟩]), 5, 48) := by kernel_rfl

set_option maxRecDepth 20000 in
set_option maxHeartbeats 4000000 in
theorem parseAlt_any (s : ByteArray) (hs : s.size < 4294967281) (w : World) (hm : MaxAt w) (hg : SignsAt w) :
    Calls Tryz.prog 133 #[.string s] w (AltRes s.data.toList w) := by
  have HS := hid (split_any s hs 44)
  have hlen := hid (lenS s)
  unfold AltRes
  have HV := hid (show altOf s.data.toList = if (cutl 44 s.data.toList).length ≤ 4 then allOf compOf (cutl 44 s.data.toList) else none from rfl)
  have HM := hid (fun p (h : p ∈ cutl 44 s.data.toList) => part_size h)
  have hne := hid (cutl_ne 44 s.data.toList)
  generalize altOf s.data.toList = R at HV ⊢
  unfold SplitA at HS
  generalize cutl 44 s.data.toList = P at HS HV HM hne
  have hs' := hid hs
  clear hs
  by_cases h4 : 4 < P.length
  · have hr := hid (HV.out.trans (if_neg (by omega)))
    have h4' : (4 : Int) < (P.length : Int) := by omega
    go_enter Tryz.func133, Tryz.ntmps133
    go_wp2_with (go_at_call 132; (with_reducible refine (HS.out _ hm).mono ?_); rintro e w1 ⟨B, rfl, hb1, hc1⟩)
    go_ret2
    exact ⟨hb1, .inl ⟨hr.out, rfl⟩⟩
  · have hr := hid (show R = (allOf compOf (P.drop 0)).map ([] ++ ·) by
      rw [HV.out, if_pos (by omega), List.drop_zero]; cases allOf compOf P <;> rfl)
    have h4' : ¬ (4 : Int) < (P.length : Int) := by omega
    have h4'' := hid (show P.length ≤ 4 by omega)
    clear HV
    go_enter Tryz.func133, Tryz.ntmps133
    go_wp2_with (go_at_call 132; (with_reducible refine (HS.out _ hm).mono ?_); rintro e w1 ⟨B, rfl, hb1, hc1⟩)
    replace hm := hm.below hb1
    replace hg := hid (hg.below hb1)
    replace hc1 := hid hc1
    replace hb1 := hid hb1
    clear HS h4 h4'
    go_loopw [5, 7, 8, 9, 17] (fun o _ _ _ i wr => ∃ (k : Nat) (out : List CompT), k ≤ P.length ∧ i = .int .i64 k ∧ Hid (out.length = k) ∧ Hid (Below w1.heap.size w1 wr) ∧ Hid (wr.ownsRow w1.heap.size 217 5 o out.length (cellsC out)) ∧ Hid (R = (allOf compOf (P.drop k)).map (out ++ ·))) (fun _ _ _ _ i _ => P.length - (intOf i).toNat)
    case atStart => exact ⟨0, [], by omega, rfl, hid rfl, hid (Below.refl _ _), hid (World.ownsRow_nil _ _ _ _), hr⟩
    case round =>
      obtain ⟨k, out, hk, rfl, hol, hb, hown, hp⟩ := hrel
      clear hr
      obtain ⟨oa, oc, ho⟩ := own_shape hown.out
      subst ho
      by_cases hlt : k < P.length
      · have hcb := hc1.out.below hb.out
        have hcell := hcb.2 k hlt
        rw [Nat.zero_add] at hcell
        have hbl := hcb.1
        have hx := hid (at_getD ([] : List UInt8) hlt)
        generalize P.getD k [] = x at hcell hx
        have hxl := HM.out x (List.mem_of_getElem? hx.out)
        rw [hlen.out] at hxl
        have HPC := hid (fun w hm hg => parseComp_any ⟨x.toArray⟩ (sizeL _ _ (by have := hs'.out; omega)) w hm hg)
        have hst := hid (@allOf_step _ _ compOf P k x hx.out)
        have hmr := hm.below hb.out
        have hgr := hid (hg.out.below hb.out)
        have k4 : k < 4 := Nat.lt_of_lt_of_le hlt h4''.out
        clear hx hxl hcb
        cases hcx : compOf x with
        | none =>
          have hr := hid (show R = none by rw [hp.out, hst.out, hcx]; rfl)
          rw [hcx] at HPC
          unfold compRes compVal at HPC
          clear hst hp hcx
          go_wp2_with (go_at_call 165; (with_reducible refine (HPC.out _ hmr hgr.out).mono ?_); rintro e w2 ⟨rfl, hb2⟩)
          go_ret2
          exact ⟨below_trans hb1.out (below_alloc (below_trans hb.out hb2) _), .inl ⟨hr.out, rfl⟩⟩
        | some c =>
          have hr := hid (show R = (allOf compOf (P.drop (k + 1))).map ((out ++ [c]) ++ ·) by
            rw [hp.out, hst.out, hcx]
            cases allOf compOf (P.drop (k + 1)) with
            | none => rfl
            | some ys => simp)
          rw [hcx] at HPC
          unfold compRes compVal at HPC
          clear hst hp hcx
          have hcells := hid (show cellsC (out ++ [c]) = cellsC out ++ [.int .i64 (c.op : Int), .int .i64 (c.a : Int), .int .i64 (c.b : Int), .int .i64 (c.c : Int), .string ⟨c.p.toArray⟩] by
            unfold cellsC; rw [List.flatMap_append]; simp [compCells])
          simp only at HPC
          generalize (c.op : Int) = x0 at HPC hcells
          generalize (c.a : Int) = x1 at HPC hcells
          generalize (c.b : Int) = x2 at HPC hcells
          generalize (c.c : Int) = x3 at HPC hcells
          generalize (⟨c.p.toArray⟩ : ByteArray) = x4 at HPC hcells
          obtain ⟨iC, hi, hz0, hz1, hz2⟩ := info_parts infoC
          have hi := hid hi
          have hz0 := hid hz0
          have hz1 := hid hz1
          have hz2 := hid hz2
          generalize cellsC out = oc5 at hown hcells
          generalize hon : out.length = on at hown hol ⊢
          replace hon := hid hon
          have on5 := hid (show on ≤ 4 by have := hol.out; omega)
          go_wp2_with (first
            | (go_at_call 165; (with_reducible refine (HPC.out _ hmr hgr.out).mono ?_); rintro e w2 ⟨rfl, hb2⟩)
            | (at_builtin; refine wpList_append_lies _ rfl _ _ 185 rfl w1.heap.size 217 iC (.agg #[.int .i64 0, .int .i64 0, .int .i64 0, .int .i64 0, .string ⟨#[]⟩]) 5 48 Tryz.underlying185 hi.out hz0.out hz1.out hz2.out rfl (by decide) _ _ _ rfl (((ownsRow_below hown.out hb2).alloc _).alloc _) ⟨_, 0, none⟩ 1 1 [.int .i64 x0, .int .i64 x1, .int .i64 x2, .int .i64 x3, .string x4] rfl rfl ?c1 ?c2 ?cm ?c3 ?c4 ?c5 _ rfl ?_))
          case c1 => exact cells_new _ [_, _, _, _, _] _ _ (by simp)
          case c2 => intro u hu; simp at hu; rcases hu with rfl | rfl | rfl | rfl | rfl <;> rfl
          case cm => decide
          case c3 => have := on5.out; unfold maxLen; omega
          case c4 => have := on5.out; omega
          case c5 => have := (below_trans hb.out hb2).size; simp; omega
          intro g cap w3 hown3 hgrow hat hlt3
          have hwl := hid (below_trans hb.out hb2)
          have kp := (below_alloc (below_alloc (below_trans hb.out hb2) (.cells #[.int .i64 x0, .int .i64 x1, .int .i64 x2, .int .i64 x3, .string x4] 217)) (.cells #[.int .i64 x0, .int .i64 x1, .int .i64 x2, .int .i64 x3, .string x4] 217)).grown hgrow (by have := hwl.out.size; simp; omega) (fun k hk => (hown.out.lt k hk).1)
          have HOWN3 := hid hown3
          clear hown3 hgrow hat hown
          go_wp2
          go_roundw
          case rel =>
            refine ⟨k + 1, out ++ [c], by omega, by go_num, hid (by rw [List.length_append, hon.out, hol.out]; rfl), hid kp, hid ?_, hr⟩
            rw [hcells.out, List.length_append, hon.out]
            exact HOWN3.out
          case measure => simp [intOf]; omega
      · have hke := hid (show k = P.length by omega)
        have hr := hid (show R = some out by
          rw [hp.out, hke.out, List.drop_length]; simp [allOf])
        have h0 := hid (show out.length ≠ 0 by rw [hol.out, hke.out]; have := List.length_pos_iff.2 hne.out; omega)
        obtain ⟨g, cc, hv, _, q2, q3, q4, q5⟩ := ownsRow_any hown.out h0.out
        cases hv
        have fin := hid (show AltAt wr (.slice (some ⟨g, 0, none⟩) out.length oc) out from ⟨g, oc, rfl, q3, q4, q2, q5⟩)
        clear hp HM q2 q3 q4 q5
        go_wp2_with fail
        go_ret2
        exact ⟨below_trans hb1.out hb.out, .inr ⟨out, _, hr.out, rfl, fin.out⟩⟩
end Go.Proofs.YtmeaajhongalaaaGreatDoor.Sp
