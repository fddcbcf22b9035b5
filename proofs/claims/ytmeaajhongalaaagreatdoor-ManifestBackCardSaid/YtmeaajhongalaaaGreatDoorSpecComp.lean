/-
  LAYER 4, PACKAGE spec: parseComp.
-/
import Derived.Test.YtmeaajhongalaaaGreatDoorVersionParse
import Derived.Test.YtmeaajhongalaaaGreatDoorIA
namespace Go.Proofs.YtmeaajhongalaaaGreatDoor.Sp
open Go.RowKit
open Go.Proofs.YtmeaajhongalaaaGreatDoor Go.Proofs.YtmeaajhongalaaaGreatDoor.Nu Go.Proofs.YtmeaajhongalaaaGreatDoor.Vs

theorem count_cut (c : UInt8) : ∀ (n : Nat) (l : List UInt8), l.length ≤ n → Lib.count l [c] + 1 = (cutl c l).length := by
  intro n
  induction n with
  | zero =>
    intro l h
    obtain rfl := List.eq_nil_of_length_eq_zero (Nat.le_zero.1 h)
    rw [Lib.count_miss (index_no (by simp)), cutl_no (by simp)]; rfl
  | succ n ih =>
    intro l hl
    by_cases h : c ∈ l
    · obtain ⟨a, r, rfl, ha⟩ := splits l h
      have := Lib.count_hit (sub := [c]) (by simp) (index_hit (r := r) ha)
      rw [show (a ++ c :: r).drop (a.length + [c].length) = r by rw [List.length_singleton, ← List.drop_drop, List.drop_left]; rfl] at this
      have h2 := ih r (by simp at hl; omega)
      rw [this, cutl_hit ha, List.length_cons]
      omega
    · rw [Lib.count_miss (index_no h), cutl_no h]; rfl

/-- a text, cut at each such byte -/
def SplitA (c : UInt8) (l : List UInt8) (w : World) (e : Ending) (w' : World) : Prop :=
  ∃ B, e = .returned (.slice (some ⟨B, 0, none⟩) (cutl c l).length (cutl c l).length) ∧ Below w.heap.size w w' ∧ CellsAt w' B 0 (cutl c l)
theorem split_any (s : ByteArray) (hs : s.size < 4294967281) (c : UInt8) (w : World) (hm : MaxAt w) :
    Calls Tryz.prog 132 #[.string s, .string ⟨#[c]⟩] w (SplitA c s.data.toList w) := by
  obtain ⟨m, _, hm⟩ := hm
  refine (Tryz.strings_Split s ⟨#[c]⟩ m w hs hm (Nat.le_refl 1)).mono ?_
  rintro e w' ⟨rfl, rfl⟩
  have hcc : (⟨#[c]⟩ : ByteArray).data.toList = [c] := rfl
  have h1 : Lib.countB s ⟨#[c]⟩ + 1 = (cutl c s.data.toList).length := count_cut c _ _ (Nat.le_refl _)
  have hd := Lib.splitB_data ⟨#[c]⟩ 0 (Lib.countB s ⟨#[c]⟩) s
  rw [hcc, (splitK_cut c _ _).1 (by omega)] at hd
  rw [h1]
  refine ⟨w.heap.size, rfl, below_alloc (Below.refl _ _) _, by simp, fun k hk => ?_⟩
  rw [World.cell?_alloc_at _ _ _ _ rfl, Nat.zero_add, List.getElem?_toArray, List.getElem?_map]
  have hk' : k < (Lib.splitB ⟨#[c]⟩ 0 (Lib.countB s ⟨#[c]⟩) s).length := by
    have := congrArg List.length hd; rw [List.length_map] at this; omega
  have e : (cutl c s.data.toList).getD k [] = (Lib.splitB ⟨#[c]⟩ 0 (Lib.countB s ⟨#[c]⟩) s)[k].data.toList := by
    rw [← hd]; simp [List.getD, List.getElem?_eq_getElem hk']
  rw [List.getElem?_eq_getElem hk', e]
  simp

/-- the program's row of signs, as it lies -/
def SignsAt (w : World) : Prop := 0 < w.heap.size ∧ ∀ k, k < 9 → w.cell? ⟨0, k, none⟩ = some (.string ⟨(sgn k).toArray⟩)
theorem SignsAt.below {w w' : World} (h : SignsAt w) (hb : Below w.heap.size w w') : SignsAt w' :=
  ⟨Nat.lt_of_lt_of_le h.1 hb.size, fun k hk => by rw [hb.cell h.1]; exact h.2 k hk⟩

def compVal (c : CompT) : Value := .agg #[.int .i64 (c.op : Int), .int .i64 (c.a : Int), .int .i64 (c.b : Int), .int .i64 (c.c : Int), .string ⟨c.p.toArray⟩]
def compRes (o : Option CompT) : Value := match o with
  | some c => .tuple #[compVal c, .bool true]
  | none => .tuple #[compVal ⟨0, 0, 0, 0, []⟩, .bool false]

theorem five_cells {wr : World} {B : Nat} {e : TypeId} {x y z p q : Value} (h : Blk wr B [x, y, z, p, q] e) (a b c d f : Value) :
    ∀ W, W = (((((wr.setCell ⟨B, 0, none⟩ a).setCell ⟨B, 1, none⟩ b).setCell ⟨B, 2, none⟩ c).setCell ⟨B, 3, none⟩ d).setCell ⟨B, 4, none⟩ f) →
    W.cell? ⟨B, 0, none⟩ = some a ∧ W.cell? ⟨B, 1, none⟩ = some b ∧ W.cell? ⟨B, 2, none⟩ = some c ∧ W.cell? ⟨B, 3, none⟩ = some d ∧ W.cell? ⟨B, 4, none⟩ = some f := by
  intro W hW
  subst hW
  have h' := ((((h.set 0 a).set 1 b).set 2 c).set 3 d).set 4 f
  exact ⟨h'.cell 0 rfl, h'.cell 1 rfl, h'.cell 2 rfl, h'.cell 3 rfl, h'.cell 4 rfl⟩
theorem setCells5 {w wr : World} {B : Nat} (h : Below w.heap.size w wr) (hB : w.heap.size ≤ B) {va vb vc vd ve : Value} :
    Below w.heap.size w (((((wr.setCell ⟨B, 0, none⟩ va).setCell ⟨B, 1, none⟩ vb).setCell ⟨B, 2, none⟩ vc).setCell ⟨B, 3, none⟩ vd).setCell ⟨B, 4, none⟩ ve) :=
  ((((h.setCell hB _).setCell hB _).setCell hB _).setCell hB _).setCell hB _

theorem hit_no {l : List UInt8} {k : Nat} (h : Lib.hasPrefix l (sgn k) = false) : hit l k = false := by
  unfold hit; unfold Lib.hasPrefix at h; rw [h]; rfl
theorem hit_yes {l : List UInt8} {k : Nat} (h : Lib.hasPrefix l (sgn k) = true) : hit l k = verV (Lib.trimPrefix l (sgn k)) ∧ Lib.trimPrefix l (sgn k) = l.drop (sgn k).length := by
  have e : Lib.trimPrefix l (sgn k) = l.drop (sgn k).length := by unfold Lib.trimPrefix; rw [if_pos h]
  rw [e]
  unfold hit; unfold Lib.hasPrefix at h; rw [h]; exact ⟨rfl, rfl⟩
theorem firstHit_no {l : List UInt8} {n k : Nat} (h : hit l k = false) : firstHit l (n + 1) k = firstHit l n (k + 1) := by
  rw [firstHit, h]; rfl
theorem firstHit_yes {l : List UInt8} {n k : Nat} (h : hit l k = true) : firstHit l (n + 1) k = some (ofV k (l.drop (sgn k).length)) := by
  rw [firstHit, h]; rfl

set_option maxRecDepth 20000 in
set_option maxHeartbeats 4000000 in
theorem parseComp_any (s : ByteArray) (hs : s.size < 4294967281) (w : World) (hm : MaxAt w) (hg : SignsAt w) :
    Calls Tryz.prog 165 #[.string s] w (Gives (compRes (compOf s.data.toList)) w) := by
  have HC := hid (show compOf s.data.toList = if s.data.toList = [42] then some anyC else firstHit s.data.toList 8 0 from rfl)
  have HCP := hid (fun p w => Tryz.strings_CutPrefix s p w)
  have g8 := hg.2 8 (by decide)
  have gl := hg.1
  rw [show (sgn 8) = [42] from rfl] at g8
  by_cases h0 : s.data.toList = [42]
  · obtain rfl : s = ⟨#[42]⟩ := by
      apply ByteArray.ext; apply Array.toList_inj.1; exact h0
    have hr := hid (HC.out.trans (if_pos h0))
    clear HC HCP h0
    generalize compOf (ByteArray.mk #[42]).data.toList = R at hr ⊢
    go_enter Tryz.func165, Tryz.ntmps165
    go_wp2_with fail
    have hn := Blk.new w [.int .i64 8, .int .i64 0, .int .i64 0, .int .i64 0, .string ⟨#[]⟩] 217
    have q0 := hn.cell 0 rfl
    have q1 := hn.cell 1 rfl
    have q2 := hn.cell 2 rfl
    have q3 := hn.cell 3 rfl
    have q4 := hn.cell 4 rfl
    exact bodyPost_ret (v := .tuple #[.agg #[.int .i64 8, .int .i64 0, .int .i64 0, .int .i64 0, .string ⟨#[]⟩], .bool true]) (by simp [results, Tryz.results165, go_sem, q0, q1, q2, q3, q4]) rfl (gives rfl (by rw [hr.out]; rfl) (below_alloc (Below.refl _ _) _))
  · have hr := hid (HC.out.trans (if_neg h0))
    have hne : (s.toList == [42]) = false := by rw [ByteArray.toList_eq, beq_eq_false_iff_ne]; exact h0
    have hls := hid (lenS s)
    generalize s.data.toList = l at *
    have hls' := hid (show l.length < 4294967281 by rw [hls.out]; exact hs)
    have HP := hid (fun k (w : World) (hm : MaxAt w) => parse_any ⟨(Lib.trimPrefix l (sgn k)).toArray⟩ (sizeL _ _ (by
      have : (Lib.trimPrefix l (sgn k)).length ≤ l.length := by
        unfold Lib.trimPrefix; split
        · rw [List.length_drop]; omega
        · exact Nat.le_refl _
      have := hls'.out; omega)) w hm)
    clear HC h0 hs hls hls'
    generalize compOf l = R at hr ⊢
    replace hr := hid (show R = firstHit l (8 - 0) 0 from hr.out)
    replace hg := hid hg
    clear g8 gl
    have hn := Blk.new w [.int .i64 0, .int .i64 0, .int .i64 0, .int .i64 0, .string ⟨#[]⟩] 217
    have hb0 := below_alloc (Below.refl w.heap.size w) (.cells #[.int .i64 0, .int .i64 0, .int .i64 0, .int .i64 0, .string ⟨#[]⟩] 217)
    have g8 := (hg.out.below hb0).2 8 (by decide)
    rw [show (sgn 8) = [42] from rfl] at g8
    replace hn := hid hn
    replace hb0 := hid hb0
    go_enter Tryz.func165, Tryz.ntmps165
    go_wp2_with fail
    clear g8
    go_loopw [4, 5, 6, 7, 8] (fun v _ _ _ _ wr => ∃ k : Nat, k ≤ 8 ∧ v = .int .i64 k ∧ Hid (Below w.heap.size w wr) ∧ Hid (Blk wr w.heap.size [.int .i64 0, .int .i64 0, .int .i64 0, .int .i64 0, .string ⟨#[]⟩] 217) ∧ Hid (R = firstHit l (8 - k) k)) (fun v _ _ _ _ _ => 8 - (intOf v).toNat)
    case atStart => exact ⟨0, by omega, rfl, hb0, hn, hr⟩
    case round =>
      obtain ⟨k, hk, rfl, hb, hq, hp⟩ := hrel
      clear hr hn hb0
      by_cases hlt : k < 8
      · have gk := (hg.out.below hb.out).2 k (by omega)
        have gl := (hg.out.below hb.out).1
        have k0 : (0 : Int) ≤ (k : Int) := by omega
        have k1 : (k : Int) < 9 := by omega
        have HCk := hid (HCP.out ⟨(sgn k).toArray⟩)
        have esg : (⟨(sgn k).toArray⟩ : ByteArray).data.toList = sgn k := rfl
        have N := hid (fun h => @hit_no l k h)
        have Y := hid (fun h => @hit_yes l k h)
        have e8 : 8 - k = (8 - (k + 1)) + 1 := by omega
        have F0 := hid (fun h => @firstHit_no l (8 - (k + 1)) k h)
        have F1 := hid (fun h => @firstHit_yes l (8 - (k + 1)) k h)
        rw [e8] at hp
        rw [esg] at HCk
        have HPk := hid (fun w hm => HP.out k w hm)
        clear HCP HP e8 esg
        cases hh : Lib.hasPrefix l (sgn k)
        · rw [hh] at HCk
          have hn := hid (hp.out.trans (F0.out (N.out hh)))
          clear hp F0 F1 N Y hh HPk
          generalize (⟨(sgn k).toArray⟩ : ByteArray) = sg at gk HCk
          generalize (⟨(Lib.trimPrefix l (sgn k)).toArray⟩ : ByteArray) = T at HCk
          go_wp2_with (go_at_call 189; (with_reducible refine (HCk.out _).mono ?_); rintro e w3 ⟨rfl, rfl⟩)
          go_roundw
          case rel => exact ⟨k + 1, by omega, by go_num, hb, hq, hn⟩
          case measure => simp [intOf]; omega
        · rw [hh] at HCk
          obtain ⟨y1, y2⟩ := Y.out hh
          have gl2 := hm.below hb.out
          cases hv : verV (Lib.trimPrefix l (sgn k))
          · have hn := hid (hp.out.trans (F0.out (y1.trans hv)))
            have hT : parseT (Lib.trimPrefix l (sgn k)) = .tuple #[.agg #[.int .i64 0, .int .i64 0, .int .i64 0, .string ⟨#[]⟩], .bool false] := by unfold parseT; rw [hv]; rfl
            rw [hT] at HPk
            clear hp F0 F1 N Y hh y1 y2 hT hv
            generalize (⟨(sgn k).toArray⟩ : ByteArray) = sg at gk HCk
            generalize (⟨(Lib.trimPrefix l (sgn k)).toArray⟩ : ByteArray) = T at HCk HPk
            go_wp2_with (first
              | (go_at_call 189; (with_reducible refine (HCk.out _).mono ?_); rintro e w3 ⟨rfl, rfl⟩)
              | (go_at_call 167; (with_reducible refine (HPk.out _ gl2).mono ?_); rintro e w4 ⟨rfl, hb4⟩))
            go_roundw
            case rel => exact ⟨k + 1, by omega, by go_num, hid (below_alloc (below_trans hb.out hb4) _), hid ((hq.out.below hb4).alloc _), hn⟩
            case measure => simp [intOf]; omega
          · have hr := hid (hp.out.trans (F1.out (y1.trans hv)))
            rw [← y2] at hr
            have hT : parseT (Lib.trimPrefix l (sgn k)) = .tuple #[.agg #[.int .i64 (nth (Lib.trimPrefix l (sgn k)) 0 : Int), .int .i64 (nth (Lib.trimPrefix l (sgn k)) 1 : Int), .int .i64 (nth (Lib.trimPrefix l (sgn k)) 2 : Int), .string ⟨(aft 45 (Lib.trimPrefix l (sgn k))).toArray⟩], .bool true] := by unfold parseT; rw [hv]; rfl
            have hres := hid (show compRes R = .tuple #[.agg #[.int .i64 (k : Int), .int .i64 (nth (Lib.trimPrefix l (sgn k)) 0 : Int), .int .i64 (nth (Lib.trimPrefix l (sgn k)) 1 : Int), .int .i64 (nth (Lib.trimPrefix l (sgn k)) 2 : Int), .string ⟨(aft 45 (Lib.trimPrefix l (sgn k))).toArray⟩], .bool true] by rw [hr.out]; rfl)
            rw [hT] at HPk
            clear hp F0 F1 N Y hh y1 y2 hT hv hr
            generalize (⟨(sgn k).toArray⟩ : ByteArray) = sg at gk HCk
            generalize (nth (Lib.trimPrefix l (sgn k)) 0 : Int) = x0 at HPk hres
            generalize (nth (Lib.trimPrefix l (sgn k)) 1 : Int) = x1 at HPk hres
            generalize (nth (Lib.trimPrefix l (sgn k)) 2 : Int) = x2 at HPk hres
            generalize (⟨(aft 45 (Lib.trimPrefix l (sgn k))).toArray⟩ : ByteArray) = x3 at HPk hres
            generalize (⟨(Lib.trimPrefix l (sgn k)).toArray⟩ : ByteArray) = T at HCk HPk
            go_wp2_with (go_at_call 189; (with_reducible refine (HCk.out _).mono ?_); rintro e w3 ⟨rfl, rfl⟩)
            refine (HPk.out _ gl2).mono ?_
            rintro e w4 ⟨rfl, hb4⟩
            have hq4 := (hq.out.below hb4).alloc (.cells #[.int .i64 x0, .int .i64 x1, .int .i64 x2, .string x3] 41)
            have hb5 := below_alloc (below_trans hb.out hb4) (.cells #[.int .i64 x0, .int .i64 x1, .int .i64 x2, .string x3] 41)
            have r0 := hq4.cell 0 rfl
            have r1 := hq4.cell 1 rfl
            have r2 := hq4.cell 2 rfl
            have r3 := hq4.cell 3 rfl
            have r4 := hq4.cell 4 rfl
            have rf := hq4.free
            go_wp2_with fail
            obtain ⟨q0, q1, q2, q3, q4⟩ := five_cells hq4 (.int .i64 (k : Int)) (.int .i64 x0) (.int .i64 x1) (.int .i64 x2) (.string x3) _ rfl
            exact bodyPost_ret (v := .tuple #[.agg #[.int .i64 (k : Int), .int .i64 x0, .int .i64 x1, .int .i64 x2, .string x3], .bool true]) (by simp [results, Tryz.results165, go_sem, q0, q1, q2, q3, q4]) rfl (gives rfl hres.out.symm (setCells5 hb5 (Nat.le_refl _)))
      · have hr := hid (show compRes R = .tuple #[.agg #[.int .i64 0, .int .i64 0, .int .i64 0, .int .i64 0, .string ⟨#[]⟩], .bool false] by
          have := hp.out
          rw [show 8 - k = 0 by omega] at this
          rw [this]; rfl)
        clear hp HP HCP
        have r0 := hq.out.cell 0 rfl
        have r1 := hq.out.cell 1 rfl
        have r2 := hq.out.cell 2 rfl
        have r3 := hq.out.cell 3 rfl
        have r4 := hq.out.cell 4 rfl
        have rf := hq.out.free
        go_wp2_with fail
        obtain ⟨q0, q1, q2, q3, q4⟩ := five_cells hq.out (.int .i64 0) (.int .i64 0) (.int .i64 0) (.int .i64 0) (.string ⟨#[]⟩) _ rfl
        exact bodyPost_ret (v := .tuple #[.agg #[.int .i64 0, .int .i64 0, .int .i64 0, .int .i64 0, .string ⟨#[]⟩], .bool false]) (by simp [results, Tryz.results165, go_sem, q0, q1, q2, q3, q4]) rfl (gives rfl hr.out.symm (setCells5 hb.out (Nat.le_refl _)))
end Go.Proofs.YtmeaajhongalaaaGreatDoor.Sp
