/-
  SEVERAL TEXTS, one behind the other.
-/
import Derived.Test.YtebhgcejcdgdbaaGreatDoorMB
import Derived.Test.YtebhgcejcdgdbaaGreatDoorMA
import Derived.Deep.AppendLies
import Derived.Deep.RegionLaw
import Derived.Deep.DeepCutAuto
import Derived.Deep.CutBlock
/-
  LAYER 4, PACKAGE spec: parseComp.
-/
namespace Go.Proofs.YtebhgcejcdgdbaaGreatDoor.Sp
open Go.RowKit
open Go.Proofs.YtebhgcejcdgdbaaGreatDoor Go.Proofs.YtebhgcejcdgdbaaGreatDoor.Nu Go.Proofs.YtebhgcejcdgdbaaGreatDoor.Vs

theorem count_cut (c : UInt8) : ∀ (n : Nat) (l : List UInt8), l.length ≤ n → Lib.count l [c] + 1 = (cutl c l).length := by
  intro n
  induction n with
  | zero =>
    intro l h
    obtain rfl := List.eq_nil_of_length_eq_zero (Nat.le_zero.1 h)
    rw [Lib.count_miss (index_no (by simp)), cutl_no (by simp)]; rfl
  | succ n ih =>
    intro l hl
    by_cases h : c ∈ l
    · obtain ⟨a, r, rfl, ha⟩ := splits l h
      have := Lib.count_hit (sub := [c]) (by simp) (index_hit (r := r) ha)
      rw [show (a ++ c :: r).drop (a.length + [c].length) = r by rw [List.length_singleton, ← List.drop_drop, List.drop_left]; rfl] at this
      have h2 := ih r (by simp at hl; omega)
      rw [this, cutl_hit ha, List.length_cons]
      omega
    · rw [Lib.count_miss (index_no h), cutl_no h]; rfl

/-- a text, cut at each such byte -/
def SplitA (c : UInt8) (l : List UInt8) (w : World) (e : Ending) (w' : World) : Prop :=
  ∃ B, e = .returned (.slice (some ⟨B, 0, none⟩) (cutl c l).length (cutl c l).length) ∧ Below w.heap.size w w' ∧ CellsAt w' B 0 (cutl c l)
theorem split_any (s : ByteArray) (hs : s.size < 4294967281) (c : UInt8) (w : World) (hm : MaxAt w) :
    Calls Tryz.prog 28 #[.string s, .string ⟨#[c]⟩] w (SplitA c s.data.toList w) := by
  obtain ⟨m, _, hm⟩ := hm
  refine (Tryz.strings_Split s ⟨#[c]⟩ m w hs hm (Nat.le_refl 1)).mono ?_
  rintro e w' ⟨rfl, rfl⟩
  have hcc : (⟨#[c]⟩ : ByteArray).data.toList = [c] := rfl
  have h1 : Lib.countB s ⟨#[c]⟩ + 1 = (cutl c s.data.toList).length := count_cut c _ _ (Nat.le_refl _)
  have hd := Lib.splitB_data ⟨#[c]⟩ 0 (Lib.countB s ⟨#[c]⟩) s
  rw [hcc, (splitK_cut c _ _).1 (by omega)] at hd
  rw [h1]
  refine ⟨w.heap.size, rfl, below_alloc (Below.refl _ _) _, by simp, fun k hk => ?_⟩
  rw [World.cell?_alloc_at _ _ _ _ rfl, Nat.zero_add, List.getElem?_toArray, List.getElem?_map]
  have hk' : k < (Lib.splitB ⟨#[c]⟩ 0 (Lib.countB s ⟨#[c]⟩) s).length := by
    have := congrArg List.length hd; rw [List.length_map] at this; omega
  have e : (cutl c s.data.toList).getD k [] = (Lib.splitB ⟨#[c]⟩ 0 (Lib.countB s ⟨#[c]⟩) s)[k].data.toList := by
    rw [← hd]; simp [List.getD, List.getElem?_eq_getElem hk']
  rw [List.getElem?_eq_getElem hk', e]
  simp

/-- the program's row of signs, as it lies -/
def SignsAt (w : World) : Prop := 0 < w.heap.size ∧ ∀ k, k < 9 → w.cell? ⟨0, k, none⟩ = some (.string ⟨(sgn k).toArray⟩)
theorem SignsAt.below {w w' : World} (h : SignsAt w) (hb : Below w.heap.size w w') : SignsAt w' :=
  ⟨Nat.lt_of_lt_of_le h.1 hb.size, fun k hk => by rw [hb.cell h.1]; exact h.2 k hk⟩

def compVal (c : CompT) : Value := .agg #[.int .i64 (c.op : Int), .int .i64 (c.a : Int), .int .i64 (c.b : Int), .int .i64 (c.c : Int), .string ⟨c.p.toArray⟩]
def compRes (o : Option CompT) : Value := match o with
  | some c => .tuple #[compVal c, .bool true]
  | none => .tuple #[compVal ⟨0, 0, 0, 0, []⟩, .bool false]

theorem five_cells {wr : World} {B : Nat} {e : TypeId} {x y z p q : Value} (h : Blk wr B [x, y, z, p, q] e) (a b c d f : Value) :
    ∀ W, W = (((((wr.setCell ⟨B, 0, none⟩ a).setCell ⟨B, 1, none⟩ b).setCell ⟨B, 2, none⟩ c).setCell ⟨B, 3, none⟩ d).setCell ⟨B, 4, none⟩ f) →
    W.cell? ⟨B, 0, none⟩ = some a ∧ W.cell? ⟨B, 1, none⟩ = some b ∧ W.cell? ⟨B, 2, none⟩ = some c ∧ W.cell? ⟨B, 3, none⟩ = some d ∧ W.cell? ⟨B, 4, none⟩ = some f := by
  intro W hW
  subst hW
  have h' := ((((h.set 0 a).set 1 b).set 2 c).set 3 d).set 4 f
  exact ⟨h'.cell 0 rfl, h'.cell 1 rfl, h'.cell 2 rfl, h'.cell 3 rfl, h'.cell 4 rfl⟩
theorem setCells5 {w wr : World} {B : Nat} (h : Below w.heap.size w wr) (hB : w.heap.size ≤ B) {va vb vc vd ve : Value} :
    Below w.heap.size w (((((wr.setCell ⟨B, 0, none⟩ va).setCell ⟨B, 1, none⟩ vb).setCell ⟨B, 2, none⟩ vc).setCell ⟨B, 3, none⟩ vd).setCell ⟨B, 4, none⟩ ve) :=
  ((((h.setCell hB _).setCell hB _).setCell hB _).setCell hB _).setCell hB _

theorem hit_no {l : List UInt8} {k : Nat} (h : Lib.hasPrefix l (sgn k) = false) : hit l k = false := by
  unfold hit; unfold Lib.hasPrefix at h; rw [h]; rfl
theorem hit_yes {l : List UInt8} {k : Nat} (h : Lib.hasPrefix l (sgn k) = true) : hit l k = verV (Lib.trimPrefix l (sgn k)) ∧ Lib.trimPrefix l (sgn k) = l.drop (sgn k).length := by
  have e : Lib.trimPrefix l (sgn k) = l.drop (sgn k).length := by unfold Lib.trimPrefix; rw [if_pos h]
  rw [e]
  unfold hit; unfold Lib.hasPrefix at h; rw [h]; exact ⟨rfl, rfl⟩
theorem firstHit_no {l : List UInt8} {n k : Nat} (h : hit l k = false) : firstHit l (n + 1) k = firstHit l n (k + 1) := by
  rw [firstHit, h]; rfl
theorem firstHit_yes {l : List UInt8} {n k : Nat} (h : hit l k = true) : firstHit l (n + 1) k = some (ofV k (l.drop (sgn k).length)) := by
  rw [firstHit, h]; rfl

set_option maxRecDepth 20000 in
set_option maxHeartbeats 4000000 in
theorem parseComp_any (s : ByteArray) (hs : s.size < 4294967281) (w : World) (hm : MaxAt w) (hg : SignsAt w) :
    Calls Tryz.prog 51 #[.string s] w (Gives (compRes (compOf s.data.toList)) w) := by
  have HC := hid (show compOf s.data.toList = if s.data.toList = [42] then some anyC else firstHit s.data.toList 8 0 from rfl)
  have HCP := hid (fun p w => Tryz.strings_CutPrefix s p w)
  have g8 := hg.2 8 (by decide)
  have gl := hg.1
  rw [show (sgn 8) = [42] from rfl] at g8
  by_cases h0 : s.data.toList = [42]
  · obtain rfl : s = ⟨#[42]⟩ := by
      apply ByteArray.ext; apply Array.toList_inj.1; exact h0
    have hr := hid (HC.out.trans (if_pos h0))
    clear HC HCP h0
    generalize compOf (ByteArray.mk #[42]).data.toList = R at hr ⊢
    go_enter Tryz.func51, Tryz.ntmps51
    go_wp2_with fail
    have hn := Blk.new w [.int .i64 8, .int .i64 0, .int .i64 0, .int .i64 0, .string ⟨#[]⟩] 40
    have q0 := hn.cell 0 rfl
    have q1 := hn.cell 1 rfl
    have q2 := hn.cell 2 rfl
    have q3 := hn.cell 3 rfl
    have q4 := hn.cell 4 rfl
    exact bodyPost_ret (v := .tuple #[.agg #[.int .i64 8, .int .i64 0, .int .i64 0, .int .i64 0, .string ⟨#[]⟩], .bool true]) (by simp [results, Tryz.results51, go_sem, q0, q1, q2, q3, q4]) rfl (gives rfl (by rw [hr.out]; rfl) (below_alloc (Below.refl _ _) _))
  · have hr := hid (HC.out.trans (if_neg h0))
    have hne : (s.toList == [42]) = false := by rw [ByteArray.toList_eq, beq_eq_false_iff_ne]; exact h0
    have hls := hid (lenS s)
    generalize s.data.toList = l at *
    have hls' := hid (show l.length < 4294967281 by rw [hls.out]; exact hs)
    have HP := hid (fun k (w : World) (hm : MaxAt w) => parse_any ⟨(Lib.trimPrefix l (sgn k)).toArray⟩ (sizeL _ _ (by
      have : (Lib.trimPrefix l (sgn k)).length ≤ l.length := by
        unfold Lib.trimPrefix; split
        · rw [List.length_drop]; omega
        · exact Nat.le_refl _
      have := hls'.out; omega)) w hm)
    clear HC h0 hs hls hls'
    generalize compOf l = R at hr ⊢
    replace hr := hid (show R = firstHit l (8 - 0) 0 from hr.out)
    replace hg := hid hg
    clear g8 gl
    have hn := Blk.new w [.int .i64 0, .int .i64 0, .int .i64 0, .int .i64 0, .string ⟨#[]⟩] 40
    have hb0 := below_alloc (Below.refl w.heap.size w) (.cells #[.int .i64 0, .int .i64 0, .int .i64 0, .int .i64 0, .string ⟨#[]⟩] 40)
    have g8 := (hg.out.below hb0).2 8 (by decide)
    rw [show (sgn 8) = [42] from rfl] at g8
    replace hn := hid hn
    replace hb0 := hid hb0
    go_enter Tryz.func51, Tryz.ntmps51
    go_wp2_with fail
    clear g8
    go_loopw [4, 5, 6, 7, 8] (fun v _ _ _ _ wr => ∃ k : Nat, k ≤ 8 ∧ v = .int .i64 k ∧ Hid (Below w.heap.size w wr) ∧ Hid (Blk wr w.heap.size [.int .i64 0, .int .i64 0, .int .i64 0, .int .i64 0, .string ⟨#[]⟩] 40) ∧ Hid (R = firstHit l (8 - k) k)) (fun v _ _ _ _ _ => 8 - (intOf v).toNat)
    case atStart => exact ⟨0, by omega, rfl, hb0, hn, hr⟩
    case round =>
      obtain ⟨k, hk, rfl, hb, hq, hp⟩ := hrel
      clear hr hn hb0
      by_cases hlt : k < 8
      · have gk := (hg.out.below hb.out).2 k (by omega)
        have gl := (hg.out.below hb.out).1
        have k0 : (0 : Int) ≤ (k : Int) := by omega
        have k1 : (k : Int) < 9 := by omega
        have HCk := hid (HCP.out ⟨(sgn k).toArray⟩)
        have esg : (⟨(sgn k).toArray⟩ : ByteArray).data.toList = sgn k := rfl
        have N := hid (fun h => @hit_no l k h)
        have Y := hid (fun h => @hit_yes l k h)
        have e8 : 8 - k = (8 - (k + 1)) + 1 := by omega
        have F0 := hid (fun h => @firstHit_no l (8 - (k + 1)) k h)
        have F1 := hid (fun h => @firstHit_yes l (8 - (k + 1)) k h)
        rw [e8] at hp
        rw [esg] at HCk
        have HPk := hid (fun w hm => HP.out k w hm)
        clear HCP HP e8 esg
        cases hh : Lib.hasPrefix l (sgn k)
        · rw [hh] at HCk
          have hn := hid (hp.out.trans (F0.out (N.out hh)))
          clear hp F0 F1 N Y hh HPk
          generalize (⟨(sgn k).toArray⟩ : ByteArray) = sg at gk HCk
          generalize (⟨(Lib.trimPrefix l (sgn k)).toArray⟩ : ByteArray) = T at HCk
          go_wp2_with (go_at_call 75; (with_reducible refine (HCk.out _).mono ?_); rintro e w3 ⟨rfl, rfl⟩)
          go_roundw
          case rel => exact ⟨k + 1, by omega, by go_num, hb, hq, hn⟩
          case measure => simp [intOf]; omega
        · rw [hh] at HCk
          obtain ⟨y1, y2⟩ := Y.out hh
          have gl2 := hm.below hb.out
          cases hv : verV (Lib.trimPrefix l (sgn k))
          · have hn := hid (hp.out.trans (F0.out (y1.trans hv)))
            have hT : parseT (Lib.trimPrefix l (sgn k)) = .tuple #[.agg #[.int .i64 0, .int .i64 0, .int .i64 0, .string ⟨#[]⟩], .bool false] := by unfold parseT; rw [hv]; rfl
            rw [hT] at HPk
            clear hp F0 F1 N Y hh y1 y2 hT hv
            generalize (⟨(sgn k).toArray⟩ : ByteArray) = sg at gk HCk
            generalize (⟨(Lib.trimPrefix l (sgn k)).toArray⟩ : ByteArray) = T at HCk HPk
            go_wp2_with (first
              | (go_at_call 75; (with_reducible refine (HCk.out _).mono ?_); rintro e w3 ⟨rfl, rfl⟩)
              | (go_at_call 24; (with_reducible refine (HPk.out _ gl2).mono ?_); rintro e w4 ⟨rfl, hb4⟩))
            go_roundw
            case rel => exact ⟨k + 1, by omega, by go_num, hid (below_alloc (below_trans hb.out hb4) _), hid ((hq.out.below hb4).alloc _), hn⟩
            case measure => simp [intOf]; omega
          · have hr := hid (hp.out.trans (F1.out (y1.trans hv)))
            rw [← y2] at hr
            have hT : parseT (Lib.trimPrefix l (sgn k)) = .tuple #[.agg #[.int .i64 (nth (Lib.trimPrefix l (sgn k)) 0 : Int), .int .i64 (nth (Lib.trimPrefix l (sgn k)) 1 : Int), .int .i64 (nth (Lib.trimPrefix l (sgn k)) 2 : Int), .string ⟨(aft 45 (Lib.trimPrefix l (sgn k))).toArray⟩], .bool true] := by unfold parseT; rw [hv]; rfl
            have hres := hid (show compRes R = .tuple #[.agg #[.int .i64 (k : Int), .int .i64 (nth (Lib.trimPrefix l (sgn k)) 0 : Int), .int .i64 (nth (Lib.trimPrefix l (sgn k)) 1 : Int), .int .i64 (nth (Lib.trimPrefix l (sgn k)) 2 : Int), .string ⟨(aft 45 (Lib.trimPrefix l (sgn k))).toArray⟩], .bool true] by rw [hr.out]; rfl)
            rw [hT] at HPk
            clear hp F0 F1 N Y hh y1 y2 hT hv hr
            generalize (⟨(sgn k).toArray⟩ : ByteArray) = sg at gk HCk
            generalize (nth (Lib.trimPrefix l (sgn k)) 0 : Int) = x0 at HPk hres
            generalize (nth (Lib.trimPrefix l (sgn k)) 1 : Int) = x1 at HPk hres
            generalize (nth (Lib.trimPrefix l (sgn k)) 2 : Int) = x2 at HPk hres
            generalize (⟨(aft 45 (Lib.trimPrefix l (sgn k))).toArray⟩ : ByteArray) = x3 at HPk hres
            generalize (⟨(Lib.trimPrefix l (sgn k)).toArray⟩ : ByteArray) = T at HCk HPk
            go_wp2_with (go_at_call 75; (with_reducible refine (HCk.out _).mono ?_); rintro e w3 ⟨rfl, rfl⟩)
            refine (HPk.out _ gl2).mono ?_
            rintro e w4 ⟨rfl, hb4⟩
            have hq4 := (hq.out.below hb4).alloc (.cells #[.int .i64 x0, .int .i64 x1, .int .i64 x2, .string x3] 38)
            have hb5 := below_alloc (below_trans hb.out hb4) (.cells #[.int .i64 x0, .int .i64 x1, .int .i64 x2, .string x3] 38)
            have r0 := hq4.cell 0 rfl
            have r1 := hq4.cell 1 rfl
            have r2 := hq4.cell 2 rfl
            have r3 := hq4.cell 3 rfl
            have r4 := hq4.cell 4 rfl
            have rf := hq4.free
            go_wp2_with fail
            obtain ⟨q0, q1, q2, q3, q4⟩ := five_cells hq4 (.int .i64 (k : Int)) (.int .i64 x0) (.int .i64 x1) (.int .i64 x2) (.string x3) _ rfl
            exact bodyPost_ret (v := .tuple #[.agg #[.int .i64 (k : Int), .int .i64 x0, .int .i64 x1, .int .i64 x2, .string x3], .bool true]) (by simp [results, Tryz.results51, go_sem, q0, q1, q2, q3, q4]) rfl (gives rfl hres.out.symm (setCells5 hb5 (Nat.le_refl _)))
      · have hr := hid (show compRes R = .tuple #[.agg #[.int .i64 0, .int .i64 0, .int .i64 0, .int .i64 0, .string ⟨#[]⟩], .bool false] by
          have := hp.out
          rw [show 8 - k = 0 by omega] at this
          rw [this]; rfl)
        clear hp HP HCP
        have r0 := hq.out.cell 0 rfl
        have r1 := hq.out.cell 1 rfl
        have r2 := hq.out.cell 2 rfl
        have r3 := hq.out.cell 3 rfl
        have r4 := hq.out.cell 4 rfl
        have rf := hq.out.free
        go_wp2_with fail
        obtain ⟨q0, q1, q2, q3, q4⟩ := five_cells hq.out (.int .i64 0) (.int .i64 0) (.int .i64 0) (.int .i64 0) (.string ⟨#[]⟩) _ rfl
        exact bodyPost_ret (v := .tuple #[.agg #[.int .i64 0, .int .i64 0, .int .i64 0, .int .i64 0, .string ⟨#[]⟩], .bool false]) (by simp [results, Tryz.results51, go_sem, q0, q1, q2, q3, q4]) rfl (gives rfl hr.out.symm (setCells5 hb.out (Nat.le_refl _)))
end Go.Proofs.YtebhgcejcdgdbaaGreatDoor.Sp

/-
  THE DOCUMENT'S NUMBERS: a text as a number, and a number's digits.
-/
namespace Go.Proofs.YtebhgcejcdgdbaaGreatDoor.Nu
open Go.RowKit
open Go.Proofs.YtebhgcejcdgdbaaGreatDoor

def NumIs (l : List UInt8) (w : World) (e : Ending) (w' : World) : Prop := e = .returned (.tuple #[.int .i64 (numN l : Int), .bool (numB l)]) ∧ w = w'
theorem num_no {l : List UInt8} {w : World} {e : Ending} {w' : World} (h : numB l = false) (he : e = .returned (.tuple #[.int .i64 0, .bool false])) (hw : w = w') : NumIs l w e w' := by
  unfold NumIs numN; rw [h]; exact ⟨he, hw⟩

set_option maxHeartbeats 2000000 in
theorem refNumber_any (s : ByteArray) (hs : s.size ≤ maxLen) (w : World) :
    Calls Tryz.prog 63 #[.string s] w (NumIs s.data.toList w) := by
  unfold maxLen at hs
  have hsl : s.data.toList.length = s.size := by simp
  by_cases h1 : s.size < 1
  · have h1' : (s.size : Int) < 1 := by omega
    have HN := hid (show numB s.data.toList = false from decide_eq_false (by rw [hsl]; omega))
    clear hsl
    go_enter Tryz.func63, Tryz.ntmps63
    go_wp2_with fail
    refine bodyPost_ret (v := .tuple #[.int .i64 0, .bool false]) (by simp [results, Tryz.results63, go_sem]) rfl ?_
    exact num_no HN.out rfl rfl
  by_cases h9 : 9 < s.size
  · have h1' : ¬ (s.size : Int) < 1 := by omega
    have h9' : (9 : Int) < (s.size : Int) := by omega
    have HN := hid (show numB s.data.toList = false from decide_eq_false (by rw [hsl]; omega))
    clear hsl
    go_enter Tryz.func63, Tryz.ntmps63
    go_wp2_with fail
    refine bodyPost_ret (v := .tuple #[.int .i64 0, .bool false]) (by simp [results, Tryz.results63, go_sem]) rfl ?_
    exact num_no HN.out rfl rfl
  have h1' : ¬ (s.size : Int) < 1 := by omega
  have h9' : ¬ (9 : Int) < (s.size : Int) := by omega
  have hz : 0 < s.size := by omega
  have hb0 := hid (byte_at s 0 hz)
  by_cases hlead : 1 < s.size ∧ (s[0].toNat : Int) = 48
  · have g1 : (1 : Int) < (s.size : Int) := by omega
    have g2 : ((s[0].toNat : Int) == 48) = true := by rw [hlead.2]; rfl
    have HN := hid (show numB s.data.toList = false from decide_eq_false (by
      rintro ⟨_, _, h, _⟩
      apply h
      rw [hb0.out, hsl]
      refine ⟨hlead.1, ?_⟩
      congr 1
      apply UInt8.toNat_inj.1
      have := hlead.2
      show s[0].toNat = 48
      omega))
    clear hsl hlead hb0
    go_enter Tryz.func63, Tryz.ntmps63
    go_wp2_with fail
    refine bodyPost_ret (v := .tuple #[.int .i64 0, .bool false]) (by simp [results, Tryz.results63, go_sem]) rfl ?_
    exact num_no HN.out rfl rfl
  have HLEAD := hid hlead
  have HSL := hid hsl
  clear hsl hlead hb0
  have walk : (((1 : Int) < (s.size : Int)) ∧ ((s[0].toNat : Int) == 48) = false) ∨ ¬ ((1 : Int) < (s.size : Int)) := by
    by_cases h : 1 < s.size
    · left; refine ⟨by omega, ?_⟩; rw [beq_eq_false_iff_ne]; intro h'; exact HLEAD.out ⟨h, h'⟩
    · right; omega
  rcases walk with ⟨g1, g2⟩ | g1
  · go_enter Tryz.func63, Tryz.ntmps63
    go_wp2_with fail
    go_loop [4, 5] (fun v u => ∃ k : Nat, k ≤ s.size ∧ u = .int .i64 (k : Nat) ∧ v = .int .i64 (digV (s.data.toList.take k) : Nat) ∧ digV (s.data.toList.take k) < 10 ^ k ∧ run dgB s.data.toList 0 = k + run dgB s.data.toList k) (fun _ u => s.size - (intOf u).toNat)
    case atStart => exact ⟨0, by omega, rfl, rfl, by simp [digV], by simp⟩
    case round =>
      obtain ⟨k, hk, rfl, rfl, hpow, hkr⟩ := hrel
      have HP := hid hpow
      have HKR := hid hkr
      clear hpow hkr
      by_cases hlt : k < s.size
      · have hb := hid (byte_at s k hlt)
        have hi := hid (dgB_int s[k])
        have hcc : (s[k].toNat : Int) ≤ 255 := by have := s[k].toNat_lt; omega
        by_cases hd1 : (s[k].toNat : Int) < 48
        · have HN := hid (num_off HKR.out hb.out (by rw [hi.out, decide_eq_false (by omega)]; rfl))
          go_wp2_with fail
          refine bodyPost_ret (v := .tuple #[.int .i64 0, .bool false]) (by simp [results, Tryz.results63, go_sem]) rfl ?_
          exact num_no HN.out rfl rfl
        · by_cases hd2 : (57 : Int) < (s[k].toNat : Int)
          · have HN := hid (num_off HKR.out hb.out (by rw [hi.out, decide_eq_false (show ¬ (s[k].toNat : Int) ≤ 57 by omega), Bool.and_false]))
            go_wp2_with fail
            refine bodyPost_ret (v := .tuple #[.int .i64 0, .bool false]) (by simp [results, Tryz.results63, go_sem]) rfl ?_
            exact num_no HN.out rfl rfl
          · have hdg : dgB s[k] = true := by rw [hi.out, decide_eq_true (by omega), decide_eq_true (by omega)]; rfl
            have HD := hid (digV_lt hb.out hdg HP.out)
            have HX := hid (digV_next hb.out)
            have hv8 : digV (s.data.toList.take k) < 100000000 := Nat.lt_of_lt_of_le HP.out (pow8 (by omega))
            have HY := hid (run_yes hb.out hdg)
            clear hdg
            generalize hV : digV (s.data.toList.take k) = V at *
            clear hV
            go_wp2_with fail
            go_round
            case rel => exact ⟨k + 1, by omega, by go_num, by rw [HX.out]; go_num, HD.out, by rw [HKR.out, HY.out]; omega⟩
            case measure => simp [intOf]; omega
      · have hks : k = s.size := by omega
        have HN : Hid (numB s.data.toList = true) := hid (decide_eq_true (by
          rw [HSL.out]
          refine ⟨by omega, by omega, ?_, ?_⟩
          · rintro ⟨h1, h2⟩
            have hb0 := byte_at s 0 hz
            rw [hb0] at h2
            injection h2 with h2
            exact HLEAD.out ⟨h1, by rw [h2]; rfl⟩
          · have hend := run_end (p := dgB) (l := s.data.toList) (a := k) (by rw [HSL.out]; omega)
            rw [HKR.out, hend]; omega))
        have HT := hid (show s.data.toList.take k = s.data.toList from List.take_of_length_le (by rw [HSL.out]; omega))
        clear hks
        go_wp2_with fail
        refine bodyPost_ret (v := .tuple #[.int .i64 (digV (s.data.toList.take k) : Nat), .bool true]) (by simp [results, Tryz.results63, go_sem]) rfl ?_
        unfold NumIs numN
        rw [HN.out, if_pos rfl, HT.out]
        exact ⟨rfl, rfl⟩
  · go_enter Tryz.func63, Tryz.ntmps63
    go_wp2_with fail
    go_loop [4, 5] (fun v u => ∃ k : Nat, k ≤ s.size ∧ u = .int .i64 (k : Nat) ∧ v = .int .i64 (digV (s.data.toList.take k) : Nat) ∧ digV (s.data.toList.take k) < 10 ^ k ∧ run dgB s.data.toList 0 = k + run dgB s.data.toList k) (fun _ u => s.size - (intOf u).toNat)
    case atStart => exact ⟨0, by omega, rfl, rfl, by simp [digV], by simp⟩
    case round =>
      obtain ⟨k, hk, rfl, rfl, hpow, hkr⟩ := hrel
      have HP := hid hpow
      have HKR := hid hkr
      clear hpow hkr
      by_cases hlt : k < s.size
      · have hb := hid (byte_at s k hlt)
        have hi := hid (dgB_int s[k])
        have hcc : (s[k].toNat : Int) ≤ 255 := by have := s[k].toNat_lt; omega
        by_cases hd1 : (s[k].toNat : Int) < 48
        · have HN := hid (num_off HKR.out hb.out (by rw [hi.out, decide_eq_false (by omega)]; rfl))
          go_wp2_with fail
          refine bodyPost_ret (v := .tuple #[.int .i64 0, .bool false]) (by simp [results, Tryz.results63, go_sem]) rfl ?_
          exact num_no HN.out rfl rfl
        · by_cases hd2 : (57 : Int) < (s[k].toNat : Int)
          · have HN := hid (num_off HKR.out hb.out (by rw [hi.out, decide_eq_false (show ¬ (s[k].toNat : Int) ≤ 57 by omega), Bool.and_false]))
            go_wp2_with fail
            refine bodyPost_ret (v := .tuple #[.int .i64 0, .bool false]) (by simp [results, Tryz.results63, go_sem]) rfl ?_
            exact num_no HN.out rfl rfl
          · have hdg : dgB s[k] = true := by rw [hi.out, decide_eq_true (by omega), decide_eq_true (by omega)]; rfl
            have HD := hid (digV_lt hb.out hdg HP.out)
            have HX := hid (digV_next hb.out)
            have hv8 : digV (s.data.toList.take k) < 100000000 := Nat.lt_of_lt_of_le HP.out (pow8 (by omega))
            have HY := hid (run_yes hb.out hdg)
            clear hdg
            generalize hV : digV (s.data.toList.take k) = V at *
            clear hV
            go_wp2_with fail
            go_round
            case rel => exact ⟨k + 1, by omega, by go_num, by rw [HX.out]; go_num, HD.out, by rw [HKR.out, HY.out]; omega⟩
            case measure => simp [intOf]; omega
      · have hks : k = s.size := by omega
        have HN : Hid (numB s.data.toList = true) := hid (decide_eq_true (by
          rw [HSL.out]
          refine ⟨by omega, by omega, ?_, ?_⟩
          · rintro ⟨h1, h2⟩
            have hb0 := byte_at s 0 hz
            rw [hb0] at h2
            injection h2 with h2
            exact HLEAD.out ⟨h1, by rw [h2]; rfl⟩
          · have hend := run_end (p := dgB) (l := s.data.toList) (a := k) (by rw [HSL.out]; omega)
            rw [HKR.out, hend]; omega))
        have HT := hid (show s.data.toList.take k = s.data.toList from List.take_of_length_le (by rw [HSL.out]; omega))
        clear hks
        go_wp2_with fail
        refine bodyPost_ret (v := .tuple #[.int .i64 (digV (s.data.toList.take k) : Nat), .bool true]) (by simp [results, Tryz.results63, go_sem]) rfl ?_
        unfold NumIs numN
        rw [HN.out, if_pos rfl, HT.out]
        exact ⟨rfl, rfl⟩

set_option maxRecDepth 100000 in
set_option maxHeartbeats 2000000 in
theorem digits_any (n : Nat) (hn : n ≤ 1099511627776) (w : World) :
    Calls Tryz.prog 56 #[.int .i64 (n : Int)] w fun e w' => e = .returned (.string ⟨(decS n).toArray⟩) ∧ Below w.heap.size w w' := by
  have hlen := dec_len n n (Nat.le_refl _)
  have HL := hid hlen
  have HR := hid (rfl : decS n = decS n)
  clear hlen HR
  generalize hD : decS n = D at *
  have HD := hid hD
  clear hD
  go_enter Tryz.func56, Tryz.ntmps56
  go_wp2_with fail
  go_loopw [0, 3] (fun v u wr => ∃ (k : Nat) (s : List UInt8), k ≤ n ∧ v = .int .i64 (k : Nat) ∧ u = .string ⟨s.toArray⟩ ∧ D = decS k ++ s ∧ Below w.heap.size w wr) (fun v _ _ => (intOf v).toNat + 1)
  case atStart => exact ⟨n, [], by omega, rfl, rfl, by rw [HD.out]; simp, Below.refl _ _⟩
  case round =>
    obtain ⟨k, s, hk, rfl, rfl, hds, hbl⟩ := hrel
    have HDS := hid hds
    have hsl : s.length ≤ 1099511627777 := by
      have := congrArg List.length hds
      rw [List.length_append] at this
      have := HL.out
      omega
    clear hds
    have cv := run_one_byte (P := Tryz.prog) wr 89 9 5 5 _ _ (chr_int k) Tryz.underlying89 Tryz.underlying5 Tryz.underlying9
    have hcat : ∀ (a b : List UInt8), (⟨a.toArray⟩ : ByteArray) ++ ⟨b.toArray⟩ = ⟨(a ++ b).toArray⟩ := fun a b => by
      apply ByteArray.ext; simp
    by_cases hk10 : k < 10
    · have hq : (k : Int) / 10 ≤ 0 := by omega
      go_wp2_with fail
      go_ret
      exact ⟨ret_str (by rw [HDS.out, decS_small hk10]; rfl), below_alloc hbl _⟩
    · have hq : ¬ (k : Int) / 10 ≤ 0 := by omega
      go_wp2_with fail
      go_roundw
      case rel => exact ⟨k / 10, chr k :: s, by omega, by go_num, rfl, by rw [HDS.out, dec_step hk10], below_alloc hbl _⟩
      case measure => simp [intOf]; omega

end Go.Proofs.YtebhgcejcdgdbaaGreatDoor.Nu

/-
  LAYER 3, THE DOCUMENT'S ANSWERS: texts cut at each such byte, digits, parts.
-/
namespace Go.Proofs.YtebhgcejcdgdbaaGreatDoor.Vs
open Go.RowKit
open Go.Proofs.YtebhgcejcdgdbaaGreatDoor Go.Proofs.YtebhgcejcdgdbaaGreatDoor.Nu

theorem infoS : (Tryz.prog.info? 9).map (fun i => (i.zero, i.size, i.bytes)) = some (some (.string ⟨#[]⟩), 1, 16) := by kernel_rfl
def strs (ps : List (List UInt8)) : List Value := ps.map fun l => .string ⟨l.toArray⟩
theorem info_parts {P : Program} {t : TypeId} {z : Value} {a b : Nat} (h : (P.info? t).map (fun i => (i.zero, i.size, i.bytes)) = some (some z, a, b)) :
    ∃ i, P.info? t = some i ∧ i.zero = some z ∧ i.size = a ∧ i.bytes = b := by
  cases hi : P.info? t with
  | none => rw [hi] at h; cases h
  | some i => rw [hi] at h; simp at h; exact ⟨i, rfl, h.1, h.2.1, h.2.2⟩
theorem ref_cells {w : World} {base : Nat} {v : Value} {n : Nat} {ps : List (List UInt8)} (h : w.ownsRow base 9 1 v n (strs ps)) (hn : n = ps.length) (hne : ps ≠ []) :
    ∃ g c, v = .slice (some ⟨g, 0, none⟩) ps.length c ∧ base ≤ g ∧ ps.length ≤ c ∧ c ≤ maxLen ∧ CellsAt w g 0 ps := by
  subst hn
  rcases ownsRow_one h with ⟨_, h0, _⟩ | ⟨g, c, hv, h1, h2, h3, h4, h5⟩
  · exact absurd (List.eq_nil_of_length_eq_zero h0) hne
  · refine ⟨g, c, hv, h1, h3, h4, h2, fun k hk => ?_⟩
    rw [Nat.zero_add]
    exact h5 k _ (by unfold strs; rw [List.getElem?_map, List.getElem?_eq_getElem hk]; simp [List.getD, List.getElem?_eq_getElem hk])

/-- what the document's Cut comes to -/
def RCutIs (x : UInt8) (l : List UInt8) (w : World) (e : Ending) (w' : World) : Prop :=
  ∃ g c, w.heap.size ≤ g ∧ e = .returned (.slice (some ⟨g, 0, none⟩) (cutl x l).length c) ∧ (cutl x l).length ≤ c ∧ c ≤ maxLen ∧ Below w.heap.size w w' ∧ CellsAt w' g 0 (cutl x l)

theorem cut_hit {x : UInt8} {l cur : List UInt8} {done : List (List UInt8)} {k : Nat} {c : UInt8} (h : l[k]? = some c) (hc : c = x) : cutA x done cur (l.drop k) = cutA x (done ++ [cur]) [] (l.drop (k + 1)) := by
  have hk := (List.getElem?_eq_some_iff.1 h).1
  have e : l[k] = c := (List.getElem?_eq_some_iff.1 h).2
  rw [List.drop_eq_getElem_cons hk, e, hc]
  rw [cutA, if_pos (by simp)]
theorem cut_go {x : UInt8} {l cur : List UInt8} {done : List (List UInt8)} {k : Nat} {c : UInt8} (h : l[k]? = some c) (hc : c ≠ x) : cutA x done cur (l.drop k) = cutA x done (cur ++ [c]) (l.drop (k + 1)) := by
  have hk := (List.getElem?_eq_some_iff.1 h).1
  have e : l[k] = c := (List.getElem?_eq_some_iff.1 h).2
  rw [List.drop_eq_getElem_cons hk, e]
  rw [cutA, if_neg (by simpa using hc)]
theorem slice_next {l : List UInt8} {f k : Nat} {c : UInt8} (h : l[k]? = some c) (hf : f ≤ k) : (l.drop f).take (k + 1 - f) = (l.drop f).take (k - f) ++ [c] := by
  rw [show k + 1 - f = (k - f) + 1 by omega, List.take_add_one, List.getElem?_drop, show f + (k - f) = k by omega, h]; rfl

set_option maxHeartbeats 4000000 in
theorem rcut_any (s : ByteArray) (hs : s.size < 4294967281) (x : UInt8) (w : World) :
    Calls Tryz.prog 30 #[.string s, .int .u8 (x.toNat : Int)] w (RCutIs x s.data.toList w) := by
  have hlen := hid (lenS s)
  have hne := hid (cutl_ne x s.data.toList)
  have hR := hid (show cutl x s.data.toList = cutA x [] [] (s.data.toList.drop 0) from rfl)
  have hCL := hid (cutl_len x _ s.data.toList (Nat.le_refl _))
  generalize hC : cutl x s.data.toList = C at hne hR hCL
  unfold RCutIs
  rw [hC]
  clear hC
  have hS := hid hs
  have hB := hid (fun k h => byte_at s k h)
  have HIT := hid (fun k c cur done h hc => cut_hit (x := x) (l := s.data.toList) (k := k) (c := c) (cur := cur) (done := done) h hc)
  have GO := hid (fun k c cur done h hc => cut_go (x := x) (l := s.data.toList) (k := k) (c := c) (cur := cur) (done := done) h hc)
  have NX := hid (fun f k c h hf => slice_next (l := s.data.toList) (f := f) (k := k) (c := c) h hf)
  have EX := hid (fun f k => extract_eq s f k)
  have hxb : (x.toNat : Int) ≤ 255 := by have := x.toNat_lt; omega
  generalize s.data.toList = l at *
  go_enter Tryz.func30, Tryz.ntmps30
  go_wp2_with fail
  go_loopw [5, 6, 7] (fun o f i wr => ∃ (k fr : Nat) (done : List (List UInt8)), k ≤ s.size ∧ fr ≤ k ∧ i = .int .i64 k ∧ f = .int .i64 fr ∧ Below w.heap.size w wr ∧ Hid (wr.ownsRow w.heap.size 9 1 o done.length (strs done)) ∧ Hid (done.length ≤ k) ∧ Hid (C = cutA x done ((l.drop fr).take (k - fr)) (l.drop k))) (fun _ _ i _ => s.size - (intOf i).toNat)
  case atStart => exact ⟨0, 0, [], by omega, by omega, rfl, rfl, Below.refl _ _, hid (World.ownsRow_nil _ _ _ _), hid (Nat.le_refl _), hid (by rw [hR.out]; simp)⟩
  case round =>
    obtain ⟨k, fr, done, hk, hf, rfl, rfl, hb1, hown, hdl, hcu⟩ := hrel
    obtain ⟨oa, oc, ho⟩ := own_shape hown.out
    subst ho
    have ia : (0 : Int) ≤ (fr : Int) := by omega
    have ib : (fr : Int) ≤ (k : Int) := by omega
    have ic : (k : Int) ≤ (s.size : Int) := by omega
    obtain ⟨iS, hi, hz0, hz1, hz2⟩ := info_parts infoS
    have hi := hid hi
    have hz0 := hid hz0
    have hz1 := hid hz1
    have hz2 := hid hz2
    have hwb := hid hb1.size
    by_cases hlt : k < s.size
    · have hbk := hid (hB.out k hlt)
      by_cases he : (s[k].toNat : Int) = (x.toNat : Int)
      · have he' : ((s[k].toNat : Int) == (x.toNat : Int)) = true := by simpa using he
        have hc2 := hid (hcu.out.trans (HIT.out k s[k] _ done hbk.out (UInt8.toNat_inj.1 (by omega))))
        have hex := EX.out fr k
        clear he hcu
        generalize (l.drop fr).take (k - fr) = P at hex hc2
        go_wp2_with (at_builtin; refine wpList_append_lies _ rfl _ _ 43 rfl w.heap.size 9 iS (.string ⟨#[]⟩) 1 16 Tryz.underlying43 hi.out hz0.out hz1.out hz2.out rfl (by decide) _ _ _ rfl (hown.out.alloc _) ⟨_, 0, none⟩ 1 1 [.string ⟨P.toArray⟩] rfl rfl ?c1 ?c2 ?cm ?c3 ?c4 ?c5 _ rfl ?_)
        case c1 => exact cell_one_at _ _ _ _ (by simp)
        case c2 => intro u hu; simp at hu; subst hu; rfl
        case cm => decide
        case c3 => have := hdl.out; have := hS.out; unfold maxLen; omega
        case c4 => have := hdl.out; have := hS.out; omega
        case c5 => have := hwb.out; simp; omega
        intro g cap w3 hown3 hgrow hat hlt3
        have kp := (below_alloc hb1 _).grown hgrow (by have := hwb.out; simp; omega) (fun k hk => by have := (hown.out.lt k hk).1; omega)
        have HOWN3 := hid hown3
        clear hown3 hgrow hat
        go_wp2
        go_roundw
        case rel =>
          refine ⟨k + 1, k + 1, done ++ [P], by omega, by omega, by go_num, by go_num, kp, hid ?_, hid (by have := hdl.out; simp; omega), hid ?_⟩
          · have := HOWN3.out
            unfold strs at this ⊢
            rw [List.map_append, List.length_append]; exact this
          · rw [Nat.sub_self]; exact hc2.out
        case measure => simp [intOf]; omega
      · have he' : ((s[k].toNat : Int) == (x.toNat : Int)) = false := by simpa using he
        have hc2 := hid (hcu.out.trans (GO.out k s[k] _ done hbk.out (by intro e; exact he (by rw [e]))))
        have hx2 := hid (NX.out fr k s[k] hbk.out hf)
        clear he hcu
        go_wp2_with fail
        go_roundw
        case rel => exact ⟨k + 1, fr, done, by omega, by omega, by go_num, rfl, hb1, hown, hid (by have := hdl.out; omega), hid (by rw [hx2.out]; exact hc2.out)⟩
        case measure => simp [intOf]; omega
    · have hks : k = s.size := by omega
      have hex := EX.out fr s.size
      have hcc := hid (show C = done ++ [(l.drop fr).take (s.size - fr)] by
        have e : l.drop s.size = [] := List.drop_of_length_le (by rw [hlen.out]; exact Nat.le_refl _)
        rw [hcu.out, hks, e]; rfl)
      clear hcu
      generalize (l.drop fr).take (s.size - fr) = P at hex hcc
      have id : (fr : Int) ≤ (s.size : Int) := by omega
      go_wp2_with (at_builtin; refine wpList_append_lies _ rfl _ _ 43 rfl w.heap.size 9 iS (.string ⟨#[]⟩) 1 16 Tryz.underlying43 hi.out hz0.out hz1.out hz2.out rfl (by decide) _ _ _ rfl (hown.out.alloc _) ⟨_, 0, none⟩ 1 1 [.string ⟨P.toArray⟩] rfl rfl ?c1 ?c2 ?cm ?c3 ?c4 ?c5 _ rfl ?_)
      case c1 => exact cell_one_at _ _ _ _ (by simp)
      case c2 => intro u hu; simp at hu; subst hu; rfl
      case cm => decide
      case c3 => have := hdl.out; have := hS.out; unfold maxLen; omega
      case c4 => have := hdl.out; have := hS.out; omega
      case c5 => have := hwb.out; simp; omega
      intro g cap w3 hown3 hgrow hat hlt3
      have kp := (below_alloc hb1 _).grown hgrow (by have := hwb.out; simp; omega) (fun k hk => by have := (hown.out.lt k hk).1; omega)
      have HOWN3 := hid hown3
      clear hown3 hgrow hat
      go_wp2
      go_ret
      have hrow : w3.ownsRow w.heap.size 9 1 (.slice (some ⟨g, 0, none⟩) (done.length + 1) cap) (done.length + 1) (strs C) := by
        have := HOWN3.out
        rw [hcc.out]
        unfold strs at this ⊢
        rw [List.map_append]; exact this
      obtain ⟨g', c', hv, hge, h3, h4, h5⟩ := ref_cells hrow (by rw [hcc.out]; simp) hne.out
      rw [hv]
      exact ⟨g', c', hge, rfl, h3, h4, kp, h5⟩

theorem all_next {p : UInt8 → Bool} {l : List UInt8} {k : Nat} {c : UInt8} (h : l[k]? = some c) (hp : p c = true) (ha : (l.take k).all p = true) : (l.take (k + 1)).all p = true := take_all ha h hp

/-- what a call comes to that gives v, and leaves memory as it was -/
def GivesE (v : Value) (w : World) (e : Ending) (w' : World) : Prop := e = .returned v ∧ w = w'
theorem givesE {v v' : Value} {w : World} {e : Ending} (he : e = .returned v') (h : v' = v) : GivesE v w e w := ⟨by rw [he, h], rfl⟩
theorem loudE {f : FuncId} {args : Array Value} {w : World} {v : Value} (h : Calls Tryz.prog f args w (GivesE v w)) : Calls Tryz.prog f args w (Gives v w) :=
  h.mono fun _ _ ⟨he, hw⟩ => ⟨he, below_of hw⟩

theorem rnumber_any (s : ByteArray) (hs : s.size < 4294967281) (w : World) :
    Calls Tryz.prog 57 #[.string s] w (GivesE (.tuple #[.int .i64 (numN s.data.toList : Int), .bool (numV s.data.toList)]) w) := by
  have HN := hid (refNumber_any s (by unfold maxLen; omega))
  have hV := hid (show numV s.data.toList = (numB s.data.toList && decide ((s.size : Int) ≤ 6)) by
    unfold numV; rw [lenS]; congr 1; rw [Bool.eq_iff_iff]; simp; omega)
  unfold NumIs at HN
  generalize numV s.data.toList = V at hV ⊢
  generalize numB s.data.toList = b at HN hV
  generalize numN s.data.toList = n at HN ⊢
  cases b
  · go_enter Tryz.func57, Tryz.ntmps57
    go_wp2_with (go_at_call 63; (with_reducible refine (HN.out _).mono ?_); rintro e w' ⟨rfl, hw⟩)
    go_ret2
    subst hw
    exact givesE rfl (by rw [hV.out]; rfl)
  · go_enter Tryz.func57, Tryz.ntmps57
    go_wp2_with (go_at_call 63; (with_reducible refine (HN.out _).mono ?_); rintro e w' ⟨rfl, hw⟩)
    go_ret2
    subst hw
    exact givesE rfl (by rw [hV.out]; rfl)

set_option maxHeartbeats 1000000 in
theorem rdigits_any (s : ByteArray) (hs : s.size < 4294967281) (w : World) :
    Calls Tryz.prog 62 #[.string s] w (GivesE (.bool (s.data.toList.all dgB)) w) := by
  have hlen := hid (lenS s)
  have hB := hid (fun k h => byte_at s k h)
  generalize s.data.toList = l at *
  generalize hA : l.all dgB = R
  have hR := hid hA
  clear hA
  go_enter Tryz.func62, Tryz.ntmps62
  go_wp2_with fail
  go_loop [3] (fun v => ∃ k : Nat, k ≤ s.size ∧ v = .int .i64 k ∧ Hid ((l.take k).all dgB = true)) (fun v => s.size - (intOf v).toNat)
  case atStart => exact ⟨0, by omega, rfl, hid rfl⟩
  case round =>
    obtain ⟨k, hk, rfl, hp⟩ := hrel
    by_cases hlt : k < s.size
    · have hb := hid (hB.out k hlt)
      have hi := hid (dgB_int s[k])
      have hcc : (s[k].toNat : Int) ≤ 255 := by have := s[k].toNat_lt; omega
      have Y := hid (fun h => take_all hp.out hb.out h)
      have Z := hid (fun h => all_off (p := dgB) hb.out h)
      by_cases h1 : (s[k].toNat : Int) < 48
      · have hn := hid (Z.out (by rw [hi.out, decide_eq_false (by omega)]; rfl))
        go_wp2_with fail
        go_ret
        exact givesE rfl (bool_eq (hn.out.symm.trans hR.out))
      · by_cases h2 : (57 : Int) < (s[k].toNat : Int)
        · have hn := hid (Z.out (by rw [hi.out, decide_eq_false (p := (s[k].toNat : Int) ≤ 57) (by omega), Bool.and_false]))
          go_wp2_with fail
          go_ret
          exact givesE rfl (bool_eq (hn.out.symm.trans hR.out))
        · have hy := hid (Y.out (by rw [hi.out, decide_eq_true (by omega), decide_eq_true (by omega)]; rfl))
          clear Y Z
          go_wp2_with fail
          go_round
          case rel => exact ⟨k + 1, by omega, by go_num, hy⟩
          case measure => simp [intOf]; omega
    · have hks := hid (show l.all dgB = true by
        have := hp.out; rwa [List.take_of_length_le (by rw [hlen.out]; omega)] at this)
      go_wp2_with fail
      go_ret
      exact givesE rfl (bool_eq (hks.out.symm.trans hR.out))

theorem pB_int (c : UInt8) : pB c = ((decide (48 ≤ (c.toNat : Int)) && decide ((c.toNat : Int) ≤ 57)) || (decide (97 ≤ (c.toNat : Int)) && decide ((c.toNat : Int) ≤ 122)) || ((c.toNat : Int) == 45)) := by
  have h5 : (c == 45) = ((c.toNat : Int) == 45) := by
    rw [Bool.eq_iff_iff]; simp only [beq_iff_eq, ← UInt8.toNat_inj]; have e : (45 : UInt8).toNat = 45 := rfl; omega
  unfold pB
  rw [dgB_int, h5]
  congr 2
  rw [Bool.eq_iff_iff]; simp; omega

set_option maxHeartbeats 4000000 in
theorem rpart_any (s : ByteArray) (hs : s.size < 4294967281) (w : World) :
    Calls Tryz.prog 58 #[.string s] w (GivesE (.bool (partV s.data.toList)) w) := by
  have hL := hid (lenS s)
  have hE := hid (partV_eq s.data.toList)
  have HD := hid (rdigits_any s hs)
  have hB := hid (fun k h => byte_at s k h)
  have hpy := hid (fun h1 h0 => padB_at s h1 h0)
  have hpn := hid (fun h1 => padB_no s h1)
  by_cases h0 : s.size = 0
  · have hn := hid (show partV s.data.toList = false by rw [hE.out, hL.out, h0]; rfl)
    obtain rfl : s = ByteArray.empty := by
      apply ByteArray.ext; apply Array.eq_empty_of_size_eq_zero; exact h0
    clear HD hL hE hB hpy hpn
    go_enter Tryz.func58, Tryz.ntmps58
    go_wp2
    go_ret
    exact givesE rfl (bool_eq hn.out.symm)
  · have hq := empty_eq s h0
    by_cases h6 : (8 : Int) < s.size
    · have hn := hid (show partV s.data.toList = false by rw [hE.out, hL.out, decide_eq_false (show ¬ s.size ≤ 8 by omega)]; simp)
      clear HD hL hE hB hpy hpn
      go_enter Tryz.func58, Tryz.ntmps58
      go_wp2_with fail
      go_ret
      exact givesE rfl (bool_eq hn.out.symm)
    · have hE2 := hid (show partV s.data.toList = (s.data.toList.all pB && (!s.data.toList.all dgB || !padB s.data.toList)) by
        rw [hE.out, hL.out, decide_eq_true (by omega), decide_eq_true (by omega)]; simp)
      clear hE
      generalize partV s.data.toList = R at hE2 ⊢
      generalize s.data.toList = l at *
      have hz : 0 < s.size := by omega
      have ways : (1 < s.size ∧ ((s[0].toNat : Int) == 48) = true ∧ l.all dgB = true) ∨ (R = l.all pB ∧ ((1 < s.size ∧ ((s[0].toNat : Int) == 48) = true ∧ l.all dgB = false) ∨ (1 < s.size ∧ ((s[0].toNat : Int) == 48) = false) ∨ ¬ 1 < s.size)) := by
        by_cases h1 : 1 < s.size
        · have := hpy.out h1 hz
          cases hh : ((s[0].toNat : Int) == 48)
          · right
            refine ⟨?_, .inr (.inl ⟨h1, rfl⟩)⟩
            rw [hE2.out, this, hh]; simp
          · cases hd : l.all dgB
            · right
              refine ⟨?_, .inl ⟨h1, rfl, rfl⟩⟩
              rw [hE2.out, hd]; simp
            · exact .inl ⟨h1, rfl, rfl⟩
        · right
          refine ⟨?_, .inr (.inr h1)⟩
          rw [hE2.out, hpn.out h1]; simp
      rcases ways with ⟨h1, h2, h3⟩ | ⟨hR, ways⟩
      · have hn := hid (show R = false by rw [hE2.out, h3, hpy.out h1 hz, h2]; simp)
        rw [h3] at HD
        have h1' : (1 : Int) < (s.size : Int) := by omega
        clear hL hE2 hB hpy hpn h3
        go_enter Tryz.func58, Tryz.ntmps58
        go_wp2_with (go_at_call 62; (with_reducible refine (HD.out _).mono ?_); rintro e w' ⟨rfl, rfl⟩)
        go_ret
        exact givesE rfl (bool_eq hn.out.symm)
      · have hR' := hid hR
        clear hR hE2 hpy hpn
        have loop : True := trivial
        rcases ways with ⟨h1, h2, h3⟩ | ⟨h1, h2⟩ | h1
        · rw [h3] at HD
          clear h3
          have h1' : (1 : Int) < (s.size : Int) := by omega
          go_enter Tryz.func58, Tryz.ntmps58
          go_wp2_with (go_at_call 62; (with_reducible refine (HD.out _).mono ?_); rintro e w' ⟨rfl, rfl⟩)
          go_loop [3] (fun v => ∃ k : Nat, k ≤ s.size ∧ v = .int .i64 k ∧ Hid ((l.take k).all pB = true)) (fun v => s.size - (intOf v).toNat)
          case atStart => exact ⟨0, by omega, rfl, hid rfl⟩
          case round =>
            obtain ⟨k, hk, rfl, hp⟩ := hrel
            by_cases hlt : k < s.size
            · have hb := hid (hB.out k hlt)
              have hi := hid (pB_int s[k])
              have hcc : (s[k].toNat : Int) ≤ 255 := by have := s[k].toNat_lt; omega
              have Y := hid (fun h => take_all hp.out hb.out h)
              have Z := hid (fun h => all_off (p := pB) hb.out h)
              have cls : (pB s[k] = true ∧ ((48 ≤ (s[k].toNat : Int) ∧ (s[k].toNat : Int) ≤ 57) ∨ (97 ≤ (s[k].toNat : Int) ∧ (s[k].toNat : Int) ≤ 122) ∨ (s[k].toNat : Int) = 45)) ∨ (pB s[k] = false ∧ (((s[k].toNat : Int) < 48 ∧ (s[k].toNat : Int) ≠ 45) ∨ (57 < (s[k].toNat : Int) ∧ (s[k].toNat : Int) < 97) ∨ 122 < (s[k].toNat : Int))) := by
                rw [hi.out]
                by_cases a1 : 48 ≤ (s[k].toNat : Int) <;> by_cases a2 : (s[k].toNat : Int) ≤ 57 <;> by_cases a3 : 97 ≤ (s[k].toNat : Int) <;> by_cases a4 : (s[k].toNat : Int) ≤ 122 <;> by_cases a5 : (s[k].toNat : Int) = 45 <;> simp [a1, a2, a3, a4, a5] <;> omega
              clear hi
              rcases cls with ⟨hpy, hc⟩ | ⟨hpn, hc⟩
              · have hy := hid (Y.out hpy)
                clear Y Z hpy
                rcases hc with ⟨c1, c2⟩ | ⟨c1, c2⟩ | c1
                · go_wp2_with fail
                  go_round
                  case rel => exact ⟨k + 1, by omega, by go_num, hy⟩
                  case measure => simp [intOf]; omega
                · have c3 : (48 : Int) ≤ (s[k].toNat : Int) := by omega
                  have c4 : ¬ (s[k].toNat : Int) ≤ 57 := by omega
                  go_wp2_with fail
                  go_round
                  case rel => exact ⟨k + 1, by omega, by go_num, hy⟩
                  case measure => simp [intOf]; omega
                · have c3 : ¬ (48 : Int) ≤ (s[k].toNat : Int) := by omega
                  have c4 : ¬ (97 : Int) ≤ (s[k].toNat : Int) := by omega
                  have c5 : ((s[k].toNat : Int) == 45) = true := by simpa using c1
                  clear c1
                  go_wp2_with fail
                  go_round
                  case rel => exact ⟨k + 1, by omega, by go_num, hy⟩
                  case measure => simp [intOf]; omega
              · have hn := hid (Z.out hpn)
                clear Y Z hpn
                rcases hc with ⟨c1, c2⟩ | ⟨c1, c2⟩ | c1
                · have c3 : ¬ (48 : Int) ≤ (s[k].toNat : Int) := by omega
                  have c4 : ¬ (97 : Int) ≤ (s[k].toNat : Int) := by omega
                  have c5 : ((s[k].toNat : Int) == 45) = false := by simpa using c2
                  clear c2
                  go_wp2_with fail
                  go_ret
                  exact givesE rfl (bool_eq (hR'.out.trans hn.out).symm)
                · have c3 : (48 : Int) ≤ (s[k].toNat : Int) := by omega
                  have c4 : ¬ (s[k].toNat : Int) ≤ 57 := by omega
                  have c6 : ¬ (97 : Int) ≤ (s[k].toNat : Int) := by omega
                  have c5 : ((s[k].toNat : Int) == 45) = false := by rw [beq_eq_false_iff_ne]; omega
                  go_wp2_with fail
                  go_ret
                  exact givesE rfl (bool_eq (hR'.out.trans hn.out).symm)
                · have c3 : (48 : Int) ≤ (s[k].toNat : Int) := by omega
                  have c4 : ¬ (s[k].toNat : Int) ≤ 57 := by omega
                  have c6 : (97 : Int) ≤ (s[k].toNat : Int) := by omega
                  have c7 : ¬ (s[k].toNat : Int) ≤ 122 := by omega
                  have c5 : ((s[k].toNat : Int) == 45) = false := by rw [beq_eq_false_iff_ne]; omega
                  go_wp2_with fail
                  go_ret
                  exact givesE rfl (bool_eq (hR'.out.trans hn.out).symm)
            · have hks := hid (show l.all pB = true by
                have := hp.out; rwa [List.take_of_length_le (by rw [hL.out]; omega)] at this)
              go_wp2_with fail
              go_ret
              exact givesE rfl (bool_eq (hR'.out.trans hks.out).symm)
        · have h1' : (1 : Int) < (s.size : Int) := by omega
          go_enter Tryz.func58, Tryz.ntmps58
          go_wp2_with fail
          go_loop [3] (fun v => ∃ k : Nat, k ≤ s.size ∧ v = .int .i64 k ∧ Hid ((l.take k).all pB = true)) (fun v => s.size - (intOf v).toNat)
          case atStart => exact ⟨0, by omega, rfl, hid rfl⟩
          case round =>
            obtain ⟨k, hk, rfl, hp⟩ := hrel
            by_cases hlt : k < s.size
            · have hb := hid (hB.out k hlt)
              have hi := hid (pB_int s[k])
              have hcc : (s[k].toNat : Int) ≤ 255 := by have := s[k].toNat_lt; omega
              have Y := hid (fun h => take_all hp.out hb.out h)
              have Z := hid (fun h => all_off (p := pB) hb.out h)
              have cls : (pB s[k] = true ∧ ((48 ≤ (s[k].toNat : Int) ∧ (s[k].toNat : Int) ≤ 57) ∨ (97 ≤ (s[k].toNat : Int) ∧ (s[k].toNat : Int) ≤ 122) ∨ (s[k].toNat : Int) = 45)) ∨ (pB s[k] = false ∧ (((s[k].toNat : Int) < 48 ∧ (s[k].toNat : Int) ≠ 45) ∨ (57 < (s[k].toNat : Int) ∧ (s[k].toNat : Int) < 97) ∨ 122 < (s[k].toNat : Int))) := by
                rw [hi.out]
                by_cases a1 : 48 ≤ (s[k].toNat : Int) <;> by_cases a2 : (s[k].toNat : Int) ≤ 57 <;> by_cases a3 : 97 ≤ (s[k].toNat : Int) <;> by_cases a4 : (s[k].toNat : Int) ≤ 122 <;> by_cases a5 : (s[k].toNat : Int) = 45 <;> simp [a1, a2, a3, a4, a5] <;> omega
              clear hi
              rcases cls with ⟨hpy, hc⟩ | ⟨hpn, hc⟩
              · have hy := hid (Y.out hpy)
                clear Y Z hpy
                rcases hc with ⟨c1, c2⟩ | ⟨c1, c2⟩ | c1
                · go_wp2_with fail
                  go_round
                  case rel => exact ⟨k + 1, by omega, by go_num, hy⟩
                  case measure => simp [intOf]; omega
                · have c3 : (48 : Int) ≤ (s[k].toNat : Int) := by omega
                  have c4 : ¬ (s[k].toNat : Int) ≤ 57 := by omega
                  go_wp2_with fail
                  go_round
                  case rel => exact ⟨k + 1, by omega, by go_num, hy⟩
                  case measure => simp [intOf]; omega
                · have c3 : ¬ (48 : Int) ≤ (s[k].toNat : Int) := by omega
                  have c4 : ¬ (97 : Int) ≤ (s[k].toNat : Int) := by omega
                  have c5 : ((s[k].toNat : Int) == 45) = true := by simpa using c1
                  clear c1
                  go_wp2_with fail
                  go_round
                  case rel => exact ⟨k + 1, by omega, by go_num, hy⟩
                  case measure => simp [intOf]; omega
              · have hn := hid (Z.out hpn)
                clear Y Z hpn
                rcases hc with ⟨c1, c2⟩ | ⟨c1, c2⟩ | c1
                · have c3 : ¬ (48 : Int) ≤ (s[k].toNat : Int) := by omega
                  have c4 : ¬ (97 : Int) ≤ (s[k].toNat : Int) := by omega
                  have c5 : ((s[k].toNat : Int) == 45) = false := by simpa using c2
                  clear c2
                  go_wp2_with fail
                  go_ret
                  exact givesE rfl (bool_eq (hR'.out.trans hn.out).symm)
                · have c3 : (48 : Int) ≤ (s[k].toNat : Int) := by omega
                  have c4 : ¬ (s[k].toNat : Int) ≤ 57 := by omega
                  have c6 : ¬ (97 : Int) ≤ (s[k].toNat : Int) := by omega
                  have c5 : ((s[k].toNat : Int) == 45) = false := by rw [beq_eq_false_iff_ne]; omega
                  go_wp2_with fail
                  go_ret
                  exact givesE rfl (bool_eq (hR'.out.trans hn.out).symm)
                · have c3 : (48 : Int) ≤ (s[k].toNat : Int) := by omega
                  have c4 : ¬ (s[k].toNat : Int) ≤ 57 := by omega
                  have c6 : (97 : Int) ≤ (s[k].toNat : Int) := by omega
                  have c7 : ¬ (s[k].toNat : Int) ≤ 122 := by omega
                  have c5 : ((s[k].toNat : Int) == 45) = false := by rw [beq_eq_false_iff_ne]; omega
                  go_wp2_with fail
                  go_ret
                  exact givesE rfl (bool_eq (hR'.out.trans hn.out).symm)
            · have hks := hid (show l.all pB = true by
                have := hp.out; rwa [List.take_of_length_le (by rw [hL.out]; omega)] at this)
              go_wp2_with fail
              go_ret
              exact givesE rfl (bool_eq (hR'.out.trans hks.out).symm)
        · have h1' : ¬ (1 : Int) < (s.size : Int) := by omega
          go_enter Tryz.func58, Tryz.ntmps58
          go_wp2_with fail
          go_loop [3] (fun v => ∃ k : Nat, k ≤ s.size ∧ v = .int .i64 k ∧ Hid ((l.take k).all pB = true)) (fun v => s.size - (intOf v).toNat)
          case atStart => exact ⟨0, by omega, rfl, hid rfl⟩
          case round =>
            obtain ⟨k, hk, rfl, hp⟩ := hrel
            by_cases hlt : k < s.size
            · have hb := hid (hB.out k hlt)
              have hi := hid (pB_int s[k])
              have hcc : (s[k].toNat : Int) ≤ 255 := by have := s[k].toNat_lt; omega
              have Y := hid (fun h => take_all hp.out hb.out h)
              have Z := hid (fun h => all_off (p := pB) hb.out h)
              have cls : (pB s[k] = true ∧ ((48 ≤ (s[k].toNat : Int) ∧ (s[k].toNat : Int) ≤ 57) ∨ (97 ≤ (s[k].toNat : Int) ∧ (s[k].toNat : Int) ≤ 122) ∨ (s[k].toNat : Int) = 45)) ∨ (pB s[k] = false ∧ (((s[k].toNat : Int) < 48 ∧ (s[k].toNat : Int) ≠ 45) ∨ (57 < (s[k].toNat : Int) ∧ (s[k].toNat : Int) < 97) ∨ 122 < (s[k].toNat : Int))) := by
                rw [hi.out]
                by_cases a1 : 48 ≤ (s[k].toNat : Int) <;> by_cases a2 : (s[k].toNat : Int) ≤ 57 <;> by_cases a3 : 97 ≤ (s[k].toNat : Int) <;> by_cases a4 : (s[k].toNat : Int) ≤ 122 <;> by_cases a5 : (s[k].toNat : Int) = 45 <;> simp [a1, a2, a3, a4, a5] <;> omega
              clear hi
              rcases cls with ⟨hpy, hc⟩ | ⟨hpn, hc⟩
              · have hy := hid (Y.out hpy)
                clear Y Z hpy
                rcases hc with ⟨c1, c2⟩ | ⟨c1, c2⟩ | c1
                · go_wp2_with fail
                  go_round
                  case rel => exact ⟨k + 1, by omega, by go_num, hy⟩
                  case measure => simp [intOf]; omega
                · have c3 : (48 : Int) ≤ (s[k].toNat : Int) := by omega
                  have c4 : ¬ (s[k].toNat : Int) ≤ 57 := by omega
                  go_wp2_with fail
                  go_round
                  case rel => exact ⟨k + 1, by omega, by go_num, hy⟩
                  case measure => simp [intOf]; omega
                · have c3 : ¬ (48 : Int) ≤ (s[k].toNat : Int) := by omega
                  have c4 : ¬ (97 : Int) ≤ (s[k].toNat : Int) := by omega
                  have c5 : ((s[k].toNat : Int) == 45) = true := by simpa using c1
                  clear c1
                  go_wp2_with fail
                  go_round
                  case rel => exact ⟨k + 1, by omega, by go_num, hy⟩
                  case measure => simp [intOf]; omega
              · have hn := hid (Z.out hpn)
                clear Y Z hpn
                rcases hc with ⟨c1, c2⟩ | ⟨c1, c2⟩ | c1
                · have c3 : ¬ (48 : Int) ≤ (s[k].toNat : Int) := by omega
                  have c4 : ¬ (97 : Int) ≤ (s[k].toNat : Int) := by omega
                  have c5 : ((s[k].toNat : Int) == 45) = false := by simpa using c2
                  clear c2
                  go_wp2_with fail
                  go_ret
                  exact givesE rfl (bool_eq (hR'.out.trans hn.out).symm)
                · have c3 : (48 : Int) ≤ (s[k].toNat : Int) := by omega
                  have c4 : ¬ (s[k].toNat : Int) ≤ 57 := by omega
                  have c6 : ¬ (97 : Int) ≤ (s[k].toNat : Int) := by omega
                  have c5 : ((s[k].toNat : Int) == 45) = false := by rw [beq_eq_false_iff_ne]; omega
                  go_wp2_with fail
                  go_ret
                  exact givesE rfl (bool_eq (hR'.out.trans hn.out).symm)
                · have c3 : (48 : Int) ≤ (s[k].toNat : Int) := by omega
                  have c4 : ¬ (s[k].toNat : Int) ≤ 57 := by omega
                  have c6 : (97 : Int) ≤ (s[k].toNat : Int) := by omega
                  have c7 : ¬ (s[k].toNat : Int) ≤ 122 := by omega
                  have c5 : ((s[k].toNat : Int) == 45) = false := by rw [beq_eq_false_iff_ne]; omega
                  go_wp2_with fail
                  go_ret
                  exact givesE rfl (bool_eq (hR'.out.trans hn.out).symm)
            · have hks := hid (show l.all pB = true by
                have := hp.out; rwa [List.take_of_length_le (by rw [hL.out]; omega)] at this)
              go_wp2_with fail
              go_ret
              exact givesE rfl (bool_eq (hR'.out.trans hks.out).symm)
end Go.Proofs.YtebhgcejcdgdbaaGreatDoor.Vs
