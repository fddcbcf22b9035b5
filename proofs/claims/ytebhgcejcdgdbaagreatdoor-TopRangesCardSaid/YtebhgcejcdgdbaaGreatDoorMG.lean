/-
  SEVERAL TEXTS, one behind the other.
-/
import Derived.Test.YtebhgcejcdgdbaaGreatDoorMC
import Derived.Test.YtebhgcejcdgdbaaGreatDoorMF
import Derived.RegionTactic
import Derived.Test.YtebhgcejcdgdbaaGreatDoorMA
import Derived.Test.YtebhgcejcdgdbaaGreatDoorME
import Derived.Lib.QuietBelow
/-
  LAYER 3, THE DOCUMENT'S Parse.
-/
namespace Go.Proofs.YtebhgcejcdgdbaaGreatDoor.Vs
open Go.RowKit
open Go.Proofs.YtebhgcejcdgdbaaGreatDoor Go.Proofs.YtebhgcejcdgdbaaGreatDoor.Nu

def rVal (a b c : Nat) (pv : Value) : Value := .agg #[.int .i64 (a : Int), .int .i64 (b : Int), .int .i64 (c : Int), pv]
def nilV : Value := .slice none 0 0
def preL (l : List UInt8) : List (List UInt8) := if hasPre l then cutl 46 (aft 45 l) else []
def PreAt (w : World) (pv : Value) (Q : List (List UInt8)) : Prop := (Q = [] ∧ pv = .slice none 0 0) ∨ ∃ g c, Q ≠ [] ∧ pv = .slice (some ⟨g, 0, none⟩) Q.length c ∧ Q.length ≤ c ∧ c ≤ maxLen ∧ CellsAt w g 0 Q
theorem PreAt.below {w w' : World} {pv : Value} {Q : List (List UInt8)} (h : PreAt w pv Q) (hb : Below w.heap.size w w') : PreAt w' pv Q := by
  rcases h with h | ⟨g, c, h1, h2, h3, h4, h5⟩
  · exact .inl h
  · exact .inr ⟨g, c, h1, h2, h3, h4, h5.below hb⟩
/-- what the document's Parse comes to -/
def RP (V : Bool) (N : Nat → Nat) (PL : List (List UInt8)) (w : World) (e : Ending) (w' : World) : Prop :=
  Below w.heap.size w w' ∧ ((V = false ∧ e = .returned (.tuple #[rVal 0 0 0 (.slice none 0 0), .bool false])) ∨ (V = true ∧ ∃ pv, e = .returned (.tuple #[rVal (N 0) (N 1) (N 2) pv, .bool true]) ∧ PreAt w' pv PL))
theorem RP.zero {V : Bool} {N : Nat → Nat} {PL : List (List UInt8)} {w w' : World} (h : V = false) (hb : Below w.heap.size w w') : RP V N PL w (.returned (.tuple #[rVal 0 0 0 (.slice none 0 0), .bool false])) w' := ⟨hb, .inl ⟨h, rfl⟩⟩
theorem RP.yes {V : Bool} {N : Nat → Nat} {PL : List (List UInt8)} {w w' : World} {a b c : Nat} {pv : Value} (h : V = true) (h0 : N 0 = a) (h1 : N 1 = b) (h2 : N 2 = c) (hp : PreAt w' pv PL) (hb : Below w.heap.size w w') : RP V N PL w (.returned (.tuple #[rVal a b c pv, .bool true])) w' :=
  ⟨hb, .inr ⟨h, pv, by rw [h0, h1, h2], hp⟩⟩
def RParseIs (l : List UInt8) (w : World) (e : Ending) (w' : World) : Prop := RP (verV l) (nth l) (preL l) w e w'

structure RSt (w wr : World) (V : Nat) (a b c : Nat) (pv : Value) : Prop where
  kept : Below w.heap.size w wr
  low : w.heap.size < V
  res : Blk wr w.heap.size [.int .i64 0, .int .i64 0, .int .i64 0, .slice none 0 0] 45
  var : Blk wr V [.int .i64 (a : Int), .int .i64 (b : Int), .int .i64 (c : Int), pv] 45
theorem RSt.below {w wr wx : World} {V a b c : Nat} {pv : Value} (h : RSt w wr V a b c pv) (hb : Below wr.heap.size wr wx) : RSt w wx V a b c pv :=
  ⟨below_trans h.kept hb, h.low, h.res.below hb, h.var.below hb⟩
theorem RSt.make {w wr : World} (hx : Below w.heap.size w wr) (hr : Blk wr w.heap.size [.int .i64 0, .int .i64 0, .int .i64 0, .slice none 0 0] 45) :
    ∃ W2 Vb, wr.alloc (.cells #[.int .i64 0, .int .i64 0, .int .i64 0, .slice none 0 0] 45) = W2 ∧ wr.heap.size = Vb ∧ RSt w W2 Vb 0 0 0 (.slice none 0 0) ∧ Below wr.heap.size wr W2 :=
  ⟨_, _, rfl, rfl, ⟨below_alloc hx _, hr.lt, hr.alloc _, Blk.new _ _ _⟩, below_alloc (Below.refl _ _) _⟩
theorem RSt.nums {w wr : World} {V a b c : Nat} {pv : Value} (h : RSt w wr V a b c pv) (x y z : Nat) : RSt w (((wr.setCell ⟨V, 0, none⟩ (.int .i64 (x : Int))).setCell ⟨V, 1, none⟩ (.int .i64 (y : Int))).setCell ⟨V, 2, none⟩ (.int .i64 (z : Int))) V x y z pv :=
  ⟨((h.kept.setCell (Nat.le_of_lt h.low) _).setCell (Nat.le_of_lt h.low) _).setCell (Nat.le_of_lt h.low) _, h.low,
    ((h.res.other (a := ⟨V, 0, none⟩) (by have := h.low; show w.heap.size ≠ V; omega) _).other (a := ⟨V, 1, none⟩) (by have := h.low; show w.heap.size ≠ V; omega) _).other (a := ⟨V, 2, none⟩) (by have := h.low; show w.heap.size ≠ V; omega) _,
    ((h.var.set 0 _).set 1 _).set 2 _⟩
theorem RSt.pre {w wr : World} {V a b c : Nat} {pv : Value} (h : RSt w wr V a b c pv) (q : Value) : RSt w (wr.setCell ⟨V, 3, none⟩ q) V a b c q :=
  ⟨h.kept.setCell (Nat.le_of_lt h.low) _, h.low, h.res.other (a := ⟨V, 3, none⟩) (by have := h.low; show w.heap.size ≠ V; omega) _, h.var.set 3 _⟩

set_option maxHeartbeats 8000000 in
theorem rparse_any (s : ByteArray) (hs : s.size < 4294967281) (w : World) :
    Calls Tryz.prog 36 #[.string s] w (RParseIs s.data.toList w) := by
  have hlen := hid (lenS s)
  have ha := aft_le s.data.toList
  have hf := fore_le s.data.toList
  have hfr := hid (run_fore 45 s.data.toList)
  have hB := hid (fun k h => byte_at s k h)
  have EX1 := hid (show s.extract 0 (fore 45 s.data.toList).length = ⟨(fore 45 s.data.toList).toArray⟩ by rw [extract_eq]; simp; exact Cb.fore_take 45 s.data.toList)
  have EX2 := hid (show s.extract ((fore 45 s.data.toList).length + 1) s.size = ⟨(aft 45 s.data.toList).toArray⟩ by
    rw [extract_eq, List.take_of_length_le (by simp), show s.data.toList.drop ((fore 45 s.data.toList).length + 1) = aft 45 s.data.toList from Cb.aft_drop 45 s.data.toList])
  rw [hlen.out] at ha hf
  have HF : Hid (∀ w, Calls Tryz.prog 30 #[.string ⟨(fore 45 s.data.toList).toArray⟩, .int .u8 46] w (RCutIs 46 (fore 45 s.data.toList) w)) := hid (rcut_any ⟨(fore 45 s.data.toList).toArray⟩ (sizeL _ _ (by omega)) 46)
  have HA : Hid (∀ w, Calls Tryz.prog 30 #[.string ⟨(aft 45 s.data.toList).toArray⟩, .int .u8 46] w (RCutIs 46 (aft 45 s.data.toList) w)) := hid (rcut_any ⟨(aft 45 s.data.toList).toArray⟩ (sizeL _ _ (by omega)) 46)
  have HV := hid (show verV s.data.toList = (numsV (fore 45 s.data.toList) && (!hasPre s.data.toList || preV (aft 45 s.data.toList))) from rfl)
  have HN := hid (show ∀ i, nth s.data.toList i = numN ((cutl 46 (fore 45 s.data.toList)).getD i []) from fun _ => rfl)
  have HQ := hid (show numsV (fore 45 s.data.toList) = (decide ((cutl 46 (fore 45 s.data.toList)).length = 3) && (cutl 46 (fore 45 s.data.toList)).all numV) from rfl)
  have HP := hid (show preV (aft 45 s.data.toList) = (decide ((cutl 46 (aft 45 s.data.toList)).length ≤ 4) && (cutl 46 (aft 45 s.data.toList)).all partV) from rfl)
  have HL := hid (show preL s.data.toList = if hasPre s.data.toList then cutl 46 (aft 45 s.data.toList) else [] from rfl)
  have HH := hid (show hasPre s.data.toList = decide ((fore 45 s.data.toList).length < s.size) by unfold hasPre; rw [lenS])
  have HM := hid (fun p (h : p ∈ cutl 46 (fore 45 s.data.toList)) => part_size h)
  have HMA := hid (fun p (h : p ∈ cutl 46 (aft 45 s.data.toList)) => part_size h)
  have hne := hid (cutl_ne 46 (aft 45 s.data.toList))
  unfold RParseIs
  generalize preL s.data.toList = PL at HL ⊢
  generalize nth s.data.toList = N at HN ⊢
  generalize verV s.data.toList = V at HV ⊢
  generalize hasPre s.data.toList = hp at HV HL HH
  have hfr2 := hid (show run (· != 45) s.data.toList 0 = (fore 45 s.data.toList).length from hfr.out)
  have hst := hid (fun k (h : k = (fore 45 s.data.toList).length) (hk : k < s.size) => show (s[k].toNat : Int) = 45 by
    have hp2 : 45 ∈ s.data.toList := by
      rcases hasPre_cases s.data.toList with ⟨h1, _, h2, _⟩ | ⟨_, _, h2⟩
      · rw [h2, hlen.out] at h; omega
      · rw [h2]; simp
    obtain ⟨a, r, hl, hna⟩ := splits s.data.toList hp2
    have hfa : fore 45 s.data.toList = a := by rw [hl]; exact (fore_cut hna).1
    obtain rfl : k = a.length := by rw [h, hfa]
    have := byte_at s a.length hk
    have h2 : s.data.toList[a.length]? = some 45 := by rw [hl]; simp
    rw [h2] at this
    have e := Option.some.inj this
    rw [← e]; rfl)
  clear hfr
  generalize hA : aft 45 s.data.toList = A at *
  generalize hF : fore 45 s.data.toList = F at *
  clear hA hF
  generalize preV A = pv at HP HV
  generalize numsV F = nv at HV HQ
  generalize hC : cutl 46 F = C at *
  generalize hD : cutl 46 A = D at *
  unfold RCutIs at HF HA
  rw [hC] at HF
  rw [hD] at HA
  clear hC hD
  generalize s.data.toList = l at *
  have hS := hid hs
  go_enter Tryz.func36, Tryz.ntmps36
  go_upto_block 0 with (fail)
  have hres : Blk (w.alloc (.cells #[.int .i64 0, .int .i64 0, .int .i64 0, .slice none 0 0] 45)) w.heap.size [.int .i64 0, .int .i64 0, .int .i64 0, .slice none 0 0] 45 := Blk.new w _ _
  have hb0 : Below w.heap.size w (w.alloc (.cells #[.int .i64 0, .int .i64 0, .int .i64 0, .slice none 0 0] 45)) := below_alloc (Below.refl _ _) _
  generalize w.alloc (.cells #[.int .i64 0, .int .i64 0, .int .i64 0, .slice none 0 0] 45) = W0 at hres hb0 ⊢
  go_cut [4] (fun v wx => v = .int .i64 (F.length : Nat) ∧ wx = W0)
  case first =>
    go_wp2_with fail
    go_loop [4] (fun v => ∃ k : Nat, k ≤ s.size ∧ v = .int .i64 k ∧ Hid (F.length = k + run (· != 45) l k)) (fun v => s.size - (intOf v).toNat)
    case atStart => exact ⟨0, by omega, rfl, hid (by rw [← hfr2.out]; simp)⟩
    case round =>
      obtain ⟨k, hk, rfl, hkr⟩ := hrel
      by_cases hc : k < F.length
      · have hlt : k < s.size := by omega
        have hb := hid (hB.out k hlt)
        have hq : s[k] ≠ 45 := by
          intro e
          have := run_no (p := (· != 45)) hb.out (by rw [e]; rfl)
          have := hkr.out
          omega
        have hq' : ((s[k].toNat : Int) != 45) = true := by
          simp; intro e; apply hq; rw [← UInt8.toNat_inj]; have : (45 : UInt8).toNat = 45 := rfl; omega
        have hb' := hid (run_yes (p := (· != 45)) hb.out (by simpa using hq))
        clear hq
        go_wp2_with fail
        go_round
        case rel => exact ⟨k + 1, by omega, by go_num, hid (by rw [hkr.out, hb'.out]; omega)⟩
        case measure => simp [intOf]; omega
      · have hkl := hid (show k = F.length by have := hkr.out; omega)
        by_cases hks : k < s.size
        · have hq : ((s[k].toNat : Int) != 45) = false := by simpa using hst.out k hkl.out hks
          go_wp2_with fail
          go_meet
          exact ⟨by rw [hkl.out], rfl⟩
        · go_wp2_with fail
          go_meet
          exact ⟨by rw [hkl.out], rfl⟩
  case rest =>
    obtain ⟨rfl, rfl⟩ := hcut
    clear hst hfr2 hB
    have ex1 := EX1.out
    have ex2 := EX2.out
    have i1 : (F.length : Int) ≤ (s.size : Int) := by omega
    generalize hFL : F.length = n at *
    by_cases hC3 : C.length = 3
    · obtain ⟨c0, c1, c2, rfl⟩ : ∃ a b c, C = [a, b, c] := by
        match C, hC3 with
        | [a, b, c], _ => exact ⟨a, b, c, rfl⟩
      clear hC3
      have hl3 : [c0, c1, c2].length = 3 := rfl
      rw [hl3] at HF
      clear hl3
      have hQ2 := hid (show nv = (numV c0 && numV c1 && numV c2) by rw [HQ.out]; simp [Bool.and_assoc])
      have m0 : c0.length ≤ n := HM.out c0 (by simp)
      have m1 : c1.length ≤ n := HM.out c1 (by simp)
      have m2 : c2.length ≤ n := HM.out c2 (by simp)
      have HN0 := hid (rnumber_any ⟨c0.toArray⟩ (sizeL _ _ (by omega)))
      have HN1 := hid (rnumber_any ⟨c1.toArray⟩ (sizeL _ _ (by omega)))
      have HN2 := hid (rnumber_any ⟨c2.toArray⟩ (sizeL _ _ (by omega)))
      have t0 : (⟨c0.toArray⟩ : ByteArray).data.toList = c0 := rfl
      have t1 : (⟨c1.toArray⟩ : ByteArray).data.toList = c1 := rfl
      have t2 : (⟨c2.toArray⟩ : ByteArray).data.toList = c2 := rfl
      rw [t0] at HN0
      rw [t1] at HN1
      rw [t2] at HN2
      have n0 := hid (show N 0 = numN c0 from HN.out 0)
      have n1 := hid (show N 1 = numN c1 from HN.out 1)
      have n2 := hid (show N 2 = numN c2 from HN.out 2)
      clear t0 t1 t2 m0 m1 m2 HQ HM HN
      generalize numV c0 = b0 at *
      generalize numV c1 = b1 at *
      generalize numV c2 = b2 at *
      generalize numN c0 = x0 at *
      generalize numN c1 = x1 at *
      generalize numN c2 = x2 at *
      go_wp2_with (go_at_call 30; (with_reducible refine (HF.out _).mono ?_); rintro e w1 ⟨g1, d1, _, rfl, h31, h3m, hb1, hc1⟩; have kk := hid (fun o => hc1.below (below_alloc (Below.refl w1.heap.size w1) o)); have k0 : ∀ o, (w1.alloc o).cell? ⟨g1, 0, none⟩ = some (.string ⟨c0.toArray⟩) := fun o => (kk.out o).2 0 (by simp); have k1 : ∀ o, (w1.alloc o).cell? ⟨g1, 1, none⟩ = some (.string ⟨c1.toArray⟩) := fun o => (kk.out o).2 1 (by simp); have k2 : ∀ o, (w1.alloc o).cell? ⟨g1, 2, none⟩ = some (.string ⟨c2.toArray⟩) := fun o => (kk.out o).2 2 (by simp))
      obtain ⟨W2, Vb, hW2, hVb, hst, hbx⟩ := RSt.make (below_trans hb0 hb1) (hres.below hb1)
      have hc2 := hc1.below hbx
      simp only [hW2, hVb]
      clear k0 k1 k2 kk hW2 hVb hbx hb1 hb0 hc1
      have k0 : W2.cell? ⟨g1, 0, none⟩ = some (.string ⟨c0.toArray⟩) := hc2.2 0 (by simp)
      have k1 : W2.cell? ⟨g1, 1, none⟩ = some (.string ⟨c1.toArray⟩) := hc2.2 1 (by simp)
      have k2 : W2.cell? ⟨g1, 2, none⟩ = some (.string ⟨c2.toArray⟩) := hc2.2 2 (by simp)
      clear hres
      have ways : (b0 && b1 && b2) = false ∧ (b0 = false ∨ (b0 = true ∧ b1 = false) ∨ (b0 = true ∧ b1 = true ∧ b2 = false)) ∨ (b0 = true ∧ b1 = true ∧ b2 = true) := by cases b0 <;> cases b1 <;> cases b2 <;> simp
      refine (HN0.out _).mono ?_
      rintro e w' ⟨rfl, rfl⟩
      rcases ways with ⟨hno, ways⟩ | ⟨rfl, rfl, rfl⟩
      · have hv := hid (show V = false by rw [HV.out, hQ2.out, hno]; rfl)
        clear hno
        have r0 := hst.res.cell 0 rfl
        have r1 := hst.res.cell 1 rfl
        have r2 := hst.res.cell 2 rfl
        have r3 := hst.res.cell 3 rfl
        have rf := hst.res.free
        rcases ways with rfl | ⟨rfl, rfl⟩ | ⟨rfl, rfl, rfl⟩
        all_goals
          go_wp2_with (go_at_call 57; first
            | ((with_reducible refine (HN1.out _).mono ?_); rintro e w' ⟨rfl, rfl⟩)
            | ((with_reducible refine (HN2.out _).mono ?_); rintro e w' ⟨rfl, rfl⟩))
          obtain ⟨q0, q1, q2, q3⟩ := four_cells hst.res (.int .i64 0) (.int .i64 0) (.int .i64 0) (.slice none 0 0) _ rfl
          exact bodyPost_ret (v := .tuple #[rVal 0 0 0 (.slice none 0 0), .bool false]) (by simp [results, Tryz.results36, go_sem, q0, q1, q2, q3]; rfl) rfl (RP.zero hv.out (setCells4 hst.kept (Nat.le_refl _)))
      · have hv := hid (show V = (!hp || pv) by rw [HV.out, hQ2.out]; rfl)
        clear hQ2 HV
        have v0 := hst.var.cell 0 rfl
        have v1 := hst.var.cell 1 rfl
        have v2 := hst.var.cell 2 rfl
        have v3 := hst.var.cell 3 rfl
        have vf := hst.var.free
        by_cases hlt : n < s.size
        · have hp1 := hid (show hp = true by rw [HH.out]; exact decide_eq_true hlt)
          go_wp2_with (go_at_call 57; first
            | ((with_reducible refine (HN1.out _).mono ?_); rintro e w' ⟨rfl, rfl⟩)
            | ((with_reducible refine (HN2.out _).mono ?_); rintro e w' ⟨rfl, rfl⟩))
          clear v0 v1 v2 v3 vf k0 k1 k2
          have st := hst.nums x0 x1 x2
          clear hst hc2
          generalize (((W2.setCell ⟨Vb, 0, none⟩ (.int .i64 (x0 : Int))).setCell ⟨Vb, 1, none⟩ (.int .i64 (x1 : Int))).setCell ⟨Vb, 2, none⟩ (.int .i64 (x2 : Int))) = W3 at st ⊢
          refine (HA.out _).mono ?_
          rintro e w3 ⟨g2, d2, hge, rfl, h41, h4m, hb3, hc3⟩
          have hBV : Vb ≠ g2 := by have := st.var.lt; omega
          have hlow := hid (show w.heap.size < g2 by have := st.low; have := st.var.lt; omega)
          have st2 := st.below hb3
          have st3 := st2.pre (.slice (some ⟨g2, 0, none⟩) D.length d2)
          clear hge hb3 st
          have v0 := st2.var.cell 0 rfl
          have v1 := st2.var.cell 1 rfl
          have v2 := st2.var.cell 2 rfl
          have v3 := st2.var.cell 3 rfl
          have r0 := st2.res.cell 0 rfl
          have r1 := st2.res.cell 1 rfl
          have r2 := st2.res.cell 2 rfl
          have r3 := st2.res.cell 3 rfl
          have vf := st2.var.free
          have rf := st2.res.free
          by_cases h5 : (4 : Int) < (D.length : Int)
          · have hv2 := hid (show V = false by rw [hv.out, hp1.out, HP.out, decide_eq_false (by omega)]; rfl)
            have s0 := st3.res.cell 0 rfl
            have s1 := st3.res.cell 1 rfl
            have s2 := st3.res.cell 2 rfl
            have s3 := st3.res.cell 3 rfl
            have sf := st3.res.free
            go_wp2_with fail
            obtain ⟨q0, q1, q2, q3⟩ := four_cells st3.res (.int .i64 0) (.int .i64 0) (.int .i64 0) (.slice none 0 0) _ rfl
            exact bodyPost_ret (v := .tuple #[rVal 0 0 0 (.slice none 0 0), .bool false]) (by simp [results, Tryz.results36, go_sem, q0, q1, q2, q3]; rfl) rfl (RP.zero hv2.out (setCells4 st3.kept (Nat.le_refl _)))
          · have hd4 := hid (show D.length ≤ 4 by omega)
            go_wp2_with fail
            have hc4 := hc3.other hBV (k := 3) (.slice (some ⟨g2, 0, none⟩) D.length d2)
            clear hc3 st2 v0 v1 v2 v3 vf r0 r1 r2 r3 rf
            generalize w3.setCell ⟨Vb, 3, none⟩ (.slice (some ⟨g2, 0, none⟩) D.length d2) = W4 at st3 hc4 ⊢
            have v0 := st3.var.cell 0 rfl
            have v1 := st3.var.cell 1 rfl
            have v2 := st3.var.cell 2 rfl
            have v3 := st3.var.cell 3 rfl
            have r0 := st3.res.cell 0 rfl
            have r1 := st3.res.cell 1 rfl
            have r2 := st3.res.cell 2 rfl
            have r3 := st3.res.cell 3 rfl
            have vf := st3.var.free
            have rf := st3.res.free
            go_loop [13] (fun v => ∃ k : Nat, k ≤ D.length ∧ v = .int .i64 k ∧ Hid ((D.take k).all partV = true)) (fun v => D.length - (intOf v).toNat)
            case atStart => exact ⟨0, by omega, rfl, hid rfl⟩
            case round =>
              obtain ⟨k, hk, rfl, hp2⟩ := hrel
              by_cases hlt2 : k < D.length
              · have hcell := hc4.2 k hlt2
                rw [Nat.zero_add] at hcell
                have hx := hid (show D[k]? = some (D.getD k []) by simp [List.getD, List.getElem?_eq_getElem hlt2])
                generalize D.getD k [] = g at hcell hx
                have hgl : g.length ≤ s.size := Nat.le_trans (HMA.out g (List.mem_of_getElem? hx.out)) ha
                have HG : Hid (∀ w, Calls Tryz.prog 58 #[.string ⟨g.toArray⟩] w (GivesE (.bool (partV g)) w)) := hid (rpart_any ⟨g.toArray⟩ (sizeL _ _ (by omega)))
                have Y := hid (fun h => take_all hp2.out hx.out h)
                have Z := hid (fun h => all_off (p := partV) hx.out h)
                clear hx hgl
                generalize partV g = b at *
                cases b
                · have hv2 := hid (show V = false by rw [hv.out, hp1.out, HP.out, Z.out rfl, Bool.and_false]; rfl)
                  go_wp2_with (go_at_call 58; (with_reducible refine (HG.out _).mono ?_); rintro e w' ⟨rfl, rfl⟩)
                  obtain ⟨q0, q1, q2, q3⟩ := four_cells st3.res (.int .i64 0) (.int .i64 0) (.int .i64 0) (.slice none 0 0) _ rfl
                  exact bodyPost_ret (v := .tuple #[rVal 0 0 0 (.slice none 0 0), .bool false]) (by simp [results, Tryz.results36, go_sem, q0, q1, q2, q3]; rfl) rfl (RP.zero hv2.out (setCells4 st3.kept (Nat.le_refl _)))
                · have hy := hid (Y.out rfl)
                  clear Y Z
                  go_wp2_with (go_at_call 58; (with_reducible refine (HG.out _).mono ?_); rintro e w' ⟨rfl, rfl⟩)
                  go_round
                  case rel => exact ⟨k + 1, by omega, by go_num, hy⟩
                  case measure => simp [intOf]; omega
              · have hv2 := hid (show V = true by
                  have := hp2.out
                  rw [List.take_of_length_le (by omega)] at this
                  rw [hv.out, hp1.out, HP.out, this, decide_eq_true hd4.out]; rfl)
                go_wp2_with fail
                obtain ⟨q0, q1, q2, q3⟩ := four_cells st3.res (.int .i64 (x0 : Int)) (.int .i64 (x1 : Int)) (.int .i64 (x2 : Int)) (.slice (some ⟨g2, 0, none⟩) D.length d2) _ rfl
                have hbb := st3.kept
                have hc5 : ∀ wz, Below w.heap.size w wz → wz = ((((W4.setCell ⟨w.heap.size, 0, none⟩ (.int .i64 (x0 : Int))).setCell ⟨w.heap.size, 1, none⟩ (.int .i64 (x1 : Int))).setCell ⟨w.heap.size, 2, none⟩ (.int .i64 (x2 : Int))).setCell ⟨w.heap.size, 3, none⟩ (.slice (some ⟨g2, 0, none⟩) D.length d2)) → PreAt wz (.slice (some ⟨g2, 0, none⟩) D.length d2) PL := by
                  rintro wz _ rfl
                  have hne2 : w.heap.size ≠ g2 := by have := hlow.out; omega
                  rw [HL.out, hp1.out, if_pos rfl]
                  exact .inr ⟨g2, d2, hne.out, rfl, h41, h4m, (((hc4.other hne2 _).other hne2 _).other hne2 _).other hne2 _⟩
                exact bodyPost_ret (v := .tuple #[rVal x0 x1 x2 (.slice (some ⟨g2, 0, none⟩) D.length d2), .bool true]) (by simp [results, Tryz.results36, go_sem, q0, q1, q2, q3]; rfl) rfl (RP.yes hv2.out n0.out n1.out n2.out (hc5 _ (setCells4 st3.kept (Nat.le_refl _)) rfl) (setCells4 st3.kept (Nat.le_refl _)))
        · have hp0 := hid (show hp = false by rw [HH.out]; exact decide_eq_false hlt)
          go_wp2_with (go_at_call 57; first
            | ((with_reducible refine (HN1.out _).mono ?_); rintro e w' ⟨rfl, rfl⟩)
            | ((with_reducible refine (HN2.out _).mono ?_); rintro e w' ⟨rfl, rfl⟩))
          have st := hst.nums x0 x1 x2
          clear v0 v1 v2 v3 vf k0 k1 k2 hst hc2
          generalize (((W2.setCell ⟨Vb, 0, none⟩ (.int .i64 (x0 : Int))).setCell ⟨Vb, 1, none⟩ (.int .i64 (x1 : Int))).setCell ⟨Vb, 2, none⟩ (.int .i64 (x2 : Int))) = W3 at st ⊢
          have v0 := st.var.cell 0 rfl
          have v1 := st.var.cell 1 rfl
          have v2 := st.var.cell 2 rfl
          have v3 := st.var.cell 3 rfl
          have r0 := st.res.cell 0 rfl
          have r1 := st.res.cell 1 rfl
          have r2 := st.res.cell 2 rfl
          have r3 := st.res.cell 3 rfl
          have vf := st.var.free
          have rf := st.res.free
          go_loop [13] (fun v => v = .int .i64 0) (fun v => 0)
          case atStart => rfl
          case round =>
            subst hrel
            go_wp2_with fail
            obtain ⟨q0, q1, q2, q3⟩ := four_cells st.res (.int .i64 (x0 : Int)) (.int .i64 (x1 : Int)) (.int .i64 (x2 : Int)) (.slice none 0 0) _ rfl
            exact bodyPost_ret (v := .tuple #[rVal x0 x1 x2 (.slice none 0 0), .bool true]) (by simp [results, Tryz.results36, go_sem, q0, q1, q2, q3]; rfl) rfl (RP.yes (by rw [hv.out, hp0.out]; rfl) n0.out n1.out n2.out (.inl ⟨by rw [HL.out, hp0.out]; rfl, rfl⟩) (setCells4 st.kept (Nat.le_refl _)))
    · have h3 : ((C.length : Int) != 3) = true := by simp; omega
      have hv := hid (show V = false by rw [HV.out, HQ.out, decide_eq_false hC3]; rfl)
      go_wp2_with (go_at_call 30; (with_reducible refine (HF.out _).mono ?_); rintro e w1 ⟨g1, d1, _, rfl, h31, h3m, hb1, hc1⟩; have hq := hres.below hb1; have r0 := hq.cell 0 rfl; have r1 := hq.cell 1 rfl; have r2 := hq.cell 2 rfl; have r3 := hq.cell 3 rfl; have rf := hq.free)
      obtain ⟨q0, q1, q2, q3⟩ := four_cells hq (.int .i64 0) (.int .i64 0) (.int .i64 0) (.slice none 0 0) _ rfl
      exact bodyPost_ret (v := .tuple #[rVal 0 0 0 (.slice none 0 0), .bool false]) (by simp [results, Tryz.results36, go_sem, q0, q1, q2, q3]; rfl) rfl (RP.zero hv.out (setCells4 (below_trans hb0 hb1) (Nat.le_refl _)))
end Go.Proofs.YtebhgcejcdgdbaaGreatDoor.Vs

/-
  LAYER 3, THE LAWS' own 'of': a version by the program and by the document, of one text.
-/
namespace Go.Proofs.YtebhgcejcdgdbaaGreatDoor.Vs
open Go.RowKit
open Go.Proofs.YtebhgcejcdgdbaaGreatDoor Go.Proofs.YtebhgcejcdgdbaaGreatDoor.Nu

/-- the version of a text; of a text that is none: 0.0.0 -/
def nO (l : List UInt8) (i : Nat) : Nat := if verV l then nth l i else 0
def preO (l : List UInt8) : List UInt8 := if verV l then aft 45 l else []
def rowO (l : List UInt8) : List (List UInt8) := if verV l then preL l else []
def OfIs (l : List UInt8) (w : World) (e : Ending) (w' : World) : Prop :=
  ∃ pv, e = .returned (.tuple #[verA (nO l 0) (nO l 1) (nO l 2) (preO l), rVal (nO l 0) (nO l 1) (nO l 2) pv]) ∧ PreAt w' pv (rowO l) ∧ Below w.heap.size w w'

theorem PreAt.shape {w : World} {pv : Value} {Q : List (List UInt8)} (h : PreAt w pv Q) : ∃ a c, pv = .slice a Q.length c := by
  rcases h with ⟨h1, h2⟩ | ⟨g, c, _, h2, _⟩
  · exact ⟨_, _, by rw [h2, h1]; rfl⟩
  · exact ⟨_, _, h2⟩

theorem eight_cells {w W : World} {b c : Nat} {e f : TypeId} {x0 x1 x2 x3 y0 y1 y2 y3 : Value} (hx : Blk W b [x0, x1, x2, x3] e) (hy : Blk W c [y0, y1, y2, y3] f) (hbc : b ≠ c) (h0 : Below w.heap.size w W) (hb : w.heap.size ≤ b) (hc : w.heap.size ≤ c) (a0 a1 a2 a3 d0 d1 d2 d3 : Value) :
    ∀ V, V = ((((((((W.setCell ⟨b, 0, none⟩ a0).setCell ⟨b, 1, none⟩ a1).setCell ⟨b, 2, none⟩ a2).setCell ⟨b, 3, none⟩ a3).setCell ⟨c, 0, none⟩ d0).setCell ⟨c, 1, none⟩ d1).setCell ⟨c, 2, none⟩ d2).setCell ⟨c, 3, none⟩ d3) →
    (V.cell? ⟨b, 0, none⟩ = some a0 ∧ V.cell? ⟨b, 1, none⟩ = some a1 ∧ V.cell? ⟨b, 2, none⟩ = some a2 ∧ V.cell? ⟨b, 3, none⟩ = some a3 ∧ V.cell? ⟨c, 0, none⟩ = some d0 ∧ V.cell? ⟨c, 1, none⟩ = some d1 ∧ V.cell? ⟨c, 2, none⟩ = some d2 ∧ V.cell? ⟨c, 3, none⟩ = some d3) ∧ Below w.heap.size w V := by
  intro V hV
  subst hV
  have h1 := (((((((((hx.set 0 a0).set 1 a1).set 2 a2).set 3 a3).other (a := ⟨c, 0, none⟩) hbc d0).other (a := ⟨c, 1, none⟩) hbc d1).other (a := ⟨c, 2, none⟩) hbc d2).other (a := ⟨c, 3, none⟩) hbc d3))
  have h2 := ((((((((hy.other (a := ⟨b, 0, none⟩) hbc.symm a0).other (a := ⟨b, 1, none⟩) hbc.symm a1).other (a := ⟨b, 2, none⟩) hbc.symm a2).other (a := ⟨b, 3, none⟩) hbc.symm a3).set 0 d0).set 1 d1).set 2 d2).set 3 d3)
  exact ⟨⟨h1.cell 0 rfl, h1.cell 1 rfl, h1.cell 2 rfl, h1.cell 3 rfl, h2.cell 0 rfl, h2.cell 1 rfl, h2.cell 2 rfl, h2.cell 3 rfl⟩, setCells4 (setCells4 h0 hb) hc⟩

theorem cells_ne {W : World} {b g : Nat} {Q : List (List UInt8)} {k : IntKind} {x : Int} {r : List Value} {e : TypeId} (h : CellsAt W g 0 Q) (hQ : Q ≠ []) (hb : Blk W b (.int k x :: r) e) : b ≠ g := by
  rintro rfl
  have h1 := h.2 0 (List.length_pos_iff.2 hQ)
  have h2 := hb.cell 0 rfl
  rw [Nat.zero_add, h2] at h1
  cases h1
theorem PreAt.eight {W : World} {b c : Nat} {e f : TypeId} {k k' : IntKind} {x y : Int} {r r' : List Value} {pv : Value} {Q : List (List UInt8)} (h : PreAt W pv Q) (hx : Blk W b (.int k x :: r) e) (hy : Blk W c (.int k' y :: r') f) (a0 a1 a2 a3 d0 d1 d2 d3 : Value) :
    PreAt ((((((((W.setCell ⟨b, 0, none⟩ a0).setCell ⟨b, 1, none⟩ a1).setCell ⟨b, 2, none⟩ a2).setCell ⟨b, 3, none⟩ a3).setCell ⟨c, 0, none⟩ d0).setCell ⟨c, 1, none⟩ d1).setCell ⟨c, 2, none⟩ d2).setCell ⟨c, 3, none⟩ d3) pv Q := by
  rcases h with h | ⟨g, cc, h1, h2, h3, h4, h5⟩
  · exact .inl h
  · have n1 := cells_ne h5 h1 hx
    have n2 := cells_ne h5 h1 hy
    exact .inr ⟨g, cc, h1, h2, h3, h4, (((((((h5.other n1 a0).other n1 a1).other n1 a2).other n1 a3).other n2 d0).other n2 d1).other n2 d2).other n2 d3⟩

set_option maxRecDepth 20000 in
set_option maxHeartbeats 2000000 in
theorem of_any (s : ByteArray) (hs : s.size < 4294967281) (w : World) (hm : MaxAt w) :
    Calls Tryz.prog 20 #[.string s] w (OfIs s.data.toList w) := by
  have HP := hid (parse_any s hs)
  have HR := hid (rparse_any s hs)
  unfold RParseIs at HR
  clear hs
  generalize s.data.toList = l at *
  cases hv : verV l
  · have hT : parseT l = .tuple #[.agg #[.int .i64 0, .int .i64 0, .int .i64 0, .string ⟨#[]⟩], .bool false] := by unfold parseT; rw [hv]; rfl
    have hF : Hid (∀ w', Below w.heap.size w w' → OfIs l w (.returned (.tuple #[.agg #[.int .i64 0, .int .i64 0, .int .i64 0, .string ⟨#[]⟩], .agg #[.int .i64 0, .int .i64 0, .int .i64 0, .slice none 0 0]])) w') := hid (fun w' h => by
      refine ⟨.slice none 0 0, ?_, .inl ⟨?_, rfl⟩, h⟩
      · unfold nO preO; rw [hv]; rfl
      · unfold rowO; rw [hv]; rfl)
    rw [hT] at HP
    rw [hv] at HR
    clear hT hv
    generalize OfIs l w = POST at hF ⊢
    obtain ⟨H2, H3⟩ := two_blk w [.int .i64 0, .int .i64 0, .int .i64 0, .string ⟨#[]⟩] [.int .i64 0, .int .i64 0, .int .i64 0, .slice none 0 0] 38 45
    have hb0 := below_alloc (below_alloc (Below.refl w.heap.size w) (.cells #[.int .i64 0, .int .i64 0, .int .i64 0, .string ⟨#[]⟩] 38)) (.cells #[.int .i64 0, .int .i64 0, .int .i64 0, .slice none 0 0] 45)
    replace H2 := hid H2
    replace H3 := hid H3
    replace hb0 := hid hb0
    go_enter Tryz.func20, Tryz.ntmps20
    go_wp2_with fail
    refine (HP.out _ (hm.below hb0.out)).mono ?_
    rintro e w1 ⟨rfl, hb1⟩
    replace H2 := hid ((H2.out.below hb1).alloc (.cells #[.int .i64 0, .int .i64 0, .int .i64 0, .string ⟨#[]⟩] 38))
    replace H3 := hid ((H3.out.below hb1).alloc (.cells #[.int .i64 0, .int .i64 0, .int .i64 0, .string ⟨#[]⟩] 38))
    replace hb0 := hid (below_alloc (below_trans hb0.out hb1) (.cells #[.int .i64 0, .int .i64 0, .int .i64 0, .string ⟨#[]⟩] 38))
    clear hb1
    go_wp2_with fail
    generalize w1.alloc (.cells #[.int .i64 0, .int .i64 0, .int .i64 0, .string ⟨#[]⟩] 38) = W1 at H2 H3 hb0 ⊢
    generalize w1.heap.size = b4
    refine (HR.out _).mono ?_
    rintro e w2 ⟨hb2, hcase⟩
    rcases hcase with ⟨_, rfl⟩ | ⟨h, _⟩
    · have E2 := (H2.out.below hb2).alloc (.cells #[.int .i64 0, .int .i64 0, .int .i64 0, .slice none 0 0] 45)
      have E3 := (H3.out.below hb2).alloc (.cells #[.int .i64 0, .int .i64 0, .int .i64 0, .slice none 0 0] 45)
      have E0 := below_alloc (below_trans hb0.out hb2) (.cells #[.int .i64 0, .int .i64 0, .int .i64 0, .slice none 0 0] 45)
      simp only [show rVal 0 0 0 (.slice none 0 0) = .agg #[.int .i64 0, .int .i64 0, .int .i64 0, .slice none 0 0] from rfl]
      have f2 := E2.free
      have f3 := E3.free
      have c20 := E2.cell 0 rfl
      have c21 := E2.cell 1 rfl
      have c22 := E2.cell 2 rfl
      have c23 := E2.cell 3 rfl
      have c30 := E3.cell 0 rfl
      have c31 := E3.cell 1 rfl
      have c32 := E3.cell 2 rfl
      have c33 := E3.cell 3 rfl
      replace E2 := hid E2
      replace E3 := hid E3
      replace E0 := hid E0
      clear H2 H3 hb0 hb2
      go_wp2_with fail
      obtain ⟨⟨q0, q1, q2, q3, q4, q5, q6, q7⟩, hbl⟩ := eight_cells E2.out E3.out (by omega) E0.out (Nat.le_refl _) (by omega) (.int .i64 0) (.int .i64 0) (.int .i64 0) (.string ⟨#[]⟩) (.int .i64 0) (.int .i64 0) (.int .i64 0) (.slice none 0 0) _ rfl
      exact bodyPost_ret (v := .tuple #[.agg #[.int .i64 0, .int .i64 0, .int .i64 0, .string ⟨#[]⟩], .agg #[.int .i64 0, .int .i64 0, .int .i64 0, .slice none 0 0]]) (by simp [results, Tryz.results20, go_sem, q0, q1, q2, q3, q4, q5, q6, q7]) rfl (hF.out _ hbl)
    · cases h
  · have hT : parseT l = .tuple #[.agg #[.int .i64 (nth l 0 : Int), .int .i64 (nth l 1 : Int), .int .i64 (nth l 2 : Int), .string ⟨(aft 45 l).toArray⟩], .bool true] := by unfold parseT; rw [hv]; rfl
    have hF : Hid (∀ pv w', PreAt w' pv (preL l) → Below w.heap.size w w' → OfIs l w (.returned (.tuple #[.agg #[.int .i64 (nth l 0 : Int), .int .i64 (nth l 1 : Int), .int .i64 (nth l 2 : Int), .string ⟨(aft 45 l).toArray⟩], .agg #[.int .i64 (nth l 0 : Int), .int .i64 (nth l 1 : Int), .int .i64 (nth l 2 : Int), pv]])) w') := hid (fun pv w' hp h => by
      refine ⟨pv, ?_, ?_, h⟩
      · unfold nO preO; rw [hv]; rfl
      · unfold rowO; rw [hv]; exact hp)
    rw [hT] at HP
    rw [hv] at HR
    clear hT hv
    generalize OfIs l w = POST at hF ⊢
    generalize hx0 : (nth l 0 : Int) = x0 at HP hF
    generalize hx1 : (nth l 1 : Int) = x1 at HP hF
    generalize hx2 : (nth l 2 : Int) = x2 at HP hF
    generalize (⟨(aft 45 l).toArray⟩ : ByteArray) = A at HP hF
    have HX0 := hid hx0
    have HX1 := hid hx1
    have HX2 := hid hx2
    clear hx0 hx1 hx2
    obtain ⟨H2, H3⟩ := two_blk w [.int .i64 0, .int .i64 0, .int .i64 0, .string ⟨#[]⟩] [.int .i64 0, .int .i64 0, .int .i64 0, .slice none 0 0] 38 45
    have hb0 := below_alloc (below_alloc (Below.refl w.heap.size w) (.cells #[.int .i64 0, .int .i64 0, .int .i64 0, .string ⟨#[]⟩] 38)) (.cells #[.int .i64 0, .int .i64 0, .int .i64 0, .slice none 0 0] 45)
    replace H2 := hid H2
    replace H3 := hid H3
    replace hb0 := hid hb0
    go_enter Tryz.func20, Tryz.ntmps20
    go_wp2_with fail
    refine (HP.out _ (hm.below hb0.out)).mono ?_
    rintro e w1 ⟨rfl, hb1⟩
    have L4 := hid (H3.out.below hb1).lt
    replace H2 := hid ((H2.out.below hb1).alloc (.cells #[.int .i64 x0, .int .i64 x1, .int .i64 x2, .string A] 38))
    replace H3 := hid ((H3.out.below hb1).alloc (.cells #[.int .i64 x0, .int .i64 x1, .int .i64 x2, .string A] 38))
    replace hb0 := hid (below_alloc (below_trans hb0.out hb1) (.cells #[.int .i64 x0, .int .i64 x1, .int .i64 x2, .string A] 38))
    have H4 := hid (Blk.new w1 [.int .i64 x0, .int .i64 x1, .int .i64 x2, .string A] 38)
    clear hb1
    go_wp2_with fail
    generalize w1.alloc (.cells [.int .i64 x0, .int .i64 x1, .int .i64 x2, .string A].toArray 38) = W1 at H2 H3 H4 hb0 ⊢
    generalize w1.heap.size = b4 at H4 L4 ⊢
    refine (HR.out _).mono ?_
    rintro e w2 ⟨hb2, hcase⟩
    rcases hcase with ⟨h, _⟩ | ⟨_, pv, rfl, hpre⟩
    · cases h
    · obtain ⟨pa, pc, rfl⟩ := hpre.shape
      simp only [show rVal (nth l 0) (nth l 1) (nth l 2) (.slice pa (preL l).length pc) = .agg #[.int .i64 (nth l 0 : Int), .int .i64 (nth l 1 : Int), .int .i64 (nth l 2 : Int), .slice pa (preL l).length pc] from rfl, HX0.out, HX1.out, HX2.out]
      generalize (preL l).length = pn at hpre hF ⊢
      replace hpre := hid (fun w' (h : Below w2.heap.size w2 w') => hpre.below h)
      have E2 := (H2.out.below hb2).alloc (.cells #[.int .i64 x0, .int .i64 x1, .int .i64 x2, .slice pa pn pc] 45)
      have E3 := (H3.out.below hb2).alloc (.cells #[.int .i64 x0, .int .i64 x1, .int .i64 x2, .slice pa pn pc] 45)
      have E4 := (H4.out.below hb2).alloc (.cells #[.int .i64 x0, .int .i64 x1, .int .i64 x2, .slice pa pn pc] 45)
      have E6 := Blk.new w2 [.int .i64 x0, .int .i64 x1, .int .i64 x2, .slice pa pn pc] 45
      have E0 := below_alloc (below_trans hb0.out hb2) (.cells #[.int .i64 x0, .int .i64 x1, .int .i64 x2, .slice pa pn pc] 45)
      have L6 := hid (H3.out.below hb2).lt
      have EP := hid (below_alloc (Below.refl w2.heap.size w2) (.cells #[.int .i64 x0, .int .i64 x1, .int .i64 x2, .slice pa pn pc] 45))
      clear H2 H3 H4 hb0 hb2 HX0 HX1 HX2
      replace E2 := hid E2
      replace E3 := hid E3
      replace E4 := hid E4
      replace E6 := hid E6
      replace E0 := hid E0
      go_wp2_with fail
      generalize w2.alloc (.cells [.int .i64 x0, .int .i64 x1, .int .i64 x2, .slice pa pn pc].toArray 45) = W3 at E2 E3 E4 E6 E0 EP ⊢
      generalize w2.heap.size = b6 at E6 L6 ⊢
      have n1 : ¬ b4 = w.heap.size := by have := L4.out; omega
      have n2 : ¬ b4 = w.heap.size + 1 := by have := L4.out; omega
      have n3 : ¬ b6 = w.heap.size := by have := L6.out; omega
      have n4 : ¬ b6 = w.heap.size + 1 := by have := L6.out; omega
      have m1 : ¬ w.heap.size = b4 := by have := L4.out; omega
      have m2 : ¬ w.heap.size + 1 = b4 := by have := L4.out; omega
      have m3 : ¬ w.heap.size = b6 := by have := L6.out; omega
      have m4 : ¬ w.heap.size + 1 = b6 := by have := L6.out; omega
      have f2 := E2.out.free
      have f3 := E3.out.free
      have c20 := E2.out.cell 0 rfl
      have c21 := E2.out.cell 1 rfl
      have c22 := E2.out.cell 2 rfl
      have c23 := E2.out.cell 3 rfl
      have c30 := E3.out.cell 0 rfl
      have c31 := E3.out.cell 1 rfl
      have c32 := E3.out.cell 2 rfl
      have c33 := E3.out.cell 3 rfl
      have c40 := E4.out.cell 0 rfl
      have c41 := E4.out.cell 1 rfl
      have c42 := E4.out.cell 2 rfl
      have c43 := E4.out.cell 3 rfl
      have c60 := E6.out.cell 0 rfl
      have c61 := E6.out.cell 1 rfl
      have c62 := E6.out.cell 2 rfl
      have c63 := E6.out.cell 3 rfl
      go_region
      all_goals
        go_wp2_with fail
        clear f2 f3 c20 c21 c22 c23 c30 c31 c32 c33 c40 c41 c42 c43 c60 c61 c62 c63
        first
          | (obtain ⟨⟨q0, q1, q2, q3, q4, q5, q6, q7⟩, hbl⟩ := eight_cells E2.out E3.out (by omega) E0.out (by omega) (by omega) (.int .i64 x0) (.int .i64 x1) (.int .i64 x2) (.string A) (.int .i64 x0) (.int .i64 x1) (.int .i64 x2) (.slice pa pn pc) _ rfl
             exact bodyPost_ret (v := .tuple #[.agg #[.int .i64 x0, .int .i64 x1, .int .i64 x2, .string A], .agg #[.int .i64 x0, .int .i64 x1, .int .i64 x2, .slice pa pn pc]]) (by simp [results, Tryz.results20, go_sem, q0, q1, q2, q3, q4, q5, q6, q7]) rfl (hF.out _ _ (((hpre.out _ EP.out).eight E2.out E3.out (.int .i64 x0) (.int .i64 x1) (.int .i64 x2) (.string A) (.int .i64 x0) (.int .i64 x1) (.int .i64 x2) (.slice pa pn pc)).below (below_drew (Below.refl _ _))) (below_drew hbl)))
          | (obtain ⟨⟨q0, q1, q2, q3, q4, q5, q6, q7⟩, hbl⟩ := eight_cells E3.out E2.out (by omega) E0.out (by omega) (by omega) (.int .i64 x0) (.int .i64 x1) (.int .i64 x2) (.slice pa pn pc) (.int .i64 x0) (.int .i64 x1) (.int .i64 x2) (.string A) _ rfl
             exact bodyPost_ret (v := .tuple #[.agg #[.int .i64 x0, .int .i64 x1, .int .i64 x2, .string A], .agg #[.int .i64 x0, .int .i64 x1, .int .i64 x2, .slice pa pn pc]]) (by simp [results, Tryz.results20, go_sem, q0, q1, q2, q3, q4, q5, q6, q7]) rfl (hF.out _ _ (((hpre.out _ EP.out).eight E3.out E2.out (.int .i64 x0) (.int .i64 x1) (.int .i64 x2) (.slice pa pn pc) (.int .i64 x0) (.int .i64 x1) (.int .i64 x2) (.string A)).below (below_drew (Below.refl _ _))) (below_drew hbl)))
end Go.Proofs.YtebhgcejcdgdbaaGreatDoor.Vs

/-
  LAYER 3, THE DOCUMENT'S Compare, of versions that 'of' gives.
-/
namespace Go.Proofs.YtebhgcejcdgdbaaGreatDoor.Vs
open Go.RowKit
open Go.Proofs.YtebhgcejcdgdbaaGreatDoor Go.Proofs.YtebhgcejcdgdbaaGreatDoor.Nu

def rows (p : List UInt8) : List (List UInt8) := if p = [] then [] else cutl 46 p
theorem rowO_eq (l : List UInt8) : rowO l = rows (preO l) := by
  unfold rowO preO rows preL
  cases h : verV l
  · rfl
  · have h2 := (text_of h).2.2.2.2.2
    rw [if_pos rfl, if_pos rfl, h2]
    by_cases h3 : aft 45 l = []
    · rw [if_pos h3, decide_eq_false (by simpa using h3)]; rfl
    · rw [if_neg h3, decide_eq_true h3]; rfl
theorem preO_ok {l : List UInt8} (hl : l.length < 4294967281) : OkPre (preO l) := by
  unfold preO
  cases h : verV l
  · exact ⟨by simp, .inl rfl⟩
  · rw [if_pos rfl]
    have h2 := (text_of h).2.2.2.2.1
    have := aft_le l
    exact ⟨by omega, h2⟩
theorem rows_ok {p : List UInt8} (h : OkPre p) : (rows p).length ≤ 4 ∧ ∀ q, q ∈ rows p → q.length < 4294967281 ∧ partV q = true := by
  unfold rows
  by_cases hp : p = []
  · rw [if_pos hp]; exact ⟨by simp, by simp⟩
  · rw [if_neg hp]
    refine ⟨h.cut, fun q hq => ?_⟩
    have h1 := (cutl_mem 46 _ p (Nat.le_refl _) q hq).2
    have h2 := h.1
    refine ⟨by omega, ?_⟩
    rcases h.2 with e | e
    · exact absurd e hp
    · unfold preV at e
      simp only [Bool.and_eq_true] at e
      exact List.all_eq_true.1 e.2 q hq
theorem rows_nil {p : List UInt8} : rows p = [] ↔ p = [] := by
  unfold rows
  by_cases hp : p = []
  · rw [if_pos hp]; simp [hp]
  · rw [if_neg hp]; simp [hp, cutl_ne]
theorem nat3_ne {a b c a' b' c' : Nat} (h : ¬ [a, b, c] = [a', b', c']) : ([(a : Int), (b : Int), (c : Int)] : List Int) ≠ [(a' : Int), (b' : Int), (c' : Int)] := by
  intro e
  apply h
  simp at e
  obtain ⟨h1, h2, h3⟩ := e
  rw [show a = a' by omega, show b = b' by omega, show c = c' by omega]
theorem cmpL_nat3 (a b c a' b' c' : Nat) : cmpL cz [(a : Int), (b : Int), (c : Int)] [(a' : Int), (b' : Int), (c' : Int)] = cmpL ci [a, b, c] [a', b', c'] := cmpL_nat [a, b, c] [a', b', c']

/-- of two versions, which one is higher, by the document -/
theorem rcompare_any (a b c a' b' c' : Nat) (p q : List UInt8) (hp : OkPre p) (hq : OkPre q) (pv qv : Value) (w : World) (h1 : PreAt w pv (rows p)) (h2 : PreAt w qv (rows q)) :
    Calls Tryz.prog 22 #[rVal a b c pv, rVal a' b' c' qv] w (Gives (.int .i64 (cmpV [a, b, c] [a', b', c'] p q)) w) := by
  obtain ⟨pa, pc, rfl⟩ := h1.shape
  obtain ⟨qa, qc, rfl⟩ := h2.shape
  obtain ⟨lp, gp⟩ := rows_ok hp
  obtain ⟨lq, gq⟩ := rows_ok hq
  unfold cmpV
  by_cases hn : [a, b, c] = [a', b', c']
  · obtain ⟨rfl, rfl, rfl⟩ : a = a' ∧ b = b' ∧ c = c' := by simpa using hn
    rw [if_pos rfl]
    by_cases h0 : p = []
    · have e0 : (rows p).length = 0 := by rw [rows_nil.2 h0]; rfl
      have := rcompare_short a b c pa (rows p).length pc qa (rows q).length qc lp lq (.inl e0) w
      refine this.mono ?_
      rintro e w' ⟨rfl, hb⟩
      refine gives rfl (int_eq ?_) hb
      rw [cz_len, e0]
      unfold cmpB
      by_cases h3 : q = []
      · rw [rows_nil.2 h3, h0, h3]; simp
      · have : 0 < (rows q).length := List.length_pos_iff.2 (fun e => h3 (rows_nil.1 e))
        rw [if_neg (by omega), if_pos this, if_neg (by rw [h0]; exact fun e => h3 e.symm), if_pos h0]
    · by_cases h3 : q = []
      · have e0 : (rows q).length = 0 := by rw [rows_nil.2 h3]; rfl
        have := rcompare_short a b c pa (rows p).length pc qa (rows q).length qc lp lq (.inr e0) w
        refine this.mono ?_
        rintro e w' ⟨rfl, hb⟩
        refine gives rfl (int_eq ?_) hb
        have h4 : 0 < (rows p).length := List.length_pos_iff.2 (fun e => h0 (rows_nil.1 e))
        rw [cz_len, e0, if_pos h4, h3, cmpB_rel h0]
      · have n1 : rows p ≠ [] := fun e => h0 (rows_nil.1 e)
        have n2 : rows q ≠ [] := fun e => h3 (rows_nil.1 e)
        rcases h1 with ⟨e, _⟩ | ⟨g, cc, _, e1, _, _, c1⟩
        · exact absurd e n1
        rcases h2 with ⟨e, _⟩ | ⟨g', cc', _, e2, _, _, c2⟩
        · exact absurd e n2
        rw [e1, e2]
        have := rcompare_long a b c g cc g' cc' (rows p) (rows q) lp lq n1 n2 gp gq w c1 c2
        refine this.mono ?_
        rintro e w' ⟨rfl, hb⟩
        refine gives rfl (int_eq ?_) hb
        unfold cmpB
        rw [show rows p = cutl 46 p from if_neg h0, show rows q = cutl 46 q from if_neg h3]
        by_cases h4 : p = q
        · subst h4; rw [if_pos rfl, (cmpL_cmp cmpP_cmp).self]
        · rw [if_neg h4, if_neg h0, if_neg h3]
  · rw [if_neg hn]
    have := rcompare_num a b c a' b' c' pa (rows p).length pc qa (rows q).length qc (nat3_ne hn) w
    rwa [cmpL_nat3] at this

/-- what 'of' gives, spelt out -/
def OfV (x0 x1 x2 : Int) (A : ByteArray) (Q : List (List UInt8)) (w : World) (e : Ending) (w' : World) : Prop :=
  ∃ pa pc, e = .returned (.tuple #[.agg #[.int .i64 x0, .int .i64 x1, .int .i64 x2, .string A], .agg #[.int .i64 x0, .int .i64 x1, .int .i64 x2, .slice pa Q.length pc]]) ∧ PreAt w' (.slice pa Q.length pc) Q ∧ Below w.heap.size w w'
theorem of_v (s : ByteArray) (hs : s.size < 4294967281) : ∃ (a b c : Nat) (p : List UInt8), a < 1000000 ∧ b < 1000000 ∧ c < 1000000 ∧ OkPre p ∧ p.length ≤ s.size ∧ ∀ w, MaxAt w → Calls Tryz.prog 20 #[.string s] w (OfV a b c ⟨p.toArray⟩ (rows p) w) := by
  have hl : s.data.toList.length < 4294967281 := by rw [lenS]; exact hs
  have key : nO s.data.toList 0 < 1000000 ∧ nO s.data.toList 1 < 1000000 ∧ nO s.data.toList 2 < 1000000 := by
    unfold nO
    cases h : verV s.data.toList
    · simp
    · have := text_of h
      exact ⟨this.2.1, this.2.2.1, this.2.2.2.1⟩
  have hpl : (preO s.data.toList).length ≤ s.size := by
    unfold preO
    split
    · have := aft_le s.data.toList; rw [lenS] at this; exact this
    · simp
  refine ⟨_, _, _, preO s.data.toList, key.1, key.2.1, key.2.2, preO_ok hl, hpl, fun w hm => ?_⟩
  refine (of_any s hs w hm).mono ?_
  rintro e w' ⟨pv, rfl, h1, h2⟩
  rw [rowO_eq] at h1
  obtain ⟨pa, pc, rfl⟩ := h1.shape
  exact ⟨pa, pc, rfl, h1, h2⟩
end Go.Proofs.YtebhgcejcdgdbaaGreatDoor.Vs

/-
  LAYER 3, THE DOCUMENT'S Text.
-/
namespace Go.Proofs.YtebhgcejcdgdbaaGreatDoor.Vs
open Go.RowKit Go.Sort
open Go.Proofs.YtebhgcejcdgdbaaGreatDoor Go.Proofs.YtebhgcejcdgdbaaGreatDoor.Nu

def tailT : List (List UInt8) → List UInt8
  | [] => []
  | p :: ps => 45 :: joinl 46 (p :: ps)
theorem joinl_snoc (c : UInt8) (q : List UInt8) : ∀ ps : List (List UInt8), ps ≠ [] → joinl c (ps ++ [q]) = joinl c ps ++ c :: q := by
  intro ps
  induction ps with
  | nil => intro h; exact absurd rfl h
  | cons p ps ih =>
    intro _
    by_cases h : ps = []
    · subst h; rfl
    · rw [List.cons_append, joinl_cons (by simp), joinl_cons h, ih h]; simp
theorem tail_one (q : List UInt8) : tailT [q] = 45 :: q := rfl
theorem tail_snoc (q : List UInt8) {ps : List (List UInt8)} (h : ps ≠ []) : tailT (ps ++ [q]) = tailT ps ++ 46 :: q := by
  cases ps with
  | nil => exact absurd rfl h
  | cons p ps =>
    show 45 :: joinl 46 ((p :: ps) ++ [q]) = 45 :: joinl 46 (p :: ps) ++ 46 :: q
    rw [joinl_snoc 46 q _ (by simp)]; rfl

set_option maxRecDepth 100000 in
set_option maxHeartbeats 1000000 in
theorem rtext_s (a b c : Int) (A B C : ByteArray) (Q : List (List UInt8)) (pv : Value) (hA : A.size ≤ 6) (hB : B.size ≤ 6) (hC : C.size ≤ 6) (w : World) (hQ4 : Q.length ≤ 4) (hQ : ∀ k, k < Q.length → (Q.getD k []).length < 4294967281) (hP : PreAt w pv Q)
    (HA : ∀ W, Below w.heap.size w W → Calls Tryz.prog 56 #[.int .i64 a] W (Gives (.string A) W)) (HB : ∀ W, Below w.heap.size w W → Calls Tryz.prog 56 #[.int .i64 b] W (Gives (.string B) W)) (HD : ∀ W, Below w.heap.size w W → Calls Tryz.prog 56 #[.int .i64 c] W (Gives (.string C) W)) :
    Calls Tryz.prog 35 #[.agg #[.int .i64 a, .int .i64 b, .int .i64 c, pv]] w fun e w' => (∃ T : ByteArray, T.data.toList = A.data.toList ++ 46 :: (B.data.toList ++ 46 :: (C.data.toList ++ tailT Q)) ∧ e = .returned (.string T)) ∧ Below w.heap.size w w' := by
  replace HA := hid HA
  replace HB := hid HB
  replace HD := hid HD
  obtain ⟨pa, pn, pc, rfl, hpl⟩ : ∃ pa pn pc, pv = .slice pa pn pc ∧ pn = Q.length := by
    rcases hP with ⟨rfl, rfl⟩ | ⟨g, c, _, rfl, _⟩
    · exact ⟨_, _, _, rfl, rfl⟩
    · exact ⟨_, _, _, rfl, rfl⟩
  subst hpl
  replace hP := hid hP
  replace hQ := hid hQ
  replace hQ4 := hid hQ4
  have hnil := hid (show Q = [] ∨ Q ≠ [] from by by_cases h : Q = [] <;> simp [h])
  have hQL := hid (show ∃ n, n = Q.length from ⟨_, rfl⟩)
  generalize hR : (fun e w' => (∃ T : ByteArray, T.data.toList = A.data.toList ++ 46 :: (B.data.toList ++ 46 :: (C.data.toList ++ tailT Q)) ∧ e = Ending.returned (.string T)) ∧ Below w.heap.size w w') = POST
  have hR' := hid hR
  clear hR
  go_enter Tryz.func35, Tryz.ntmps35
  go_upto_block 0 with (fail)
  have hbk : Blk (w.alloc (.cells #[.int .i64 a, .int .i64 b, .int .i64 c, .slice pa Q.length pc] 45)) w.heap.size [.int .i64 a, .int .i64 b, .int .i64 c, .slice pa Q.length pc] 45 := Blk.new w _ _
  have hbx : RowKit.Below w.heap.size w (w.alloc (.cells #[.int .i64 a, .int .i64 b, .int .i64 c, .slice pa Q.length pc] 45)) := below_alloc (Below.refl _ _) _
  generalize w.alloc (.cells #[.int .i64 a, .int .i64 b, .int .i64 c, .slice pa Q.length pc] 45) = w1 at hbk hbx ⊢
  have c0 := hbk.cell 0 rfl
  have c1 := hbk.cell 1 rfl
  have c2 := hbk.cell 2 rfl
  have c3 := hbk.cell 3 rfl
  have k0 := cell_regrown c0
  have k1 := cell_regrown c1
  have k2 := cell_regrown c2
  have q0 : ∀ d os, Calls Tryz.prog 56 #[.int .i64 a] (grow (redrawn w1 d) os) fun e w'' => e = .returned (.string A) ∧ ∃ p : Regrown, w'' = grow (redrawn w1 p.d) p.os := fun d os => Calls.regrown_of (HA.out _ (below_trans hbx (below_regrown w1 d os)))
  have q1 : ∀ d os, Calls Tryz.prog 56 #[.int .i64 b] (grow (redrawn w1 d) os) fun e w'' => e = .returned (.string B) ∧ ∃ p : Regrown, w'' = grow (redrawn w1 p.d) p.os := fun d os => Calls.regrown_of (HB.out _ (below_trans hbx (below_regrown w1 d os)))
  have q2 : ∀ d os, Calls Tryz.prog 56 #[.int .i64 c] (grow (redrawn w1 d) os) fun e w'' => e = .returned (.string C) ∧ ∃ p : Regrown, w'' = grow (redrawn w1 p.d) p.os := fun d os => Calls.regrown_of (HD.out _ (below_trans hbx (below_regrown w1 d os)))
  replace q0 := hid q0
  replace q1 := hid q1
  replace q2 := hid q2
  have n1 : ¬ 9223372036854775807 < A.size + 1 := by omega
  have n2 : ¬ 9223372036854775807 < A.size + 1 + B.size := by omega
  have n3 : ¬ 9223372036854775807 < A.size + 1 + B.size + 1 := by omega
  have n4 : ¬ 9223372036854775807 < A.size + 1 + B.size + 1 + C.size := by omega
  refine wp_region_quiet_below (by kernel_rfl) (by kernel_rfl) ?_
  repeat (quiet_step (first | with_reducible exact q0.out _ _ | with_reducible exact q1.out _ _ | with_reducible exact q2.out _ _))
  refine wpQuiet_nil ?_
  intro _ hw'
  obtain ⟨⟨dq, osq⟩, hw''⟩ := hw'
  subst hw''
  have hbz := below_trans hbx (below_regrown w1 dq osq)
  have z3 := cell_regrown c3 dq osq
  have ht := hid (show (A ++ ⟨#[46]⟩ ++ B ++ ⟨#[46]⟩ ++ C).size ≤ 20 by
    have e : (⟨#[46]⟩ : ByteArray).size = 1 := rfl
    simp only [ByteArray.size_append, e]; omega)
  have htl := hid (show (A ++ ⟨#[46]⟩ ++ B ++ ⟨#[46]⟩ ++ C).data.toList = A.data.toList ++ 46 :: (B.data.toList ++ 46 :: C.data.toList) by simp)
  clear k0 k1 k2 c0 c1 c2 c3 q0 q1 q2 n1 n2 n3 n4 HA HB HD hbk hbx hA hB hC
  show Exit.then _ _ Exit.normal _ (grow (redrawn w1 dq) osq)
  generalize A ++ ⟨#[46]⟩ ++ B ++ ⟨#[46]⟩ ++ C = T at htl ht ⊢
  generalize grow (redrawn w1 dq) osq = W5 at hbz z3 ⊢
  have hP5 := hid (hP.out.below hbz)
  clear hP
  go_wp2_with fail
  go_loop [3, 4] (fun sv iv => ∃ (k : Nat) (S : ByteArray), k ≤ Q.length ∧ iv = .int .i64 k ∧ sv = .string S ∧ Hid (S.data.toList = T.data.toList ++ tailT (Q.take k)) ∧ Hid (S.size ≤ 20 + k * 4294967282)) (fun _ iv => Q.length - (intOf iv).toNat)
  case atStart => exact ⟨0, T, by omega, rfl, rfl, hid (by simp [tailT]), hid (by have := ht.out; omega)⟩
  case round =>
    obtain ⟨k, S, hk, rfl, rfl, hS, hSz⟩ := hrel
    by_cases hlt : k < Q.length
    · obtain ⟨g, c', hne, hsl, h1, h2, hc⟩ : ∃ g c, Q ≠ [] ∧ Value.slice pa Q.length pc = .slice (some ⟨g, 0, none⟩) Q.length c ∧ Q.length ≤ c ∧ c ≤ maxLen ∧ CellsAt W5 g 0 Q := by
        rcases hP5.out with ⟨h, _⟩ | h
        · rw [h] at hlt; simp at hlt
        · exact h
      obtain ⟨rfl, rfl⟩ : pa = some ⟨g, 0, none⟩ ∧ pc = c' := by injection hsl with a b c; exact ⟨a, c⟩
      have hcell := hc.2 k hlt
      rw [Nat.zero_add] at hcell
      have hx := hid (show Q[k]? = some (Q.getD k []) by simp [List.getD, List.getElem?_eq_getElem hlt])
      have hq := hQ.out k hlt
      generalize Q.getD k [] = q at hcell hx hq
      have hqs : (⟨q.toArray⟩ : ByteArray).size < 4294967281 := sizeL _ _ hq
      have hqd := hid (show (⟨q.toArray⟩ : ByteArray).data.toList = q from rfl)
      generalize (⟨q.toArray⟩ : ByteArray) = qs at hcell hqs hqd
      have hk4 : k ≤ 4 := by have := hQ4.out; omega
      have hSS := hSz.out
      have htk := hid (show Q.take (k + 1) = Q.take k ++ [q] by rw [List.take_add_one, hx.out]; rfl)
      have m1 : ¬ 9223372036854775807 < S.size + 1 := by omega
      have m2 : ¬ 9223372036854775807 < S.size + 1 + qs.size := by omega
      have e1 := hid (show ∀ y : UInt8, (S ++ ⟨#[y]⟩ ++ qs).data.toList = S.data.toList ++ y :: q from fun y => by rw [← hqd.out]; simp)
      have e2 := hid (show ∀ y : UInt8, (S ++ ⟨#[y]⟩ ++ qs).size = S.size + 1 + qs.size from fun y => by
        have e : (⟨#[y]⟩ : ByteArray).size = 1 := rfl
        simp only [ByteArray.size_append, e])
      clear hc hq hne hP5
      by_cases h0 : k = 0
      · subst h0
        go_wp2_with fail
        go_round
        case rel => exact ⟨1, _, by omega, rfl, rfl, hid (by rw [e1.out, hS.out, htk.out]; simp [tailT, joinl]), hid (by rw [e2.out]; omega)⟩
        case measure => simp [intOf]; omega
      · have h0' : ((k : Int) == 0) = false := by simpa using h0
        go_wp2_with fail
        go_round
        case rel => exact ⟨k + 1, _, by omega, by go_num, rfl, hid (by
          rw [e1.out, hS.out, htk.out, tail_snoc q (by intro e; have := congrArg List.length e; rw [List.length_take] at this; have h9 : min k Q.length = 0 := this; omega)]; simp), hid (by rw [e2.out]; omega)⟩
        case measure => simp [intOf]; omega
    · have hQk := hid (show Q.take k = Q from List.take_of_length_le (by omega))
      go_wp2_with fail
      rw [← hR'.out]
      refine ⟨⟨S, ?_, rfl⟩, hbz⟩
      rw [hS.out, hQk.out, htl.out]; simp

theorem rdig_any (n : Nat) (hn : n < 1000000) (w : World) : Calls Tryz.prog 56 #[.int .i64 (n : Int)] w (Gives (.string ⟨(decS n).toArray⟩) w) :=
  (digits_any n (by omega) w).mono fun _ _ ⟨he, hb⟩ => ⟨he, hb⟩
/-- of a version that was read the document's text is the text -/
theorem rtext_any (l : List UInt8) (hl : l.length < 4294967281) (hv : verV l = true) (pv : Value) (w : World) (hP : PreAt w pv (preL l)) :
    Calls Tryz.prog 35 #[.agg #[.int .i64 (nth l 0 : Int), .int .i64 (nth l 1 : Int), .int .i64 (nth l 2 : Int), pv]] w (Gives (.string ⟨l.toArray⟩) w) := by
  obtain ⟨htx, h0, h1, h2, hp, hh⟩ := text_of hv
  have hal := aft_le l
  have hpl : (preL l).length ≤ 4 := by
    unfold preL
    rw [hh]
    by_cases h : aft 45 l = []
    · rw [h]; simp
    · rw [decide_eq_true h, if_pos rfl]
      rcases hp with hp | hp
      · exact absurd hp h
      · unfold preV at hp; simp only [Bool.and_eq_true, decide_eq_true_eq] at hp; exact hp.1
  have hpe : ∀ k, k < (preL l).length → ((preL l).getD k []).length < 4294967281 := by
    intro k hk
    have : (preL l).getD k [] ∈ preL l := by simp [List.getD, List.getElem?_eq_getElem hk]
    unfold preL at this ⊢
    split at this
    · rename_i h
      rw [if_pos h] at *
      have := part_size this
      omega
    · simp at this
  have ht : textN (nth l 0) (nth l 1) (nth l 2) ++ tailT (preL l) = l := by
    refine Eq.trans ?_ htx
    unfold textV
    congr 1
    unfold preL
    rw [hh]
    by_cases h : aft 45 l = []
    · rw [h]; simp [tailT]
    · rw [decide_eq_true h, if_pos rfl, if_neg h]
      have hne := cutl_ne 46 (aft 45 l)
      have hj := join_cutl 46 (aft 45 l)
      cases hc : cutl 46 (aft 45 l) with
      | nil => exact absurd hc hne
      | cons p ps => rw [hc] at hj; show 45 :: joinl 46 (p :: ps) = _; rw [hj]
  refine (rtext_s _ _ _ ⟨(decS (nth l 0)).toArray⟩ ⟨(decS (nth l 1)).toArray⟩ ⟨(decS (nth l 2)).toArray⟩ (preL l) pv (dec_six _ h0) (dec_six _ h1) (dec_six _ h2) w hpl hpe hP (fun W _ => rdig_any _ h0 W) (fun W _ => rdig_any _ h1 W) (fun W _ => rdig_any _ h2 W)).mono ?_
  rintro e w' ⟨⟨T, hT, rfl⟩, hb⟩
  refine gives rfl ?_ hb
  congr 1
  apply ByteArray.ext
  apply Array.toList_inj.1
  refine hT.trans (Eq.trans ?_ ht)
  unfold textN
  simp
end Go.Proofs.YtebhgcejcdgdbaaGreatDoor.Vs
