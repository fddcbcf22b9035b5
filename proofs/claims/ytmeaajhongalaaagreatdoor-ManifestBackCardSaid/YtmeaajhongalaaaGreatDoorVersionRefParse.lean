/-
  LAYER 3, THE DOCUMENT'S Parse.
-/
import Derived.Test.YtmeaajhongalaaaGreatDoorVersionRef
namespace Go.Proofs.YtmeaajhongalaaaGreatDoor.Vs
open Go.RowKit
open Go.Proofs.YtmeaajhongalaaaGreatDoor Go.Proofs.YtmeaajhongalaaaGreatDoor.Nu

def rVal (a b c : Nat) (pv : Value) : Value := .agg #[.int .i64 (a : Int), .int .i64 (b : Int), .int .i64 (c : Int), pv]
def nilV : Value := .slice none 0 0
def preL (l : List UInt8) : List (List UInt8) := if hasPre l then cutl 46 (aft 45 l) else []
def PreAt (w : World) (pv : Value) (Q : List (List UInt8)) : Prop := (Q = [] ∧ pv = .slice none 0 0) ∨ ∃ g c, Q ≠ [] ∧ pv = .slice (some ⟨g, 0, none⟩) Q.length c ∧ Q.length ≤ c ∧ c ≤ maxLen ∧ CellsAt w g 0 Q
theorem PreAt.below {w w' : World} {pv : Value} {Q : List (List UInt8)} (h : PreAt w pv Q) (hb : Below w.heap.size w w') : PreAt w' pv Q := by
  rcases h with h | ⟨g, c, h1, h2, h3, h4, h5⟩
  · exact .inl h
  · exact .inr ⟨g, c, h1, h2, h3, h4, h5.below hb⟩
/-- what the document's Parse comes to -/
def RP (V : Bool) (N : Nat → Nat) (PL : List (List UInt8)) (w : World) (e : Ending) (w' : World) : Prop :=
  Below w.heap.size w w' ∧ ((V = false ∧ e = .returned (.tuple #[rVal 0 0 0 (.slice none 0 0), .bool false])) ∨ (V = true ∧ ∃ pv, e = .returned (.tuple #[rVal (N 0) (N 1) (N 2) pv, .bool true]) ∧ PreAt w' pv PL))
theorem RP.zero {V : Bool} {N : Nat → Nat} {PL : List (List UInt8)} {w w' : World} (h : V = false) (hb : Below w.heap.size w w') : RP V N PL w (.returned (.tuple #[rVal 0 0 0 (.slice none 0 0), .bool false])) w' := ⟨hb, .inl ⟨h, rfl⟩⟩
theorem RP.yes {V : Bool} {N : Nat → Nat} {PL : List (List UInt8)} {w w' : World} {a b c : Nat} {pv : Value} (h : V = true) (h0 : N 0 = a) (h1 : N 1 = b) (h2 : N 2 = c) (hp : PreAt w' pv PL) (hb : Below w.heap.size w w') : RP V N PL w (.returned (.tuple #[rVal a b c pv, .bool true])) w' :=
  ⟨hb, .inr ⟨h, pv, by rw [h0, h1, h2], hp⟩⟩
def RParseIs (l : List UInt8) (w : World) (e : Ending) (w' : World) : Prop := RP (verV l) (nth l) (preL l) w e w'

structure RSt (w wr : World) (V : Nat) (a b c : Nat) (pv : Value) : Prop where
  kept : Below w.heap.size w wr
  low : w.heap.size < V
  res : Blk wr w.heap.size [.int .i64 0, .int .i64 0, .int .i64 0, .slice none 0 0] 108
  var : Blk wr V [.int .i64 (a : Int), .int .i64 (b : Int), .int .i64 (c : Int), pv] 108
theorem RSt.below {w wr wx : World} {V a b c : Nat} {pv : Value} (h : RSt w wr V a b c pv) (hb : Below wr.heap.size wr wx) : RSt w wx V a b c pv :=
  ⟨below_trans h.kept hb, h.low, h.res.below hb, h.var.below hb⟩
theorem RSt.make {w wr : World} (hx : Below w.heap.size w wr) (hr : Blk wr w.heap.size [.int .i64 0, .int .i64 0, .int .i64 0, .slice none 0 0] 108) :
    ∃ W2 Vb, wr.alloc (.cells #[.int .i64 0, .int .i64 0, .int .i64 0, .slice none 0 0] 108) = W2 ∧ wr.heap.size = Vb ∧ RSt w W2 Vb 0 0 0 (.slice none 0 0) ∧ Below wr.heap.size wr W2 :=
  ⟨_, _, rfl, rfl, ⟨below_alloc hx _, hr.lt, hr.alloc _, Blk.new _ _ _⟩, below_alloc (Below.refl _ _) _⟩
theorem RSt.nums {w wr : World} {V a b c : Nat} {pv : Value} (h : RSt w wr V a b c pv) (x y z : Nat) : RSt w (((wr.setCell ⟨V, 0, none⟩ (.int .i64 (x : Int))).setCell ⟨V, 1, none⟩ (.int .i64 (y : Int))).setCell ⟨V, 2, none⟩ (.int .i64 (z : Int))) V x y z pv :=
  ⟨((h.kept.setCell (Nat.le_of_lt h.low) _).setCell (Nat.le_of_lt h.low) _).setCell (Nat.le_of_lt h.low) _, h.low,
    ((h.res.other (a := ⟨V, 0, none⟩) (by have := h.low; show w.heap.size ≠ V; omega) _).other (a := ⟨V, 1, none⟩) (by have := h.low; show w.heap.size ≠ V; omega) _).other (a := ⟨V, 2, none⟩) (by have := h.low; show w.heap.size ≠ V; omega) _,
    ((h.var.set 0 _).set 1 _).set 2 _⟩
theorem RSt.pre {w wr : World} {V a b c : Nat} {pv : Value} (h : RSt w wr V a b c pv) (q : Value) : RSt w (wr.setCell ⟨V, 3, none⟩ q) V a b c q :=
  ⟨h.kept.setCell (Nat.le_of_lt h.low) _, h.low, h.res.other (a := ⟨V, 3, none⟩) (by have := h.low; show w.heap.size ≠ V; omega) _, h.var.set 3 _⟩

set_option maxHeartbeats 8000000 in
theorem rparse_any (s : ByteArray) (hs : s.size < 4294967281) (w : World) :
    Calls Tryz.prog 45 #[.string s] w (RParseIs s.data.toList w) := by
  have hlen := hid (lenS s)
  have ha := aft_le s.data.toList
  have hf := fore_le s.data.toList
  have hfr := hid (run_fore 45 s.data.toList)
  have hB := hid (fun k h => byte_at s k h)
  have EX1 := hid (show s.extract 0 (fore 45 s.data.toList).length = ⟨(fore 45 s.data.toList).toArray⟩ by rw [extract_eq]; simp; exact Cb.fore_take 45 s.data.toList)
  have EX2 := hid (show s.extract ((fore 45 s.data.toList).length + 1) s.size = ⟨(aft 45 s.data.toList).toArray⟩ by
    rw [extract_eq, List.take_of_length_le (by simp), show s.data.toList.drop ((fore 45 s.data.toList).length + 1) = aft 45 s.data.toList from Cb.aft_drop 45 s.data.toList])
  rw [hlen.out] at ha hf
  have HF : Hid (∀ w, Calls Tryz.prog 98 #[.string ⟨(fore 45 s.data.toList).toArray⟩, .int .u8 46] w (RCutIs 46 (fore 45 s.data.toList) w)) := hid (rcut_any ⟨(fore 45 s.data.toList).toArray⟩ (sizeL _ _ (by omega)) 46)
  have HA : Hid (∀ w, Calls Tryz.prog 98 #[.string ⟨(aft 45 s.data.toList).toArray⟩, .int .u8 46] w (RCutIs 46 (aft 45 s.data.toList) w)) := hid (rcut_any ⟨(aft 45 s.data.toList).toArray⟩ (sizeL _ _ (by omega)) 46)
  have HV := hid (show verV s.data.toList = (numsV (fore 45 s.data.toList) && (!hasPre s.data.toList || preV (aft 45 s.data.toList))) from rfl)
  have HN := hid (show ∀ i, nth s.data.toList i = numN ((cutl 46 (fore 45 s.data.toList)).getD i []) from fun _ => rfl)
  have HQ := hid (show numsV (fore 45 s.data.toList) = (decide ((cutl 46 (fore 45 s.data.toList)).length = 3) && (cutl 46 (fore 45 s.data.toList)).all numV) from rfl)
  have HP := hid (show preV (aft 45 s.data.toList) = (decide ((cutl 46 (aft 45 s.data.toList)).length ≤ 4) && (cutl 46 (aft 45 s.data.toList)).all partV) from rfl)
  have HL := hid (show preL s.data.toList = if hasPre s.data.toList then cutl 46 (aft 45 s.data.toList) else [] from rfl)
  have HH := hid (show hasPre s.data.toList = decide ((fore 45 s.data.toList).length < s.size) by unfold hasPre; rw [lenS])
  have HM := hid (fun p (h : p ∈ cutl 46 (fore 45 s.data.toList)) => part_size h)
  have HMA := hid (fun p (h : p ∈ cutl 46 (aft 45 s.data.toList)) => part_size h)
  have hne := hid (cutl_ne 46 (aft 45 s.data.toList))
  unfold RParseIs
  generalize preL s.data.toList = PL at HL ⊢
  generalize nth s.data.toList = N at HN ⊢
  generalize verV s.data.toList = V at HV ⊢
  generalize hasPre s.data.toList = hp at HV HL HH
  have hfr2 := hid (show run (· != 45) s.data.toList 0 = (fore 45 s.data.toList).length from hfr.out)
  have hst := hid (fun k (h : k = (fore 45 s.data.toList).length) (hk : k < s.size) => show (s[k].toNat : Int) = 45 by
    have hp2 : 45 ∈ s.data.toList := by
      rcases hasPre_cases s.data.toList with ⟨h1, _, h2, _⟩ | ⟨_, _, h2⟩
      · rw [h2, hlen.out] at h; omega
      · rw [h2]; simp
    obtain ⟨a, r, hl, hna⟩ := splits s.data.toList hp2
    have hfa : fore 45 s.data.toList = a := by rw [hl]; exact (fore_cut hna).1
    obtain rfl : k = a.length := by rw [h, hfa]
    have := byte_at s a.length hk
    have h2 : s.data.toList[a.length]? = some 45 := by rw [hl]; simp
    rw [h2] at this
    have e := Option.some.inj this
    rw [← e]; rfl)
  clear hfr
  generalize hA : aft 45 s.data.toList = A at *
  generalize hF : fore 45 s.data.toList = F at *
  clear hA hF
  generalize preV A = pv at HP HV
  generalize numsV F = nv at HV HQ
  generalize hC : cutl 46 F = C at *
  generalize hD : cutl 46 A = D at *
  unfold RCutIs at HF HA
  rw [hC] at HF
  rw [hD] at HA
  clear hC hD
  generalize s.data.toList = l at *
  have hS := hid hs
  go_enter Tryz.func45, Tryz.ntmps45
  go_upto_block 0 with (fail)
  have hres : Blk (w.alloc (.cells #[.int .i64 0, .int .i64 0, .int .i64 0, .slice none 0 0] 108)) w.heap.size [.int .i64 0, .int .i64 0, .int .i64 0, .slice none 0 0] 108 := Blk.new w _ _
  have hb0 : Below w.heap.size w (w.alloc (.cells #[.int .i64 0, .int .i64 0, .int .i64 0, .slice none 0 0] 108)) := below_alloc (Below.refl _ _) _
  generalize w.alloc (.cells #[.int .i64 0, .int .i64 0, .int .i64 0, .slice none 0 0] 108) = W0 at hres hb0 ⊢
  go_cut [4] (fun v wx => v = .int .i64 (F.length : Nat) ∧ wx = W0)
  case first =>
    go_wp2_with fail
    go_loop [4] (fun v => ∃ k : Nat, k ≤ s.size ∧ v = .int .i64 k ∧ Hid (F.length = k + run (· != 45) l k)) (fun v => s.size - (intOf v).toNat)
    case atStart => exact ⟨0, by omega, rfl, hid (by rw [← hfr2.out]; simp)⟩
    case round =>
      obtain ⟨k, hk, rfl, hkr⟩ := hrel
      by_cases hc : k < F.length
      · have hlt : k < s.size := by omega
        have hb := hid (hB.out k hlt)
        have hq : s[k] ≠ 45 := by
          intro e
          have := run_no (p := (· != 45)) hb.out (by rw [e]; rfl)
          have := hkr.out
          omega
        have hq' : ((s[k].toNat : Int) != 45) = true := by
          simp; intro e; apply hq; rw [← UInt8.toNat_inj]; have : (45 : UInt8).toNat = 45 := rfl; omega
        have hb' := hid (run_yes (p := (· != 45)) hb.out (by simpa using hq))
        clear hq
        go_wp2_with fail
        go_round
        case rel => exact ⟨k + 1, by omega, by go_num, hid (by rw [hkr.out, hb'.out]; omega)⟩
        case measure => simp [intOf]; omega
      · have hkl := hid (show k = F.length by have := hkr.out; omega)
        by_cases hks : k < s.size
        · have hq : ((s[k].toNat : Int) != 45) = false := by simpa using hst.out k hkl.out hks
          go_wp2_with fail
          go_meet
          exact ⟨by rw [hkl.out], rfl⟩
        · go_wp2_with fail
          go_meet
          exact ⟨by rw [hkl.out], rfl⟩
  case rest =>
    obtain ⟨rfl, rfl⟩ := hcut
    clear hst hfr2 hB
    have ex1 := EX1.out
    have ex2 := EX2.out
    have i1 : (F.length : Int) ≤ (s.size : Int) := by omega
    generalize hFL : F.length = n at *
    by_cases hC3 : C.length = 3
    · obtain ⟨c0, c1, c2, rfl⟩ : ∃ a b c, C = [a, b, c] := by
        match C, hC3 with
        | [a, b, c], _ => exact ⟨a, b, c, rfl⟩
      clear hC3
      have hl3 : [c0, c1, c2].length = 3 := rfl
      rw [hl3] at HF
      clear hl3
      have hQ2 := hid (show nv = (numV c0 && numV c1 && numV c2) by rw [HQ.out]; simp [Bool.and_assoc])
      have m0 : c0.length ≤ n := HM.out c0 (by simp)
      have m1 : c1.length ≤ n := HM.out c1 (by simp)
      have m2 : c2.length ≤ n := HM.out c2 (by simp)
      have HN0 := hid (rnumber_any ⟨c0.toArray⟩ (sizeL _ _ (by omega)))
      have HN1 := hid (rnumber_any ⟨c1.toArray⟩ (sizeL _ _ (by omega)))
      have HN2 := hid (rnumber_any ⟨c2.toArray⟩ (sizeL _ _ (by omega)))
      have t0 : (⟨c0.toArray⟩ : ByteArray).data.toList = c0 := rfl
      have t1 : (⟨c1.toArray⟩ : ByteArray).data.toList = c1 := rfl
      have t2 : (⟨c2.toArray⟩ : ByteArray).data.toList = c2 := rfl
      rw [t0] at HN0
      rw [t1] at HN1
      rw [t2] at HN2
      have n0 := hid (show N 0 = numN c0 from HN.out 0)
      have n1 := hid (show N 1 = numN c1 from HN.out 1)
      have n2 := hid (show N 2 = numN c2 from HN.out 2)
      clear t0 t1 t2 m0 m1 m2 HQ HM HN
      generalize numV c0 = b0 at *
      generalize numV c1 = b1 at *
      generalize numV c2 = b2 at *
      generalize numN c0 = x0 at *
      generalize numN c1 = x1 at *
      generalize numN c2 = x2 at *
      go_wp2_with (go_at_call 98; (with_reducible refine (HF.out _).mono ?_); rintro e w1 ⟨g1, d1, _, rfl, h31, h3m, hb1, hc1⟩; have kk := hid (fun o => hc1.below (below_alloc (Below.refl w1.heap.size w1) o)); have k0 : ∀ o, (w1.alloc o).cell? ⟨g1, 0, none⟩ = some (.string ⟨c0.toArray⟩) := fun o => (kk.out o).2 0 (by simp); have k1 : ∀ o, (w1.alloc o).cell? ⟨g1, 1, none⟩ = some (.string ⟨c1.toArray⟩) := fun o => (kk.out o).2 1 (by simp); have k2 : ∀ o, (w1.alloc o).cell? ⟨g1, 2, none⟩ = some (.string ⟨c2.toArray⟩) := fun o => (kk.out o).2 2 (by simp))
      obtain ⟨W2, Vb, hW2, hVb, hst, hbx⟩ := RSt.make (below_trans hb0 hb1) (hres.below hb1)
      have hc2 := hc1.below hbx
      simp only [hW2, hVb]
      clear k0 k1 k2 kk hW2 hVb hbx hb1 hb0 hc1
      have k0 : W2.cell? ⟨g1, 0, none⟩ = some (.string ⟨c0.toArray⟩) := hc2.2 0 (by simp)
      have k1 : W2.cell? ⟨g1, 1, none⟩ = some (.string ⟨c1.toArray⟩) := hc2.2 1 (by simp)
      have k2 : W2.cell? ⟨g1, 2, none⟩ = some (.string ⟨c2.toArray⟩) := hc2.2 2 (by simp)
      clear hres
      have ways : (b0 && b1 && b2) = false ∧ (b0 = false ∨ (b0 = true ∧ b1 = false) ∨ (b0 = true ∧ b1 = true ∧ b2 = false)) ∨ (b0 = true ∧ b1 = true ∧ b2 = true) := by cases b0 <;> cases b1 <;> cases b2 <;> simp
      refine (HN0.out _).mono ?_
      rintro e w' ⟨rfl, rfl⟩
      rcases ways with ⟨hno, ways⟩ | ⟨rfl, rfl, rfl⟩
      · have hv := hid (show V = false by rw [HV.out, hQ2.out, hno]; rfl)
        clear hno
        have r0 := hst.res.cell 0 rfl
        have r1 := hst.res.cell 1 rfl
        have r2 := hst.res.cell 2 rfl
        have r3 := hst.res.cell 3 rfl
        have rf := hst.res.free
        rcases ways with rfl | ⟨rfl, rfl⟩ | ⟨rfl, rfl, rfl⟩
        all_goals
          go_wp2_with (go_at_call 99; first
            | ((with_reducible refine (HN1.out _).mono ?_); rintro e w' ⟨rfl, rfl⟩)
            | ((with_reducible refine (HN2.out _).mono ?_); rintro e w' ⟨rfl, rfl⟩))
          obtain ⟨q0, q1, q2, q3⟩ := four_cells hst.res (.int .i64 0) (.int .i64 0) (.int .i64 0) (.slice none 0 0) _ rfl
          exact bodyPost_ret (v := .tuple #[rVal 0 0 0 (.slice none 0 0), .bool false]) (by simp [results, Tryz.results45, go_sem, q0, q1, q2, q3]; rfl) rfl (RP.zero hv.out (setCells4 hst.kept (Nat.le_refl _)))
      · have hv := hid (show V = (!hp || pv) by rw [HV.out, hQ2.out]; rfl)
        clear hQ2 HV
        have v0 := hst.var.cell 0 rfl
        have v1 := hst.var.cell 1 rfl
        have v2 := hst.var.cell 2 rfl
        have v3 := hst.var.cell 3 rfl
        have vf := hst.var.free
        by_cases hlt : n < s.size
        · have hp1 := hid (show hp = true by rw [HH.out]; exact decide_eq_true hlt)
          go_wp2_with (go_at_call 99; first
            | ((with_reducible refine (HN1.out _).mono ?_); rintro e w' ⟨rfl, rfl⟩)
            | ((with_reducible refine (HN2.out _).mono ?_); rintro e w' ⟨rfl, rfl⟩))
          clear v0 v1 v2 v3 vf k0 k1 k2
          have st := hst.nums x0 x1 x2
          clear hst hc2
          generalize (((W2.setCell ⟨Vb, 0, none⟩ (.int .i64 (x0 : Int))).setCell ⟨Vb, 1, none⟩ (.int .i64 (x1 : Int))).setCell ⟨Vb, 2, none⟩ (.int .i64 (x2 : Int))) = W3 at st ⊢
          refine (HA.out _).mono ?_
          rintro e w3 ⟨g2, d2, hge, rfl, h41, h4m, hb3, hc3⟩
          have hBV : Vb ≠ g2 := by have := st.var.lt; omega
          have hlow := hid (show w.heap.size < g2 by have := st.low; have := st.var.lt; omega)
          have st2 := st.below hb3
          have st3 := st2.pre (.slice (some ⟨g2, 0, none⟩) D.length d2)
          clear hge hb3 st
          have v0 := st2.var.cell 0 rfl
          have v1 := st2.var.cell 1 rfl
          have v2 := st2.var.cell 2 rfl
          have v3 := st2.var.cell 3 rfl
          have r0 := st2.res.cell 0 rfl
          have r1 := st2.res.cell 1 rfl
          have r2 := st2.res.cell 2 rfl
          have r3 := st2.res.cell 3 rfl
          have vf := st2.var.free
          have rf := st2.res.free
          by_cases h5 : (4 : Int) < (D.length : Int)
          · have hv2 := hid (show V = false by rw [hv.out, hp1.out, HP.out, decide_eq_false (by omega)]; rfl)
            have s0 := st3.res.cell 0 rfl
            have s1 := st3.res.cell 1 rfl
            have s2 := st3.res.cell 2 rfl
            have s3 := st3.res.cell 3 rfl
            have sf := st3.res.free
            go_wp2_with fail
            obtain ⟨q0, q1, q2, q3⟩ := four_cells st3.res (.int .i64 0) (.int .i64 0) (.int .i64 0) (.slice none 0 0) _ rfl
            exact bodyPost_ret (v := .tuple #[rVal 0 0 0 (.slice none 0 0), .bool false]) (by simp [results, Tryz.results45, go_sem, q0, q1, q2, q3]; rfl) rfl (RP.zero hv2.out (setCells4 st3.kept (Nat.le_refl _)))
          · have hd4 := hid (show D.length ≤ 4 by omega)
            go_wp2_with fail
            have hc4 := hc3.other hBV (k := 3) (.slice (some ⟨g2, 0, none⟩) D.length d2)
            clear hc3 st2 v0 v1 v2 v3 vf r0 r1 r2 r3 rf
            generalize w3.setCell ⟨Vb, 3, none⟩ (.slice (some ⟨g2, 0, none⟩) D.length d2) = W4 at st3 hc4 ⊢
            have v0 := st3.var.cell 0 rfl
            have v1 := st3.var.cell 1 rfl
            have v2 := st3.var.cell 2 rfl
            have v3 := st3.var.cell 3 rfl
            have r0 := st3.res.cell 0 rfl
            have r1 := st3.res.cell 1 rfl
            have r2 := st3.res.cell 2 rfl
            have r3 := st3.res.cell 3 rfl
            have vf := st3.var.free
            have rf := st3.res.free
            go_loop [13] (fun v => ∃ k : Nat, k ≤ D.length ∧ v = .int .i64 k ∧ Hid ((D.take k).all partV = true)) (fun v => D.length - (intOf v).toNat)
            case atStart => exact ⟨0, by omega, rfl, hid rfl⟩
            case round =>
              obtain ⟨k, hk, rfl, hp2⟩ := hrel
              by_cases hlt2 : k < D.length
              · have hcell := hc4.2 k hlt2
                rw [Nat.zero_add] at hcell
                have hx := hid (show D[k]? = some (D.getD k []) by simp [List.getD, List.getElem?_eq_getElem hlt2])
                generalize D.getD k [] = g at hcell hx
                have hgl : g.length ≤ s.size := Nat.le_trans (HMA.out g (List.mem_of_getElem? hx.out)) ha
                have HG : Hid (∀ w, Calls Tryz.prog 100 #[.string ⟨g.toArray⟩] w (GivesE (.bool (partV g)) w)) := hid (rpart_any ⟨g.toArray⟩ (sizeL _ _ (by omega)))
                have Y := hid (fun h => take_all hp2.out hx.out h)
                have Z := hid (fun h => all_off (p := partV) hx.out h)
                clear hx hgl
                generalize partV g = b at *
                cases b
                · have hv2 := hid (show V = false by rw [hv.out, hp1.out, HP.out, Z.out rfl, Bool.and_false]; rfl)
                  go_wp2_with (go_at_call 100; (with_reducible refine (HG.out _).mono ?_); rintro e w' ⟨rfl, rfl⟩)
                  obtain ⟨q0, q1, q2, q3⟩ := four_cells st3.res (.int .i64 0) (.int .i64 0) (.int .i64 0) (.slice none 0 0) _ rfl
                  exact bodyPost_ret (v := .tuple #[rVal 0 0 0 (.slice none 0 0), .bool false]) (by simp [results, Tryz.results45, go_sem, q0, q1, q2, q3]; rfl) rfl (RP.zero hv2.out (setCells4 st3.kept (Nat.le_refl _)))
                · have hy := hid (Y.out rfl)
                  clear Y Z
                  go_wp2_with (go_at_call 100; (with_reducible refine (HG.out _).mono ?_); rintro e w' ⟨rfl, rfl⟩)
                  go_round
                  case rel => exact ⟨k + 1, by omega, by go_num, hy⟩
                  case measure => simp [intOf]; omega
              · have hv2 := hid (show V = true by
                  have := hp2.out
                  rw [List.take_of_length_le (by omega)] at this
                  rw [hv.out, hp1.out, HP.out, this, decide_eq_true hd4.out]; rfl)
                go_wp2_with fail
                obtain ⟨q0, q1, q2, q3⟩ := four_cells st3.res (.int .i64 (x0 : Int)) (.int .i64 (x1 : Int)) (.int .i64 (x2 : Int)) (.slice (some ⟨g2, 0, none⟩) D.length d2) _ rfl
                have hbb := st3.kept
                have hc5 : ∀ wz, Below w.heap.size w wz → wz = ((((W4.setCell ⟨w.heap.size, 0, none⟩ (.int .i64 (x0 : Int))).setCell ⟨w.heap.size, 1, none⟩ (.int .i64 (x1 : Int))).setCell ⟨w.heap.size, 2, none⟩ (.int .i64 (x2 : Int))).setCell ⟨w.heap.size, 3, none⟩ (.slice (some ⟨g2, 0, none⟩) D.length d2)) → PreAt wz (.slice (some ⟨g2, 0, none⟩) D.length d2) PL := by
                  rintro wz _ rfl
                  have hne2 : w.heap.size ≠ g2 := by have := hlow.out; omega
                  rw [HL.out, hp1.out, if_pos rfl]
                  exact .inr ⟨g2, d2, hne.out, rfl, h41, h4m, (((hc4.other hne2 _).other hne2 _).other hne2 _).other hne2 _⟩
                exact bodyPost_ret (v := .tuple #[rVal x0 x1 x2 (.slice (some ⟨g2, 0, none⟩) D.length d2), .bool true]) (by simp [results, Tryz.results45, go_sem, q0, q1, q2, q3]; rfl) rfl (RP.yes hv2.out n0.out n1.out n2.out (hc5 _ (setCells4 st3.kept (Nat.le_refl _)) rfl) (setCells4 st3.kept (Nat.le_refl _)))
        · have hp0 := hid (show hp = false by rw [HH.out]; exact decide_eq_false hlt)
          go_wp2_with (go_at_call 99; first
            | ((with_reducible refine (HN1.out _).mono ?_); rintro e w' ⟨rfl, rfl⟩)
            | ((with_reducible refine (HN2.out _).mono ?_); rintro e w' ⟨rfl, rfl⟩))
          have st := hst.nums x0 x1 x2
          clear v0 v1 v2 v3 vf k0 k1 k2 hst hc2
          generalize (((W2.setCell ⟨Vb, 0, none⟩ (.int .i64 (x0 : Int))).setCell ⟨Vb, 1, none⟩ (.int .i64 (x1 : Int))).setCell ⟨Vb, 2, none⟩ (.int .i64 (x2 : Int))) = W3 at st ⊢
          have v0 := st.var.cell 0 rfl
          have v1 := st.var.cell 1 rfl
          have v2 := st.var.cell 2 rfl
          have v3 := st.var.cell 3 rfl
          have r0 := st.res.cell 0 rfl
          have r1 := st.res.cell 1 rfl
          have r2 := st.res.cell 2 rfl
          have r3 := st.res.cell 3 rfl
          have vf := st.var.free
          have rf := st.res.free
          go_loop [13] (fun v => v = .int .i64 0) (fun v => 0)
          case atStart => rfl
          case round =>
            subst hrel
            go_wp2_with fail
            obtain ⟨q0, q1, q2, q3⟩ := four_cells st.res (.int .i64 (x0 : Int)) (.int .i64 (x1 : Int)) (.int .i64 (x2 : Int)) (.slice none 0 0) _ rfl
            exact bodyPost_ret (v := .tuple #[rVal x0 x1 x2 (.slice none 0 0), .bool true]) (by simp [results, Tryz.results45, go_sem, q0, q1, q2, q3]; rfl) rfl (RP.yes (by rw [hv.out, hp0.out]; rfl) n0.out n1.out n2.out (.inl ⟨by rw [HL.out, hp0.out]; rfl, rfl⟩) (setCells4 st.kept (Nat.le_refl _)))
    · have h3 : ((C.length : Int) != 3) = true := by simp; omega
      have hv := hid (show V = false by rw [HV.out, HQ.out, decide_eq_false hC3]; rfl)
      go_wp2_with (go_at_call 98; (with_reducible refine (HF.out _).mono ?_); rintro e w1 ⟨g1, d1, _, rfl, h31, h3m, hb1, hc1⟩; have hq := hres.below hb1; have r0 := hq.cell 0 rfl; have r1 := hq.cell 1 rfl; have r2 := hq.cell 2 rfl; have r3 := hq.cell 3 rfl; have rf := hq.free)
      obtain ⟨q0, q1, q2, q3⟩ := four_cells hq (.int .i64 0) (.int .i64 0) (.int .i64 0) (.slice none 0 0) _ rfl
      exact bodyPost_ret (v := .tuple #[rVal 0 0 0 (.slice none 0 0), .bool false]) (by simp [results, Tryz.results45, go_sem, q0, q1, q2, q3]; rfl) rfl (RP.zero hv.out (setCells4 (below_trans hb0 hb1) (Nat.le_refl _)))
end Go.Proofs.YtmeaajhongalaaaGreatDoor.Vs
