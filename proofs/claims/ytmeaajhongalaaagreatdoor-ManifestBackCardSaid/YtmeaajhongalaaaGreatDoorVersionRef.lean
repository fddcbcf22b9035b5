/-
  LAYER 3, THE DOCUMENT'S ANSWERS: texts cut at each such byte, digits, parts.
-/
import Derived.Test.YtmeaajhongalaaaGreatDoorVersionParse
import Derived.Test.YtmeaajhongalaaaGreatDoorNums
import Derived.Deep.AppendLies
import Derived.Deep.RegionLaw
import Derived.Deep.DeepCutAuto
import Derived.Deep.CutBlock
namespace Go.Proofs.YtmeaajhongalaaaGreatDoor.Vs
open Go.RowKit
open Go.Proofs.YtmeaajhongalaaaGreatDoor Go.Proofs.YtmeaajhongalaaaGreatDoor.Nu

theorem infoS : (Tryz.prog.info? 9).map (fun i => (i.zero, i.size, i.bytes)) = some (some (.string ⟨#[]⟩), 1, 16) := by kernel_rfl
def strs (ps : List (List UInt8)) : List Value := ps.map fun l => .string ⟨l.toArray⟩
theorem info_parts {P : Program} {t : TypeId} {z : Value} {a b : Nat} (h : (P.info? t).map (fun i => (i.zero, i.size, i.bytes)) = some (some z, a, b)) :
    ∃ i, P.info? t = some i ∧ i.zero = some z ∧ i.size = a ∧ i.bytes = b := by
  cases hi : P.info? t with
  | none => rw [hi] at h; cases h
  | some i => rw [hi] at h; simp at h; exact ⟨i, rfl, h.1, h.2.1, h.2.2⟩
theorem ref_cells {w : World} {base : Nat} {v : Value} {n : Nat} {ps : List (List UInt8)} (h : w.ownsRow base 9 1 v n (strs ps)) (hn : n = ps.length) (hne : ps ≠ []) :
    ∃ g c, v = .slice (some ⟨g, 0, none⟩) ps.length c ∧ base ≤ g ∧ ps.length ≤ c ∧ c ≤ maxLen ∧ CellsAt w g 0 ps := by
  subst hn
  rcases ownsRow_one h with ⟨_, h0, _⟩ | ⟨g, c, hv, h1, h2, h3, h4, h5⟩
  · exact absurd (List.eq_nil_of_length_eq_zero h0) hne
  · refine ⟨g, c, hv, h1, h3, h4, h2, fun k hk => ?_⟩
    rw [Nat.zero_add]
    exact h5 k _ (by unfold strs; rw [List.getElem?_map, List.getElem?_eq_getElem hk]; simp [List.getD, List.getElem?_eq_getElem hk])

/-- what the document's Cut comes to -/
def RCutIs (x : UInt8) (l : List UInt8) (w : World) (e : Ending) (w' : World) : Prop :=
  ∃ g c, w.heap.size ≤ g ∧ e = .returned (.slice (some ⟨g, 0, none⟩) (cutl x l).length c) ∧ (cutl x l).length ≤ c ∧ c ≤ maxLen ∧ Below w.heap.size w w' ∧ CellsAt w' g 0 (cutl x l)

theorem cut_hit {x : UInt8} {l cur : List UInt8} {done : List (List UInt8)} {k : Nat} {c : UInt8} (h : l[k]? = some c) (hc : c = x) : cutA x done cur (l.drop k) = cutA x (done ++ [cur]) [] (l.drop (k + 1)) := by
  have hk := (List.getElem?_eq_some_iff.1 h).1
  have e : l[k] = c := (List.getElem?_eq_some_iff.1 h).2
  rw [List.drop_eq_getElem_cons hk, e, hc]
  rw [cutA, if_pos (by simp)]
theorem cut_go {x : UInt8} {l cur : List UInt8} {done : List (List UInt8)} {k : Nat} {c : UInt8} (h : l[k]? = some c) (hc : c ≠ x) : cutA x done cur (l.drop k) = cutA x done (cur ++ [c]) (l.drop (k + 1)) := by
  have hk := (List.getElem?_eq_some_iff.1 h).1
  have e : l[k] = c := (List.getElem?_eq_some_iff.1 h).2
  rw [List.drop_eq_getElem_cons hk, e]
  rw [cutA, if_neg (by simpa using hc)]
theorem slice_next {l : List UInt8} {f k : Nat} {c : UInt8} (h : l[k]? = some c) (hf : f ≤ k) : (l.drop f).take (k + 1 - f) = (l.drop f).take (k - f) ++ [c] := by
  rw [show k + 1 - f = (k - f) + 1 by omega, List.take_add_one, List.getElem?_drop, show f + (k - f) = k by omega, h]; rfl

set_option maxHeartbeats 4000000 in
theorem rcut_any (s : ByteArray) (hs : s.size < 4294967281) (x : UInt8) (w : World) :
    Calls Tryz.prog 98 #[.string s, .int .u8 (x.toNat : Int)] w (RCutIs x s.data.toList w) := by
  have hlen := hid (lenS s)
  have hne := hid (cutl_ne x s.data.toList)
  have hR := hid (show cutl x s.data.toList = cutA x [] [] (s.data.toList.drop 0) from rfl)
  have hCL := hid (cutl_len x _ s.data.toList (Nat.le_refl _))
  generalize hC : cutl x s.data.toList = C at hne hR hCL
  unfold RCutIs
  rw [hC]
  clear hC
  have hS := hid hs
  have hB := hid (fun k h => byte_at s k h)
  have HIT := hid (fun k c cur done h hc => cut_hit (x := x) (l := s.data.toList) (k := k) (c := c) (cur := cur) (done := done) h hc)
  have GO := hid (fun k c cur done h hc => cut_go (x := x) (l := s.data.toList) (k := k) (c := c) (cur := cur) (done := done) h hc)
  have NX := hid (fun f k c h hf => slice_next (l := s.data.toList) (f := f) (k := k) (c := c) h hf)
  have EX := hid (fun f k => extract_eq s f k)
  have hxb : (x.toNat : Int) ≤ 255 := by have := x.toNat_lt; omega
  generalize s.data.toList = l at *
  go_enter Tryz.func98, Tryz.ntmps98
  go_wp2_with fail
  go_loopw [5, 6, 7] (fun o f i wr => ∃ (k fr : Nat) (done : List (List UInt8)), k ≤ s.size ∧ fr ≤ k ∧ i = .int .i64 k ∧ f = .int .i64 fr ∧ Below w.heap.size w wr ∧ Hid (wr.ownsRow w.heap.size 9 1 o done.length (strs done)) ∧ Hid (done.length ≤ k) ∧ Hid (C = cutA x done ((l.drop fr).take (k - fr)) (l.drop k))) (fun _ _ i _ => s.size - (intOf i).toNat)
  case atStart => exact ⟨0, 0, [], by omega, by omega, rfl, rfl, Below.refl _ _, hid (World.ownsRow_nil _ _ _ _), hid (Nat.le_refl _), hid (by rw [hR.out]; simp)⟩
  case round =>
    obtain ⟨k, fr, done, hk, hf, rfl, rfl, hb1, hown, hdl, hcu⟩ := hrel
    obtain ⟨oa, oc, ho⟩ := own_shape hown.out
    subst ho
    have ia : (0 : Int) ≤ (fr : Int) := by omega
    have ib : (fr : Int) ≤ (k : Int) := by omega
    have ic : (k : Int) ≤ (s.size : Int) := by omega
    obtain ⟨iS, hi, hz0, hz1, hz2⟩ := info_parts infoS
    have hi := hid hi
    have hz0 := hid hz0
    have hz1 := hid hz1
    have hz2 := hid hz2
    have hwb := hid hb1.size
    by_cases hlt : k < s.size
    · have hbk := hid (hB.out k hlt)
      by_cases he : (s[k].toNat : Int) = (x.toNat : Int)
      · have he' : ((s[k].toNat : Int) == (x.toNat : Int)) = true := by simpa using he
        have hc2 := hid (hcu.out.trans (HIT.out k s[k] _ done hbk.out (UInt8.toNat_inj.1 (by omega))))
        have hex := EX.out fr k
        clear he hcu
        generalize (l.drop fr).take (k - fr) = P at hex hc2
        go_wp2_with (at_builtin; refine wpList_append_lies _ rfl _ _ 62 rfl w.heap.size 9 iS (.string ⟨#[]⟩) 1 16 Tryz.underlying62 hi.out hz0.out hz1.out hz2.out rfl (by decide) _ _ _ rfl (hown.out.alloc _) ⟨_, 0, none⟩ 1 1 [.string ⟨P.toArray⟩] rfl rfl ?c1 ?c2 ?cm ?c3 ?c4 ?c5 _ rfl ?_)
        case c1 => exact cell_one_at _ _ _ _ (by simp)
        case c2 => intro u hu; simp at hu; subst hu; rfl
        case cm => decide
        case c3 => have := hdl.out; have := hS.out; unfold maxLen; omega
        case c4 => have := hdl.out; have := hS.out; omega
        case c5 => have := hwb.out; simp; omega
        intro g cap w3 hown3 hgrow hat hlt3
        have kp := (below_alloc hb1 _).grown hgrow (by have := hwb.out; simp; omega) (fun k hk => by have := (hown.out.lt k hk).1; omega)
        have HOWN3 := hid hown3
        clear hown3 hgrow hat
        go_wp2
        go_roundw
        case rel =>
          refine ⟨k + 1, k + 1, done ++ [P], by omega, by omega, by go_num, by go_num, kp, hid ?_, hid (by have := hdl.out; simp; omega), hid ?_⟩
          · have := HOWN3.out
            unfold strs at this ⊢
            rw [List.map_append, List.length_append]; exact this
          · rw [Nat.sub_self]; exact hc2.out
        case measure => simp [intOf]; omega
      · have he' : ((s[k].toNat : Int) == (x.toNat : Int)) = false := by simpa using he
        have hc2 := hid (hcu.out.trans (GO.out k s[k] _ done hbk.out (by intro e; exact he (by rw [e]))))
        have hx2 := hid (NX.out fr k s[k] hbk.out hf)
        clear he hcu
        go_wp2_with fail
        go_roundw
        case rel => exact ⟨k + 1, fr, done, by omega, by omega, by go_num, rfl, hb1, hown, hid (by have := hdl.out; omega), hid (by rw [hx2.out]; exact hc2.out)⟩
        case measure => simp [intOf]; omega
    · have hks : k = s.size := by omega
      have hex := EX.out fr s.size
      have hcc := hid (show C = done ++ [(l.drop fr).take (s.size - fr)] by
        have e : l.drop s.size = [] := List.drop_of_length_le (by rw [hlen.out]; exact Nat.le_refl _)
        rw [hcu.out, hks, e]; rfl)
      clear hcu
      generalize (l.drop fr).take (s.size - fr) = P at hex hcc
      have id : (fr : Int) ≤ (s.size : Int) := by omega
      go_wp2_with (at_builtin; refine wpList_append_lies _ rfl _ _ 62 rfl w.heap.size 9 iS (.string ⟨#[]⟩) 1 16 Tryz.underlying62 hi.out hz0.out hz1.out hz2.out rfl (by decide) _ _ _ rfl (hown.out.alloc _) ⟨_, 0, none⟩ 1 1 [.string ⟨P.toArray⟩] rfl rfl ?c1 ?c2 ?cm ?c3 ?c4 ?c5 _ rfl ?_)
      case c1 => exact cell_one_at _ _ _ _ (by simp)
      case c2 => intro u hu; simp at hu; subst hu; rfl
      case cm => decide
      case c3 => have := hdl.out; have := hS.out; unfold maxLen; omega
      case c4 => have := hdl.out; have := hS.out; omega
      case c5 => have := hwb.out; simp; omega
      intro g cap w3 hown3 hgrow hat hlt3
      have kp := (below_alloc hb1 _).grown hgrow (by have := hwb.out; simp; omega) (fun k hk => by have := (hown.out.lt k hk).1; omega)
      have HOWN3 := hid hown3
      clear hown3 hgrow hat
      go_wp2
      go_ret
      have hrow : w3.ownsRow w.heap.size 9 1 (.slice (some ⟨g, 0, none⟩) (done.length + 1) cap) (done.length + 1) (strs C) := by
        have := HOWN3.out
        rw [hcc.out]
        unfold strs at this ⊢
        rw [List.map_append]; exact this
      obtain ⟨g', c', hv, hge, h3, h4, h5⟩ := ref_cells hrow (by rw [hcc.out]; simp) hne.out
      rw [hv]
      exact ⟨g', c', hge, rfl, h3, h4, kp, h5⟩

theorem all_next {p : UInt8 → Bool} {l : List UInt8} {k : Nat} {c : UInt8} (h : l[k]? = some c) (hp : p c = true) (ha : (l.take k).all p = true) : (l.take (k + 1)).all p = true := take_all ha h hp

/-- what a call comes to that gives v, and leaves memory as it was -/
def GivesE (v : Value) (w : World) (e : Ending) (w' : World) : Prop := e = .returned v ∧ w = w'
theorem givesE {v v' : Value} {w : World} {e : Ending} (he : e = .returned v') (h : v' = v) : GivesE v w e w := ⟨by rw [he, h], rfl⟩
theorem loudE {f : FuncId} {args : Array Value} {w : World} {v : Value} (h : Calls Tryz.prog f args w (GivesE v w)) : Calls Tryz.prog f args w (Gives v w) :=
  h.mono fun _ _ ⟨he, hw⟩ => ⟨he, below_of hw⟩

theorem rnumber_any (s : ByteArray) (hs : s.size < 4294967281) (w : World) :
    Calls Tryz.prog 99 #[.string s] w (GivesE (.tuple #[.int .i64 (numN s.data.toList : Int), .bool (numV s.data.toList)]) w) := by
  have HN := hid (refNumber_any s (by unfold maxLen; omega))
  have hV := hid (show numV s.data.toList = (numB s.data.toList && decide ((s.size : Int) ≤ 6)) by
    unfold numV; rw [lenS]; congr 1; rw [Bool.eq_iff_iff]; simp; omega)
  unfold NumIs at HN
  generalize numV s.data.toList = V at hV ⊢
  generalize numB s.data.toList = b at HN hV
  generalize numN s.data.toList = n at HN ⊢
  cases b
  · go_enter Tryz.func99, Tryz.ntmps99
    go_wp2_with (go_at_call 138; (with_reducible refine (HN.out _).mono ?_); rintro e w' ⟨rfl, hw⟩)
    go_ret2
    subst hw
    exact givesE rfl (by rw [hV.out]; rfl)
  · go_enter Tryz.func99, Tryz.ntmps99
    go_wp2_with (go_at_call 138; (with_reducible refine (HN.out _).mono ?_); rintro e w' ⟨rfl, hw⟩)
    go_ret2
    subst hw
    exact givesE rfl (by rw [hV.out]; rfl)

set_option maxHeartbeats 1000000 in
theorem rdigits_any (s : ByteArray) (hs : s.size < 4294967281) (w : World) :
    Calls Tryz.prog 139 #[.string s] w (GivesE (.bool (s.data.toList.all dgB)) w) := by
  have hlen := hid (lenS s)
  have hB := hid (fun k h => byte_at s k h)
  generalize s.data.toList = l at *
  generalize hA : l.all dgB = R
  have hR := hid hA
  clear hA
  go_enter Tryz.func139, Tryz.ntmps139
  go_wp2_with fail
  go_loop [3] (fun v => ∃ k : Nat, k ≤ s.size ∧ v = .int .i64 k ∧ Hid ((l.take k).all dgB = true)) (fun v => s.size - (intOf v).toNat)
  case atStart => exact ⟨0, by omega, rfl, hid rfl⟩
  case round =>
    obtain ⟨k, hk, rfl, hp⟩ := hrel
    by_cases hlt : k < s.size
    · have hb := hid (hB.out k hlt)
      have hi := hid (dgB_int s[k])
      have hcc : (s[k].toNat : Int) ≤ 255 := by have := s[k].toNat_lt; omega
      have Y := hid (fun h => take_all hp.out hb.out h)
      have Z := hid (fun h => all_off (p := dgB) hb.out h)
      by_cases h1 : (s[k].toNat : Int) < 48
      · have hn := hid (Z.out (by rw [hi.out, decide_eq_false (by omega)]; rfl))
        go_wp2_with fail
        go_ret
        exact givesE rfl (bool_eq (hn.out.symm.trans hR.out))
      · by_cases h2 : (57 : Int) < (s[k].toNat : Int)
        · have hn := hid (Z.out (by rw [hi.out, decide_eq_false (p := (s[k].toNat : Int) ≤ 57) (by omega), Bool.and_false]))
          go_wp2_with fail
          go_ret
          exact givesE rfl (bool_eq (hn.out.symm.trans hR.out))
        · have hy := hid (Y.out (by rw [hi.out, decide_eq_true (by omega), decide_eq_true (by omega)]; rfl))
          clear Y Z
          go_wp2_with fail
          go_round
          case rel => exact ⟨k + 1, by omega, by go_num, hy⟩
          case measure => simp [intOf]; omega
    · have hks := hid (show l.all dgB = true by
        have := hp.out; rwa [List.take_of_length_le (by rw [hlen.out]; omega)] at this)
      go_wp2_with fail
      go_ret
      exact givesE rfl (bool_eq (hks.out.symm.trans hR.out))

theorem pB_int (c : UInt8) : pB c = ((decide (48 ≤ (c.toNat : Int)) && decide ((c.toNat : Int) ≤ 57)) || (decide (97 ≤ (c.toNat : Int)) && decide ((c.toNat : Int) ≤ 122)) || ((c.toNat : Int) == 45)) := by
  have h5 : (c == 45) = ((c.toNat : Int) == 45) := by
    rw [Bool.eq_iff_iff]; simp only [beq_iff_eq, ← UInt8.toNat_inj]; have e : (45 : UInt8).toNat = 45 := rfl; omega
  unfold pB
  rw [dgB_int, h5]
  congr 2
  rw [Bool.eq_iff_iff]; simp; omega

set_option maxHeartbeats 4000000 in
theorem rpart_any (s : ByteArray) (hs : s.size < 4294967281) (w : World) :
    Calls Tryz.prog 100 #[.string s] w (GivesE (.bool (partV s.data.toList)) w) := by
  have hL := hid (lenS s)
  have hE := hid (partV_eq s.data.toList)
  have HD := hid (rdigits_any s hs)
  have hB := hid (fun k h => byte_at s k h)
  have hpy := hid (fun h1 h0 => padB_at s h1 h0)
  have hpn := hid (fun h1 => padB_no s h1)
  by_cases h0 : s.size = 0
  · have hn := hid (show partV s.data.toList = false by rw [hE.out, hL.out, h0]; rfl)
    obtain rfl : s = ByteArray.empty := by
      apply ByteArray.ext; apply Array.eq_empty_of_size_eq_zero; exact h0
    clear HD hL hE hB hpy hpn
    go_enter Tryz.func100, Tryz.ntmps100
    go_wp2
    go_ret
    exact givesE rfl (bool_eq hn.out.symm)
  · have hq := empty_eq s h0
    by_cases h6 : (8 : Int) < s.size
    · have hn := hid (show partV s.data.toList = false by rw [hE.out, hL.out, decide_eq_false (show ¬ s.size ≤ 8 by omega)]; simp)
      clear HD hL hE hB hpy hpn
      go_enter Tryz.func100, Tryz.ntmps100
      go_wp2_with fail
      go_ret
      exact givesE rfl (bool_eq hn.out.symm)
    · have hE2 := hid (show partV s.data.toList = (s.data.toList.all pB && (!s.data.toList.all dgB || !padB s.data.toList)) by
        rw [hE.out, hL.out, decide_eq_true (by omega), decide_eq_true (by omega)]; simp)
      clear hE
      generalize partV s.data.toList = R at hE2 ⊢
      generalize s.data.toList = l at *
      have hz : 0 < s.size := by omega
      have ways : (1 < s.size ∧ ((s[0].toNat : Int) == 48) = true ∧ l.all dgB = true) ∨ (R = l.all pB ∧ ((1 < s.size ∧ ((s[0].toNat : Int) == 48) = true ∧ l.all dgB = false) ∨ (1 < s.size ∧ ((s[0].toNat : Int) == 48) = false) ∨ ¬ 1 < s.size)) := by
        by_cases h1 : 1 < s.size
        · have := hpy.out h1 hz
          cases hh : ((s[0].toNat : Int) == 48)
          · right
            refine ⟨?_, .inr (.inl ⟨h1, rfl⟩)⟩
            rw [hE2.out, this, hh]; simp
          · cases hd : l.all dgB
            · right
              refine ⟨?_, .inl ⟨h1, rfl, rfl⟩⟩
              rw [hE2.out, hd]; simp
            · exact .inl ⟨h1, rfl, rfl⟩
        · right
          refine ⟨?_, .inr (.inr h1)⟩
          rw [hE2.out, hpn.out h1]; simp
      rcases ways with ⟨h1, h2, h3⟩ | ⟨hR, ways⟩
      · have hn := hid (show R = false by rw [hE2.out, h3, hpy.out h1 hz, h2]; simp)
        rw [h3] at HD
        have h1' : (1 : Int) < (s.size : Int) := by omega
        clear hL hE2 hB hpy hpn h3
        go_enter Tryz.func100, Tryz.ntmps100
        go_wp2_with (go_at_call 139; (with_reducible refine (HD.out _).mono ?_); rintro e w' ⟨rfl, rfl⟩)
        go_ret
        exact givesE rfl (bool_eq hn.out.symm)
      · have hR' := hid hR
        clear hR hE2 hpy hpn
        have loop : True := trivial
        rcases ways with ⟨h1, h2, h3⟩ | ⟨h1, h2⟩ | h1
        · rw [h3] at HD
          clear h3
          have h1' : (1 : Int) < (s.size : Int) := by omega
          go_enter Tryz.func100, Tryz.ntmps100
          go_wp2_with (go_at_call 139; (with_reducible refine (HD.out _).mono ?_); rintro e w' ⟨rfl, rfl⟩)
          go_loop [3] (fun v => ∃ k : Nat, k ≤ s.size ∧ v = .int .i64 k ∧ Hid ((l.take k).all pB = true)) (fun v => s.size - (intOf v).toNat)
          case atStart => exact ⟨0, by omega, rfl, hid rfl⟩
          case round =>
            obtain ⟨k, hk, rfl, hp⟩ := hrel
            by_cases hlt : k < s.size
            · have hb := hid (hB.out k hlt)
              have hi := hid (pB_int s[k])
              have hcc : (s[k].toNat : Int) ≤ 255 := by have := s[k].toNat_lt; omega
              have Y := hid (fun h => take_all hp.out hb.out h)
              have Z := hid (fun h => all_off (p := pB) hb.out h)
              have cls : (pB s[k] = true ∧ ((48 ≤ (s[k].toNat : Int) ∧ (s[k].toNat : Int) ≤ 57) ∨ (97 ≤ (s[k].toNat : Int) ∧ (s[k].toNat : Int) ≤ 122) ∨ (s[k].toNat : Int) = 45)) ∨ (pB s[k] = false ∧ (((s[k].toNat : Int) < 48 ∧ (s[k].toNat : Int) ≠ 45) ∨ (57 < (s[k].toNat : Int) ∧ (s[k].toNat : Int) < 97) ∨ 122 < (s[k].toNat : Int))) := by
                rw [hi.out]
                by_cases a1 : 48 ≤ (s[k].toNat : Int) <;> by_cases a2 : (s[k].toNat : Int) ≤ 57 <;> by_cases a3 : 97 ≤ (s[k].toNat : Int) <;> by_cases a4 : (s[k].toNat : Int) ≤ 122 <;> by_cases a5 : (s[k].toNat : Int) = 45 <;> simp [a1, a2, a3, a4, a5] <;> omega
              clear hi
              rcases cls with ⟨hpy, hc⟩ | ⟨hpn, hc⟩
              · have hy := hid (Y.out hpy)
                clear Y Z hpy
                rcases hc with ⟨c1, c2⟩ | ⟨c1, c2⟩ | c1
                · go_wp2_with fail
                  go_round
                  case rel => exact ⟨k + 1, by omega, by go_num, hy⟩
                  case measure => simp [intOf]; omega
                · have c3 : (48 : Int) ≤ (s[k].toNat : Int) := by omega
                  have c4 : ¬ (s[k].toNat : Int) ≤ 57 := by omega
                  go_wp2_with fail
                  go_round
                  case rel => exact ⟨k + 1, by omega, by go_num, hy⟩
                  case measure => simp [intOf]; omega
                · have c3 : ¬ (48 : Int) ≤ (s[k].toNat : Int) := by omega
                  have c4 : ¬ (97 : Int) ≤ (s[k].toNat : Int) := by omega
                  have c5 : ((s[k].toNat : Int) == 45) = true := by simpa using c1
                  clear c1
                  go_wp2_with fail
                  go_round
                  case rel => exact ⟨k + 1, by omega, by go_num, hy⟩
                  case measure => simp [intOf]; omega
              · have hn := hid (Z.out hpn)
                clear Y Z hpn
                rcases hc with ⟨c1, c2⟩ | ⟨c1, c2⟩ | c1
                · have c3 : ¬ (48 : Int) ≤ (s[k].toNat : Int) := by omega
                  have c4 : ¬ (97 : Int) ≤ (s[k].toNat : Int) := by omega
                  have c5 : ((s[k].toNat : Int) == 45) = false := by simpa using c2
                  clear c2
                  go_wp2_with fail
                  go_ret
                  exact givesE rfl (bool_eq (hR'.out.trans hn.out).symm)
                · have c3 : (48 : Int) ≤ (s[k].toNat : Int) := by omega
                  have c4 : ¬ (s[k].toNat : Int) ≤ 57 := by omega
                  have c6 : ¬ (97 : Int) ≤ (s[k].toNat : Int) := by omega
                  have c5 : ((s[k].toNat : Int) == 45) = false := by rw [beq_eq_false_iff_ne]; omega
                  go_wp2_with fail
                  go_ret
                  exact givesE rfl (bool_eq (hR'.out.trans hn.out).symm)
                · have c3 : (48 : Int) ≤ (s[k].toNat : Int) := by omega
                  have c4 : ¬ (s[k].toNat : Int) ≤ 57 := by omega
                  have c6 : (97 : Int) ≤ (s[k].toNat : Int) := by omega
                  have c7 : ¬ (s[k].toNat : Int) ≤ 122 := by omega
                  have c5 : ((s[k].toNat : Int) == 45) = false := by rw [beq_eq_false_iff_ne]; omega
                  go_wp2_with fail
                  go_ret
                  exact givesE rfl (bool_eq (hR'.out.trans hn.out).symm)
            · have hks := hid (show l.all pB = true by
                have := hp.out; rwa [List.take_of_length_le (by rw [hL.out]; omega)] at this)
              go_wp2_with fail
              go_ret
              exact givesE rfl (bool_eq (hR'.out.trans hks.out).symm)
        · have h1' : (1 : Int) < (s.size : Int) := by omega
          go_enter Tryz.func100, Tryz.ntmps100
          go_wp2_with fail
          go_loop [3] (fun v => ∃ k : Nat, k ≤ s.size ∧ v = .int .i64 k ∧ Hid ((l.take k).all pB = true)) (fun v => s.size - (intOf v).toNat)
          case atStart => exact ⟨0, by omega, rfl, hid rfl⟩
          case round =>
            obtain ⟨k, hk, rfl, hp⟩ := hrel
            by_cases hlt : k < s.size
            · have hb := hid (hB.out k hlt)
              have hi := hid (pB_int s[k])
              have hcc : (s[k].toNat : Int) ≤ 255 := by have := s[k].toNat_lt; omega
              have Y := hid (fun h => take_all hp.out hb.out h)
              have Z := hid (fun h => all_off (p := pB) hb.out h)
              have cls : (pB s[k] = true ∧ ((48 ≤ (s[k].toNat : Int) ∧ (s[k].toNat : Int) ≤ 57) ∨ (97 ≤ (s[k].toNat : Int) ∧ (s[k].toNat : Int) ≤ 122) ∨ (s[k].toNat : Int) = 45)) ∨ (pB s[k] = false ∧ (((s[k].toNat : Int) < 48 ∧ (s[k].toNat : Int) ≠ 45) ∨ (57 < (s[k].toNat : Int) ∧ (s[k].toNat : Int) < 97) ∨ 122 < (s[k].toNat : Int))) := by
                rw [hi.out]
                by_cases a1 : 48 ≤ (s[k].toNat : Int) <;> by_cases a2 : (s[k].toNat : Int) ≤ 57 <;> by_cases a3 : 97 ≤ (s[k].toNat : Int) <;> by_cases a4 : (s[k].toNat : Int) ≤ 122 <;> by_cases a5 : (s[k].toNat : Int) = 45 <;> simp [a1, a2, a3, a4, a5] <;> omega
              clear hi
              rcases cls with ⟨hpy, hc⟩ | ⟨hpn, hc⟩
              · have hy := hid (Y.out hpy)
                clear Y Z hpy
                rcases hc with ⟨c1, c2⟩ | ⟨c1, c2⟩ | c1
                · go_wp2_with fail
                  go_round
                  case rel => exact ⟨k + 1, by omega, by go_num, hy⟩
                  case measure => simp [intOf]; omega
                · have c3 : (48 : Int) ≤ (s[k].toNat : Int) := by omega
                  have c4 : ¬ (s[k].toNat : Int) ≤ 57 := by omega
                  go_wp2_with fail
                  go_round
                  case rel => exact ⟨k + 1, by omega, by go_num, hy⟩
                  case measure => simp [intOf]; omega
                · have c3 : ¬ (48 : Int) ≤ (s[k].toNat : Int) := by omega
                  have c4 : ¬ (97 : Int) ≤ (s[k].toNat : Int) := by omega
                  have c5 : ((s[k].toNat : Int) == 45) = true := by simpa using c1
                  clear c1
                  go_wp2_with fail
                  go_round
                  case rel => exact ⟨k + 1, by omega, by go_num, hy⟩
                  case measure => simp [intOf]; omega
              · have hn := hid (Z.out hpn)
                clear Y Z hpn
                rcases hc with ⟨c1, c2⟩ | ⟨c1, c2⟩ | c1
                · have c3 : ¬ (48 : Int) ≤ (s[k].toNat : Int) := by omega
                  have c4 : ¬ (97 : Int) ≤ (s[k].toNat : Int) := by omega
                  have c5 : ((s[k].toNat : Int) == 45) = false := by simpa using c2
                  clear c2
                  go_wp2_with fail
                  go_ret
                  exact givesE rfl (bool_eq (hR'.out.trans hn.out).symm)
                · have c3 : (48 : Int) ≤ (s[k].toNat : Int) := by omega
                  have c4 : ¬ (s[k].toNat : Int) ≤ 57 := by omega
                  have c6 : ¬ (97 : Int) ≤ (s[k].toNat : Int) := by omega
                  have c5 : ((s[k].toNat : Int) == 45) = false := by rw [beq_eq_false_iff_ne]; omega
                  go_wp2_with fail
                  go_ret
                  exact givesE rfl (bool_eq (hR'.out.trans hn.out).symm)
                · have c3 : (48 : Int) ≤ (s[k].toNat : Int) := by omega
                  have c4 : ¬ (s[k].toNat : Int) ≤ 57 := by omega
                  have c6 : (97 : Int) ≤ (s[k].toNat : Int) := by omega
                  have c7 : ¬ (s[k].toNat : Int) ≤ 122 := by omega
                  have c5 : ((s[k].toNat : Int) == 45) = false := by rw [beq_eq_false_iff_ne]; omega
                  go_wp2_with fail
                  go_ret
                  exact givesE rfl (bool_eq (hR'.out.trans hn.out).symm)
            · have hks := hid (show l.all pB = true by
                have := hp.out; rwa [List.take_of_length_le (by rw [hL.out]; omega)] at this)
              go_wp2_with fail
              go_ret
              exact givesE rfl (bool_eq (hR'.out.trans hks.out).symm)
        · have h1' : ¬ (1 : Int) < (s.size : Int) := by omega
          go_enter Tryz.func100, Tryz.ntmps100
          go_wp2_with fail
          go_loop [3] (fun v => ∃ k : Nat, k ≤ s.size ∧ v = .int .i64 k ∧ Hid ((l.take k).all pB = true)) (fun v => s.size - (intOf v).toNat)
          case atStart => exact ⟨0, by omega, rfl, hid rfl⟩
          case round =>
            obtain ⟨k, hk, rfl, hp⟩ := hrel
            by_cases hlt : k < s.size
            · have hb := hid (hB.out k hlt)
              have hi := hid (pB_int s[k])
              have hcc : (s[k].toNat : Int) ≤ 255 := by have := s[k].toNat_lt; omega
              have Y := hid (fun h => take_all hp.out hb.out h)
              have Z := hid (fun h => all_off (p := pB) hb.out h)
              have cls : (pB s[k] = true ∧ ((48 ≤ (s[k].toNat : Int) ∧ (s[k].toNat : Int) ≤ 57) ∨ (97 ≤ (s[k].toNat : Int) ∧ (s[k].toNat : Int) ≤ 122) ∨ (s[k].toNat : Int) = 45)) ∨ (pB s[k] = false ∧ (((s[k].toNat : Int) < 48 ∧ (s[k].toNat : Int) ≠ 45) ∨ (57 < (s[k].toNat : Int) ∧ (s[k].toNat : Int) < 97) ∨ 122 < (s[k].toNat : Int))) := by
                rw [hi.out]
                by_cases a1 : 48 ≤ (s[k].toNat : Int) <;> by_cases a2 : (s[k].toNat : Int) ≤ 57 <;> by_cases a3 : 97 ≤ (s[k].toNat : Int) <;> by_cases a4 : (s[k].toNat : Int) ≤ 122 <;> by_cases a5 : (s[k].toNat : Int) = 45 <;> simp [a1, a2, a3, a4, a5] <;> omega
              clear hi
              rcases cls with ⟨hpy, hc⟩ | ⟨hpn, hc⟩
              · have hy := hid (Y.out hpy)
                clear Y Z hpy
                rcases hc with ⟨c1, c2⟩ | ⟨c1, c2⟩ | c1
                · go_wp2_with fail
                  go_round
                  case rel => exact ⟨k + 1, by omega, by go_num, hy⟩
                  case measure => simp [intOf]; omega
                · have c3 : (48 : Int) ≤ (s[k].toNat : Int) := by omega
                  have c4 : ¬ (s[k].toNat : Int) ≤ 57 := by omega
                  go_wp2_with fail
                  go_round
                  case rel => exact ⟨k + 1, by omega, by go_num, hy⟩
                  case measure => simp [intOf]; omega
                · have c3 : ¬ (48 : Int) ≤ (s[k].toNat : Int) := by omega
                  have c4 : ¬ (97 : Int) ≤ (s[k].toNat : Int) := by omega
                  have c5 : ((s[k].toNat : Int) == 45) = true := by simpa using c1
                  clear c1
                  go_wp2_with fail
                  go_round
                  case rel => exact ⟨k + 1, by omega, by go_num, hy⟩
                  case measure => simp [intOf]; omega
              · have hn := hid (Z.out hpn)
                clear Y Z hpn
                rcases hc with ⟨c1, c2⟩ | ⟨c1, c2⟩ | c1
                · have c3 : ¬ (48 : Int) ≤ (s[k].toNat : Int) := by omega
                  have c4 : ¬ (97 : Int) ≤ (s[k].toNat : Int) := by omega
                  have c5 : ((s[k].toNat : Int) == 45) = false := by simpa using c2
                  clear c2
                  go_wp2_with fail
                  go_ret
                  exact givesE rfl (bool_eq (hR'.out.trans hn.out).symm)
                · have c3 : (48 : Int) ≤ (s[k].toNat : Int) := by omega
                  have c4 : ¬ (s[k].toNat : Int) ≤ 57 := by omega
                  have c6 : ¬ (97 : Int) ≤ (s[k].toNat : Int) := by omega
                  have c5 : ((s[k].toNat : Int) == 45) = false := by rw [beq_eq_false_iff_ne]; omega
                  go_wp2_with fail
                  go_ret
                  exact givesE rfl (bool_eq (hR'.out.trans hn.out).symm)
                · have c3 : (48 : Int) ≤ (s[k].toNat : Int) := by omega
                  have c4 : ¬ (s[k].toNat : Int) ≤ 57 := by omega
                  have c6 : (97 : Int) ≤ (s[k].toNat : Int) := by omega
                  have c7 : ¬ (s[k].toNat : Int) ≤ 122 := by omega
                  have c5 : ((s[k].toNat : Int) == 45) = false := by rw [beq_eq_false_iff_ne]; omega
                  go_wp2_with fail
                  go_ret
                  exact givesE rfl (bool_eq (hR'.out.trans hn.out).symm)
            · have hks := hid (show l.all pB = true by
                have := hp.out; rwa [List.take_of_length_le (by rw [hL.out]; omega)] at this)
              go_wp2_with fail
              go_ret
              exact givesE rfl (bool_eq (hR'.out.trans hks.out).symm)
end Go.Proofs.YtmeaajhongalaaaGreatDoor.Vs
