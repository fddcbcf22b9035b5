/-
  THE HIGHEST ONE (TopRanges): the law, for texts of whatever length.
-/
import Derived.Test.YtebhgcejcdgdbaaGreatDoorMI
import Derived.Test.YtebhgcejcdgdbaaGreatDoorSpecHigh
import Derived.Test.YtebhgcejcdgdbaaGreatDoorVersionBig
namespace Go.Proofs.YtebhgcejcdgdbaaGreatDoor.Sp
open Go.RowKit Go.Sort
open Go.Proofs.YtebhgcejcdgdbaaGreatDoor Go.Proofs.YtebhgcejcdgdbaaGreatDoor.Nu Go.Proofs.YtebhgcejcdgdbaaGreatDoor.Vs

def hT : ByteArray := ⟨#[60, 50, 46, 48, 46, 48]⟩
def hR : List (List CompT) := [[⟨2, 2, 0, 0, []⟩]]
theorem hP : rngOf hT.data.toList = some hR := by kernel_rfl
def hVs : List VerT := [⟨1, 0, 0, []⟩, ⟨2, 0, 0, []⟩]
theorem hH : hiI (hiT hR hVs 2) = 0 := by kernel_rfl
theorem w1P : parseT (ByteArray.mk #[49, 46, 48, 46, 48]).data.toList = .tuple #[.agg #[.int .i64 1, .int .i64 0, .int .i64 0, .string ⟨#[]⟩], .bool true] := by kernel_rfl
theorem w2P : parseT (ByteArray.mk #[50, 46, 48, 46, 48]).data.toList = .tuple #[.agg #[.int .i64 2, .int .i64 0, .int .i64 0, .string ⟨#[]⟩], .bool true] := by kernel_rfl
theorem hOk : ∀ k, k < hVs.length → (hVs.getD k zeroT).ok := by
  intro k hk
  have : k = 0 ∨ k = 1 := by simp [hVs] at hk; omega
  rcases this with rfl | rfl
  · exact ⟨by decide, by decide, by decide, .inl rfl⟩
  · exact ⟨by decide, by decide, by decide, .inl rfl⟩

set_option maxRecDepth 20000 in
set_option maxHeartbeats 2000000 in
theorem held_any (w : World) (hm : MaxAt w) (ht : TenAt w) (hg : SignsAt w) : Calls Tryz.prog 27 #[] w (Gives (.bool true) w) := by
  obtain ⟨tx, tok⟩ := rngOf_ok hP
  have H0 := hid (show ∀ w, MaxAt w → SignsAt w → Calls Tryz.prog 12 #[.string ⟨#[60, 50, 46, 48, 46, 48]⟩] w (SomeRng 1 hR w) from fun w hm hg => parse_some hT (by decide) hP w hm hg)
  have H1 := hid (show ∀ w, MaxAt w → Calls Tryz.prog 24 #[.string ⟨#[49, 46, 48, 46, 48]⟩] w (Gives (.tuple #[.agg #[.int .i64 1, .int .i64 0, .int .i64 0, .string ⟨#[]⟩], .bool true]) w) from fun w h => by have := parse_any ⟨#[49, 46, 48, 46, 48]⟩ (by decide) w h; rw [w1P] at this; exact this)
  have H2 := hid (show ∀ w, MaxAt w → Calls Tryz.prog 24 #[.string ⟨#[50, 46, 48, 46, 48]⟩] w (Gives (.tuple #[.agg #[.int .i64 2, .int .i64 0, .int .i64 0, .string ⟨#[]⟩], .bool true]) w) from fun w h => by have := parse_any ⟨#[50, 46, 48, 46, 48]⟩ (by decide) w h; rw [w2P] at this; exact this)
  have R1 := hid (show ∀ v B cp w, MaxAt w → TenAt w → SignsAt w → RngAt w v hR → VersAt w B 0 hVs → Calls Tryz.prog 23 #[.agg #[v], .slice (some ⟨B, 0, none⟩) 2 cp] w (Gives (.int .i64 0) w) from fun v B cp w h1 h2 h3 h4 h5 => by
    have := highest_any hR v tok hVs (by decide) hOk B cp _ (fun _ => rfl) w h1 h2 h3 h4 (fun _ => h5)
    rw [show hVs.length = 2 from rfl, hH] at this; exact this)
  clear tx tok
  go_enter Tryz.func27, Tryz.ntmps27
  go_wp2_with fail
  refine (H0.out _ hm hg).mono ?_
  rintro e w1 ⟨G, cp, rfl, hb1, hr1⟩
  replace hb1 := hid hb1
  replace hr1 := hid hr1
  have hb2 := hid (below_alloc hb1.out (.cells #[.slice (some ⟨G, 0, none⟩) 1 cp] 25))
  have hr2 := hid (hr1.out.below (below_alloc (Below.refl _ _) (.cells #[.slice (some ⟨G, 0, none⟩) 1 cp] 25)))
  have hn2 := hid (Blk.new w1 [.slice (some ⟨G, 0, none⟩) 1 cp] 25)
  clear hb1 hr1
  go_wp2_with fail
  generalize w1.alloc (.cells [.slice (some ⟨G, 0, none⟩) 1 cp].toArray 25) = W1 at hr2 hn2 hb2 ⊢
  generalize w1.heap.size = b1 at hn2 ⊢
  refine (H1.out _ (hm.below hb2.out)).mono ?_
  rintro e w2 ⟨rfl, hb3⟩
  have hr3 := hid ((hr2.out.below hb3).below (below_alloc (Below.refl _ _) (.cells #[.int .i64 1, .int .i64 0, .int .i64 0, .string ⟨#[]⟩] 38)))
  have hn3 := hid ((hn2.out.below hb3).alloc (.cells #[.int .i64 1, .int .i64 0, .int .i64 0, .string ⟨#[]⟩] 38))
  have ha3 := hid (Blk.new w2 [.int .i64 1, .int .i64 0, .int .i64 0, .string ⟨#[]⟩] 38)
  have hbb3 := hid (below_alloc (below_trans hb2.out hb3) (.cells #[.int .i64 1, .int .i64 0, .int .i64 0, .string ⟨#[]⟩] 38))
  clear hr2 hn2 hb2 hb3
  go_wp2_with fail
  generalize w2.alloc (.cells [.int .i64 1, .int .i64 0, .int .i64 0, .string ⟨#[]⟩].toArray 38) = W2 at hr3 hn3 ha3 hbb3 ⊢
  generalize w2.heap.size = b2 at ha3 ⊢
  refine (H2.out _ (hm.below hbb3.out)).mono ?_
  rintro e w3 ⟨rfl, hb4⟩
  have hr4 := hid ((hr3.out.below hb4).below (below_alloc (Below.refl _ _) (.cells #[.int .i64 2, .int .i64 0, .int .i64 0, .string ⟨#[]⟩] 38)))
  have hn4 := hid ((hn3.out.below hb4).alloc (.cells #[.int .i64 2, .int .i64 0, .int .i64 0, .string ⟨#[]⟩] 38))
  have ha4 := hid ((ha3.out.below hb4).alloc (.cells #[.int .i64 2, .int .i64 0, .int .i64 0, .string ⟨#[]⟩] 38))
  have hc4 := hid (Blk.new w3 [.int .i64 2, .int .i64 0, .int .i64 0, .string ⟨#[]⟩] 38)
  have hbb4 := hid (below_alloc (below_trans hbb3.out hb4) (.cells #[.int .i64 2, .int .i64 0, .int .i64 0, .string ⟨#[]⟩] 38))
  have k0 := (hn3.out.below hb4).cell 0 rfl
  have k1 := (hn3.out.below hb4).lt
  have m0 := (ha3.out.below hb4).cell 0 rfl
  have m1 := (ha3.out.below hb4).cell 1 rfl
  have m2 := (ha3.out.below hb4).cell 2 rfl
  have m3 := (ha3.out.below hb4).cell 3 rfl
  have m4 := (ha3.out.below hb4).lt
  clear hr3 hn3 ha3 hbb3 hb4
  go_wp2_with fail
  clear k0 k1 m0 m1 m2 m3 m4 hn4 ha4 hc4
  have hz := hid (below_alloc hbb4.out (.cells #[.int .i64 1, .int .i64 0, .int .i64 0, .string ⟨#[]⟩, .int .i64 2, .int .i64 0, .int .i64 0, .string ⟨#[]⟩] 38))
  have hr5 := hid (hr4.out.below (below_alloc (Below.refl _ _) (.cells #[.int .i64 1, .int .i64 0, .int .i64 0, .string ⟨#[]⟩, .int .i64 2, .int .i64 0, .int .i64 0, .string ⟨#[]⟩] 38)))
  have hv := hid (Blk.new (w3.alloc (.cells #[.int .i64 2, .int .i64 0, .int .i64 0, .string ⟨#[]⟩] 38)) [.int .i64 1, .int .i64 0, .int .i64 0, .string ⟨#[]⟩, .int .i64 2, .int .i64 0, .int .i64 0, .string ⟨#[]⟩] 38)
  rw [World.size_alloc] at hv
  generalize (w3.alloc (.cells #[.int .i64 2, .int .i64 0, .int .i64 0, .string ⟨#[]⟩] 38)).alloc (.cells #[.int .i64 1, .int .i64 0, .int .i64 0, .string ⟨#[]⟩, .int .i64 2, .int .i64 0, .int .i64 0, .string ⟨#[]⟩] 38) = W5 at hz hr5 hv ⊢
  generalize w3.heap.size + 1 = b5 at hv ⊢
  have VA : VersAt W5 b5 0 hVs := by
    refine ⟨hv.out.lt, ?_⟩
    intro k hk
    have : k = 0 ∨ k = 1 := by simp [hVs] at hk; omega
    rcases this with rfl | rfl
    · exact ⟨hv.out.cell 0 rfl, hv.out.cell 1 rfl, hv.out.cell 2 rfl, hv.out.cell 3 rfl⟩
    · exact ⟨hv.out.cell 4 rfl, hv.out.cell 5 rfl, hv.out.cell 6 rfl, hv.out.cell 7 rfl⟩
  refine (R1.out _ _ _ _ (hm.below hz.out) (ht.below hz.out) (hg.below hz.out) hr5.out VA).mono ?_
  rintro e w6 ⟨rfl, hb6⟩
  go_wp2_with fail
  go_ret
  exact gives rfl rfl (below_trans hz.out hb6)

theorem parse_long (s : ByteArray) (h : 80 < s.size) (w : World) : Calls Tryz.prog 12 #[.string s] w (Gives (.tuple #[.agg #[.slice none 0 0], .bool false]) w) := by
  have hl : (80 : Int) < (s.size : Int) := by omega
  have hn := Blk.new w [.slice none 0 0] 25
  have hn0 := hn.cell 0 rfl
  go_enter Tryz.func12, Tryz.ntmps12
  go_wp2_with fail
  exact bodyPost_ret (v := .tuple #[.agg #[.slice none 0 0], .bool false]) (by simp [results, Tryz.results12, go_sem, hn0]) rfl ⟨rfl, below_alloc (Below.refl _ _) _⟩
theorem parse_oL (s : ByteArray) (hs : s.size ≤ 140737488355328) (w : World) (hm : MaxAt w) (hg : SignsAt w) :
    Calls Tryz.prog 12 #[.string s] w (RngO (rngOf s.data.toList) (rngOf s.data.toList).isSome w) := by
  by_cases h : s.size ≤ 80
  · exact parse_o s (by omega) w hm hg
  · have e : rngOf s.data.toList = none := by
      unfold rngOf
      rw [if_neg]
      rw [lenS]; omega
    rw [e]
    refine (parse_long s (by omega) w).mono ?_
    rintro e w' ⟨rfl, hb⟩
    exact ⟨none, 0, 0, rfl, hb, fun _ => ⟨rfl, rfl, rfl⟩, fun rs h => by cases h⟩

theorem parse_t (s : ByteArray) (hs : s.size ≤ 140737488355328) : ∃ (v : VerT) (f : Bool), v.ok ∧ ∀ w, MaxAt w → Calls Tryz.prog 24 #[.string s] w (Gives (.tuple #[.agg #[.int .i64 (v.a : Int), .int .i64 (v.b : Int), .int .i64 (v.c : Int), .string ⟨v.p.toArray⟩], .bool f]) w) := by
  cases h : verV s.data.toList with
  | false =>
    refine ⟨zeroT, false, ⟨by decide, by decide, by decide, .inl rfl⟩, fun w hm => ?_⟩
    have := parse_all s hs w hm
    unfold parseT at this
    rw [h] at this
    exact this
  | true =>
    have k := text_of h
    refine ⟨⟨nth s.data.toList 0, nth s.data.toList 1, nth s.data.toList 2, aft 45 s.data.toList⟩, true, ⟨k.2.1, k.2.2.1, k.2.2.2.1, k.2.2.2.2.1⟩, fun w hm => ?_⟩
    have := parse_all s hs w hm
    unfold parseT at this
    rw [h] at this
    exact this
def verCells (v : VerT) : List Value := [.int .i64 (v.a : Int), .int .i64 (v.b : Int), .int .i64 (v.c : Int), .string ⟨v.p.toArray⟩]
def cellsV (vs : List VerT) : List Value := vs.flatMap verCells
theorem cellsV_at {cs : List VerT} {k : Nat} {c : VerT} (h : cs[k]? = some c) : ∀ j v, (verCells c)[j]? = some v → (cellsV cs)[k * 4 + j]? = some v := by
  induction cs generalizing k with
  | nil => simp at h
  | cons d cs ih =>
    intro j v hj
    unfold cellsV at *
    rw [List.flatMap_cons]
    cases k with
    | zero =>
      simp at h; subst h
      have hjl := (List.getElem?_eq_some_iff.1 hj).1
      rw [Nat.zero_mul, Nat.zero_add, List.getElem?_append_left hjl]; exact hj
    | succ k =>
      rw [List.getElem?_cons_succ] at h
      have e5 : (verCells d).length = 4 := rfl
      rw [List.getElem?_append_right (by rw [e5]; omega), e5, show (k + 1) * 4 + j - 4 = k * 4 + j by omega]
      exact ih h j v hj
theorem infoV : (Tryz.prog.info? 38).map (fun i => (i.zero, i.size, i.bytes)) = some (some (.agg #[.int .i64 0, .int .i64 0, .int .i64 0, .string ⟨#[]⟩]), 4, 40) := by kernel_rfl

set_option maxRecDepth 20000 in
set_option maxHeartbeats 2000000 in
theorem law_top (s : ByteArray) (hs : s.size ≤ 140737488355328) (w : World) (a : Option Addr) (n c : Nat) (B0 o0 : Nat) (ws : List ByteArray) (hn : n = ws.length) (ha : n ≠ 0 → a = some ⟨B0, o0, none⟩) (hB : n ≠ 0 → B0 < w.heap.size) (hws : ∀ k (h : k < ws.length), ws[k].size ≤ 140737488355328) (hcell : ∀ k (h : k < ws.length), w.cell? ⟨B0, o0 + k, none⟩ = some (.string ws[k])) (hm : MaxAt w) (ht : TenAt w) (hg : SignsAt w) :
    Calls Tryz.prog 10 #[.string s, .slice a n c] w fun e w' => e = .returned (.bool true) ∧ Below w.heap.size w w' := by
  have HP := hid (parse_oL s hs)
  have HH := hid held_any
  have OKR := hid (fun rs (h : rngOf s.data.toList = some rs) => (rngOf_ok h).2)
  generalize rngOf s.data.toList = o at *
  replace hws := hid hws
  replace hcell := hid hcell
  replace ha := hid ha
  replace hB := hid hB
  have HPT := hid parse_t
  go_enter Tryz.func10, Tryz.ntmps10
  go_wp2_with fail
  refine (HP.out _ hm hg).mono ?_
  rintro e w1 ⟨oa, m, cp, rfl, hb1, N1, hr1⟩
  generalize hf : o.isSome = f
  have z1 := hid (below_alloc hb1 (.cells #[.slice oa m cp] 25))
  have v1 := hid (Blk.new w1 [.slice oa m cp] 25)
  replace hr1 := hid (fun rs h => (hr1 rs h).2.below (below_alloc (Below.refl w1.heap.size w1) (.cells #[.slice oa m cp] 25)))
  clear hb1 N1
  go_wp2_with fail
  generalize w1.alloc (.cells [.slice oa m cp].toArray 25) = W1 at hr1 v1 z1 ⊢
  generalize w1.heap.size = b1 at v1 ⊢
  refine (HH.out _ (hm.below z1.out) (ht.below z1.out) (hg.below z1.out)).mono ?_
  rintro e w2 ⟨rfl, hb2⟩
  replace z1 := hid (below_trans z1.out hb2)
  replace v1 := hid (v1.out.below hb2)
  replace hr1 := hid (fun rs h => (hr1.out rs h).below hb2)
  clear hb2
  cases f with
  | false =>
    go_wp2_with fail
    refine (HH.out _ (hm.below z1.out) (ht.below z1.out) (hg.below z1.out)).mono ?_
    rintro e w3 ⟨rfl, hb3⟩
    go_wp2_with fail
    go_ret
    exact gives rfl rfl (below_trans z1.out hb3)
  | true =>
    by_cases hl : (40 : Int) < (n : Int)
    · have hl' := decide_eq_true hl
      go_wp2_with fail
      refine (HH.out _ (hm.below z1.out) (ht.below z1.out) (hg.below z1.out)).mono ?_
      rintro e w3 ⟨rfl, hb3⟩
      go_wp2_with fail
      go_ret
      exact gives rfl rfl (below_trans z1.out hb3)
    · have hl' := decide_eq_false hl
      have hl4 := hid (show n ≤ 40 by omega)
      go_wp2_with fail
      go_loopw [7, 8, 9, 10] (fun o i _ _ wr => ∃ (k : Nat) (out : List VerT), k ≤ n ∧ i = .int .i64 k ∧ Hid (out.length = k) ∧ Hid (∀ (k : Nat) (v : VerT), out[k]? = some v → v.ok) ∧ Hid (Below w2.heap.size w2 wr) ∧ Hid (wr.ownsRow w2.heap.size 38 4 o out.length (cellsV out))) (fun _ i _ _ _ => n - (intOf i).toNat)
      case atStart => exact ⟨0, [], by omega, rfl, hid rfl, hid (by simp), hid (Below.refl _ _), hid (World.ownsRow_nil _ _ _ _)⟩
      case round =>
        obtain ⟨k, out, hk, rfl, hol, hok, hb, hown⟩ := hrel
        obtain ⟨oa2, oc, ho⟩ := own_shape hown.out
        subst ho
        by_cases hlt : k < n
        · have hlt2 : k < ws.length := by rw [← hn]; exact hlt
          obtain rfl := ha.out (by omega)
          have hbl : B0 < wr.heap.size := Nat.lt_of_lt_of_le (hB.out (by omega)) (below_trans z1.out hb.out).size
          have hce := hcell.out k hlt2
          rw [← (below_trans z1.out hb.out).cell (hB.out (by omega))] at hce
          obtain ⟨v, f, hvok, HV⟩ := HPT.out ws[k] (hws.out k hlt2)
          generalize ws[k] = x at hce HV
          replace HV := hid HV
          replace hvok := hid hvok
          have hmr := hm.below (below_trans z1.out hb.out)
          have hcells := hid (show cellsV (out ++ [v]) = cellsV out ++ [.int .i64 (v.a : Int), .int .i64 (v.b : Int), .int .i64 (v.c : Int), .string ⟨v.p.toArray⟩] by
            unfold cellsV; rw [List.flatMap_append]; simp [verCells])
          generalize (v.a : Int) = x1 at HV hcells
          generalize (v.b : Int) = x2 at HV hcells
          generalize (v.c : Int) = x3 at HV hcells
          generalize (⟨v.p.toArray⟩ : ByteArray) = x4 at HV hcells
          go_wp2_with fail
          refine (HV.out _ hmr).mono ?_
          rintro e w3 ⟨rfl, hb3⟩
          have hbl3 := Nat.lt_of_lt_of_le hbl hb3.size
          have hce3 := hce
          rw [← hb3.cell hbl] at hce3
          clear hce hbl HV
          by_cases hx : (100 : Int) < (x.size : Int)
          · have hx' := decide_eq_true hx
            go_wp2_with fail
            go_ret
            exact gives rfl rfl (below_alloc (below_trans (below_trans z1.out hb.out) hb3) _)
          · have hx' := decide_eq_false hx
            cases f with
            | false =>
              go_wp2_with fail
              go_ret
              exact gives rfl rfl (below_alloc (below_trans (below_trans z1.out hb.out) hb3) _)
            | true =>
              obtain ⟨iC, hi, hz0, hz1, hz2⟩ := info_parts infoV
              have hi := hid hi
              have hz0 := hid hz0
              have hz1 := hid hz1
              have hz2 := hid hz2
              generalize cellsV out = oc5 at hown hcells
              generalize hon : out.length = on at hown hol ⊢
              replace hon := hid hon
              have on5 := hid (show on < 40 by have := hol.out; have := hl4.out; omega)
              go_wp2_with (first
                | (at_builtin; refine wpList_append_lies _ rfl _ _ 50 rfl w2.heap.size 38 iC (.agg #[.int .i64 0, .int .i64 0, .int .i64 0, .string ⟨#[]⟩]) 4 40 Tryz.underlying50 hi.out hz0.out hz1.out hz2.out rfl (by decide) _ _ _ rfl (((ownsRow_below hown.out hb3).alloc _).alloc _) ⟨_, 0, none⟩ 1 1 [.int .i64 x1, .int .i64 x2, .int .i64 x3, .string x4] rfl rfl ?c1 ?c2 ?cm ?c3 ?c4 ?c5 _ rfl ?_))
              case c1 => exact cells_new _ [_, _, _, _] _ _ (by simp)
              case c2 => intro u hu; simp at hu; rcases hu with rfl | rfl | rfl | rfl <;> rfl
              case cm => decide
              case c3 => have := on5.out; unfold maxLen; omega
              case c4 => have := on5.out; omega
              case c5 => have := (below_trans hb.out hb3).size; simp; omega
              intro g cap w4 hown3 hgrow hat hlt3
              have hwl := hid (below_trans hb.out hb3)
              have kp := (below_alloc (below_alloc (below_trans hb.out hb3) (.cells #[.int .i64 x1, .int .i64 x2, .int .i64 x3, .string x4] 38)) (.cells #[.int .i64 x1, .int .i64 x2, .int .i64 x3, .string x4] 38)).grown hgrow (by have := hwl.out.size; simp; omega) (fun k hk => (hown.out.lt k hk).1)
              have HOWN3 := hid hown3
              clear hown3 hgrow hat hown
              go_wp2
              go_roundw
              case rel =>
                refine ⟨k + 1, out ++ [v], by omega, by go_num, hid (by rw [List.length_append, hon.out, hol.out]; rfl), hid ?_, hid kp, hid ?_⟩
                · intro j u hj
                  by_cases hjl : j < out.length
                  · rw [List.getElem?_append_left hjl] at hj; exact hok.out j u hj
                  · rw [List.getElem?_append_right (by omega)] at hj
                    have : u ∈ [v] := List.mem_of_getElem? hj
                    rw [List.mem_singleton.1 this]; exact hvok.out
                · rw [hcells.out, List.length_append, hon.out]
                  exact HOWN3.out
              case measure => simp [intOf]; omega
        · have hke : k = n := by omega
          obtain ⟨rs, hrs⟩ := Option.isSome_iff_exists.1 hf
          have okr := hid (OKR.out rs hrs)
          have hrr := hid ((hr1.out rs hrs).below hb.out)
          have hvb := hid (v1.out.below hb.out)
          have hbw := hid (below_trans z1.out hb.out)
          have hn40 := hid (show out.length ≤ 40 by rw [hol.out, hke]; exact hl4.out)
          have hokk := hid (show ∀ k, k < out.length → (out.getD k zeroT).ok from fun k hk => hok.out k _ (by rw [List.getD_eq_getElem?_getD, List.getElem?_eq_getElem hk]; rfl))
          have hal : ∃ g, Hid (out.length ≠ 0 → oa2 = some ⟨g, 0, none⟩) ∧ Hid (out.length ≠ 0 → VersAt wr g 0 out) := by
            by_cases h0 : out.length = 0
            · exact ⟨0, hid (fun h => absurd h0 h), hid (fun h => absurd h0 h)⟩
            · obtain ⟨g, cc, hv, _, q2, q3, q4, q5⟩ := ownsRow_any hown.out h0
              cases hv
              refine ⟨g, hid (fun _ => rfl), hid (fun _ => ⟨q2, fun j hj => ?_⟩)⟩
              have hx : out[j]? = some (out.getD j zeroT) := by rw [List.getD_eq_getElem?_getD, List.getElem?_eq_getElem hj]; rfl
              rw [Nat.zero_add]
              exact ⟨q5 _ _ (cellsV_at hx 0 _ rfl), q5 _ _ (cellsV_at hx 1 _ rfl), q5 _ _ (cellsV_at hx 2 _ rfl), q5 _ _ (cellsV_at hx 3 _ rfl)⟩
          obtain ⟨g, hoa, hva⟩ := hal
          have HI := hid (fun w hm ht hg hr hv => highest_any rs (.slice oa m cp) okr.out out (by have := hn40.out; omega) hokk.out g oc oa2 hoa.out w hm ht hg hr hv)
          have HAS := hid (fun j (hj : j < out.length) w hm ht hg hr => hasR_any rs (.slice oa m cp) okr.out (out.getD j zeroT).a (out.getD j zeroT).b (out.getD j zeroT).c (out.getD j zeroT).p (hokk.out j hj) w hm ht hg hr)
          have CMP := hid (fun j h (hj : j < out.length) (hh : h < out.length) w hm => compare_any (out.getD j zeroT).a (out.getD j zeroT).b (out.getD j zeroT).c (out.getD h zeroT).a (out.getD h zeroT).b (out.getD h zeroT).c (out.getD j zeroT).p (out.getD h zeroT).p (okPre_of (hokk.out j hj).2.2.2) (okPre_of (hokk.out h hh).2.2.2) w hm)
          have y := hvb.out.cell 0 rfl
          have yl := hvb.out.lt
          clear HP HPT hcell hws hown hok HH OKR hr1 v1 hb z1
          go_wp2_with fail
          refine (HI.out _ (hm.below hbw.out) (ht.below hbw.out) (hg.below hbw.out) hrr.out hva.out).mono ?_
          rintro e w3 ⟨rfl, hb3⟩
          replace hrr := hid (hrr.out.below hb3)
          replace hvb := hid (hvb.out.below hb3)
          replace hbw := hid (below_trans hbw.out hb3)
          replace hva := hid (fun h => (hva.out h).below hb3)
          clear HI y yl hb3
          have HN := hid (@hiT_none rs out out.length)
          have HS := hid (fun h => @hiT_some rs out out.length h)
          have HL := hid (hiT_lt rs out out.length)
          generalize hiT rs out out.length = q at *
          cases q with
          | none =>
            replace HN := hid (HN.out rfl)
            clear HS HL
            rw [show hiI (none : Option Nat) = -1 from rfl]
            have h1 : decide ((out.length : Int) ≤ -1) = false := decide_eq_false (by omega)
            have B := hid (fun d os => below_trans hbw.out (below_regrown w3 d os))
            go_wp2_with fail
            refine wp_region_quiet_below (by kernel_rfl) (by kernel_rfl) ?_
            repeat (go_big_quiet_step (fail))
            refine wpQuiet_nil ?_
            intro _ hw'
            obtain ⟨⟨dq, osq⟩, hw''⟩ := hw'
            subst hw''
            show Exit.then _ _ Exit.normal _ (grow (redrawn w3 dq) osq)
            have hbz := hid (B.out dq osq)
            replace hvb := hid (hvb.out.below (below_regrown w3 dq osq))
            replace hrr := hid (hrr.out.below (below_regrown w3 dq osq))
            replace hva := hid (fun h => (hva.out h).below (below_regrown w3 dq osq))
            clear B hbw
            generalize grow (redrawn w3 dq) osq = W4 at hbz hvb hrr hva ⊢
            go_wp2_with fail
            go_loopw [12] (fun i wr => ∃ j : Nat, j ≤ out.length ∧ i = .int .i64 j ∧ Hid (Below w.heap.size w wr) ∧ Hid (Blk wr b1 [.slice oa m cp] 25) ∧ Hid (RngAt wr (.slice oa m cp) rs) ∧ Hid (out.length ≠ 0 → VersAt wr g 0 out)) (fun i _ => out.length - (intOf i).toNat)
            case atStart => exact ⟨0, by omega, rfl, hbz, hvb, hrr, hva⟩
            case round =>
              obtain ⟨j, hj, rfl, hbz, hvb, hrr, hva⟩ := hrel
              by_cases hlt2 : j < out.length
              · have j40 : j < 40 := Nat.lt_of_lt_of_le hlt2 hn40.out
                obtain rfl := hoa.out (by omega)
                have B := hid (fun d os => below_trans hbz.out (below_regrown wr d os))
                have HASj := hid (HAS.out j hlt2)
                have hHT := hid (show hasT rs (out.getD j zeroT) = rngHas rs (out.getD j zeroT).a (out.getD j zeroT).b (out.getD j zeroT).c (out.getD j zeroT).p from rfl)
                have y := cell_regrown (hvb.out.cell 0 rfl)
                have yl := hvb.out.lt
                have hgl := (hva.out (by omega)).1
                obtain ⟨x0, x1, x2, x3⟩ := (hva.out (by omega)).2 j hlt2
                rw [Nat.zero_add] at x0 x1 x2 x3
                have hF := HN.out j hlt2
                rw [hHT.out] at hF
                rw [hF] at HASj
                clear hF hHT HN HAS CMP h1
                generalize out.getD j zeroT = vj at *
                have q1 := hid (show ∀ d os, Calls Tryz.prog 19 #[.agg #[.slice oa m cp], .agg #[.int .i64 (vj.a : Int), .int .i64 (vj.b : Int), .int .i64 (vj.c : Int), .string ⟨vj.p.toArray⟩]] (grow (redrawn wr d) os) fun e w'' => e = .returned (.bool false) ∧ ∃ p : Regrown, w'' = grow (redrawn wr p.d) p.os from fun d os => Calls.regrown_of (HASj.out _ (hm.below (B.out d os)) (ht.below (B.out d os)) (hg.below (B.out d os)) (hrr.out.below (below_regrown wr d os))))
                replace x0 := cell_regrown x0
                replace x1 := cell_regrown x1
                replace x2 := cell_regrown x2
                replace x3 := cell_regrown x3
                clear HASj
                go_wp2_with fail
                refine wp_region_quiet_below (by kernel_rfl) (by kernel_rfl) ?_
                repeat (go_big_quiet_step (with_reducible exact q1.out _ _))
                refine wpQuiet_nil ?_
                intro _ hw'
                obtain ⟨⟨dq, osq⟩, hw''⟩ := hw'
                subst hw''
                show Exit.then _ _ Exit.normal _ (grow (redrawn wr dq) osq)
                have hbz := hid (B.out dq osq)
                replace hvb := hid (hvb.out.below (below_regrown wr dq osq))
                replace hrr := hid (hrr.out.below (below_regrown wr dq osq))
                replace hva := hid (fun h => (hva.out h).below (below_regrown wr dq osq))
                clear q1 x0 x1 x2 x3 y yl hgl B
                generalize grow (redrawn wr dq) osq = W6 at hbz hvb hrr hva ⊢
                go_wp2_with fail
                go_roundw
                case rel => exact ⟨j + 1, by omega, by go_num, hbz, hvb, hrr, hva⟩
                case measure => simp [intOf]; omega
              · clear HAS CMP
                go_wp2_with fail
                go_ret
                exact gives rfl rfl hbz.out
          | some h =>
            replace HS := hid (HS.out h rfl)
            have hlh := HL.out h rfl
            clear HN HL
            rw [show hiI (some h) = (h : Int) from rfl]
            have h1 : decide ((out.length : Int) ≤ (h : Int)) = false := decide_eq_false (by omega)
            have h1n : decide (out.length ≤ h) = false := decide_eq_false (by omega)
            have h2 : decide ((h : Int) < -1) = false := decide_eq_false (by omega)
            have h3 : decide (0 ≤ (h : Int)) = true := decide_eq_true (by omega)
            have h4 : decide ((h : Int) < 0) = false := decide_eq_false (by omega)
            have B := hid (fun d os => below_trans hbw.out (below_regrown w3 d os))
            obtain rfl := hoa.out (by omega)
            have HASh := hid (HAS.out h hlh)
            have hHh := HS.out.1
            rw [show hasT rs (out.getD h zeroT) = rngHas rs (out.getD h zeroT).a (out.getD h zeroT).b (out.getD h zeroT).c (out.getD h zeroT).p from rfl] at hHh
            rw [hHh] at HASh
            replace HS := hid HS.out.2
            have y := cell_regrown (hvb.out.cell 0 rfl)
            have yl := hvb.out.lt
            have hgl := (hva.out (by omega)).1
            obtain ⟨x0, x1, x2, x3⟩ := (hva.out (by omega)).2 h hlh
            rw [Nat.zero_add] at x0 x1 x2 x3
            have q1 := hid (show ∀ d os, Calls Tryz.prog 19 #[.agg #[.slice oa m cp], .agg #[.int .i64 ((out.getD h zeroT).a : Int), .int .i64 ((out.getD h zeroT).b : Int), .int .i64 ((out.getD h zeroT).c : Int), .string ⟨(out.getD h zeroT).p.toArray⟩]] (grow (redrawn w3 d) os) fun e w'' => e = .returned (.bool true) ∧ ∃ p : Regrown, w'' = grow (redrawn w3 p.d) p.os from fun d os => Calls.regrown_of (HASh.out _ (hm.below (B.out d os)) (ht.below (B.out d os)) (hg.below (B.out d os)) (hrr.out.below (below_regrown w3 d os))))
            clear HASh hHh
            generalize hvh : out.getD h zeroT = vh at q1 x0 x1 x2 x3
            replace x0 := cell_regrown x0
            replace x1 := cell_regrown x1
            replace x2 := cell_regrown x2
            replace x3 := cell_regrown x3
            go_wp2_with fail
            refine wp_region_quiet_below (by kernel_rfl) (by kernel_rfl) ?_
            repeat (go_big_quiet_step (with_reducible exact q1.out _ _))
            refine wpQuiet_nil ?_
            intro _ hw'
            obtain ⟨⟨dq, osq⟩, hw''⟩ := hw'
            subst hw''
            show Exit.then _ _ Exit.normal _ (grow (redrawn w3 dq) osq)
            have hbz := hid (B.out dq osq)
            replace hvb := hid (hvb.out.below (below_regrown w3 dq osq))
            replace hrr := hid (hrr.out.below (below_regrown w3 dq osq))
            replace hva := hid (fun h => (hva.out h).below (below_regrown w3 dq osq))
            clear B hbw q1 x0 x1 x2 x3 y yl hgl h2 h3 h1n
            generalize grow (redrawn w3 dq) osq = W4 at hbz hvb hrr hva ⊢
            go_wp2_with fail
            go_loopw [12] (fun i wr => ∃ j : Nat, j ≤ out.length ∧ i = .int .i64 j ∧ Hid (Below w.heap.size w wr) ∧ Hid (Blk wr b1 [.slice oa m cp] 25) ∧ Hid (RngAt wr (.slice oa m cp) rs) ∧ Hid (out.length ≠ 0 → VersAt wr g 0 out)) (fun i _ => out.length - (intOf i).toNat)
            case atStart => exact ⟨0, by omega, rfl, hbz, hvb, hrr, hva⟩
            case round =>
              obtain ⟨j, hj, rfl, hbz, hvb, hrr, hva⟩ := hrel
              by_cases hlt2 : j < out.length
              · have j40 : j < 40 := Nat.lt_of_lt_of_le hlt2 hn40.out
                skip
                have B := hid (fun d os => below_trans hbz.out (below_regrown wr d os))
                have HASj := hid (HAS.out j hlt2)
                have hHT := hid (show hasT rs (out.getD j zeroT) = rngHas rs (out.getD j zeroT).a (out.getD j zeroT).b (out.getD j zeroT).c (out.getD j zeroT).p from rfl)
                have y := cell_regrown (hvb.out.cell 0 rfl)
                have yl := hvb.out.lt
                have hgl := (hva.out (by omega)).1
                obtain ⟨x0, x1, x2, x3⟩ := (hva.out (by omega)).2 j hlt2
                rw [Nat.zero_add] at x0 x1 x2 x3
                generalize hf2 : rngHas rs (out.getD j zeroT).a (out.getD j zeroT).b (out.getD j zeroT).c (out.getD j zeroT).p = f at HASj hHT
                have HSj := hid (fun e => HS.out j hlt2 e)
                obtain ⟨z0, z1, z2, z3⟩ := (hva.out (by omega)).2 h hlh
                rw [Nat.zero_add] at z0 z1 z2 z3
                have CMPj := hid (show ∀ w, MaxAt w → Calls Tryz.prog 26 #[.agg #[.int .i64 ((out.getD j zeroT).a : Int), .int .i64 ((out.getD j zeroT).b : Int), .int .i64 ((out.getD j zeroT).c : Int), .string ⟨(out.getD j zeroT).p.toArray⟩], .agg #[.int .i64 ((out.getD h zeroT).a : Int), .int .i64 ((out.getD h zeroT).b : Int), .int .i64 ((out.getD h zeroT).c : Int), .string ⟨(out.getD h zeroT).p.toArray⟩]] w (Gives (.int .i64 (cmpT (out.getD j zeroT) (out.getD h zeroT))) w) from fun w hm => CMP.out j h hlt2 hlh w hm)
                rw [hvh] at HSj z0 z1 z2 z3 CMPj
                rw [hHT.out] at HSj
                clear hf2 HAS CMP HS hHT h1
                clear hvh
                generalize out.getD j zeroT = vj at *
                generalize cmpT vj vh = c at *
                have q1 := hid (show ∀ d os, Calls Tryz.prog 19 #[.agg #[.slice oa m cp], .agg #[.int .i64 (vj.a : Int), .int .i64 (vj.b : Int), .int .i64 (vj.c : Int), .string ⟨vj.p.toArray⟩]] (grow (redrawn wr d) os) fun e w'' => e = .returned (.bool f) ∧ ∃ p : Regrown, w'' = grow (redrawn wr p.d) p.os from fun d os => Calls.regrown_of (HASj.out _ (hm.below (B.out d os)) (ht.below (B.out d os)) (hg.below (B.out d os)) (hrr.out.below (below_regrown wr d os))))
                have q2 := hid (show ∀ d os, Calls Tryz.prog 26 #[.agg #[.int .i64 (vj.a : Int), .int .i64 (vj.b : Int), .int .i64 (vj.c : Int), .string ⟨vj.p.toArray⟩], .agg #[.int .i64 (vh.a : Int), .int .i64 (vh.b : Int), .int .i64 (vh.c : Int), .string ⟨vh.p.toArray⟩]] (grow (redrawn wr d) os) fun e w'' => e = .returned (.int .i64 c) ∧ ∃ p : Regrown, w'' = grow (redrawn wr p.d) p.os from fun d os => Calls.regrown_of (CMPj.out _ (hm.below (B.out d os))))
                replace x0 := cell_regrown x0
                replace x1 := cell_regrown x1
                replace x2 := cell_regrown x2
                replace x3 := cell_regrown x3
                replace z0 := cell_regrown z0
                replace z1 := cell_regrown z1
                replace z2 := cell_regrown z2
                replace z3 := cell_regrown z3
                clear HASj CMPj
                go_wp2_with fail
                cases f with
                | false =>
                  clear q2 z0 z1 z2 z3
                  refine wp_region_quiet_below (by kernel_rfl) (by kernel_rfl) ?_
                  repeat (go_big_quiet_step (with_reducible exact q1.out _ _))
                  refine wpQuiet_nil ?_
                  intro _ hw'
                  obtain ⟨⟨dq, osq⟩, hw''⟩ := hw'
                  subst hw''
                  show Exit.then _ _ Exit.normal _ (grow (redrawn wr dq) osq)
                  have hbz := hid (B.out dq osq)
                  replace hvb := hid (hvb.out.below (below_regrown wr dq osq))
                  replace hrr := hid (hrr.out.below (below_regrown wr dq osq))
                  replace hva := hid (fun h => (hva.out h).below (below_regrown wr dq osq))
                  clear q1 x0 x1 x2 x3 y yl hgl B
                  generalize grow (redrawn wr dq) osq = W6 at hbz hvb hrr hva ⊢
                  go_wp2_with fail
                  go_roundw
                  case rel => exact ⟨j + 1, by omega, by go_num, hbz, hvb, hrr, hva⟩
                  case measure => simp [intOf]; omega
                | true =>
                  obtain ⟨k1, k2⟩ := HSj.out rfl
                  have hc1 : decide (0 < c) = false := decide_eq_false (by omega)
                  by_cases hjh : j < h
                  · have hj1 : decide ((j : Int) < (h : Int)) = true := decide_eq_true (by omega)
                    have hj2 : decide (j < h) = true := decide_eq_true hjh
                    have hc2 : (c == 0) = false := by have := k2 hjh; simp; omega
                    clear k1 k2
                    refine wp_region_quiet_below (by kernel_rfl) (by kernel_rfl) ?_
                    repeat (go_big_quiet_step (first | with_reducible exact q1.out _ _ | with_reducible exact q2.out _ _))
                    refine wpQuiet_nil ?_
                    intro _ hw'
                    obtain ⟨⟨dq, osq⟩, hw''⟩ := hw'
                    subst hw''
                    show Exit.then _ _ Exit.normal _ (grow (redrawn wr dq) osq)
                    have hbz := hid (B.out dq osq)
                    replace hvb := hid (hvb.out.below (below_regrown wr dq osq))
                    replace hrr := hid (hrr.out.below (below_regrown wr dq osq))
                    replace hva := hid (fun h => (hva.out h).below (below_regrown wr dq osq))
                    clear q1 q2 x0 x1 x2 x3 z0 z1 z2 z3 y yl hgl B
                    generalize grow (redrawn wr dq) osq = W6 at hbz hvb hrr hva ⊢
                    go_wp2_with fail
                    go_roundw
                    case rel => exact ⟨j + 1, by omega, by go_num, hbz, hvb, hrr, hva⟩
                    case measure => simp [intOf]; omega
                  · have hj1 : decide ((j : Int) < (h : Int)) = false := decide_eq_false (by omega)
                    have hj2 : decide (j < h) = false := decide_eq_false hjh
                    clear k1 k2
                    refine wp_region_quiet_below (by kernel_rfl) (by kernel_rfl) ?_
                    repeat (go_big_quiet_step (first | with_reducible exact q1.out _ _ | with_reducible exact q2.out _ _))
                    refine wpQuiet_nil ?_
                    intro _ hw'
                    obtain ⟨⟨dq, osq⟩, hw''⟩ := hw'
                    subst hw''
                    show Exit.then _ _ Exit.normal _ (grow (redrawn wr dq) osq)
                    have hbz := hid (B.out dq osq)
                    replace hvb := hid (hvb.out.below (below_regrown wr dq osq))
                    replace hrr := hid (hrr.out.below (below_regrown wr dq osq))
                    replace hva := hid (fun h => (hva.out h).below (below_regrown wr dq osq))
                    clear q1 q2 x0 x1 x2 x3 z0 z1 z2 z3 y yl hgl B
                    generalize grow (redrawn wr dq) osq = W6 at hbz hvb hrr hva ⊢
                    go_wp2_with fail
                    go_roundw
                    case rel => exact ⟨j + 1, by omega, by go_num, hbz, hvb, hrr, hva⟩
                    case measure => simp [intOf]; omega
              · clear HAS CMP
                go_wp2_with fail
                go_ret
                exact gives rfl rfl hbz.out
end Go.Proofs.YtebhgcejcdgdbaaGreatDoor.Sp
