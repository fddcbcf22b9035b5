/-
  LAYER 4: Check, Text and Has of a range, whatever it is.
-/
import Derived.Test.YtebhgcejcdgdbaaGreatDoorSpecGOf
import Derived.Test.YtebhgcejcdgdbaaGreatDoorMI
namespace Go.Proofs.YtebhgcejcdgdbaaGreatDoor.Sp
open Go.RowKit Go.Sort
open Go.Proofs.YtebhgcejcdgdbaaGreatDoor Go.Proofs.YtebhgcejcdgdbaaGreatDoor.Nu Go.Proofs.YtebhgcejcdgdbaaGreatDoor.Vs

def plainB (c : RawC) : Bool := c.a == 0 && c.b == 0 && c.c == 0 && (c.p.toList == [])
def cOk (c : RawC) : Bool := if c.op = 8 then plainB c else decide (0 ≤ c.op) && decide (c.op < 8) && checkI c.a c.b c.c c.p.data.toList
def altOk (cs : List RawC) : Bool := decide (1 ≤ cs.length) && decide (cs.length ≤ 4) && cs.all cOk
def rngPre (rs : List (List RawC)) : Bool := decide (1 ≤ rs.length) && decide (rs.length ≤ 4) && rs.all altOk
def Short (cs : List RawC) : Prop := cs.length ≤ 4 → ∀ c, c ∈ cs → c.p.size ≤ 60

theorem bar (s : ByteArray) : (⟨s.data.toList.toArray⟩ : ByteArray) = s := by simp
set_option maxRecDepth 20000 in
set_option maxHeartbeats 1000000 in
theorem compCheck_raw (c : RawC) (hp : c.p.size ≤ 60) (w : World) (hm : MaxAt w) :
    Calls Tryz.prog 52 #[.agg #[.int .i64 c.op, .int .i64 c.a, .int .i64 c.b, .int .i64 c.c, .string c.p]] w (Gives (.bool (cOk c)) w) := by
  have g2 : Tryz.prog.eqGuardType Tryz.prog.depth 38 = false := by kernel_rfl
  have HV := hid (check_any c.a c.b c.c c.p.data.toList (by rw [lenS]; omega))
  rw [bar] at HV
  have hR := hid (show cOk c = if c.op = 8 then plainB c else decide (0 ≤ c.op) && decide (c.op < 8) && checkI c.a c.b c.c c.p.data.toList from rfl)
  have hPl := hid (show plainB c = (c.a == 0 && c.b == 0 && c.c == 0 && (c.p.toList == [])) from rfl)
  generalize cOk c = R at hR ⊢
  generalize plainB c = PL at hR hPl
  generalize checkI c.a c.b c.c c.p.data.toList = ck at HV hR
  obtain ⟨o, x, y, z, p⟩ := c
  dsimp only at hR hPl HV ⊢
  clear hp
  have hb0 := below_alloc (Below.refl w.heap.size w) (.cells #[.int .i64 o, .int .i64 x, .int .i64 y, .int .i64 z, .string p] 40)
  by_cases h8 : o = 8
  · have hr := hid (hR.out.trans (if_pos h8))
    subst h8
    rw [hPl.out] at hr
    clear hR hPl HV
    replace hb0 := hid hb0
    cases h1 : (x == 0)
    · have hr2 := hid (show R = false by rw [hr.out, h1]; rfl)
      clear hr
      go_enter Tryz.func52, Tryz.ntmps52
      go_wp2_with fail
      go_ret
      exact gives rfl (bool_eq (hr2.out.symm)) hb0.out
    · obtain rfl : x = 0 := beq_iff_eq.1 h1
      cases h2 : (y == 0)
      · have hr2 := hid (show R = false by rw [hr.out, h2]; rfl)
        clear hr h1
        go_enter Tryz.func52, Tryz.ntmps52
        go_wp2_with fail
        go_ret
        exact gives rfl (bool_eq (hr2.out.symm)) hb0.out
      · obtain rfl : y = 0 := beq_iff_eq.1 h2
        cases h3 : (z == 0)
        · have hr2 := hid (show R = false by rw [hr.out, h3]; rfl)
          clear hr h1 h2
          go_enter Tryz.func52, Tryz.ntmps52
          go_wp2_with fail
          go_ret
          exact gives rfl (bool_eq (hr2.out.symm)) hb0.out
        · obtain rfl : z = 0 := beq_iff_eq.1 h3
          cases h4 : (p.toList == [])
          · have hr2 := hid (show R = false by rw [hr.out, h4]; rfl)
            clear hr h1 h2 h3
            go_enter Tryz.func52, Tryz.ntmps52
            go_wp2_with fail
            go_ret
            exact gives rfl (bool_eq (hr2.out.symm)) hb0.out
          · obtain rfl : p = ⟨#[]⟩ := by
              apply ByteArray.ext; apply Array.toList_inj.1
              have h9 := beq_iff_eq.1 h4
              rw [ByteArray.toList_eq] at h9
              exact h9
            have hr2 := hid (show R = true by rw [hr.out, h4]; rfl)
            clear hr h1 h2 h3 h4
            go_enter Tryz.func52, Tryz.ntmps52
            go_wp2_with fail
            go_ret
            exact gives rfl (bool_eq (hr2.out.symm)) hb0.out
  · have hr := hid (hR.out.trans (if_neg h8))
    have e1 : (o == 8) = false := by rw [beq_eq_false_iff_ne]; exact h8
    clear hR hPl h8
    by_cases h0 : 0 ≤ o
    · by_cases h7 : o < 8
      · have hr2 := hid (show R = ck by rw [hr.out, decide_eq_true h0, decide_eq_true h7]; rfl)
        clear hr
        go_enter Tryz.func52, Tryz.ntmps52
        go_wp2_with (go_at_call 18; (with_reducible refine (HV.out _ (hm.below hb0)).mono ?_); rintro e w1 ⟨rfl, hb1⟩)
        go_ret
        exact gives rfl (bool_eq hr2.out.symm) (below_trans hb0 hb1)
      · have hr2 := hid (show R = false by rw [hr.out, decide_eq_false h7, Bool.and_false]; rfl)
        clear hr
        replace hb0 := hid hb0
        go_enter Tryz.func52, Tryz.ntmps52
        go_wp2_with fail
        go_ret
        exact gives rfl (bool_eq hr2.out.symm) hb0.out
    · have hr2 := hid (show R = false by rw [hr.out, decide_eq_false h0]; rfl)
      clear hr
      replace hb0 := hid hb0
      go_enter Tryz.func52, Tryz.ntmps52
      go_wp2_with fail
      go_ret
      exact gives rfl (bool_eq hr2.out.symm) hb0.out

set_option maxRecDepth 20000 in
set_option maxHeartbeats 1000000 in
theorem checkAlt_raw (cs : List RawC) (v : Value) (hs : Short cs) (w : World) (hm : MaxAt w) (ha : RawAt w v cs) :
    Calls Tryz.prog 32 #[v] w (Gives (.bool (altOk cs)) w) := by
  obtain ⟨a, cp, rfl, hn⟩ := ha
  have hR := hid (show altOk cs = (decide (1 ≤ cs.length) && decide (cs.length ≤ 4) && cs.all cOk) from rfl)
  generalize altOk cs = R at hR ⊢
  by_cases h1 : (cs.length : Int) < 1
  · have hr := hid (show R = false by rw [hR.out, decide_eq_false (by omega)]; rfl)
    go_enter Tryz.func32, Tryz.ntmps32
    go_wp2_with fail
    go_ret
    exact gives rfl (bool_eq hr.out.symm) (Below.refl _ _)
  · by_cases h4 : (4 : Int) < (cs.length : Int)
    · have hr := hid (show R = false by rw [hR.out, decide_eq_false (p := cs.length ≤ 4) (by omega), Bool.and_false]; rfl)
      go_enter Tryz.func32, Tryz.ntmps32
      go_wp2_with fail
      go_ret
      exact gives rfl (bool_eq hr.out.symm) (Below.refl _ _)
    · have hr := hid (show R = cs.all cOk by rw [hR.out, decide_eq_true (by omega), decide_eq_true (by omega)]; rfl)
      obtain ⟨B, o, rfl, hB, hcs⟩ := hn (by intro e; rw [e] at h1; simp at h1)
      have HK := hid (fun c hc w hm => compCheck_raw c (hs (by omega) c hc) w hm)
      replace hcs := hid hcs
      have hl4 := hid (show cs.length ≤ 4 by omega)
      clear hR hs
      go_enter Tryz.func32, Tryz.ntmps32
      go_wp2_with fail
      go_loopw [4, 15] (fun _ i wr => ∃ k : Nat, k ≤ cs.length ∧ i = .int .i64 k ∧ Hid (Below w.heap.size w wr) ∧ Hid ((cs.take k).all cOk = true)) (fun _ i _ => cs.length - (intOf i).toNat)
      case atStart => exact ⟨0, by omega, rfl, hid (Below.refl _ _), hid rfl⟩
      case round =>
        obtain ⟨k, hk, rfl, hb, hall⟩ := hrel
        by_cases hlt : k < cs.length
        · have hx := List.getElem?_eq_getElem hlt
          generalize cs[k] = c at hx
          obtain ⟨d0, d1, d2, d3, d4⟩ := hcs.out k c hx
          have c0 := bc hb.out d0
          have c1 := bc hb.out d1
          have c2 := bc hb.out d2
          have c3 := bc hb.out d3
          have c4 := bc hb.out d4
          have hbl := Nat.lt_of_lt_of_le hB hb.out.size
          have HKc := hid (HK.out c (List.mem_of_getElem? hx))
          have k4 : k < 4 := by have := hl4.out; omega
          have hst := hid (show (cs.take (k + 1)).all cOk = ((cs.take k).all cOk && cOk c) by rw [List.take_add_one, hx, List.all_append]; simp)
          have hoff := hid (fun (h : cOk c = false) => show cs.all cOk = false by
            rw [Bool.eq_false_iff]; intro h'
            have := List.all_eq_true.1 h' c (List.mem_of_getElem? hx)
            rw [h] at this; cases this)
          clear HK d0 d1 d2 d3 d4 hx
          have hb0 := hid (below_alloc hb.out (.cells #[.int .i64 c.op, .int .i64 c.a, .int .i64 c.b, .int .i64 c.c, .string c.p] 40))
          generalize cOk c = ok at HKc hst hoff
          cases ok
          · have hr2 := hid (hr.out.trans (hoff.out rfl))
            go_wp2_with (go_at_call 52; (with_reducible refine (HKc.out _ (hm.below hb0.out)).mono ?_); rintro e w1 ⟨rfl, hb1⟩)
            go_ret
            exact gives rfl (bool_eq hr2.out.symm) (below_trans hb0.out hb1)
          · have hy := hid (show (cs.take (k + 1)).all cOk = true by rw [hst.out, hall.out]; rfl)
            go_wp2_with (go_at_call 52; (with_reducible refine (HKc.out _ (hm.below hb0.out)).mono ?_); rintro e w1 ⟨rfl, hb1⟩)
            go_roundw
            case rel => exact ⟨k + 1, by omega, by go_num, hid (below_trans hb0.out hb1), hy⟩
            case measure => simp [intOf]; omega
        · have hr2 := hid (show R = true by
            rw [hr.out]
            have := hall.out
            rwa [List.take_of_length_le (by omega)] at this)
          go_wp2_with fail
          go_ret
          exact gives rfl (bool_eq hr2.out.symm) hb.out

/-! what is well formed is a range of package spec's -/
theorem raw_comp {c : RawC} (h : cOk c = true) : ∃ d : CompT, OkC d ∧ rawOf d = c := by
  unfold cOk at h
  obtain ⟨o, x, y, z, p⟩ := c
  dsimp only at h
  by_cases h8 : o = 8
  · rw [if_pos h8] at h
    unfold plainB at h
    simp only [Bool.and_eq_true, beq_iff_eq] at h
    obtain ⟨⟨⟨rfl, rfl⟩, rfl⟩, hp⟩ := h
    subst h8
    refine ⟨anyC, .inr rfl, ?_⟩
    have : p = ⟨#[]⟩ := by
      apply ByteArray.ext; apply Array.toList_inj.1
      rw [ByteArray.toList_eq] at hp
      exact hp
    subst this
    rfl
  · rw [if_neg h8] at h
    simp only [Bool.and_eq_true, decide_eq_true_eq] at h
    obtain ⟨⟨h0, h7⟩, hc⟩ := h
    unfold checkI okI at hc
    simp only [Bool.and_eq_true, decide_eq_true_eq, Bool.or_eq_true] at hc
    obtain ⟨⟨⟨ha, hb⟩, hcc⟩, hp⟩ := hc
    refine ⟨⟨o.toNat, x.toNat, y.toNat, z.toNat, p.data.toList⟩, .inl ⟨?_, ?_, ?_, ?_, ?_⟩, ?_⟩
    · show o.toNat < 8; omega
    · show x.toNat < 1000000; omega
    · show y.toNat < 1000000; omega
    · show z.toNat < 1000000; omega
    · exact hp
    · unfold rawOf
      simp only [bar]
      congr 1 <;> omega
theorem map_of {α β : Type} {f : β → α} {P : β → Prop} : ∀ {l : List α}, (∀ x, x ∈ l → ∃ y, P y ∧ f y = x) → ∃ m : List β, m.map f = l ∧ ∀ y, y ∈ m → P y := by
  intro l
  induction l with
  | nil => intro _; exact ⟨[], rfl, by simp⟩
  | cons x l ih =>
    intro h
    obtain ⟨y, hy, rfl⟩ := h x (by simp)
    obtain ⟨m, rfl, hm⟩ := ih (fun z hz => h z (by simp [hz]))
    exact ⟨y :: m, rfl, fun z hz => by
      rcases List.mem_cons.1 hz with rfl | hz
      · exact hy
      · exact hm z hz⟩
theorem raw_rng {rs : List (List RawC)} (h : rngPre rs = true) : ∃ ds : List (List CompT), ds.map (List.map rawOf) = rs ∧ 1 ≤ ds.length ∧ ds.length ≤ 4 ∧ ∀ cs, cs ∈ ds → 1 ≤ cs.length ∧ cs.length ≤ 4 ∧ ∀ c, c ∈ cs → OkC c := by
  unfold rngPre at h
  simp only [Bool.and_eq_true, decide_eq_true_eq] at h
  obtain ⟨⟨h1, h4⟩, hall⟩ := h
  obtain ⟨ds, rfl, hd⟩ := map_of (f := List.map rawOf) (P := fun cs => 1 ≤ cs.length ∧ cs.length ≤ 4 ∧ ∀ c, c ∈ cs → OkC c) (l := rs) (fun l hl => by
    have := List.all_eq_true.1 hall l hl
    unfold altOk at this
    simp only [Bool.and_eq_true, decide_eq_true_eq] at this
    obtain ⟨⟨g1, g4⟩, gall⟩ := this
    obtain ⟨cs, rfl, hc⟩ := map_of (f := rawOf) (P := OkC) (l := l) (fun c hc => raw_comp (List.all_eq_true.1 gall c hc))
    rw [List.length_map] at g1 g4
    exact ⟨cs, ⟨g1, g4, hc⟩, rfl⟩)
  rw [List.length_map] at h1 h4
  exact ⟨ds, rfl, h1, h4, hd⟩

set_option maxRecDepth 20000 in
set_option maxHeartbeats 2000000 in
theorem check_raw_no (rs : List (List RawC)) (v : Value) (hs : ∀ cs, cs ∈ rs → Short cs) (hno : rngPre rs = false) (w : World) (hm : MaxAt w) (hr : RawR w v rs) :
    Calls Tryz.prog 14 #[.agg #[v]] w (Gives (.bool false) w) := by
  obtain ⟨a, cp, rfl, hn⟩ := hr
  have hb0 := hid (below_alloc (Below.refl w.heap.size w) (.cells #[.slice a rs.length cp] 25))
  have hn0 := hid (Blk.new w [.slice a rs.length cp] 25)
  by_cases h1 : (rs.length : Int) < 1
  · go_enter Tryz.func14, Tryz.ntmps14
    go_wp2_with fail
    go_ret
    exact gives rfl rfl hb0.out
  · by_cases h4 : (4 : Int) < (rs.length : Int)
    · go_enter Tryz.func14, Tryz.ntmps14
      go_wp2_with fail
      go_ret
      exact gives rfl rfl hb0.out
    · have hall := hid (show rs.all altOk = false by
        unfold rngPre at hno
        rw [decide_eq_true (by omega), decide_eq_true (by omega)] at hno
        exact hno)
      obtain ⟨G, o, rfl, hG, hcs⟩ := hn (by intro e; rw [e] at h1; simp at h1)
      have HK := hid (fun cs hc v w hm ha => checkAlt_raw cs v (hs cs hc) w hm ha)
      replace hcs := hid hcs
      have hl4 := hid (show rs.length ≤ 4 by omega)
      clear hno hs hn
      go_enter Tryz.func14, Tryz.ntmps14
      go_wp2_with fail
      go_loopw [4, 18] (fun _ i wr => ∃ k : Nat, k ≤ rs.length ∧ i = .int .i64 k ∧ Hid (Below w.heap.size w wr) ∧ Hid ((rs.take k).all altOk = true)) (fun _ i _ => rs.length - (intOf i).toNat)
      case atStart => exact ⟨0, by omega, rfl, hb0, hid rfl⟩
      case round =>
        obtain ⟨k, hk, rfl, hb, hal⟩ := hrel
        by_cases hlt : k < rs.length
        · have hx := List.getElem?_eq_getElem hlt
          generalize rs[k] = cs at hx
          obtain ⟨u, d0, hu⟩ := hcs.out k cs hx
          have c0 := bc hb.out d0
          have hgl := Nat.lt_of_lt_of_le hG hb.out.size
          have HKc := hid (HK.out cs (List.mem_of_getElem? hx) u wr (hm.below hb.out) (hu.below hb.out))
          have k4 : k < 4 := by have := hl4.out; omega
          have hst := hid (show (rs.take (k + 1)).all altOk = ((rs.take k).all altOk && altOk cs) by rw [List.take_add_one, hx, List.all_append]; simp)
          clear HK d0 hx hu
          generalize altOk cs = ok at HKc hst
          cases ok
          · go_wp2_with (go_at_call 32; (with_reducible refine HKc.out.mono ?_); rintro e w1 ⟨rfl, hb1⟩)
            go_ret
            exact gives rfl rfl (below_trans hb.out hb1)
          · have hy := hid (show (rs.take (k + 1)).all altOk = true by rw [hst.out, hal.out]; rfl)
            go_wp2_with (go_at_call 32; (with_reducible refine HKc.out.mono ?_); rintro e w1 ⟨rfl, hb1⟩)
            go_roundw
            case rel => exact ⟨k + 1, by omega, by go_num, hid (below_trans hb.out hb1), hy⟩
            case measure => simp [intOf]; omega
        · exfalso
          have h9 := hal.out
          rw [List.take_of_length_le (by omega), hall.out] at h9
          cases h9

set_option maxRecDepth 20000 in
set_option maxHeartbeats 2000000 in
theorem check_raw_yes (ds : List (List CompT)) (v : Value) (h1 : 1 ≤ ds.length) (h4 : ds.length ≤ 4) (hok : ∀ cs, cs ∈ ds → 1 ≤ cs.length ∧ cs.length ≤ 4 ∧ ∀ c, c ∈ cs → OkC c) (hs : ∀ cs, cs ∈ ds.map (List.map rawOf) → Short cs) (hall : ∀ cs, cs ∈ ds.map (List.map rawOf) → altOk cs = true) (w : World) (hm : MaxAt w) (ht : TenAt w) (hg : SignsAt w) (hr : RawR w v (ds.map (List.map rawOf))) :
    Calls Tryz.prog 14 #[.agg #[v]] w (Gives (.bool (decide ((rngText ds).length ≤ 80))) w) := by
  have hr0 := hid hr
  obtain ⟨a, cp, rfl, hn⟩ := hr
  have HW := hid (fun w hm ht hg hr => write_g ds (.slice a (ds.map (List.map rawOf)).length cp) h1 h4 hok w hm ht hg hr)
  generalize hrs : ds.map (List.map rawOf) = rs at *
  have hrl := hid (show ds.length = rs.length by rw [← hrs, List.length_map])
  replace hrs := hid hrs
  have hb0 := hid (below_alloc (Below.refl w.heap.size w) (.cells #[.slice a rs.length cp] 25))
  have hn0 := hid (Blk.new w [.slice a rs.length cp] 25)
  obtain ⟨G, o, rfl, hG, hcs⟩ := hn (by intro e; rw [e] at hrl; have := hrl.out; simp at this; rw [this] at h1; simp at h1)
  have HK := hid (fun cs hc v w hm ha => checkAlt_raw cs v (hs cs hc) w hm ha)
  replace hcs := hid hcs
  have hl4 := hid (show rs.length ≤ 4 by rw [← hrl.out]; exact h4)
  have e1 : ¬ (rs.length : Int) < 1 := by have := hrl.out; omega
  have e4 : ¬ (4 : Int) < (rs.length : Int) := by have := hrl.out; omega
  replace hall := hid hall
  have hlen := hid (show (⟨(rngText ds).toArray⟩ : ByteArray).size = (rngText ds).length from bsz _)
  generalize hTL : (rngText ds).length = tl at hlen ⊢
  replace hTL := hid hTL
  generalize (⟨(rngText ds).toArray⟩ : ByteArray) = TX at HW hlen
  clear hs hn h1 h4 hok
  go_enter Tryz.func14, Tryz.ntmps14
  go_wp2_with fail
  go_loopw [4, 18] (fun _ i wr => ∃ k : Nat, k ≤ rs.length ∧ i = .int .i64 k ∧ Hid (Below w.heap.size w wr) ∧ Hid (Blk wr w.heap.size [.slice (some ⟨G, o, none⟩) rs.length cp] 25)) (fun _ i _ => rs.length - (intOf i).toNat)
  case atStart => exact ⟨0, by omega, rfl, hb0, hn0⟩
  case round =>
    obtain ⟨k, hk, rfl, hb, hbx⟩ := hrel
    by_cases hlt : k < rs.length
    · have hx := List.getElem?_eq_getElem hlt
      generalize rs[k] = cs at hx
      obtain ⟨u, d0, hu⟩ := hcs.out k cs hx
      have c0 := bc hb.out d0
      have hgl := Nat.lt_of_lt_of_le hG hb.out.size
      have HKc := hid (HK.out cs (List.mem_of_getElem? hx) u wr (hm.below hb.out) (hu.below hb.out))
      rw [hall.out cs (List.mem_of_getElem? hx)] at HKc
      have k4 : k < 4 := by have := hl4.out; omega
      clear HK d0 hx hu
      go_wp2_with (go_at_call 32; (with_reducible refine HKc.out.mono ?_); rintro e w1 ⟨rfl, hb1⟩)
      go_roundw
      case rel => exact ⟨k + 1, by omega, by go_num, hid (below_trans hb.out hb1), hid (hbx.out.below hb1)⟩
      case measure => simp [intOf]; omega
    · have hr1 := hid (hr0.out.below hb.out)
      have c0 := hbx.out.cell 0 rfl
      have HWc := hid (HW.out wr (hm.below hb.out) (ht.below hb.out) (hg.below hb.out) hr1.out)
      clear HW HK
      go_wp2_with (go_at_call 33; (with_reducible refine HWc.out.mono ?_); rintro e w1 ⟨rfl, hb1⟩)
      go_ret
      exact gives rfl (bool_eq (by rw [decide_eq_decide, hlen.out]; omega)) (below_trans hb.out hb1)

theorem has_off (v : Value) (xi yi zi : Int) (Q : ByteArray) (w : World) (hv : ∃ a n c, v = .slice a n c) (HC : ∀ w', Below w.heap.size w w' → Calls Tryz.prog 14 #[.agg #[v]] w' (Gives (.bool false) w')) : Calls Tryz.prog 19 #[.agg #[v], .agg #[.int .i64 xi, .int .i64 yi, .int .i64 zi, .string Q]] w (Gives (.bool false) w) := by
  obtain ⟨a, n, c, rfl⟩ := hv
  have hb0 := hid (below_alloc (below_alloc (Below.refl w.heap.size w) (.cells #[.slice a n c] 25)) (.cells #[.int .i64 xi, .int .i64 yi, .int .i64 zi, .string Q] 38))
  replace HC := hid HC
  go_enter Tryz.func19, Tryz.ntmps19
  go_wp2_with (go_at_call 14; (with_reducible refine (HC.out _ hb0.out).mono ?_); rintro e w1 ⟨rfl, hb1⟩)
  go_ret
  exact gives rfl rfl (below_trans hb0.out hb1)
theorem text_off (v : Value) (w : World) (hv : ∃ a n c, v = .slice a n c) (HC : ∀ w', Below w.heap.size w w' → Calls Tryz.prog 14 #[.agg #[v]] w' (Gives (.bool false) w')) : Calls Tryz.prog 15 #[.agg #[v]] w (Gives (.string ⟨#[]⟩) w) := by
  obtain ⟨a, n, c, rfl⟩ := hv
  have hb0 := hid (below_alloc (Below.refl w.heap.size w) (.cells #[.slice a n c] 25))
  replace HC := hid HC
  go_enter Tryz.func15, Tryz.ntmps15
  go_wp2_with (go_at_call 14; (with_reducible refine (HC.out _ hb0.out).mono ?_); rintro e w1 ⟨rfl, hb1⟩)
  go_ret
  exact gives rfl rfl (below_trans hb0.out hb1)
theorem text_on (v : Value) (T : ByteArray) (w : World) (hv : ∃ a n c, v = .slice a n c) (HC : ∀ w', Below w.heap.size w w' → Calls Tryz.prog 14 #[.agg #[v]] w' (Gives (.bool true) w')) (HW : ∀ w', Below w.heap.size w w' → Calls Tryz.prog 33 #[.agg #[v]] w' (Gives (.string T) w')) : Calls Tryz.prog 15 #[.agg #[v]] w (Gives (.string T) w) := by
  obtain ⟨a, n, c, rfl⟩ := hv
  have hb0 := hid (below_alloc (Below.refl w.heap.size w) (.cells #[.slice a n c] 25))
  have hn0 := hid (Blk.new w [.slice a n c] 25)
  replace HC := hid HC
  replace HW := hid HW
  go_enter Tryz.func15, Tryz.ntmps15
  go_wp2_with (go_at_call 14; (with_reducible refine (HC.out _ hb0.out).mono ?_); rintro e w1 ⟨rfl, hb1⟩; have c0 := (hn0.out.below hb1).cell 0 rfl)
  refine (HW.out _ (below_trans hb0.out hb1)).mono ?_
  rintro e w2 ⟨rfl, hb2⟩
  go_wp2_with fail
  go_ret
  exact gives rfl rfl (below_trans (below_trans hb0.out hb1) hb2)
end Go.Proofs.YtebhgcejcdgdbaaGreatDoor.Sp
