/-
  LAYER 4, PACKAGE spec: a range's text; Check.
-/
import Derived.Test.YtmeaajhongalaaaGreatDoorSpecWrite
namespace Go.Proofs.YtmeaajhongalaaaGreatDoor.Sp
open Go.RowKit Go.Sort
open Go.Proofs.YtmeaajhongalaaaGreatDoor Go.Proofs.YtmeaajhongalaaaGreatDoor.Nu Go.Proofs.YtmeaajhongalaaaGreatDoor.Vs

theorem bytes_app (l m : List UInt8) : Lib.byteCells (l ++ m) = Lib.byteCells l ++ Lib.byteCells m := by simp [Lib.byteCells]
theorem strCells_l (m : List UInt8) : Lib.strCells ⟨m.toArray⟩ = Lib.byteCells m := rfl

/-- the text of the first so many -/
def upTo (c : UInt8) (ts : List (List UInt8)) (k : Nat) : List UInt8 := joinl c (ts.take k)
theorem upTo_zero (c : UInt8) (ts : List (List UInt8)) : upTo c ts 0 = [] := rfl
theorem upTo_one {c : UInt8} {ts : List (List UInt8)} {t : List UInt8} (h : ts[0]? = some t) : upTo c ts 1 = t := by
  unfold upTo
  cases ts with
  | nil => simp at h
  | cons a ts => simp at h; subst h; rfl
theorem upTo_more {c : UInt8} {ts : List (List UInt8)} {k : Nat} {t : List UInt8} (h : ts[k]? = some t) (hk : 0 < k) : upTo c ts (k + 1) = upTo c ts k ++ c :: t := by
  unfold upTo
  rw [List.take_add_one, h]
  show joinl c (ts.take k ++ [t]) = _
  have hkl := (List.getElem?_eq_some_iff.1 h).1
  rw [joinl_snoc]
  · intro e
    have := congrArg List.length e
    rw [List.length_take, List.length_nil] at this
    omega
theorem upTo_all (c : UInt8) (ts : List (List UInt8)) : upTo c ts ts.length = joinl c ts := by unfold upTo; rw [List.take_length]
theorem upTo_len {c : UInt8} {n k : Nat} {ts : List (List UInt8)} (h : ∀ p, p ∈ ts → p.length ≤ n) (hl : ts.length ≤ 4) : (upTo c ts k).length ≤ (n + 1) * 4 := by
  unfold upTo
  have h1 := joinl_len (c := c) (n := n) (ps := ts.take k) (fun p hp => h p (List.mem_of_mem_take hp))
  have h2 : (ts.take k).length ≤ 4 := by rw [List.length_take]; omega
  exact Nat.le_trans h1 (Nat.mul_le_mul_left _ h2)

theorem altText_len {cs : List CompT} (h4 : cs.length ≤ 4) (h : ∀ c, c ∈ cs → OkC c) : (altText cs).length ≤ 240 := by
  unfold altText
  have := joinl_len (c := 44) (n := 59) (ps := cs.map compText) (fun p hp => by
    obtain ⟨c, hc, rfl⟩ := List.mem_map.1 hp
    exact compText_len (h c hc))
  rw [List.length_map] at this
  omega

set_option maxRecDepth 20000 in
set_option maxHeartbeats 8000000 in
theorem write_any (rs : List (List CompT)) (v : Value) (h4 : rs.length ≤ 4) (hok : ∀ cs, cs ∈ rs → 1 ≤ cs.length ∧ cs.length ≤ 4 ∧ ∀ c, c ∈ cs → OkC c) (w : World) (hm : MaxAt w) (ht : TenAt w) (hg : SignsAt w) (hr : RngAt w v rs) :
    Calls Tryz.prog 124 #[.agg #[v]] w (Gives (.string ⟨(rngText rs).toArray⟩) w) := by
  obtain ⟨G, cp, vs, rfl, hl, hcm, hG, hcells, hat⟩ := hr
  have HW := hid (fun c hc w hm ht hg => compWrite_any c hc w hm ht hg)
  replace hok := hid hok
  replace hcells := hid hcells
  replace hat := hid hat
  replace hG := hid hG
  have hGz := hid (Nat.lt_of_lt_of_le hG.out (below_alloc (Below.refl w.heap.size w) (.cells #[.slice (some ⟨G, 0, none⟩) rs.length cp] 61)).size)
  have HB0 := hid (Lib.IsBuilderF.of (Lib.fresh_isBuilder 176 5 (w.alloc (.cells #[.slice (some ⟨G, 0, none⟩) rs.length cp] 61))))
  have hbs := hid (below_alloc (below_alloc (Below.refl w.heap.size w) (.cells #[.slice (some ⟨G, 0, none⟩) rs.length cp] 61)) (.cells #[.pointer none, .slice none 0 0] 176))
  have hsz1 : (w.alloc (.cells #[.slice (some ⟨G, 0, none⟩) rs.length cp] 61)).heap.size = w.heap.size + 1 := by simp
  rw [hsz1] at HB0
  clear hsz1
  go_enter Tryz.func124, Tryz.ntmps124
  go_wp2_with fail
  go_loopw [4, 5, 6, 7, 11] (fun _ _ _ _ i wr => ∃ k : Nat, k ≤ rs.length ∧ i = .int .i64 k ∧ Hid (Below w.heap.size w wr) ∧ Hid (w.heap.size + 1 < wr.heap.size) ∧ Hid (Lib.IsBuilderF 176 5 (w.heap.size + 1) (w.heap.size + 1) (Lib.byteCells (upTo 124 (rs.map altText) k)) wr)) (fun _ _ _ _ i _ => rs.length - (intOf i).toNat)
  case atStart => exact ⟨0, by omega, rfl, hbs, hid (by simp), HB0⟩
  case round =>
    obtain ⟨k, hk, rfl, hb, hz, hi⟩ := hrel
    clear HB0 hbs
    by_cases hlt : k < rs.length
    · have hx := hid (List.getElem?_eq_getElem hlt)
      generalize rs[k] = cs at hx
      obtain ⟨hcne, v, hv, hva⟩ := hat.out.2 k cs hx.out
      obtain ⟨Bk, cpk, rfl, hlk, hcmk, hBk, hck⟩ := hva
      have hce := hcells.out k _ hv
      rw [← hb.out.cell hG.out] at hce
      have hbl := Nat.lt_of_lt_of_le hG.out hb.out.size
      replace hBk := hid hBk
      replace hck := hid hck
      have hokc := hid (hok.out cs (List.mem_of_getElem? hx.out))
      have hxt := hid (show (rs.map altText)[k]? = some (altText cs) by rw [List.getElem?_map, hx.out]; rfl)
      have k4 : k < 4 := Nat.lt_of_lt_of_le hlt h4
      have htl := hid (show (upTo 124 (rs.map altText) k).length ≤ 964 from upTo_len (n := 240) (fun p hp => by
        obtain ⟨c', hc', rfl⟩ := List.mem_map.1 hp
        exact altText_len (hok.out c' hc').2.1 (hok.out c' hc').2.2) (by rw [List.length_map]; exact h4))
      clear hv hx hlk hcmk hcne
      by_cases hk0 : k = 0
      · have hout := hid (show ([] : List UInt8) ++ joinl 44 (cs.map compText) = upTo 124 (rs.map altText) (k + 1) by
          subst hk0; rw [upTo_one hxt.out]; rfl)
        have hPl := hid (show ([] : List UInt8).length ≤ 1000 by simp)
        have INI := hid (show Lib.IsBuilderF 176 5 (w.heap.size + 1) (w.heap.size + 1) (Lib.byteCells ([] : List UInt8)) wr by
          have := hi.out; rw [hk0, upTo_zero] at this; exact this)
        have INB := hb
        have INZ := hz
        have kI : ¬ (0 : Int) < (k : Int) := by omega
        clear hk0 hi hxt
        go_wp2_with fail
        go_loopw [6, 7, 21] (fun _ _ j wz => ∃ jj : Nat, jj ≤ cs.length ∧ j = .int .i64 jj ∧ Hid (Below w.heap.size w wz) ∧ Hid (w.heap.size + 1 < wz.heap.size) ∧ Hid (Lib.IsBuilderF 176 5 (w.heap.size + 1) (w.heap.size + 1) (Lib.byteCells (([] : List UInt8) ++ upTo 44 (cs.map compText) jj)) wz)) (fun _ _ j _ => cs.length - (intOf j).toNat)
        case atStart => exact ⟨0, by omega, rfl, INB, INZ, hid (by rw [upTo_zero, List.append_nil]; exact INI.out)⟩
        case round =>
          obtain ⟨jj, hj, rfl, hbj, hzj, hij⟩ := hrel
          clear INB INZ INI
          by_cases hltj : jj < cs.length
          · have hx := hid (List.getElem?_eq_getElem hltj)
            generalize cs[jj] = c at hx
            have hbl := Nat.lt_of_lt_of_le hBk.out hbj.out.size
            obtain ⟨c0, c1, c2, c3, c4⟩ := elem_cells (w := wr) (fun k x hk => by rw [hbj.out.cell hBk.out]; exact hck.out k x hk) hx.out
            have hxt := hid (show (cs.map compText)[jj]? = some (compText c) by rw [List.getElem?_map, hx.out]; rfl)
            have HWc := hid (HW.out c (hokc.out.2.2 c (List.mem_of_getElem? hx.out)))
            have hcl := hid (compText_len (hokc.out.2.2 c (List.mem_of_getElem? hx.out)))
            have hul := hid (show (upTo 44 (cs.map compText) jj).length ≤ 240 from upTo_len (n := 59) (fun p hp => by
              obtain ⟨c', hc', rfl⟩ := List.mem_map.1 hp
              exact compText_len (hokc.out.2.2 c' hc')) (by rw [List.length_map]; exact hokc.out.2.1))
            have jj4 : jj < 4 := Nat.lt_of_lt_of_le hltj hokc.out.2.1
            generalize hU : upTo 44 (cs.map compText) jj = U at hij hul
            replace hU := hid hU
            have hCT := hid (show (compText c).length ≤ 59 from hcl.out)
            generalize hcq : compText c = CT at HWc hxt hCT
            replace hcq := hid hcq
            have hctz := hid (show (⟨CT.toArray⟩ : ByteArray).size ≤ 59 by show CT.toArray.size ≤ 59; simpa using hCT.out)
            clear hx hcl
            generalize (c.op : Int) = o at *
            generalize (c.a : Int) = x at *
            generalize (c.b : Int) = y at *
            generalize (c.c : Int) = z at *
            generalize (⟨c.p.toArray⟩ : ByteArray) = p at *
            have hbb := hid (below_alloc hbj.out (.cells #[.int .i64 o, .int .i64 x, .int .i64 y, .int .i64 z, .string p] 217))
            have hib := hid (isBuilder_below hij.out (below_alloc (Below.refl _ _) (.cells #[.int .i64 o, .int .i64 x, .int .i64 y, .int .i64 z, .string p] 217)))
            have hzb := hid (show w.heap.size + 1 < (wr.alloc (.cells #[.int .i64 o, .int .i64 x, .int .i64 y, .int .i64 z, .string p] 217)).heap.size by have := hzj.out; simp; omega)
            have hnb := hid (Blk.new wr [.int .i64 o, .int .i64 x, .int .i64 y, .int .i64 z, .string p] 217)
            have hnl := hid (show w.heap.size + 1 < wr.heap.size from hzj.out)
            by_cases hj0 : jj = 0
            · have hfin := hid (show ([] : List UInt8) ++ upTo 44 (cs.map compText) (jj + 1) = (([] : List UInt8) ++ U) ++ CT by
                subst hj0
                rw [upTo_one hxt.out, ← hU.out, upTo_zero, List.append_nil])
              have jI : ¬ (0 : Int) < (jj : Int) := by omega
              clear hj0 hU hxt hij hcq
              go_wp2_with (go_at_call 158; (with_reducible refine (HWc.out _ (hm.below hbb.out) (ht.below hbb.out) (hg.below hbb.out)).mono ?_); rintro e wa ⟨rfl, hba⟩)
              refine (writeString_any (w.heap.size + 1) (w.heap.size + 1) (Lib.byteCells (([] : List UInt8) ++ U)) ⟨CT.toArray⟩ wa (isBuilder_below hib.out hba) (by rw [Lib.byteCells_length, List.length_append]; have := hul.out; have := hctz.out; have := hPl.out; omega) (Nat.le_of_lt (Nat.lt_of_lt_of_le hzb.out hba.size))).mono ?_
              rintro e wb ⟨rfl, hIb, hBb, _⟩
              go_wp2_with fail
              go_roundw
              case rel => exact ⟨jj + 1, by omega, by go_num, hid ((below_trans hbb.out hba).trans (hBb.mono (Nat.le_succ _))), hid (Nat.lt_of_lt_of_le (Nat.lt_of_lt_of_le hzb.out hba.size) hBb.size), hid (by rw [hfin.out, bytes_app]; exact hIb)⟩
              case measure => simp [intOf]; omega
            · have hfin := hid (show ([] : List UInt8) ++ upTo 44 (cs.map compText) (jj + 1) = ((([] : List UInt8) ++ U) ++ [44]) ++ CT by
                rw [upTo_more hxt.out (by omega), hU.out]; simp)
              have jI : (0 : Int) < (jj : Int) := by omega
              clear hj0 hU hxt hij hcq
              go_wp2_with fail
              generalize wr.alloc (.cells [.int .i64 o, .int .i64 x, .int .i64 y, .int .i64 z, .string p].toArray 217) = WA at hbb hib hzb hnb ⊢
              generalize wr.heap.size = bc at hnb hnl ⊢
              refine (writeString_any (w.heap.size + 1) (w.heap.size + 1) (Lib.byteCells (([] : List UInt8) ++ U)) ⟨#[44]⟩ WA hib.out (by rw [Lib.byteCells_length, List.length_append]; have := hul.out; have := hPl.out; have e1 : (⟨#[44]⟩ : ByteArray).size = 1 := rfl; omega) (Nat.le_of_lt hzb.out)).mono ?_
              rintro e wa ⟨rfl, hIa, hBa, hOa⟩
              have hb2 := hid (hbb.out.trans (hBa.mono (Nat.le_succ _)))
              have hn2 := hid (show Blk wa bc [.int .i64 o, .int .i64 x, .int .i64 y, .int .i64 z, .string p] 217 from hnb.out.others (by decide) (by have := hnl.out; omega) hOa)
              have hz2 := hid (Nat.lt_of_lt_of_le hzb.out hBa.size)
              have r0 := hn2.out.cell 0 rfl
              have r1 := hn2.out.cell 1 rfl
              have r2 := hn2.out.cell 2 rfl
              have r3 := hn2.out.cell 3 rfl
              have r4 := hn2.out.cell 4 rfl
              clear c0 c1 c2 c3 c4 hBa hib hnb hbb hzb
              go_wp2_with (go_at_call 158; (with_reducible refine (HWc.out _ (hm.below hb2.out) (ht.below hb2.out) (hg.below hb2.out)).mono ?_); rintro e wc ⟨rfl, hbc⟩)
              refine (writeString_any (w.heap.size + 1) (w.heap.size + 1) (Lib.byteCells ((([] : List UInt8) ++ U) ++ [44])) ⟨CT.toArray⟩ wc (isBuilder_below (by rw [bytes_app]; exact hIa) hbc) (by rw [Lib.byteCells_length, List.length_append, List.length_append]; have := hul.out; have := hctz.out; have := hPl.out; simp; omega) (Nat.le_of_lt (Nat.lt_of_lt_of_le hz2.out hbc.size))).mono ?_
              rintro e wd ⟨rfl, hId, hBd, _⟩
              go_wp2_with fail
              go_roundw
              case rel => exact ⟨jj + 1, by omega, by go_num, hid ((below_trans hb2.out hbc).trans (hBd.mono (Nat.le_succ _))), hid (Nat.lt_of_lt_of_le (Nat.lt_of_lt_of_le hz2.out hbc.size) hBd.size), hid (by rw [hfin.out, bytes_app]; exact hId)⟩
              case measure => simp [intOf]; omega
          · have hje : jj = cs.length := by omega
            have hfin := hid (show ([] : List UInt8) ++ upTo 44 (cs.map compText) jj = upTo 124 (rs.map altText) (k + 1) by
              rw [hje, show cs.length = (cs.map compText).length by simp, upTo_all]
              exact hout.out)
            rw [hfin.out] at hij
            clear hfin hje
            go_wp2_with fail
            go_roundw
            case rel => exact ⟨k + 1, by omega, by go_num, hbj, hzj, hij⟩
            case measure => simp [intOf]; omega
      · have hout := hid (show (upTo 124 (rs.map altText) k ++ [124]) ++ joinl 44 (cs.map compText) = upTo 124 (rs.map altText) (k + 1) by
          rw [upTo_more hxt.out (by omega)]; simp [altText])
        have hPl := hid (show (upTo 124 (rs.map altText) k ++ [124]).length ≤ 1000 by rw [List.length_append]; have := htl.out; simp; omega)
        have kI : (0 : Int) < (k : Int) := by omega
        clear hk0 hxt
        go_wp2_with fail
        refine (writeString_any (w.heap.size + 1) (w.heap.size + 1) _ ⟨#[124]⟩ wr hi.out (by rw [Lib.byteCells_length]; have := htl.out; have e1 : (⟨#[124]⟩ : ByteArray).size = 1 := rfl; omega) (Nat.le_of_lt hz.out)).mono ?_
        rintro e wq ⟨rfl, hIq, hBq, _⟩
        have INI := hid (show Lib.IsBuilderF 176 5 (w.heap.size + 1) (w.heap.size + 1) (Lib.byteCells (upTo 124 (rs.map altText) k ++ [124])) wq by rw [bytes_app]; exact hIq)
        have INB := hid (hb.out.trans (hBq.mono (Nat.le_succ _)))
        have INZ := hid (Nat.lt_of_lt_of_le hz.out hBq.size)
        clear hi hIq hBq hce hbl
        generalize hPP : upTo 124 (rs.map altText) k ++ [124] = PP at INI hPl hout
        replace hPP := hid hPP
        go_wp2_with fail
        go_loopw [6, 7, 21] (fun _ _ j wz => ∃ jj : Nat, jj ≤ cs.length ∧ j = .int .i64 jj ∧ Hid (Below w.heap.size w wz) ∧ Hid (w.heap.size + 1 < wz.heap.size) ∧ Hid (Lib.IsBuilderF 176 5 (w.heap.size + 1) (w.heap.size + 1) (Lib.byteCells (PP ++ upTo 44 (cs.map compText) jj)) wz)) (fun _ _ j _ => cs.length - (intOf j).toNat)
        case atStart => exact ⟨0, by omega, rfl, INB, INZ, hid (by rw [upTo_zero, List.append_nil]; exact INI.out)⟩
        case round =>
          obtain ⟨jj, hj, rfl, hbj, hzj, hij⟩ := hrel
          clear INB INZ INI
          by_cases hltj : jj < cs.length
          · have hx := hid (List.getElem?_eq_getElem hltj)
            generalize cs[jj] = c at hx
            have hbl := Nat.lt_of_lt_of_le hBk.out hbj.out.size
            obtain ⟨c0, c1, c2, c3, c4⟩ := elem_cells (w := wr) (fun k x hk => by rw [hbj.out.cell hBk.out]; exact hck.out k x hk) hx.out
            have hxt := hid (show (cs.map compText)[jj]? = some (compText c) by rw [List.getElem?_map, hx.out]; rfl)
            have HWc := hid (HW.out c (hokc.out.2.2 c (List.mem_of_getElem? hx.out)))
            have hcl := hid (compText_len (hokc.out.2.2 c (List.mem_of_getElem? hx.out)))
            have hul := hid (show (upTo 44 (cs.map compText) jj).length ≤ 240 from upTo_len (n := 59) (fun p hp => by
              obtain ⟨c', hc', rfl⟩ := List.mem_map.1 hp
              exact compText_len (hokc.out.2.2 c' hc')) (by rw [List.length_map]; exact hokc.out.2.1))
            have jj4 : jj < 4 := Nat.lt_of_lt_of_le hltj hokc.out.2.1
            generalize hU : upTo 44 (cs.map compText) jj = U at hij hul
            replace hU := hid hU
            have hCT := hid (show (compText c).length ≤ 59 from hcl.out)
            generalize hcq : compText c = CT at HWc hxt hCT
            replace hcq := hid hcq
            have hctz := hid (show (⟨CT.toArray⟩ : ByteArray).size ≤ 59 by show CT.toArray.size ≤ 59; simpa using hCT.out)
            clear hx hcl
            generalize (c.op : Int) = o at *
            generalize (c.a : Int) = x at *
            generalize (c.b : Int) = y at *
            generalize (c.c : Int) = z at *
            generalize (⟨c.p.toArray⟩ : ByteArray) = p at *
            have hbb := hid (below_alloc hbj.out (.cells #[.int .i64 o, .int .i64 x, .int .i64 y, .int .i64 z, .string p] 217))
            have hib := hid (isBuilder_below hij.out (below_alloc (Below.refl _ _) (.cells #[.int .i64 o, .int .i64 x, .int .i64 y, .int .i64 z, .string p] 217)))
            have hzb := hid (show w.heap.size + 1 < (wr.alloc (.cells #[.int .i64 o, .int .i64 x, .int .i64 y, .int .i64 z, .string p] 217)).heap.size by have := hzj.out; simp; omega)
            have hnb := hid (Blk.new wr [.int .i64 o, .int .i64 x, .int .i64 y, .int .i64 z, .string p] 217)
            have hnl := hid (show w.heap.size + 1 < wr.heap.size from hzj.out)
            by_cases hj0 : jj = 0
            · have hfin := hid (show PP ++ upTo 44 (cs.map compText) (jj + 1) = (PP ++ U) ++ CT by
                subst hj0
                rw [upTo_one hxt.out, ← hU.out, upTo_zero, List.append_nil])
              have jI : ¬ (0 : Int) < (jj : Int) := by omega
              clear hj0 hU hxt hij hcq
              go_wp2_with (go_at_call 158; (with_reducible refine (HWc.out _ (hm.below hbb.out) (ht.below hbb.out) (hg.below hbb.out)).mono ?_); rintro e wa ⟨rfl, hba⟩)
              refine (writeString_any (w.heap.size + 1) (w.heap.size + 1) (Lib.byteCells (PP ++ U)) ⟨CT.toArray⟩ wa (isBuilder_below hib.out hba) (by rw [Lib.byteCells_length, List.length_append]; have := hul.out; have := hctz.out; have := hPl.out; omega) (Nat.le_of_lt (Nat.lt_of_lt_of_le hzb.out hba.size))).mono ?_
              rintro e wb ⟨rfl, hIb, hBb, _⟩
              go_wp2_with fail
              go_roundw
              case rel => exact ⟨jj + 1, by omega, by go_num, hid ((below_trans hbb.out hba).trans (hBb.mono (Nat.le_succ _))), hid (Nat.lt_of_lt_of_le (Nat.lt_of_lt_of_le hzb.out hba.size) hBb.size), hid (by rw [hfin.out, bytes_app]; exact hIb)⟩
              case measure => simp [intOf]; omega
            · have hfin := hid (show PP ++ upTo 44 (cs.map compText) (jj + 1) = ((PP ++ U) ++ [44]) ++ CT by
                rw [upTo_more hxt.out (by omega), hU.out]; simp)
              have jI : (0 : Int) < (jj : Int) := by omega
              clear hj0 hU hxt hij hcq
              go_wp2_with fail
              generalize wr.alloc (.cells [.int .i64 o, .int .i64 x, .int .i64 y, .int .i64 z, .string p].toArray 217) = WA at hbb hib hzb hnb ⊢
              generalize wr.heap.size = bc at hnb hnl ⊢
              refine (writeString_any (w.heap.size + 1) (w.heap.size + 1) (Lib.byteCells (PP ++ U)) ⟨#[44]⟩ WA hib.out (by rw [Lib.byteCells_length, List.length_append]; have := hul.out; have := hPl.out; have e1 : (⟨#[44]⟩ : ByteArray).size = 1 := rfl; omega) (Nat.le_of_lt hzb.out)).mono ?_
              rintro e wa ⟨rfl, hIa, hBa, hOa⟩
              have hb2 := hid (hbb.out.trans (hBa.mono (Nat.le_succ _)))
              have hn2 := hid (show Blk wa bc [.int .i64 o, .int .i64 x, .int .i64 y, .int .i64 z, .string p] 217 from hnb.out.others (by decide) (by have := hnl.out; omega) hOa)
              have hz2 := hid (Nat.lt_of_lt_of_le hzb.out hBa.size)
              have r0 := hn2.out.cell 0 rfl
              have r1 := hn2.out.cell 1 rfl
              have r2 := hn2.out.cell 2 rfl
              have r3 := hn2.out.cell 3 rfl
              have r4 := hn2.out.cell 4 rfl
              clear c0 c1 c2 c3 c4 hBa hib hnb hbb hzb
              go_wp2_with (go_at_call 158; (with_reducible refine (HWc.out _ (hm.below hb2.out) (ht.below hb2.out) (hg.below hb2.out)).mono ?_); rintro e wc ⟨rfl, hbc⟩)
              refine (writeString_any (w.heap.size + 1) (w.heap.size + 1) (Lib.byteCells ((PP ++ U) ++ [44])) ⟨CT.toArray⟩ wc (isBuilder_below (by rw [bytes_app]; exact hIa) hbc) (by rw [Lib.byteCells_length, List.length_append, List.length_append]; have := hul.out; have := hctz.out; have := hPl.out; simp; omega) (Nat.le_of_lt (Nat.lt_of_lt_of_le hz2.out hbc.size))).mono ?_
              rintro e wd ⟨rfl, hId, hBd, _⟩
              go_wp2_with fail
              go_roundw
              case rel => exact ⟨jj + 1, by omega, by go_num, hid ((below_trans hb2.out hbc).trans (hBd.mono (Nat.le_succ _))), hid (Nat.lt_of_lt_of_le (Nat.lt_of_lt_of_le hz2.out hbc.size) hBd.size), hid (by rw [hfin.out, bytes_app]; exact hId)⟩
              case measure => simp [intOf]; omega
          · have hje : jj = cs.length := by omega
            have hfin := hid (show PP ++ upTo 44 (cs.map compText) jj = upTo 124 (rs.map altText) (k + 1) by
              rw [hje, show cs.length = (cs.map compText).length by simp, upTo_all]
              exact hout.out)
            rw [hfin.out] at hij
            clear hfin hje
            go_wp2_with fail
            go_roundw
            case rel => exact ⟨k + 1, by omega, by go_num, hbj, hzj, hij⟩
            case measure => simp [intOf]; omega
    · have hke : k = rs.length := by omega
      have hfin := hid (show upTo 124 (rs.map altText) k = rngText rs by
        rw [hke, show rs.length = (rs.map altText).length by simp, upTo_all]; rfl)
      rw [hfin.out] at hi
      clear hfin hke
      have hstr := hid (builderString_any (w.heap.size + 1) (w.heap.size + 1) (rngText rs) wr hi.out (Nat.le_of_lt hz.out))
      go_wp2_with fail
      refine hstr.out.mono ?_
      rintro e wq ⟨rfl, hBq⟩
      go_wp2_with fail
      go_ret
      exact gives rfl rfl (hb.out.trans (hBq.mono (Nat.le_succ _)))
end Go.Proofs.YtmeaajhongalaaaGreatDoor.Sp
