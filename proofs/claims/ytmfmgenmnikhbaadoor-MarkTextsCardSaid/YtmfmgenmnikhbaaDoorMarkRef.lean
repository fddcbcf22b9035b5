/-
  LAYER 6, THE DOCUMENT's ANSWERS (package chandlerref06).
-/
import Derived.Test.YtmfmgenmnikhbaaDoorMarkText
namespace Go.Proofs.YtmfmgenmnikhbaaDoor.Mk
open Go.RowKit

theorem bit_mod (n i : Nat) : ((n : Int) / 2 ^ i).tmod 2 = (((n.testBit i).toNat : Nat) : Int) := by
  rw [Nat.testBit_eq_decide_div_mod_eq]
  have e : ((n : Int) / 2 ^ i) = ((n / 2 ^ i : Nat) : Int) := by simp
  rw [e]
  generalize n / 2 ^ i = x
  rw [Int.tmod_eq_emod_of_nonneg (by omega)]
  have : x % 2 = 0 ∨ x % 2 = 1 := by omega
  rcases this with h | h <;> rw [h] <;> simp <;> omega

def underTo (a b k : Nat) : Prop := ∀ i, i < k → a.testBit i = true → b.testBit i = true

set_option maxHeartbeats 1000000 in
theorem runder_any (a b : Nat) (ha : a < 4294967296) (hb : b < 4294967296) (w : World) :
    Calls Tryd.prog 17 #[.int .u32 (a : Int), .int .u32 (b : Int)] w fun e w' => e = .returned (.bool (underV a b)) ∧ w = w' := by
  have HU := hid (under_bits ha hb)
  generalize underV a b = U at HU ⊢
  go_enter Tryd.func17, Tryd.ntmps17
  go_wp2_with fail
  go_loop [5] (fun v => ∃ k : Nat, k ≤ 32 ∧ v = .int .i64 k ∧ Hid (underTo a b k)) (fun v => 32 - (intOf v).toNat)
  case atStart => exact ⟨0, by omega, rfl, hid (fun i h => absurd h (Nat.not_lt_zero i))⟩
  case round =>
    obtain ⟨k, hk, rfl, hu⟩ := hrel
    by_cases hlt : k < 32
    · have ea := bit_mod a k
      have eb := bit_mod b k
      cases hta : a.testBit k
      · rw [hta] at ea
        have HN := hid (show underTo a b (k + 1) from fun i hi h => by
          rcases Nat.lt_or_ge i k with h' | h'
          · exact hu.out i h' h
          · rw [show i = k from by omega, hta] at h; cases h)
        clear hta eb
        have ea' : ((a : Int) / 2 ^ k).tmod 2 = 0 := ea
        clear ea
        go_wp2_with fail
        go_round
        case rel => exact ⟨k + 1, by omega, by go_num, HN⟩
        case measure => simp [intOf]; omega
      · rw [hta] at ea
        have ea' : ((a : Int) / 2 ^ k).tmod 2 = 1 := ea
        clear ea
        cases htb : b.testBit k
        · rw [htb] at eb
          have eb' : ((b : Int) / 2 ^ k).tmod 2 = 0 := eb
          clear eb
          have HF := hid (show U = false by
            cases hU : U
            · rfl
            · have := HU.out.1 hU k hlt hta
              rw [htb] at this; cases this)
          clear hta htb
          go_wp2_with fail
          go_ret
          exact ⟨ret_bool HF.out.symm, rfl⟩
        · rw [htb] at eb
          have eb' : ((b : Int) / 2 ^ k).tmod 2 = 1 := eb
          clear eb
          have HN := hid (show underTo a b (k + 1) from fun i hi h => by
            rcases Nat.lt_or_ge i k with h' | h'
            · exact hu.out i h' h
            · rw [show i = k from by omega]; exact htb)
          clear hta htb
          go_wp2_with fail
          go_round
          case rel => exact ⟨k + 1, by omega, by go_num, HN⟩
          case measure => simp [intOf]; omega
    · have HT := hid (show U = true from HU.out.2 (fun i hi h => hu.out i (by omega) h))
      go_wp2_with fail
      go_ret
      exact ⟨ret_bool HT.out.symm, rfl⟩

set_option maxRecDepth 100000 in
set_option maxHeartbeats 1000000 in
theorem rtext_any (n : Nat) (w : World) :
    Calls Tryd.prog 14 #[.int .u32 (n : Int)] w (Gives (.string ⟨(textV n).toArray⟩) w) := by
  go_enter Tryd.func14, Tryd.ntmps14
  go_wp2_with fail
  go_loopw [3, 4] (fun v i wr => ∃ k : Nat, k ≤ 26 ∧ i = .int .i64 k ∧ v = .string ⟨(labsTo k n).toArray⟩ ∧ Below w.heap.size w wr) (fun _ i _ => 26 - (intOf i).toNat)
  case atStart => exact ⟨0, by omega, rfl, rfl, Below.refl _ _⟩
  case round =>
    obtain ⟨k, hk, rfl, rfl, hb⟩ := hrel
    have hll : (labsTo k n).length ≤ 26 := by
      unfold labsTo; rw [List.length_map]
      exact Nat.le_trans (List.length_filter_le _ _) (by simp; omega)
    have HS := hid (labsTo_succ k n)
    by_cases hlt : k < 26
    · have ea := bit_mod n k
      cases hta : n.testBit k
      · rw [hta] at ea HS
        have ea' : ((n : Int) / 2 ^ k).tmod 2 = 0 := ea
        have HS' := hid (show labsTo (k + 1) n = labsTo k n by rw [HS.out]; simp)
        clear ea hta HS
        generalize labsTo k n = l at *
        go_wp2_with fail
        go_roundw
        case rel => exact ⟨k + 1, by omega, by go_num, by rw [HS'.out], hb⟩
        case measure => simp [intOf]; omega
      · rw [hta] at ea HS
        have ea' : ((n : Int) / 2 ^ k).tmod 2 = 1 := ea
        have HS' := hid (show labsTo (k + 1) n = labsTo k n ++ [UInt8.ofNat (97 + k)] by rw [HS.out]; simp)
        have hu := ofNat_to hlt
        generalize UInt8.ofNat (97 + k) = u at hu HS'
        have cv := run_one_byte (P := Tryd.prog) wr 53 9 5 5 (97 + (k : Int)) u (by rw [hu]; omega) Tryd.underlying53 Tryd.underlying5 Tryd.underlying9
        clear ea hta HS hu
        generalize labsTo k n = l at *
        go_wp2_with fail
        go_roundw
        case rel => exact ⟨k + 1, by omega, by go_num, str_append (b := [u]) HS'.out, hb.alloc (by have := hb.size; omega) _⟩
        case measure => simp [intOf]; omega
    · have hke : k = 26 := by omega
      subst hke
      have HT := hid (show textV n = if labsTo 26 n = [] then [45] else labsTo 26 n from rfl)
      generalize labsTo 26 n = l at *
      cases l with
      | nil =>
        go_wp2_with fail
        go_ret
        exact gives rfl (by rw [HT.out]; rfl) hb
      | cons c t =>
        have HT' := hid (show textV n = c :: t by rw [HT.out, if_neg (by simp)])
        have hne : (c :: t).isEmpty = false := rfl
        clear HT
        generalize c :: t = l at *
        go_wp2_with fail
        go_ret
        exact gives rfl (by rw [HT'.out]; rfl) hb

/-- the 26 places, 1 where a label is -/
def bitsL (n : Nat) : List Value := (List.range 26).map fun i => .int .i64 (((n.testBit i).toNat : Nat) : Int)
theorem bitsL_get (n i : Nat) (h : i < 26) : (bitsL n)[i]? = some (.int .i64 (((n.testBit i).toNat : Nat) : Int)) := by
  unfold bitsL; rw [List.getElem?_map, List.getElem?_range h]; rfl
theorem bitsL_set (n j : Nat) (hn : n < 2 ^ j) : (bitsL n).set j (.int .i64 1) = bitsL (n + 2 ^ j) := by
  apply List.ext_getElem?
  intro i
  rw [List.getElem?_set]
  by_cases h : i < 26
  · rw [bitsL_get _ i h, bitsL_get _ i h]
    have hl : (bitsL n).length = 26 := by simp [bitsL]
    by_cases e : j = i
    · subst e
      rw [if_pos rfl, if_pos (by rw [hl]; exact h), Nat.add_comm, Nat.testBit_two_pow_add_eq, Nat.testBit_lt_two_pow hn]; rfl
    · rw [if_neg e]
      rcases Nat.lt_or_ge i j with h' | h'
      · rw [Nat.add_comm, Nat.testBit_two_pow_add_gt h']
      · have h3 : n + 2 ^ j < 2 ^ i := by
          have : 2 ^ (j + 1) ≤ 2 ^ i := Nat.pow_le_pow_right (by decide : 0 < 2) (by omega)
          rw [Nat.pow_succ] at this; omega
        rw [Nat.testBit_lt_two_pow h3, Nat.testBit_lt_two_pow (by omega)]
  · have h1 : ∀ m, (bitsL m)[i]? = none := fun m => List.getElem?_eq_none (by simp [bitsL]; omega)
    rw [h1, h1]
    by_cases e : j = i
    · rw [if_pos e, if_neg (by simp [bitsL]; omega)]
    · rw [if_neg e]
theorem infoI : (Tryd.prog.info? 3).map (fun i => (i.zero, i.size, i.bytes)) = some (some (.int .i64 0), 1, 8) := by kernel_rfl
theorem make26 (w : World) : (Instr.makeSlice 26 (.int .i64 26) (.int .i64 26)).run Tryd.prog w = .ok (.slice (some ⟨w.heap.size, 0, none⟩) 26 26) (w.alloc (.cells (bitsL 0).toArray 3)) := by
  obtain ⟨iI, ki, kz0, kz1, kz2⟩ := info_parts infoI
  have := run_makeSlice (P := Tryd.prog) w 26 3 iI (.int .i64 0) Tryd.underlying26 ki kz0 .i64 .i64 26 26 (by decide) (by decide) (by rw [kz1]; decide) (by rw [kz2]; decide) (by decide)
  rw [this, kz1, show madeCells (Value.int IntKind.i64 0).cells (Int.toNat 26 * 1) = (bitsL 0).toArray from by kernel_rfl]
  rfl

def LabIs (l : List UInt8) (w : World) (e : Ending) (w' : World) : Prop := Below w.heap.size w w' ∧
  ((okL l = true ∧ e = .returned (.tuple #[.slice (some ⟨w.heap.size, 0, none⟩) 26 26, .bool true]) ∧ Blk w' w.heap.size (bitsL (numL l)) 3) ∨ (okL l = false ∧ ∃ v, e = .returned (.tuple #[v, .bool false])))
theorem lab_no {l : List UInt8} {w w' : World} {e : Ending} {v : Value} (h : okL l = false) (he : e = .returned (.tuple #[v, .bool false])) (hb : Below w.heap.size w w') : LabIs l w e w' := ⟨hb, .inr ⟨h, v, he⟩⟩
theorem lab_yes {l : List UInt8} {w w' : World} {e : Ending} (h : okL l = true) (he : e = .returned (.tuple #[.slice (some ⟨w.heap.size, 0, none⟩) 26 26, .bool true])) (hk : Blk w' w.heap.size (bitsL (numL l)) 3) (hb : Below w.heap.size w w') : LabIs l w e w' := ⟨hb, .inl ⟨h, he, hk⟩⟩

set_option maxRecDepth 100000 in
set_option maxHeartbeats 4000000 in
theorem rlabels_any (s : ByteArray) (hs : s.size ≤ maxLen) (w : World) :
    Calls Tryd.prog 9 #[.string s] w (LabIs s.data.toList w) := by
  unfold maxLen at hs
  have hlen := hid (show s.data.toList.length = s.size by simp)
  have hmk := make26 w
  have B0 := hid (Blk.new w (bitsL 0) 3)
  by_cases h45 : s.data.toList = [45]
  · obtain rfl : s = ⟨#[45]⟩ := by
      apply ByteArray.ext; apply Array.toList_inj.1; rw [h45]
    have HQ := hid (fun e he => lab_yes (e := e) (l := [45]) (w := w) (w' := w.alloc (.cells (bitsL 0).toArray 3)) rfl he B0.out (below_alloc (Below.refl _ _) _))
    generalize (bitsL 0).toArray = Z at hmk HQ
    go_enter Tryd.func9, Tryd.ntmps9
    go_wp2
    go_ret2
    exact HQ.out _ rfl
  · have hq : (s.toList == [45]) = false := by
      rw [ByteArray.toList_eq, beq_eq_false_iff_ne]; exact h45
    have H45 := hid h45
    clear h45
    have HB0 : Hid (Blk (w.alloc (.cells (bitsL 0).toArray 3)) w.heap.size (bitsL (lsum (s.data.toList.take 0))) 3) := B0
    generalize hZ : (bitsL 0).toArray = Z at hmk HB0
    clear hZ B0
    go_enter Tryd.func9, Tryd.ntmps9
    go_wp2_with fail
    go_loopw [5] (fun i wr => ∃ k : Nat, k ≤ s.size ∧ i = .int .i64 k ∧ Hid (rises (s.data.toList.take k) = true) ∧ Hid (Blk wr w.heap.size (bitsL (lsum (s.data.toList.take k))) 3) ∧ Below w.heap.size w wr) (fun i _ => s.size - (intOf i).toNat)
    case atStart => exact ⟨0, by omega, rfl, hid rfl, HB0, below_alloc (Below.refl _ _) _⟩
    case round =>
      obtain ⟨k, hk, rfl, hr, hblk, hb⟩ := hrel
      by_cases hlt : k < s.size
      · have hbk := hid (byte_at s k hlt)
        have hcc : (s[k].toNat : Int) ≤ 255 := by have := s[k].toNat_lt; omega
        have no : okL s.data.toList = false → Hid (∀ w' e v, e = .returned (.tuple #[v, .bool false]) → Below w.heap.size w w' → LabIs s.data.toList w e w') := fun h => hid (fun w' e v he hb => lab_no h he hb)
        by_cases h1 : 97 ≤ (s[k].toNat : Int)
        · by_cases h2 : (s[k].toNat : Int) ≤ 122
          · have hc : isL s[k] = true := by unfold isL; simp; omega
            have d1 : decide ((s[k].toNat : Int) < 97) = false := decide_eq_false (by omega)
            have d2 : decide ((122 : Int) < s[k].toNat) = false := decide_eq_false (by omega)
            have hjI : (s[k].toNat : Int) - 97 = ((s[k].toNat - 97 : Nat) : Int) := by omega
            have hj26 : s[k].toNat - 97 < 26 := by omega
            have hcell := hblk.out.cell (s[k].toNat - 97) (bitsL_get _ _ hj26)
            have hfree := hblk.out.free
            have hlt2 := hblk.out.lt
            -- what the store leaves, where the letter stands above those ahead
            have step : ¬ lb s[k] ≤ lsum (s.data.toList.take k) → Hid (rises (s.data.toList.take (k + 1)) = true ∧ ∀ m, Blk ((wr.setCell ⟨w.heap.size, s[k].toNat - 97, none⟩ (.int .i64 1)).drewN m) w.heap.size (bitsL (lsum (s.data.toList.take (k + 1)))) 3) := fun h => hid (by
              obtain ⟨n1, n2⟩ := next_ok hr.out hbk.out hc h
              refine ⟨n1, fun m => ?_⟩
              rw [n2]
              unfold lb at h ⊢
              rw [← bitsL_set _ _ (by omega)]
              exact Blk.below (hblk.out.set _ _) (below_drewN' (Below.refl _ _) m))
            have hlow : lb s[k] ≤ lsum (s.data.toList.take k) → Hid (okL s.data.toList = false) := fun h => hid (fail_low H45.out hr.out hbk.out hc h)
            have hiff := lb_le hr.out hc
            by_cases h0 : k = 0
            · subst h0
              have hst := step (fun h => by
                have := hiff.1 h
                exact this (by intro x hx; simp at hx))
              clear step hlow hiff no hc hbk
              have d0 : decide (0 < 0) = false := rfl
              generalize s[0].toNat - 97 = j at *
              go_wp2_with fail
              go_quiet (fail)
              go_wp2
              go_roundw
              case rel => exact ⟨1, by omega, rfl, hid hst.out.1, hid (hst.out.2 _), below_drewN' (hb.setCell (p := ⟨w.heap.size, _, none⟩) (Nat.le_refl _) _) _⟩
              case measure => simp [intOf]; omega
            · have hk1 : k - 1 < s.size := by omega
              have hkI : (k : Int) - 1 = ((k - 1 : Nat) : Int) := by omega
              have hk0 : (0 : Int) < (k : Int) := by omega
              have d0 : decide (0 < k) = true := decide_eq_true (by omega)
              have hcc1 : (s[k - 1].toNat : Int) ≤ 255 := by have := s[k - 1].toNat_lt; omega
              have hlast : (s.data.toList.take k).getLast? = some s[k - 1] := by
                rw [List.getLast?_eq_getElem?, List.length_take, hlen.out, Nat.min_eq_left (by omega), List.getElem?_take, if_pos (by omega)]
                exact byte_at s (k - 1) hk1
              by_cases hle : (s[k].toNat : Int) ≤ s[k - 1].toNat
              · have d3 : decide ((s[k].toNat : Int) ≤ s[k - 1].toNat) = true := decide_eq_true hle
                have HN := no (hlow (hiff.2 (fun h => by have := h _ hlast; omega))).out
                clear step hlow hiff no hc hbk hlast
                generalize hn : k - 1 = n at *
                have HNN := hid hn
                clear hn
                go_wp2_with fail
                go_quiet (fail)
                go_wp2
                go_ret2
                exact HN.out _ _ _ rfl (below_drewN' hb _)
              · have d3 : decide ((s[k].toNat : Int) ≤ s[k - 1].toNat) = false := decide_eq_false hle
                have hst := step (fun h => hiff.1 h (fun x hx => by
                  rw [hlast] at hx; cases hx; omega))
                clear step hlow hiff no hc hbk hlast
                generalize hn : k - 1 = n at *
                have HNN := hid hn
                clear hn
                generalize s[k].toNat - 97 = j at *
                go_wp2_with fail
                go_quiet (fail)
                go_wp2
                go_roundw
                case rel => exact ⟨k + 1, by omega, by go_num, hid hst.out.1, hid (hst.out.2 _), below_drewN' (hb.setCell (p := ⟨w.heap.size, _, none⟩) (Nat.le_refl _) _) _⟩
                case measure => simp [intOf]; omega
          · have HN := no (fail_not H45.out hbk.out (by unfold isL; simp; omega))
            have d1 : decide ((s[k].toNat : Int) < 97) = false := decide_eq_false (by omega)
            have d2 : decide ((122 : Int) < s[k].toNat) = true := decide_eq_true (by omega)
            clear no hbk
            go_wp2_with fail
            go_quiet (fail)
            go_wp2
            go_ret2
            exact HN.out _ _ _ rfl (below_drewN' hb _)
        · have HN := no (fail_not H45.out hbk.out (by unfold isL; simp; omega))
          have d1 : decide ((s[k].toNat : Int) < 97) = true := decide_eq_true (by omega)
          clear no hbk
          go_wp2_with fail
          go_quiet (fail)
          go_wp2
          go_ret2
          exact HN.out _ _ _ rfl (below_drewN' hb _)
      · have hke : s.data.toList.take k = s.data.toList := List.take_of_length_le (by rw [hlen.out]; omega)
        rw [hke] at hr hblk
        cases he : s.data.toList with
        | nil =>
          have hz : ¬ (0 : Int) < (s.size : Int) := by have := congrArg List.length he; rw [hlen.out] at this; simp at this; rw [this]; decide
          have hzd : decide (0 < s.size) = false := decide_eq_false (by omega)
          have HN := hid (fun w' e v he' hb => lab_no (l := s.data.toList) (w := w) (w' := w') (e := e) (v := v) (by rw [he]; rfl) he' hb)
          rw [he] at HN
          clear hke
          go_wp2_with fail
          go_ret2
          exact HN.out _ _ _ rfl hb
        | cons c t =>
          have hz : (0 : Int) < (s.size : Int) := by have := congrArg List.length he; rw [hlen.out] at this; simp at this; omega
          have hzd : decide (0 < s.size) = true := decide_eq_true (by omega)
          have hok : okL s.data.toList = true := by rw [rises_ok H45.out, hr.out, he]; rfl
          have hnum : numL s.data.toList = lsum s.data.toList := by unfold numL; rw [if_neg H45.out, if_pos hok]
          have HY := hid (fun e he' => lab_yes (l := s.data.toList) (w := w) (w' := wr) (e := e) hok he' (by rw [hnum]; exact hblk.out) hb)
          clear hke hok hnum
          go_wp2_with fail
          go_ret2
          exact HY.out _ rfl

theorem rnumber_any (x : Nat) (hx : x < 67108864) (B : Nat) (w : World) (hb : Blk w B (bitsL x) 3) :
    Calls Tryd.prog 11 #[.slice (some ⟨B, 0, none⟩) 26 26] w fun e w' => e = .returned (.int .u32 (x : Nat)) ∧ w = w' := by
  have hbl := hb.lt
  go_enter Tryd.func11, Tryd.ntmps11
  go_wp2_with fail
  go_loop [3, 4] (fun v i => ∃ j : Nat, j ≤ 26 ∧ i = .int .i64 ((j : Int) - 1) ∧ v = .int .u32 ((x / 2 ^ j : Nat) : Int)) (fun _ i => (intOf i + 1).toNat)
  case atStart => exact ⟨26, by omega, rfl, int_eq (by rw [Nat.div_eq_of_lt hx]; rfl)⟩
  case round =>
    obtain ⟨j, hj, rfl, rfl⟩ := hrel
    cases j with
    | zero =>
      go_wp2_with fail
      go_ret
      exact ⟨ret_int (by simp), rfl⟩
    | succ j =>
      have hcell := hb.cell j (bitsL_get x j (by omega))
      have hv : x / 2 ^ (j + 1) * 2 + (x.testBit j).toNat = x / 2 ^ j := by
        rw [Nat.testBit_eq_decide_div_mod_eq, Nat.pow_succ, ← Nat.div_div_eq_div_mul]
        generalize x / 2 ^ j = y
        have : y % 2 = 0 ∨ y % 2 = 1 := by omega
        rcases this with h | h <;> rw [h] <;> simp <;> omega
      have hb1 : (x.testBit j).toNat ≤ 1 := by cases x.testBit j <;> simp
      have hlt : x / 2 ^ j < 67108864 := Nat.lt_of_le_of_lt (Nat.div_le_self _ _) hx
      have HV := hid hv
      have hi : ((j + 1 : Nat) : Int) - 1 = (j : Int) := by omega
      rw [hi]
      generalize (x.testBit j).toNat = t at *
      generalize x / 2 ^ (j + 1) = q at *
      generalize hr : x / 2 ^ j = r at *
      have HR := hid hr
      clear hr
      have hq : q < 33554432 := by omega
      clear hv
      go_wp2_with fail
      go_round
      case rel => exact ⟨j, by omega, rfl, int_eq (by have := HV.out; rw [HR.out]; omega)⟩
      case measure => simp [intOf]
end Go.Proofs.YtmfmgenmnikhbaaDoor.Mk
