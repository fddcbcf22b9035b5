/-
  LAYER 6, PACKAGE mark: digests.
-/
import Derived.Test.YtmfmgenmnikhbaaDoorMarkRef
import Derived.Test.YtmfmgenmnikhbaaDoorHex
namespace Go.Proofs.YtmfmgenmnikhbaaDoor.Mk
open Go.RowKit
open Hx

theorem pow2_any (w : World) : Calls Tryd.prog 71 #[.int .i64 16] w fun e w' => e = .returned (.bool true) ∧ w = w' := by
  have h : bits .and .i64 16 15 = 0 := by kernel_rfl
  go_enter Tryd.func71, Tryd.ntmps71
  go_wp2
  go_ret
  exact ⟨rfl, rfl⟩

/-- Go's table of places lies in memory as its text lays it: the one cell that is read here -/
def Tab (w : World) : Prop := 7 < w.heap.size ∧ w.cell? ⟨7, 15, none⟩ = some (.int .u8 4)
theorem Tab.below {w w' : World} (h : Tab w) (hb : Below w.heap.size w w') : Tab w' := ⟨Nat.lt_of_lt_of_le h.1 hb.size, by rw [hb.cell h.1]; exact h.2⟩

theorem tz64_any (w : World) (ht : Tab w) : Calls Tryd.prog 80 #[.int .u64 16] w (Gives (.int .i64 4) w) := by
  have hc := ht.2
  have hl := ht.1
  have h1 : IntKind.u64.wrap (-16) = 18446744073709551600 := by kernel_rfl
  have h2 : bits .and .u64 16 18446744073709551600 = 16 := by kernel_rfl
  have h3 : IntKind.u64.wrap 4573923408821661840 = 4573923408821661840 := by kernel_rfl
  go_enter Tryd.func80, Tryd.ntmps80
  go_wp2_with fail
  go_ret
  exact gives rfl rfl (Below.refl _ _)
theorem tz_any (w : World) (ht : Tab w) : Calls Tryd.prog 72 #[.int .u64 16] w (Gives (.int .i64 4) w) := by
  have HZ := fun w h => hid (tz64_any w h)
  go_enter Tryd.func72, Tryd.ntmps72
  go_wp2_with (go_at_call 80; (with_reducible refine ((HZ _ ht).out).mono ?_); rintro e w' ⟨rfl, hb⟩)
  go_ret
  exact gives rfl rfl hb

/-- the 65 cells of the digits' array, the last k of them laid -/
def cellsF (n k : Nat) : List Value := (List.range 65).map fun j => if 65 ≤ k + j then .int .u8 ((Hx.hexDigit (n / 16 ^ (64 - j) % 16)).toNat : Int) else .int .u8 0
theorem cellsF_get (n k j : Nat) (h : j < 65) : (cellsF n k)[j]? = some (if 65 ≤ k + j then .int .u8 ((Hx.hexDigit (n / 16 ^ (64 - j) % 16)).toNat : Int) else .int .u8 0) := by
  unfold cellsF; rw [List.getElem?_map, List.getElem?_range h]; rfl
theorem cellsF_len (n k : Nat) : (cellsF n k).length = 65 := by simp [cellsF]
theorem cellsF_zero (n : Nat) : cellsF n 0 = List.replicate 65 (.int .u8 0) := by
  apply List.ext_getElem?
  intro j
  by_cases h : j < 65
  · rw [cellsF_get n 0 j h, if_neg (by omega), List.getElem?_replicate, if_pos h]
  · rw [List.getElem?_eq_none (by rw [cellsF_len]; omega), List.getElem?_eq_none (by simp; omega)]
theorem zeros65 (n : Nat) : Tryd.zeroCells110 = (cellsF n 0).toArray := by
  rw [cellsF_zero]; kernel_rfl
theorem cellsF_set (n k : Nat) (hk : k < 65) : (cellsF n k).set (64 - k) (.int .u8 ((Hx.hexDigit (n / 16 ^ k % 16)).toNat : Int)) = cellsF n (k + 1) := by
  apply List.ext_getElem?
  intro i
  rw [List.getElem?_set]
  by_cases h : i < 65
  · rw [cellsF_get n k i h, cellsF_get n (k + 1) i h]
    by_cases e : 64 - k = i
    · rw [if_pos e, if_pos (by rw [cellsF_len]; omega), if_pos (by omega), show 64 - i = k from by omega]
    · rw [if_neg e]
      by_cases f : 65 ≤ k + i
      · rw [if_pos f, if_pos (by omega)]
      · rw [if_neg f, if_neg (by omega)]
  · rw [List.getElem?_eq_none (by rw [cellsF_len]; omega : (cellsF n (k + 1)).length ≤ i), List.getElem?_eq_none (by rw [cellsF_len]; omega : (cellsF n k).length ≤ i)]
    by_cases e : 64 - k = i
    · omega
    · rw [if_neg e]

def digT : ByteArray := ⟨#[48, 49, 50, 51, 52, 53, 54, 55, 56, 57, 97, 98, 99, 100, 101, 102, 103, 104, 105, 106, 107, 108, 109, 110, 111, 112, 113, 114, 115, 116, 117, 118, 119, 120, 121, 122]⟩
theorem digT_get {d : Nat} (h : d < 16) (h' : d < digT.size) : digT[d] = Hx.hexDigit d := by
  have : ∀ d : Fin 16, digT[d.val]'(Nat.lt_of_lt_of_le d.isLt (by decide)) = Hx.hexDigit d.val := by decide
  exact this ⟨d, h⟩

theorem digL_get {d : Nat} (h : d < 16) (h' : d < ByteArray.size { data := #[48, 49, 50, 51, 52, 53, 54, 55, 56, 57, 97, 98, 99, 100, 101, 102, 103, 104, 105, 106, 107, 108, 109, 110, 111, 112, 113, 114, 115, 116, 117, 118, 119, 120, 121, 122] }) :
    ({ data := #[48, 49, 50, 51, 52, 53, 54, 55, 56, 57, 97, 98, 99, 100, 101, 102, 103, 104, 105, 106, 107, 108, 109, 110, 111, 112, 113, 114, 115, 116, 117, 118, 119, 120, 121, 122] } : ByteArray)[d] = Hx.hexDigit d := digT_get h h'
theorem slice65 (b j : Nat) (h : j < 65) (W : World) : (Instr.sliceAt 110 (.pointer (some ⟨b, 0, none⟩)) (some (.int .i64 (j : Int))) none none).run Tryd.prog W = .ok (.slice (some ⟨b, j, none⟩) (65 - j) (65 - j)) W := by
  have hal : Tryd.prog.arrayLen 110 = 65 := by kernel_rfl
  rw [run_sliceAt_array_l (P := Tryd.prog) W 110 ⟨b, 0, none⟩ (by kernel_rfl) .i64 j (by omega) (by rw [hal]; omega), show (sizeOf (Tryd.prog.elem 110)).run Tryd.prog W = .ok 1 W from by kernel_rfl, hal]
  simp only [Result.andThen, slicedAt, Int.toNat_natCast]
  rw [if_neg (by omega), addr_add, Nat.mul_one, Nat.zero_add]
/-- what the digits' text is: as many as the number has -/
def FbIs (n : Nat) (w : World) (e : Ending) (w' : World) : Prop := ∃ nd, 1 ≤ nd ∧ nd ≤ 16 ∧ n < 16 ^ nd ∧ e = .returned (.tuple #[.slice none 0 0, .string ⟨((hexT n).drop (16 - nd)).toArray⟩]) ∧ Below w.heap.size w w'

set_option maxRecDepth 100000 in
set_option maxHeartbeats 2000000 in
theorem fb_any (n : Nat) (hn : n < 18446744073709551616) (w : World) (ht : Tab w) :
    Calls Tryd.prog 58 #[.slice none 0 0, .int .u64 (n : Int), .int .i64 16, .bool false, .bool false] w (FbIs n w) := by
  have HZ := fun w h => hid (tz_any w h)
  have HB := hid hn
  have HT := hid ht
  have H0 : Hid (Blk (w.alloc (.cells Tryd.zeroCells110 110)) w.heap.size (cellsF n 0) 110) := hid (by rw [zeros65 n]; exact Blk.new _ _ _)
  clear hn ht
  go_enter Tryd.func58, Tryd.ntmps58
  go_wp2_with (first | (go_at_call 71; (with_reducible refine (pow2_any _).mono ?_); rintro e w' ⟨rfl, rfl⟩))
  refine (HZ _ (HT.out.below (below_alloc (Below.refl _ _) _))).out.mono ?_
  rintro e w1 ⟨rfl, hb1⟩
  go_wp2_with fail
  rw [show (⟨#[48, 49, 50, 51, 52, 53, 54, 55, 56, 57, 97, 98, 99, 100, 101, 102, 103, 104, 105, 106, 107, 108, 109, 110, 111, 112, 113, 114, 115, 116, 117, 118, 119, 120, 121, 122]⟩ : ByteArray) = digT from rfl]
  have HB1 := hid (below_trans (below_alloc (Below.refl w.heap.size w) (.cells Tryd.zeroCells110 110)) hb1)
  have H1 := hid (H0.out.below hb1)
  have hds : 36 = digT.size := rfl
  have HDS := hid hds
  clear hb1 H0 hds
  go_loopw [1, 13] (fun u i wr => ∃ k : Nat, k ≤ 15 ∧ u = .int .u64 ((n / 16 ^ k : Nat) : Int) ∧ i = .int .i64 (65 - (k : Int)) ∧ Hid (Blk wr w.heap.size (cellsF n k) 110) ∧ Below w.heap.size w wr) (fun _ i _ => (intOf i).toNat)
  case atStart => exact ⟨0, by omega, int_eq (by simp), rfl, H1, HB1.out⟩
  case round =>
    obtain ⟨k, hk, rfl, rfl, hblk, hb⟩ := hrel
    have hu64 : n / 16 ^ k < 18446744073709551616 := Nat.lt_of_le_of_lt (Nat.div_le_self _ _) HB.out
    have hcell := hblk.out.cell (64 - k) (cellsF_get n k _ (by omega))
    rw [if_neg (by omega)] at hcell
    have hfree := hblk.out.free
    have hlt := hblk.out.lt
    have hiI : (65 : Int) - k - 1 = ((64 - k : Nat) : Int) := by omega
    have h64 : 64 - k < 65 := by omega
    have hst := hid (hblk.out.set (64 - k) (.int .u8 ((Hx.hexDigit (n / 16 ^ k % 16)).toNat : Int)))
    have hst2 : Hid (Blk (wr.setCell ⟨w.heap.size, 64 - k, none⟩ (.int .u8 ((Hx.hexDigit (n / 16 ^ k % 16)).toNat : Int))) w.heap.size (cellsF n (k + 1)) 110) := hid (by rw [← cellsF_set n k (by omega)]; exact hst.out)
    clear hst
    have hd16 : n / 16 ^ k % 16 < 16 := Nat.mod_lt _ (by decide)
    have hdT : n / 16 ^ k % 16 < digT.size := by rw [← HDS.out]; omega
    have hdg := digT_get hd16 hdT
    have hnext : n / 16 ^ k / 16 = n / 16 ^ (k + 1) := by rw [Nat.div_div_eq_div_mul, ← Nat.pow_succ]
    have HNX := hid hnext
    clear hnext
    by_cases hge : 16 ≤ n / 16 ^ k
    · have hk14 : k < 15 := by
        rcases Nat.lt_or_ge k 15 with h | h
        · exact h
        · exfalso
          have hk15 : k = 15 := by omega
          rw [hk15] at hge
          have := HB.out
          have : n / 16 ^ 15 < 16 := by
            rw [Nat.div_lt_iff_lt_mul (by decide)]
            exact HB.out
          omega
      have ha := Hx.and15 hu64
      have hgeI : (16 : Int) ≤ ((n / 16 ^ k : Nat) : Int) := by omega
      have hm : ((n / 16 ^ k : Nat) : Int) % 16 = ((n / 16 ^ k % 16 : Nat) : Int) := by omega
      rw [hm] at ha
      clear hm
      generalize n / 16 ^ k % 16 = d at *
      generalize hU : n / 16 ^ k = U at *
      have HU := hid hU
      clear hU
      generalize 64 - k = j at *
      generalize Hx.hexDigit d = D at *
      go_wp2_with fail
      go_roundw
      case rel => exact ⟨k + 1, by omega, int_eq (by rw [← HNX.out]; simp), int_eq (by omega), hst2, hb.setCell (p := ⟨w.heap.size, _, none⟩) (Nat.le_refl _) _⟩
      case measure => simp [intOf]; omega
    · have hmod : n / 16 ^ k % 16 = n / 16 ^ k := Nat.mod_eq_of_lt (by omega)
      have hltn : n < 16 ^ (k + 1) := by
        rw [Nat.pow_succ, Nat.mul_comm]
        exact (Nat.div_lt_iff_lt_mul (Nat.pow_pos (by decide : 0 < 16))).1 (by omega)
      have hgeI : ¬ (16 : Int) ≤ ((n / 16 ^ k : Nat) : Int) := by omega
      have hcv := hid (fun (W : World) (hB : Blk W w.heap.size (cellsF n (k + 1)) 110) => run_bytes_string (P := Tryd.prog) W 53 9 5 w.heap.size (64 - k) ((hexT n).drop (16 - (k + 1))) (65 - (64 - k)) (65 - (64 - k)) (by rw [List.length_drop, hexT_len]; omega) Tryd.underlying53 Tryd.underlying5 Tryd.underlying9 (by
        intro j v hj
        have hjl : j < k + 1 := by
          rcases Nat.lt_or_ge j (k + 1) with h | h
          · exact h
          · rw [List.getElem?_eq_none (by rw [List.length_drop, hexT_len]; omega)] at hj; cases hj
        refine hB.cell _ ?_
        rw [cellsF_get n (k + 1) _ (by omega), if_pos (by omega)]
        rw [List.getElem?_drop] at hj
        unfold hexT at hj
        rw [List.getElem?_map, List.getElem?_range (by omega)] at hj
        simp only [Option.map_some, Option.some.injEq] at hj
        rw [← hj, show 64 - (64 - k + j) = 15 - (16 - (k + 1) + j) from by omega]))
      have hcv2 := hid (hcv.out _ hst2.out)
      have HW := hid (show Below w.heap.size w (wr.setCell ⟨w.heap.size, 64 - k, none⟩ (.int .u8 ((Hx.hexDigit (n / 16 ^ k % 16)).toNat : Int))) from hb.setCell (p := ⟨w.heap.size, _, none⟩) (Nat.le_refl _) _)
      have HL := hid hltn
      have cv := hcv2.out
      have hsl := fun W => slice65 w.heap.size (64 - k) (by omega) W
      have hdl : ∀ h, ({ data := #[48, 49, 50, 51, 52, 53, 54, 55, 56, 57, 97, 98, 99, 100, 101, 102, 103, 104, 105, 106, 107, 108, 109, 110, 111, 112, 113, 114, 115, 116, 117, 118, 119, 120, 121, 122] } : ByteArray)[n / 16 ^ k % 16]'h = Hx.hexDigit (n / 16 ^ k % 16) := fun h => digL_get hd16 h
      clear hcv hcv2 hltn
      generalize n / 16 ^ k % 16 = d at hdT hdg hdl hst2 cv HW hd16 hmod
      generalize hU : n / 16 ^ k = U at *
      have HU := hid hU
      clear hU hge
      subst hmod
      generalize hN : (hexT n).drop (16 - (k + 1)) = L at *
      have HN := hid hN
      clear hN
      generalize hj : 64 - k = j at *
      have HJ := hid hj
      clear hj
      generalize Hx.hexDigit d = D at *
      go_wp2_with fail
      go_ret2
      exact ⟨k + 1, by omega, by omega, HL.out, by rw [HN.out]; rfl, HW.out⟩

/-- what FormatUint at base 16 comes to -/
def FuIs (n : Nat) (w : World) (e : Ending) (w' : World) : Prop := ∃ nd, 1 ≤ nd ∧ nd ≤ 16 ∧ n < 16 ^ nd ∧ e = .returned (.string ⟨((hexT n).drop (16 - nd)).toArray⟩) ∧ Below w.heap.size w w'
theorem ifu_any (n : Nat) (hn : n < 18446744073709551616) (w : World) (ht : Tab w) :
    Calls Tryd.prog 40 #[.int .u64 (n : Int), .int .i64 16] w (FuIs n w) := by
  have H := hid (fb_any n hn w ht)
  go_enter Tryd.func40, Tryd.ntmps40
  go_wp2_with fail
  refine H.out.mono ?_
  rintro e w' ⟨nd, h1, h2, h3, rfl, hb⟩
  generalize hL : (hexT n).drop (16 - nd) = L
  have HL := hid hL
  clear hL
  go_wp2_with fail
  go_ret
  exact ⟨nd, h1, h2, h3, by rw [HL.out]; rfl, hb⟩
theorem fu_any (n : Nat) (hn : n < 18446744073709551616) (w : World) (ht : Tab w) :
    Calls Tryd.prog 31 #[.int .u64 (n : Int), .int .i64 16] w (FuIs n w) := by
  have H := hid (ifu_any n hn w ht)
  go_enter Tryd.func31, Tryd.ntmps31
  go_wp2_with fail
  refine H.out.mono ?_
  rintro e w' ⟨nd, h1, h2, h3, rfl, hb⟩
  generalize hL : (hexT n).drop (16 - nd) = L
  have HL := hid hL
  clear hL
  go_wp2_with fail
  go_ret
  exact ⟨nd, h1, h2, h3, by rw [HL.out]; rfl, hb⟩

theorem rep48 : ∀ c, Lib.repeatL [48] c = List.replicate c 48 := by
  intro c
  induction c with
  | zero => rfl
  | succ c ih => unfold Lib.repeatL; rw [ih, List.replicate_succ]; rfl

theorem hexT_lead {n nd : Nat} (h : n < 16 ^ nd) (h2 : nd ≤ 16) : hexT n = List.replicate (16 - nd) 48 ++ (hexT n).drop (16 - nd) := by
  have e : (hexT n).take (16 - nd) = List.replicate (16 - nd) 48 := by
    apply List.ext_getElem?
    intro j
    rw [List.getElem?_take, List.getElem?_replicate]
    by_cases hj : j < 16 - nd
    · rw [if_pos hj, if_pos hj]
      unfold hexT
      rw [List.getElem?_map, List.getElem?_range (by omega)]
      have : n / 16 ^ (15 - j) = 0 := Nat.div_eq_of_lt (Nat.lt_of_lt_of_le h (Nat.pow_le_pow_right (by decide) (by omega)))
      simp only [Option.map_some, this]; rfl
    · rw [if_neg hj, if_neg hj]
  rw [← e, List.take_append_drop]

set_option maxHeartbeats 1000000 in
theorem dtext_any (n : Nat) (hn : n < 18446744073709551616) (w : World) (ht : Tab w) :
    Calls Tryd.prog 22 #[.int .u64 (n : Int)] w (Gives (.string ⟨(hexT n).toArray⟩) w) := by
  have H := hid (fu_any n hn w ht)
  have hhl := hexT_len n
  have HLead := hid (fun nd h h2 => hexT_lead (n := n) (nd := nd) h h2)
  go_enter Tryd.func22, Tryd.ntmps22
  go_wp2_with fail
  refine H.out.mono ?_
  rintro e w' ⟨nd, h1, h2, h3, rfl, hb⟩
  have hl : ((hexT n).drop (16 - nd)).length = nd := by rw [List.length_drop, hhl]; omega
  have HX := hid (HLead.out nd h3 h2)
  generalize (hexT n).drop (16 - nd) = L at *
  have hI : (16 : Int) - nd = ((16 - nd : Nat) : Int) := by omega
  have HR := fun w => hid (show Calls Tryd.prog 32 #[.string ⟨#[48]⟩, .int .i64 ((16 - nd : Nat) : Int)] w fun e w' => e = .returned (.string ⟨(List.replicate (16 - nd) 48).toArray⟩) ∧ Below w.heap.size w w' from by
    have := Any.strings_Repeat Tryd.lays105 Tryd.Builder_Extra_105 ⟨#[48]⟩ (16 - nd) w (by omega) (by show 1 * (16 - nd) ≤ _; omega)
    rwa [show Lib.repeatL (⟨#[48]⟩ : ByteArray).data.toList (16 - nd) = List.replicate (16 - nd) 48 from rep48 _] at this)
  generalize hm : 16 - nd = m at *
  have HM := hid hm
  clear hm
  generalize hR : (List.replicate m 48 : List UInt8) = R at *
  have HRR := hid (show R.length = m by rw [← hR]; simp)
  clear hR
  have hrl : R.length ≤ 16 := by have := HRR.out; have := HM.out; omega
  have hcat : (⟨R.toArray⟩ : ByteArray) ++ ⟨L.toArray⟩ = ⟨(R ++ L).toArray⟩ := bytes_append R L
  rw [← HX.out] at hcat
  go_wp2_with (first | (go_at_call 32; (with_reducible refine ((HR _).out).mono ?_); rintro e w' ⟨rfl, hb2⟩))
  go_ret
  exact gives rfl rfl (below_trans hb hb2)
end Go.Proofs.YtmfmgenmnikhbaaDoor.Mk
