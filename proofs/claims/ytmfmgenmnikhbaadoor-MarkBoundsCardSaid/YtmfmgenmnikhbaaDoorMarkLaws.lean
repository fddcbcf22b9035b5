/-
  LAYER 6: the laws.
-/
import Derived.Test.YtmfmgenmnikhbaaDoorMarkParse
namespace Go.Proofs.YtmfmgenmnikhbaaDoor.Mk
open Go.RowKit
open Hx (hexT parseN parseOk hexT_len parseN_hex parseOk_hex)

def LawOk (w : World) (e : Ending) (w' : World) : Prop := e = .returned (.bool true) ∧ Below w.heap.size w w'

theorem lparse (l : List UInt8) (hl : l.length ≤ 140737488355328) (w : World) :
    Calls Tryd.prog 8 #[.string ⟨l.toArray⟩] w fun e w' => e = .returned (.tuple #[.int .u32 (numL l : Nat), .bool (okL l)]) ∧ w = w' :=
  parse_any ⟨l.toArray⟩ (by show l.toArray.size ≤ maxLen; unfold maxLen; simp; omega) w

def ff : List UInt8 := [48, 48, 48, 48, 48, 48, 48, 48, 48, 48, 48, 48, 48, 48, 102, 102]

set_option maxRecDepth 100000 in
set_option maxHeartbeats 1000000 in
theorem marked_any (w : World) (ht : Tab w) : Calls Tryd.prog 10 #[] w (Gives (.bool true) w) := by
  have HT := hid ht
  clear ht
  have P1 := fun w => hid (show Calls Tryd.prog 8 #[.string ⟨#[97, 99]⟩] w fun e w' => e = .returned (.tuple #[.int .u32 5, .bool true]) ∧ w = w' from by
    have h := lparse [97, 99] (by decide) w
    rwa [show numL [97, 99] = 5 from by decide +kernel, show okL [97, 99] = true from by decide +kernel] at h)
  have P2 := fun w => hid (show Calls Tryd.prog 8 #[.string ⟨#[99, 97]⟩] w fun e w' => e = .returned (.tuple #[.int .u32 0, .bool false]) ∧ w = w' from by
    have h := lparse [99, 97] (by decide) w
    rwa [show numL [99, 97] = 0 from by decide +kernel, show okL [99, 97] = false from by decide +kernel] at h)
  have P3 := fun w => hid (show Calls Tryd.prog 20 #[.string ⟨#[48, 48, 48, 48, 48, 48, 48, 48, 48, 48, 48, 48, 48, 48, 102, 102]⟩] w (Gives (.tuple #[.int .u64 255, .bool true]) w) from by
    have h := dparse_any ⟨#[48, 48, 48, 48, 48, 48, 48, 48, 48, 48, 48, 48, 48, 48, 102, 102]⟩ w
    rwa [show parseN ⟨#[48, 48, 48, 48, 48, 48, 48, 48, 48, 48, 48, 48, 48, 48, 102, 102]⟩ = 255 from by decide +kernel, show parseOk ⟨#[48, 48, 48, 48, 48, 48, 48, 48, 48, 48, 48, 48, 48, 48, 102, 102]⟩ = true from by decide +kernel] at h)
  have P4 := fun w h => hid (show Calls Tryd.prog 22 #[.int .u64 255] w (Gives (.string ⟨#[48, 48, 48, 48, 48, 48, 48, 48, 48, 48, 48, 48, 48, 48, 102, 102]⟩) w) from by
    have h := dtext_any 255 (by decide) w h
    rwa [show hexT 255 = [48, 48, 48, 48, 48, 48, 48, 48, 48, 48, 48, 48, 48, 48, 102, 102] from by decide +kernel] at h)
  have P5 := fun w => hid (show Calls Tryd.prog 16 #[.int .u32 5, .int .u32 7] w fun e w' => e = .returned (.bool true) ∧ w = w' from by
    have h := under_any 5 7 (by decide) (by decide) w
    rwa [show underV 5 7 = true from by decide +kernel] at h)
  go_enter Tryd.func10, Tryd.ntmps10
  go_wp2_with (first | (go_at_call 8; (with_reducible refine ((P1 _).out).mono ?_); rintro e w' ⟨rfl, rfl⟩) | (go_at_call 8; (with_reducible refine ((P2 _).out).mono ?_); rintro e w' ⟨rfl, rfl⟩) | (go_at_call 20; (with_reducible refine ((P3 _).out).mono ?_); rintro e w' ⟨rfl, hb⟩) | (go_at_call 16; (with_reducible refine ((P5 _).out).mono ?_); rintro e w' ⟨rfl, rfl⟩))
  refine (P4 _ (HT.out.below hb)).out.mono ?_
  rintro e w' ⟨rfl, hb2⟩
  go_wp2_with fail
  go_ret
  exact gives rfl rfl (below_trans hb hb2)

set_option maxHeartbeats 1000000 in
theorem law_parses (l : List UInt8) (hl : l.length ≤ 140737488355328) (w : World) (ht : Tab w) : Calls Tryd.prog 3 #[.string ⟨l.toArray⟩] w (LawOk w) := by
  have HT := hid ht
  clear ht
  have HM := fun w h => hid (marked_any w h)
  have HP := fun w => hid (lparse l hl w)
  have HL := fun w => hid (rlabels_any ⟨l.toArray⟩ (by show l.toArray.size ≤ maxLen; unfold maxLen; simp; omega) w)
  have HTx := hid (@text_of l)
  have hn := num_lt l
  have hn32 : numL l < 4294967296 := by omega
  have HN := fun B w h => hid (rnumber_any (numL l) hn B w h)
  have HX := fun w => hid (text_any (numL l) hn32 w)
  have HC := fun w => hid (check_any (numL l) hn32 w)
  rw [check_lt hn32, decide_eq_true hn] at HC
  cases hok : okL l
  · rw [hok] at HP
    rw [num_no hok] at HP
    clear HN HX HC HTx hn hn32
    go_enter Tryd.func3, Tryd.ntmps3
    go_wp2_with (go_at_call 8; (with_reducible refine ((HP _).out).mono ?_); rintro e w' ⟨rfl, rfl⟩)
    refine (HL _).out.mono ?_
    rintro e w1 ⟨hb1, ⟨h, _⟩ | ⟨_, v, rfl⟩⟩
    · exact absurd (hok.symm.trans h) (by decide)
    · go_wp2_with fail
      refine (HM _ (HT.out.below hb1)).out.mono ?_
      rintro e w2 ⟨rfl, hb2⟩
      go_wp2_with fail
      go_ret
      exact ⟨rfl, below_trans hb1 hb2⟩
  · rw [hok] at HP
    have htx := HTx.out hok
    rw [htx] at HX
    clear HTx htx
    generalize hNN : numL l = n at *
    have HNN := hid hNN
    clear hNN
    go_enter Tryd.func3, Tryd.ntmps3
    go_wp2_with (go_at_call 8; (with_reducible refine ((HP _).out).mono ?_); rintro e w' ⟨rfl, rfl⟩)
    refine (HL _).out.mono ?_
    rintro e w1 ⟨hb1, ⟨_, rfl, hk⟩ | ⟨h, _⟩⟩
    · have hk' : Hid (Blk w1 w.heap.size (bitsL n) 3) := hid (by rw [← HNN.out]; exact hk)
      clear hk
      go_wp2_with fail
      refine (HM _ (HT.out.below hb1)).out.mono ?_
      rintro e w2 ⟨rfl, hb2⟩
      go_wp2_with fail
      refine (HN _ _ (hk'.out.below hb2)).out.mono ?_
      rintro e w3 ⟨rfl, rfl⟩
      go_wp2_with (first | (go_at_call 12; (with_reducible refine ((HX _).out).mono ?_); rintro e w' ⟨rfl, hb3⟩) | (go_at_call 13; (with_reducible refine ((HC _).out).mono ?_); rintro e w' ⟨rfl, rfl⟩))
      go_ret
      exact ⟨rfl, below_trans (below_trans hb1 hb2) hb3⟩
    · exact absurd (hok.symm.trans h) (by decide)

theorem parse_zero {s : ByteArray} (h : parseOk s = false) : parseN s = 0 := by
  unfold parseOk at h
  unfold parseN Hx.parseV
  split
  · rename_i h1
    rw [decide_eq_true h1, Bool.true_and] at h
    rw [h]; rfl
  · rfl
set_option maxHeartbeats 1000000 in
theorem law_digests (l : List UInt8) (n : Nat) (hn : n < 18446744073709551616) (hl : l.length ≤ 140737488355328) (w : World) (ht : Tab w) : Calls Tryd.prog 7 #[.string ⟨l.toArray⟩, .int .u64 (n : Int)] w (LawOk w) := by
  have HT := hid ht
  clear ht
  have HM := fun w h => hid (marked_any w h)
  have HP := fun w => hid (dparse_any ⟨l.toArray⟩ w)
  have HB := fun w => hid (Hx.refBits_any ⟨l.toArray⟩ (by show l.toArray.size ≤ maxLen; unfold maxLen; simp; omega) w)
  have hvl : parseN ⟨l.toArray⟩ < 18446744073709551616 := by
    unfold parseN; split
    · unfold Hx.parseV
      split
      · rename_i h _
        have := Hx.hv_lt (⟨l.toArray⟩ : ByteArray).data.toList
        have h2 : (⟨l.toArray⟩ : ByteArray).data.toList.length = 16 := h
        rw [h2] at this
        exact this
      · decide
    · decide
  have HX := fun w h => hid (dtext_any (parseN ⟨l.toArray⟩) hvl w h)
  have HXn := fun w h => hid (dtext_any n hn w h)
  have HH := fun w => hid (Hx.refHex_any n hn w)
  have hlen := hexT_len n
  have HPn := fun w => hid (show Calls Tryd.prog 20 #[.string ⟨(hexT n).toArray⟩] w (Gives (.tuple #[.int .u64 (n : Nat), .bool true]) w) from by
    have h := dparse_any ⟨(hexT n).toArray⟩ w
    rwa [parseN_hex hn, parseOk_hex n] at h)
  have HV := hid (fun (h : parseOk ⟨l.toArray⟩ = true) => (Hx.hexT_parse h : hexT (parseN ⟨l.toArray⟩) = l))
  have HZ := hid (fun (h : parseOk ⟨l.toArray⟩ = false) => (parse_zero h : parseN ⟨l.toArray⟩ = 0))
  generalize hexT n = H at *
  cases hok : parseOk ⟨l.toArray⟩
  · rw [hok, HZ.out hok] at HP HB
    clear HV HZ HX hvl
    go_enter Tryd.func7, Tryd.ntmps7
    go_wp2_with (first | (go_at_call 20; (with_reducible refine ((HP _).out).mono ?_); rintro e w' ⟨rfl, hb1⟩) | (go_at_call 21; (with_reducible refine ((HB _).out).mono ?_); rintro e w' ⟨rfl, rfl⟩))
    refine (HM _ (HT.out.below hb1)).out.mono ?_
    rintro e w2 ⟨rfl, hb2⟩
    have hb12 := below_trans hb1 hb2
    go_wp2_with fail
    refine (HXn _ (HT.out.below hb12)).out.mono ?_
    rintro e w3 ⟨rfl, hb3⟩
    go_wp2_with (first | (go_at_call 20; (with_reducible refine ((HPn _).out).mono ?_); rintro e w' ⟨rfl, hb4⟩) | (go_at_call 23; (with_reducible refine ((HH _).out).mono ?_); rintro e w' ⟨rfl, hb5⟩))
    go_ret
    exact ⟨rfl, below_trans (below_trans (below_trans hb12 hb3) hb4) hb5⟩
  · rw [hok] at HP HB
    rw [HV.out hok] at HX
    clear HV HZ
    generalize parseN ⟨l.toArray⟩ = v at *
    go_enter Tryd.func7, Tryd.ntmps7
    go_wp2_with (first | (go_at_call 20; (with_reducible refine ((HP _).out).mono ?_); rintro e w' ⟨rfl, hb1⟩) | (go_at_call 21; (with_reducible refine ((HB _).out).mono ?_); rintro e w' ⟨rfl, rfl⟩))
    refine (HM _ (HT.out.below hb1)).out.mono ?_
    rintro e w2 ⟨rfl, hb2⟩
    have hb12 := below_trans hb1 hb2
    go_wp2_with fail
    refine (HX _ (HT.out.below hb12)).out.mono ?_
    rintro e w3 ⟨rfl, hb3⟩
    have hb13 := below_trans hb12 hb3
    go_wp2_with fail
    refine (HXn _ (HT.out.below hb13)).out.mono ?_
    rintro e w4 ⟨rfl, hb4⟩
    go_wp2_with (first | (go_at_call 20; (with_reducible refine ((HPn _).out).mono ?_); rintro e w' ⟨rfl, hb5⟩) | (go_at_call 23; (with_reducible refine ((HH _).out).mono ?_); rintro e w' ⟨rfl, hb6⟩))
    go_ret
    exact ⟨rfl, below_trans (below_trans (below_trans hb13 hb4) hb5) hb6⟩

theorem text_dash (n : Nat) : (textV n == [45]) = (labs n).isEmpty := by
  unfold textV
  by_cases h : labs n = []
  · rw [if_pos h, h]; rfl
  · rw [if_neg h]
    have hr := (labs_rises n 26 (by omega)).1
    rw [← labs_to] at hr
    have h1 : (labs n == [45]) = false := by
      rw [beq_eq_false_iff_ne]; intro e; rw [e] at hr; revert hr; decide
    rw [h1]
    cases hl : labs n with
    | nil => exact absurd hl h
    | cons _ _ => rfl
set_option maxHeartbeats 1000000 in
theorem law_texts (n : Nat) (hn : n < 4294967296) (w : World) (ht : Tab w) : Calls Tryd.prog 4 #[.int .u32 (n : Int)] w (LawOk w) := by
  have HT := hid ht
  clear ht
  have HM := fun w h => hid (marked_any w h)
  have HR := fun w => hid (rtext_any n w)
  have HX := fun w => hid (text_any n hn w)
  have HC := fun w => hid (count_any n hn w)
  have HK := fun w => hid (check_any n hn w)
  rw [check_lt hn] at HK
  have htl := textV_len n
  have HP := fun w => hid (show Calls Tryd.prog 8 #[.string ⟨(textV n).toArray⟩] w fun e w' => e = .returned (.tuple #[.int .u32 (n % 67108864 : Nat), .bool true]) ∧ w = w' from by
    have h := lparse (textV n) (by omega) w
    rwa [(textV_ok n).1, (textV_ok n).2] at h)
  have hd := text_dash n
  have hmod : (n : Int).tmod 67108864 = ((n % 67108864 : Nat) : Int) := by rw [Int.tmod_eq_emod_of_nonneg (by omega)]; omega
  have hlab : (labs n).isEmpty = false → (textV n).length = (labs n).length := fun h => by
    unfold textV; rw [if_neg (by intro e; rw [e] at h; cases h)]
  cases he : (labs n).isEmpty
  · rw [he] at hd
    have hll := hlab he
    rw [← hll] at HC
    clear hlab he hll
    generalize textV n = T at *
    generalize hM : n % 67108864 = M at *
    clear hM
    by_cases hlt : n < 67108864
    · rw [decide_eq_true hlt] at HK
      have hltI : (n : Int) < 67108864 := by omega
      go_enter Tryd.func4, Tryd.ntmps4
      go_wp2_with (go_at_call 14; (with_reducible refine ((HR _).out).mono ?_); rintro e w' ⟨rfl, hb1⟩)
      refine (HM _ (HT.out.below hb1)).out.mono ?_
      rintro e w2 ⟨rfl, hb2⟩
      go_wp2_with (first | (go_at_call 12; (with_reducible refine ((HX _).out).mono ?_); rintro e w' ⟨rfl, hb3⟩) | (go_at_call 15; (with_reducible refine ((HC _).out).mono ?_); rintro e w' ⟨rfl, hb4⟩) | (go_at_call 13; (with_reducible refine ((HK _).out).mono ?_); rintro e w' ⟨rfl, rfl⟩) | (go_at_call 8; (with_reducible refine ((HP _).out).mono ?_); rintro e w' ⟨rfl, rfl⟩))
      go_ret
      exact ⟨rfl, below_trans (below_trans (below_trans hb1 hb2) hb3) hb4⟩
    · rw [decide_eq_false hlt] at HK
      have hltI : (67108864 : Int) ≤ (n : Int) := by omega
      clear hlt hn
      generalize (n : Int) = x at *
      go_enter Tryd.func4, Tryd.ntmps4
      go_wp2_with (go_at_call 14; (with_reducible refine ((HR _).out).mono ?_); rintro e w' ⟨rfl, hb1⟩)
      refine (HM _ (HT.out.below hb1)).out.mono ?_
      rintro e w2 ⟨rfl, hb2⟩
      go_wp2_with (first | (go_at_call 12; (with_reducible refine ((HX _).out).mono ?_); rintro e w' ⟨rfl, hb3⟩) | (go_at_call 15; (with_reducible refine ((HC _).out).mono ?_); rintro e w' ⟨rfl, hb4⟩) | (go_at_call 13; (with_reducible refine ((HK _).out).mono ?_); rintro e w' ⟨rfl, rfl⟩) | (go_at_call 8; (with_reducible refine ((HP _).out).mono ?_); rintro e w' ⟨rfl, rfl⟩))
      go_ret
      exact ⟨rfl, below_trans (below_trans (below_trans hb1 hb2) hb3) hb4⟩
  · rw [he] at hd
    have hl0 : (labs n).length = 0 := by rw [List.isEmpty_iff.1 he]; rfl
    rw [hl0] at HC
    have HC' : ∀ w, Hid (Calls Tryd.prog 15 #[.int .u32 (n : Int)] w (Gives (.int .i64 0) w)) := HC
    clear hlab he hl0 HC
    generalize textV n = T at *
    generalize hM : n % 67108864 = M at *
    clear hM
    by_cases hlt : n < 67108864
    · rw [decide_eq_true hlt] at HK
      have hltI : (n : Int) < 67108864 := by omega
      go_enter Tryd.func4, Tryd.ntmps4
      go_wp2_with (go_at_call 14; (with_reducible refine ((HR _).out).mono ?_); rintro e w' ⟨rfl, hb1⟩)
      refine (HM _ (HT.out.below hb1)).out.mono ?_
      rintro e w2 ⟨rfl, hb2⟩
      go_wp2_with (first | (go_at_call 12; (with_reducible refine ((HX _).out).mono ?_); rintro e w' ⟨rfl, hb3⟩) | (go_at_call 15; (with_reducible refine ((HC' _).out).mono ?_); rintro e w' ⟨rfl, hb4⟩) | (go_at_call 13; (with_reducible refine ((HK _).out).mono ?_); rintro e w' ⟨rfl, rfl⟩) | (go_at_call 8; (with_reducible refine ((HP _).out).mono ?_); rintro e w' ⟨rfl, rfl⟩))
      go_ret
      exact ⟨rfl, below_trans (below_trans (below_trans hb1 hb2) hb3) hb4⟩
    · rw [decide_eq_false hlt] at HK
      have hltI : (67108864 : Int) ≤ (n : Int) := by omega
      clear hlt hn
      generalize (n : Int) = x at *
      go_enter Tryd.func4, Tryd.ntmps4
      go_wp2_with (go_at_call 14; (with_reducible refine ((HR _).out).mono ?_); rintro e w' ⟨rfl, hb1⟩)
      refine (HM _ (HT.out.below hb1)).out.mono ?_
      rintro e w2 ⟨rfl, hb2⟩
      go_wp2_with (first | (go_at_call 12; (with_reducible refine ((HX _).out).mono ?_); rintro e w' ⟨rfl, hb3⟩) | (go_at_call 15; (with_reducible refine ((HC' _).out).mono ?_); rintro e w' ⟨rfl, hb4⟩) | (go_at_call 13; (with_reducible refine ((HK _).out).mono ?_); rintro e w' ⟨rfl, rfl⟩) | (go_at_call 8; (with_reducible refine ((HP _).out).mono ?_); rintro e w' ⟨rfl, rfl⟩))
      go_ret
      exact ⟨rfl, below_trans (below_trans (below_trans hb1 hb2) hb3) hb4⟩

theorem under_refl {a : Nat} (ha : a < 4294967296) : underV a a = true := (under_bits ha ha).2 (fun _ _ h => h)
theorem under_trans {a b c : Nat} (ha : a < 4294967296) (hb : b < 4294967296) (hc : c < 4294967296) (h : underV a b = true) (k : underV b c = true) : underV a c = true :=
  (under_bits ha hc).2 (fun i hi h' => (under_bits hb hc).1 k i hi ((under_bits ha hb).1 h i hi h'))
theorem under_anti {a b : Nat} (ha : a < 4294967296) (hb : b < 4294967296) (h : underV a b = true) (k : underV b a = true) : a = b := by
  apply Nat.eq_of_testBit_eq
  intro i
  by_cases hi : i < 32
  · have h1 := (under_bits ha hb).1 h i hi
    have h2 := (under_bits hb ha).1 k i hi
    cases ha' : a.testBit i <;> cases hb' : b.testBit i <;> simp_all
  · have p : 4294967296 ≤ 2 ^ i := Nat.pow_le_pow_right (by decide : 0 < 2) (by omega : 32 ≤ i)
    rw [Nat.testBit_lt_two_pow (by omega), Nat.testBit_lt_two_pow (by omega)]

set_option maxHeartbeats 4000000 in
theorem law_unders (a b c : Nat) (ha : a < 4294967296) (hb : b < 4294967296) (hc : c < 4294967296) (w : World) (ht : Tab w) : Calls Tryd.prog 5 #[.int .u32 (a : Int), .int .u32 (b : Int), .int .u32 (c : Int)] w (LawOk w) := by
  have HM := hid (marked_any w ht)
  clear ht
  have R1 := fun w => hid (runder_any a b ha hb w)
  have U1 := fun w => hid (under_any a b ha hb w)
  have U2 := fun w => hid (under_any a a ha ha w)
  have U3 := fun w => hid (under_any b c hb hc w)
  have U4 := fun w => hid (under_any a c ha hc w)
  have U5 := fun w => hid (under_any b a hb ha w)
  rw [under_refl ha] at U2
  have T := hid (under_trans ha hb hc)
  have A := hid (under_anti ha hb)
  generalize underV a c = ac at U4 T
  generalize underV b c = bc at U3 T
  cases hab : underV a b
  · rw [hab] at U1 R1
    clear T A
    generalize underV b a = ba at U5
    go_enter Tryd.func5, Tryd.ntmps5
    go_wp2_with (first | (go_at_call 10; (with_reducible refine (HM.out).mono ?_); rintro e w' ⟨rfl, hb1⟩) | (go_at_call 17; (with_reducible refine ((R1 _).out).mono ?_); rintro e w' ⟨rfl, rfl⟩) | (go_at_call 16; (with_reducible refine ((U2 _).out).mono ?_); rintro e w' ⟨rfl, rfl⟩) | (go_at_call 16; (with_reducible refine ((U1 _).out).mono ?_); rintro e w' ⟨rfl, rfl⟩) | (go_at_call 16; (with_reducible refine ((U5 _).out).mono ?_); rintro e w' ⟨rfl, rfl⟩))
    all_goals (go_ret; exact ⟨rfl, hb1⟩)
  · rw [hab] at U1 R1 T A
    cases bc
    · clear T
      cases hba : underV b a
      · rw [hba] at U5
        clear A
        go_enter Tryd.func5, Tryd.ntmps5
        go_wp2_with (first | (go_at_call 10; (with_reducible refine (HM.out).mono ?_); rintro e w' ⟨rfl, hb1⟩) | (go_at_call 17; (with_reducible refine ((R1 _).out).mono ?_); rintro e w' ⟨rfl, rfl⟩) | (go_at_call 16; (with_reducible refine ((U2 _).out).mono ?_); rintro e w' ⟨rfl, rfl⟩) | (go_at_call 16; (with_reducible refine ((U1 _).out).mono ?_); rintro e w' ⟨rfl, rfl⟩) | (go_at_call 16; (with_reducible refine ((U3 _).out).mono ?_); rintro e w' ⟨rfl, rfl⟩) | (go_at_call 16; (with_reducible refine ((U5 _).out).mono ?_); rintro e w' ⟨rfl, rfl⟩))
        go_ret
        exact ⟨rfl, hb1⟩
      · rw [hba] at U5
        have e := A.out rfl hba
        have he : ((a : Int) == (b : Int)) = true := by rw [e]; simp
        clear A e hab hba
        generalize (a : Int) = x at *
        generalize (b : Int) = y at *
        go_enter Tryd.func5, Tryd.ntmps5
        go_wp2_with (first | (go_at_call 10; (with_reducible refine (HM.out).mono ?_); rintro e w' ⟨rfl, hb1⟩) | (go_at_call 17; (with_reducible refine ((R1 _).out).mono ?_); rintro e w' ⟨rfl, rfl⟩) | (go_at_call 16; (with_reducible refine ((U2 _).out).mono ?_); rintro e w' ⟨rfl, rfl⟩) | (go_at_call 16; (with_reducible refine ((U1 _).out).mono ?_); rintro e w' ⟨rfl, rfl⟩) | (go_at_call 16; (with_reducible refine ((U3 _).out).mono ?_); rintro e w' ⟨rfl, rfl⟩) | (go_at_call 16; (with_reducible refine ((U5 _).out).mono ?_); rintro e w' ⟨rfl, rfl⟩))
        go_ret
        exact ⟨rfl, hb1⟩
    · have hac := T.out rfl rfl
      subst hac
      clear T
      cases hba : underV b a
      · rw [hba] at U5
        clear A
        go_enter Tryd.func5, Tryd.ntmps5
        go_wp2_with (first | (go_at_call 10; (with_reducible refine (HM.out).mono ?_); rintro e w' ⟨rfl, hb1⟩) | (go_at_call 17; (with_reducible refine ((R1 _).out).mono ?_); rintro e w' ⟨rfl, rfl⟩) | (go_at_call 16; (with_reducible refine ((U2 _).out).mono ?_); rintro e w' ⟨rfl, rfl⟩) | (go_at_call 16; (with_reducible refine ((U1 _).out).mono ?_); rintro e w' ⟨rfl, rfl⟩) | (go_at_call 16; (with_reducible refine ((U3 _).out).mono ?_); rintro e w' ⟨rfl, rfl⟩) | (go_at_call 16; (with_reducible refine ((U4 _).out).mono ?_); rintro e w' ⟨rfl, rfl⟩) | (go_at_call 16; (with_reducible refine ((U5 _).out).mono ?_); rintro e w' ⟨rfl, rfl⟩))
        go_ret
        exact ⟨rfl, hb1⟩
      · rw [hba] at U5
        have e := A.out rfl hba
        have he : ((a : Int) == (b : Int)) = true := by rw [e]; simp
        clear A e hab hba
        generalize (a : Int) = x at *
        generalize (b : Int) = y at *
        go_enter Tryd.func5, Tryd.ntmps5
        go_wp2_with (first | (go_at_call 10; (with_reducible refine (HM.out).mono ?_); rintro e w' ⟨rfl, hb1⟩) | (go_at_call 17; (with_reducible refine ((R1 _).out).mono ?_); rintro e w' ⟨rfl, rfl⟩) | (go_at_call 16; (with_reducible refine ((U2 _).out).mono ?_); rintro e w' ⟨rfl, rfl⟩) | (go_at_call 16; (with_reducible refine ((U1 _).out).mono ?_); rintro e w' ⟨rfl, rfl⟩) | (go_at_call 16; (with_reducible refine ((U3 _).out).mono ?_); rintro e w' ⟨rfl, rfl⟩) | (go_at_call 16; (with_reducible refine ((U4 _).out).mono ?_); rintro e w' ⟨rfl, rfl⟩) | (go_at_call 16; (with_reducible refine ((U5 _).out).mono ?_); rintro e w' ⟨rfl, rfl⟩))
        go_ret
        exact ⟨rfl, hb1⟩
end Go.Proofs.YtmfmgenmnikhbaaDoor.Mk
