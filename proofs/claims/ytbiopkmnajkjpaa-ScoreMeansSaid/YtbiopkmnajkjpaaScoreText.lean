/-
  LAYER 2: Parse and Text of package score, over plain functions of the text's bytes and the number's bits.
-/
import Derived.Test.YtbiopkmnajkjpaaScoreWalks
namespace Go.Proofs.Ytbiopkmnajkjpaa.Sc
open Go.RowKit

/-- the digits of base 16, read as a number -/
def dg (c : UInt8) : Nat := (digV (c.toNat : Int)).toNat
def hv (l : List UInt8) : Nat := l.foldl (fun a c => a * 16 + dg c) 0
def allDig (l : List UInt8) : Bool := l.all fun c => digOk (c.toNat : Int)

theorem dg_lt (c : UInt8) : dg c < 16 := by unfold dg digV; split; omega; split <;> omega
theorem dg_cast (c : UInt8) : (dg c : Int) = digV (c.toNat : Int) := by unfold dg digV; split; omega; split <;> omega
theorem hv_snoc (l : List UInt8) (c : UInt8) : hv (l ++ [c]) = hv l * 16 + dg c := by unfold hv; rw [List.foldl_append]; rfl
theorem allDig_snoc (l : List UInt8) (c : UInt8) : allDig (l ++ [c]) = (allDig l && digOk (c.toNat : Int)) := by unfold allDig; rw [List.all_append]; simp
theorem hv_lt (l : List UInt8) : hv l < 16 ^ l.length := by
  rcases List.eq_nil_or_concat l with rfl | ⟨l', c, rfl⟩
  · decide
  · have := hv_lt l'
    have := dg_lt c
    rw [List.concat_eq_append, hv_snoc, List.length_append, List.length_singleton, Nat.pow_succ]
    omega
termination_by l.length
decreasing_by simp_all

/-- a number's text: sixteen digits, the lowest last -/
def hexDigit (d : Nat) : UInt8 := if d < 10 then UInt8.ofNat (48 + d) else UInt8.ofNat (87 + d)
def hexT (b : Nat) : List UInt8 := (List.range 16).map fun k => hexDigit (b / 16 ^ (15 - k) % 16)

def parseV (l : List UInt8) : Nat := if allDig l then hv l else 0
def parseOk (s : ByteArray) : Bool := decide (s.size = 16) && allDig s.data.toList
def parseN (s : ByteArray) : Nat := if s.size = 16 then parseV s.data.toList else 0

theorem take_snoc (s : ByteArray) (k : Nat) (h : k < s.size) : s.data.toList.take (k + 1) = s.data.toList.take k ++ [s[k]] := by
  rw [List.take_succ_eq_append_getElem (by simpa using h)]; rfl

/-- 'x << 4 | d' -/
theorem or_digit {n d : Nat} (hn : n < 1152921504606846976) (hd : d < 16) : bits .or .u64 ((n * 16 : Nat) : Int) (d : Int) = ((n * 16 + d : Nat) : Int) := by
  rw [u64_or_nat _ _ (by omega) (by omega), nat_join 4 _ _ (by omega) (by omega)]

theorem parse_len (s : ByteArray) (h : s.size ≠ 16) (_hs : s.size ≤ maxLen) (w : World) :
    Calls Try.prog 12 #[.string s] w fun e w' => e = .returned (.tuple #[.float .f64 0, .bool false]) ∧ w = w' := by
  unfold maxLen at _hs
  have h' : ((s.size : Int) != 16) = true := by rw [bne_iff_ne]; omega
  have HH := hid h
  clear h
  go_enter Try.func12, Try.ntmps12
  go_wp2
  go_ret2
  exact ⟨rfl, rfl⟩

theorem parse_16 (s : ByteArray) (h : s.size = 16) (w : World) :
    Calls Try.prog 12 #[.string s] w fun e w' => e = .returned (.tuple #[.float .f64 (parseV s.data.toList), .bool (allDig s.data.toList)]) ∧ w = w' := by
  have h' : ((s.size : Int) != 16) = false := by rw [bne_eq_false_iff_eq]; omega
  have HH := hid h
  clear h
  go_enter Try.func12, Try.ntmps12
  go_wp2_with fail
  go_loop [4, 5] (fun v i => ∃ k : Nat, k ≤ 16 ∧ i = .int .i64 k ∧ allDig (s.data.toList.take k) = true ∧ v = .int .u64 ((hv (s.data.toList.take k) : Nat) : Int)) (fun _ i => 16 - (intOf i).toNat)
  case atStart => exact ⟨0, by omega, rfl, by simp [allDig], by simp [hv]⟩
  case round =>
    obtain ⟨k, hk, rfl, hd, rfl⟩ := hrel
    have hz1 : s.size ≤ 16 := by have := HH.out; omega
    have hz2 : 16 ≤ s.size := by have := HH.out; omega
    by_cases hlt : k < s.size
    · have hl := hv_lt (s.data.toList.take k)
      have hl : hv (s.data.toList.take k) < 1152921504606846976 := Nat.lt_of_lt_of_le hl (Nat.pow_le_pow_right (by decide) (by have := List.length_take_le k s.data.toList; omega) : 16 ^ (s.data.toList.take k).length ≤ 16 ^ 15)
      have hcc : (s[k].toNat : Int) ≤ 255 := by have := s[k].toNat_lt; omega
      cases hq : digOk (s[k].toNat : Int)
      · go_wp2_with (go_at_call 31; (with_reducible refine (digit_any _ (by omega) (by omega) _).mono ?_); rintro e w' ⟨rfl, rfl⟩)
        go_ret2
        have hno : allDig s.data.toList = false := by
          have := allDig_snoc (s.data.toList.take k) s[k]
          rw [← take_snoc s k hlt, hq, Bool.and_false] at this
          unfold allDig at *
          rw [← List.take_append_drop (k + 1) s.data.toList, List.all_append, this, Bool.false_and]
        exact ⟨ret_tup (by unfold parseV; rw [if_neg (by simp [hno])]; rfl) (bool_eq hno.symm), rfl⟩
      · go_wp2_with (go_at_call 31; (with_reducible refine (digit_any _ (by omega) (by omega) _).mono ?_); rintro e w' ⟨rfl, rfl⟩)
        go_round
        case rel =>
          refine ⟨k + 1, by omega, by go_num, ?_, ?_⟩
          · rw [take_snoc s k hlt, allDig_snoc, hd, hq]; rfl
          · rw [take_snoc s k hlt, hv_snoc, ← or_digit hl (dg_lt _), dg_cast]
            congr 2
        case measure => simp [intOf]; omega
    · go_wp2_with fail
      go_ret2
      have hk16 : k = 16 := by omega
      have e : s.data.toList.take k = s.data.toList := List.take_of_length_le (by simp; omega)
      rw [e] at hd ⊢
      exact ⟨ret_tup (by unfold parseV; rw [if_pos hd]; rfl) (bool_eq hd.symm), rfl⟩

theorem parse_any (s : ByteArray) (hs : s.size ≤ maxLen) (w : World) :
    Calls Try.prog 12 #[.string s] w fun e w' => e = .returned (.tuple #[.float .f64 (parseN s), .bool (parseOk s)]) ∧ w = w' := by
  by_cases h : s.size = 16
  · refine (parse_16 s h w).mono ?_
    rintro e w' ⟨rfl, rfl⟩
    exact ⟨ret_tup (by unfold parseN; rw [if_pos h]) (bool_eq (by unfold parseOk; simp [h])), rfl⟩
  · refine (parse_len s h hs w).mono ?_
    rintro e w' ⟨rfl, rfl⟩
    exact ⟨ret_tup (by unfold parseN; rw [if_neg h]) (bool_eq (by unfold parseOk; simp [h])), rfl⟩

def cellsT (b j : Nat) : Array Value := ((List.range 16).map fun k => if j ≤ k then Value.int .u8 ((hexDigit (b / 16 ^ (15 - k) % 16)).toNat : Int) else .int .u8 0).toArray
theorem cellsT_16 (b : Nat) : cellsT b 16 = #[.int .u8 0, .int .u8 0, .int .u8 0, .int .u8 0, .int .u8 0, .int .u8 0, .int .u8 0, .int .u8 0, .int .u8 0, .int .u8 0, .int .u8 0, .int .u8 0, .int .u8 0, .int .u8 0, .int .u8 0, .int .u8 0] := by
  simp [cellsT, List.range_succ]
theorem cellsT_size (b j : Nat) : (cellsT b j).size = 16 := by simp [cellsT]

theorem cellsT_get (b k : Nat) (hk : k < 16) : (cellsT b (k + 1))[k]? = some (.int .u8 0) := by
  unfold cellsT
  rw [List.getElem?_toArray, List.getElem?_map, List.getElem?_range hk]
  simp only [Option.map_some]
  rw [if_neg (by omega)]
theorem cellsT_set (b k : Nat) : (cellsT b (k + 1)).setIfInBounds k (.int .u8 ((hexDigit (b / 16 ^ (15 - k) % 16)).toNat : Int)) = cellsT b k := by
  apply Array.ext
  · simp [cellsT]
  · intro i h1 h2
    rw [Array.getElem_setIfInBounds (by simpa using h1)]
    simp only [cellsT, List.getElem_toArray, List.getElem_map, List.getElem_range]
    by_cases e : k = i
    · subst e; simp
    · rw [if_neg e]
      by_cases f : k ≤ i
      · rw [if_pos (by omega), if_pos f]
      · rw [if_neg (by omega), if_neg f]
theorem and15 {n : Nat} (h : n < 18446744073709551616) : bits BinOp.and IntKind.u64 (n : Int) 15 = (n : Int) % 16 := by
  have := u64_and_nat n 15 h (by decide)
  rw [nat_mask4] at this
  simpa using this
theorem hexDigit_get {d : Nat} (h : d < 16) (h' : d < ByteArray.size { data := #[48, 49, 50, 51, 52, 53, 54, 55, 56, 57, 97, 98, 99, 100, 101, 102] }) :
    ({ data := #[48, 49, 50, 51, 52, 53, 54, 55, 56, 57, 97, 98, 99, 100, 101, 102] } : ByteArray)[d] = hexDigit d := by
  have : ∀ d : Fin 16, ({ data := #[48, 49, 50, 51, 52, 53, 54, 55, 56, 57, 97, 98, 99, 100, 101, 102] } : ByteArray)[d.val]'(d.isLt) = hexDigit d.val := by decide
  exact this ⟨d, h⟩
theorem hexT_get (b j : Nat) (c : UInt8) (h : (hexT b)[j]? = some c) : (cellsT b 0)[j]? = some (.int .u8 (c.toNat : Int)) := by
  unfold hexT at h
  unfold cellsT
  rw [List.getElem?_map] at h
  rw [List.getElem?_toArray, List.getElem?_map]
  cases hj : (List.range 16)[j]? with
  | none => rw [hj] at h; cases h
  | some x =>
    rw [hj] at h
    cases h
    simp
theorem div_step (b k : Nat) (hk : k < 16) : b / 16 ^ (16 - (k + 1)) / 16 = b / 16 ^ (16 - k) := by
  rw [Nat.div_div_eq_div_mul, ← Nat.pow_succ]
  congr 2
  omega
theorem hexT_len (b : Nat) : (hexT b).length = 16 := by simp [hexT]

/-- what is written of a number -/
def txV (b : Nat) : Nat := if kind b = 0 then 9221120237041090561 else b

theorem text_any (b : Nat) (hb : b < 18446744073709551616) (w : World) :
    Calls Try.prog 15 #[.float .f64 b] w fun e w' => e = .returned (.string ⟨(hexT (txV b)).toArray⟩) ∧ Below w.heap.size w w' := by
  have HB := hid hb
  have cv := fun (b : Nat) => run_bytes_string (P := Try.prog) (w.alloc (.cells (cellsT b 0) 52)) 53 9 5 w.heap.size 0 (hexT b) 16 16 (by simp [hexT]) Try.underlying53 Try.underlying5 Try.underlying9 (by
    intro j v hj
    have := hexT_get b j v hj
    rw [← World.cell?_alloc_at (w := w) (cellsT b 0) 52 w.heap.size j rfl] at this
    rw [Nat.zero_add]; exact this)
  by_cases hk : kind b = 0
  · have hn : (kind b == 0) = true := by rw [hk]; rfl
    have hfin := hid (show txV b = 9221120237041090561 from if_pos hk)
    clear hk
    go_enter Try.func15, Try.ntmps15
    go_wp2_with (first | (go_at_call 18; (with_reducible refine (kind_any _ HB.out _).mono ?_); rintro e w' ⟨rfl, rfl⟩))
    go_loopw [3, 5] (fun v i wr => ∃ j : Nat, j ≤ 16 ∧ i = .int .i64 ((j : Int) - 1) ∧ v = .int .u64 (((9221120237041090561) / 16 ^ (16 - j) : Nat) : Int) ∧ wr = w.alloc (.cells (cellsT (9221120237041090561) j) 52)) (fun _ i _ => (intOf i + 1).toNat)
    case atStart => exact ⟨16, by omega, rfl, by simp, by rw [cellsT_16]⟩
    case round =>
      obtain ⟨j, hj, rfl, rfl, rfl⟩ := hrel
      rcases Nat.eq_zero_or_pos j with rfl | hp
      · have cvb := cv (9221120237041090561)
        clear cv
        go_wp2
        go_ret
        exact ⟨ret_str (by rw [hfin.out]), (Below.refl _ _).alloc (Nat.le_refl _) _⟩
      · clear cv
        obtain ⟨k, rfl⟩ : ∃ k, j = k + 1 := ⟨j - 1, by omega⟩
        rw [show (((k + 1 : Nat) : Int) - 1) = (k : Int) from by omega]
        have hc := cellsT_get (9221120237041090561) k (by omega)
        have hlt : (9221120237041090561) / 16 ^ (16 - (k + 1)) < 18446744073709551616 := Nat.lt_of_le_of_lt (Nat.div_le_self _ _) (by decide)
        have hset := hid (cellsT_set (9221120237041090561) k)
        have hstep := hid (div_step (9221120237041090561) k (by omega))
        have hsub := hid (show 16 - (k + 1) = 15 - k from by omega)
        generalize hm : (9221120237041090561) / 16 ^ (16 - (k + 1)) = n at hlt
        have hm' := hid hm
        clear hm
        have hand := and15 hlt
        have hlt' := hid hlt
        clear hlt
        go_wp2
        refine ⟨⟨k, by omega, rfl, ?_, ?_⟩, by simp [intOf]⟩
        · have := hstep.out
          rw [hm'.out] at this
          rw [← this]; rfl
        · rw [hexDigit_get (by omega), ← hm'.out, hsub.out, hset.out]
  · have hn : (kind b == 0) = false := by simpa using hk
    have hfin := hid (show txV b = b from if_neg hk)
    clear hk
    go_enter Try.func15, Try.ntmps15
    go_wp2_with (first | (go_at_call 18; (with_reducible refine (kind_any _ HB.out _).mono ?_); rintro e w' ⟨rfl, rfl⟩))
    go_loopw [3, 5] (fun v i wr => ∃ j : Nat, j ≤ 16 ∧ i = .int .i64 ((j : Int) - 1) ∧ v = .int .u64 (((b) / 16 ^ (16 - j) : Nat) : Int) ∧ wr = w.alloc (.cells (cellsT (b) j) 52)) (fun _ i _ => (intOf i + 1).toNat)
    case atStart => exact ⟨16, by omega, rfl, by simp, by rw [cellsT_16]⟩
    case round =>
      obtain ⟨j, hj, rfl, rfl, rfl⟩ := hrel
      rcases Nat.eq_zero_or_pos j with rfl | hp
      · have cvb := cv (b)
        clear cv
        go_wp2
        go_ret
        exact ⟨ret_str (by rw [hfin.out]), (Below.refl _ _).alloc (Nat.le_refl _) _⟩
      · clear cv
        obtain ⟨k, rfl⟩ : ∃ k, j = k + 1 := ⟨j - 1, by omega⟩
        rw [show (((k + 1 : Nat) : Int) - 1) = (k : Int) from by omega]
        have hc := cellsT_get (b) k (by omega)
        have hlt : (b) / 16 ^ (16 - (k + 1)) < 18446744073709551616 := Nat.lt_of_le_of_lt (Nat.div_le_self _ _) HB.out
        have hset := hid (cellsT_set (b) k)
        have hstep := hid (div_step (b) k (by omega))
        have hsub := hid (show 16 - (k + 1) = 15 - k from by omega)
        generalize hm : (b) / 16 ^ (16 - (k + 1)) = n at hlt
        have hm' := hid hm
        clear hm
        have hand := and15 hlt
        have hlt' := hid hlt
        clear hlt
        go_wp2
        refine ⟨⟨k, by omega, rfl, ?_, ?_⟩, by simp [intOf]⟩
        · have := hstep.out
          rw [hm'.out] at this
          rw [← this]; rfl
        · rw [hexDigit_get (by omega), ← hm'.out, hsub.out, hset.out]

end Go.Proofs.Ytbiopkmnajkjpaa.Sc
