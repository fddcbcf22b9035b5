/-
  SIXTEEN DIGITS OF BASE 16: plain functions, and the document's own Hex and Bits (package chandlerref02).
-/
import Derived.Test.YtmfmgenmnikhbaaDoorRows
import Derived.Test.YtmfmgenmnikhbaaDoorKit
import Derived.Laws.ShiftsVarLaws
namespace Go.Proofs.YtmfmgenmnikhbaaDoor.Hx
open Go.RowKit

def digV (c : Int) : Int := if 48 ≤ c ∧ c ≤ 57 then c - 48 else if 97 ≤ c ∧ c ≤ 102 then c - 87 else 0
def digOk (c : Int) : Bool := decide (48 ≤ c ∧ c ≤ 57) || decide (97 ≤ c ∧ c ≤ 102)

theorem digOk_t {c : Int} (h : 48 ≤ c ∧ c ≤ 57 ∨ 97 ≤ c ∧ c ≤ 102) : digOk c = true := by
  unfold digOk; rw [← Bool.decide_or]; exact decide_eq_true h
theorem digOk_f {c : Int} (h : ¬ (48 ≤ c ∧ c ≤ 57 ∨ 97 ≤ c ∧ c ≤ 102)) : digOk c = false := by
  unfold digOk; rw [← Bool.decide_or]; exact decide_eq_false h


/-- the digits of base 16, read as a number -/
def dg (c : UInt8) : Nat := (digV (c.toNat : Int)).toNat
def hv (l : List UInt8) : Nat := l.foldl (fun a c => a * 16 + dg c) 0
def allDig (l : List UInt8) : Bool := l.all fun c => digOk (c.toNat : Int)

theorem dg_lt (c : UInt8) : dg c < 16 := by unfold dg digV; split; omega; split <;> omega
theorem dg_cast (c : UInt8) : (dg c : Int) = digV (c.toNat : Int) := by unfold dg digV; split; omega; split <;> omega
theorem hv_snoc (l : List UInt8) (c : UInt8) : hv (l ++ [c]) = hv l * 16 + dg c := by unfold hv; rw [List.foldl_append]; rfl
theorem allDig_snoc (l : List UInt8) (c : UInt8) : allDig (l ++ [c]) = (allDig l && digOk (c.toNat : Int)) := by unfold allDig; rw [List.all_append]; simp
theorem hv_lt (l : List UInt8) : hv l < 16 ^ l.length := by
  rcases List.eq_nil_or_concat l with rfl | ⟨l', c, rfl⟩
  · decide
  · have := hv_lt l'
    have := dg_lt c
    rw [List.concat_eq_append, hv_snoc, List.length_append, List.length_singleton, Nat.pow_succ]
    omega
termination_by l.length
decreasing_by simp_all

/-- a number's text: sixteen digits, the lowest last -/
def hexDigit (d : Nat) : UInt8 := if d < 10 then UInt8.ofNat (48 + d) else UInt8.ofNat (87 + d)
def hexT (b : Nat) : List UInt8 := (List.range 16).map fun k => hexDigit (b / 16 ^ (15 - k) % 16)

def parseV (l : List UInt8) : Nat := if allDig l then hv l else 0
def parseOk (s : ByteArray) : Bool := decide (s.size = 16) && allDig s.data.toList
def parseN (s : ByteArray) : Nat := if s.size = 16 then parseV s.data.toList else 0

theorem take_snoc (s : ByteArray) (k : Nat) (h : k < s.size) : s.data.toList.take (k + 1) = s.data.toList.take k ++ [s[k]] := by
  rw [List.take_succ_eq_append_getElem (by simpa using h)]; rfl

/-- 'x << 4 | d' -/
theorem or_digit {n d : Nat} (hn : n < 1152921504606846976) (hd : d < 16) : bits .or .u64 ((n * 16 : Nat) : Int) (d : Int) = ((n * 16 + d : Nat) : Int) := by
  rw [u64_or_nat _ _ (by omega) (by omega), nat_join 4 _ _ (by omega) (by omega)]

theorem and15 {n : Nat} (h : n < 18446744073709551616) : bits BinOp.and IntKind.u64 (n : Int) 15 = (n : Int) % 16 := by
  have := u64_and_nat n 15 h (by decide)
  rw [nat_mask4] at this
  simpa using this
theorem hexDigit_get {d : Nat} (h : d < 16) (h' : d < ByteArray.size { data := #[48, 49, 50, 51, 52, 53, 54, 55, 56, 57, 97, 98, 99, 100, 101, 102] }) :
    ({ data := #[48, 49, 50, 51, 52, 53, 54, 55, 56, 57, 97, 98, 99, 100, 101, 102] } : ByteArray)[d] = hexDigit d := by
  have : ∀ d : Fin 16, ({ data := #[48, 49, 50, 51, 52, 53, 54, 55, 56, 57, 97, 98, 99, 100, 101, 102] } : ByteArray)[d.val]'(d.isLt) = hexDigit d.val := by decide
  exact this ⟨d, h⟩
theorem hexT_len (b : Nat) : (hexT b).length = 16 := by simp [hexT]

theorem hex_and (b j : Nat) (hb : b < 18446744073709551616) (hj : j < 16) : bits BinOp.and IntKind.u64 ((b : Int) / 2 ^ (60 - 4 * j)) 15 = ((b / 16 ^ (15 - j) % 16 : Nat) : Int) := by
  have e : ((b : Int) / 2 ^ (60 - 4 * j)) = ((b / 16 ^ (15 - j) : Nat) : Int) := by
    rw [show (16 : Nat) = 2 ^ 4 from rfl, ← Nat.pow_mul, show 4 * (15 - j) = 60 - 4 * j from by omega]
    simp
  rw [e]
  have := u64_and_nat (b / 16 ^ (15 - j)) 15 (Nat.lt_of_le_of_lt (Nat.div_le_self _ _) hb) (by decide)
  rw [nat_mask4] at this
  exact this
theorem hexDigit_lo {d : Nat} (h : d < 10) : (48 + (d : Int)) = ((hexDigit d).toNat : Int) := by
  unfold hexDigit; rw [if_pos h]; simp; omega
theorem hexDigit_hi {d : Nat} (h : 10 ≤ d) (h' : d < 16) : (87 + (d : Int)) = ((hexDigit d).toNat : Int) := by
  unfold hexDigit; rw [if_neg (by omega)]; simp; omega
theorem hexT_take (b j : Nat) (hj : j < 16) : (hexT b).take (j + 1) = (hexT b).take j ++ [hexDigit (b / 16 ^ (15 - j) % 16)] := by
  rw [List.take_succ_eq_append_getElem (by rw [hexT_len]; exact hj)]
  congr 2
  simp [hexT]

set_option maxRecDepth 100000 in
set_option maxHeartbeats 400000 in
theorem refHex_any (b : Nat) (hb : b < 18446744073709551616) (w : World) :
    Calls Tryd.prog 23 #[.int .u64 (b : Int)] w fun e w' => e = .returned (.string ⟨(hexT b).toArray⟩) ∧ Below w.heap.size w w' := by
  have HB := hid hb
  clear hb
  go_enter Tryd.func23, Tryd.ntmps23
  go_wp2_with fail
  go_loopw [3, 4] (fun v i wr => ∃ j : Nat, j ≤ 16 ∧ i = .int .i64 (60 - 4 * (j : Int)) ∧ v = .string ⟨((hexT b).take j).toArray⟩ ∧ Below w.heap.size w wr) (fun _ i _ => (intOf i + 4).toNat)
  case atStart => exact ⟨0, by omega, rfl, rfl, Below.refl _ _⟩
  case round =>
    obtain ⟨j, hj, rfl, rfl, hbl⟩ := hrel
    by_cases hlt : j < 16
    · have hand := hex_and b j HB.out hlt
      have htk := hid (hexT_take b j hlt)
      have hd16 : b / 16 ^ (15 - j) % 16 < 16 := Nat.mod_lt _ (by decide)
      generalize b / 16 ^ (15 - j) % 16 = d at hand htk hd16
      have hll : ((hexT b).take j).length ≤ 16 := by have := List.length_take_le j (hexT b); omega
      generalize (hexT b).take j = l at *
      by_cases hd : d < 10
      · have cv := run_one_byte (P := Tryd.prog) wr 53 9 5 5 _ _ (hexDigit_lo hd) Tryd.underlying53 Tryd.underlying5 Tryd.underlying9
        go_wp2
        exact ⟨⟨j + 1, by omega, int_eq (by omega), str_append (b := [hexDigit d]) htk.out, hbl.alloc (by have := hbl.size; omega) _⟩, by simp [intOf]; omega⟩
      · have cv := run_one_byte (P := Tryd.prog) wr 53 9 5 5 _ _ (hexDigit_hi (by omega) hd16) Tryd.underlying53 Tryd.underlying5 Tryd.underlying9
        go_wp2
        exact ⟨⟨j + 1, by omega, int_eq (by omega), str_append (b := [hexDigit d]) htk.out, hbl.alloc (by have := hbl.size; omega) _⟩, by simp [intOf]; omega⟩
    · go_wp2
      go_ret
      exact ⟨ret_str (by rw [List.take_of_length_le (by rw [hexT_len]; omega)]), hbl⟩

theorem refBits_len (s : ByteArray) (h : s.size ≠ 16) (_hs : s.size ≤ maxLen) (w : World) :
    Calls Tryd.prog 21 #[.string s] w fun e w' => e = .returned (.tuple #[.int .u64 0, .bool false]) ∧ w = w' := by
  unfold maxLen at _hs
  have h' : ((s.size : Int) != 16) = true := by rw [bne_iff_ne]; omega
  have HH := hid h
  clear h
  go_enter Tryd.func21, Tryd.ntmps21
  go_wp2
  go_ret2
  exact ⟨rfl, rfl⟩

set_option maxHeartbeats 400000 in
theorem refBits_16 (s : ByteArray) (h : s.size = 16) (w : World) :
    Calls Tryd.prog 21 #[.string s] w fun e w' => e = .returned (.tuple #[.int .u64 (parseV s.data.toList : Nat), .bool (allDig s.data.toList)]) ∧ w = w' := by
  have h' : ((s.size : Int) != 16) = false := by rw [bne_eq_false_iff_eq]; omega
  have HH := hid h
  clear h
  go_enter Tryd.func21, Tryd.ntmps21
  go_wp2_with fail
  go_loop [4, 5] (fun v i => ∃ k : Nat, k ≤ 16 ∧ i = .int .i64 k ∧ allDig (s.data.toList.take k) = true ∧ v = .int .u64 ((hv (s.data.toList.take k) : Nat) : Int)) (fun _ i => 16 - (intOf i).toNat)
  case atStart => exact ⟨0, by omega, rfl, by simp [allDig], by simp [hv]⟩
  case round =>
    obtain ⟨k, hk, rfl, hd, rfl⟩ := hrel
    have hz1 : s.size ≤ 16 := by have := HH.out; omega
    have hz2 : 16 ≤ s.size := by have := HH.out; omega
    by_cases hlt : k < 16
    · have hlt' : k < s.size := by omega
      have hl := hv_lt (s.data.toList.take k)
      have hl : hv (s.data.toList.take k) < 1152921504606846976 := Nat.lt_of_lt_of_le hl (Nat.pow_le_pow_right (by decide) (by have := List.length_take_le k s.data.toList; omega) : 16 ^ (s.data.toList.take k).length ≤ 16 ^ 15)
      have hcc : (s[k].toNat : Int) ≤ 255 := by have := s[k].toNat_lt; omega
      have hno : digOk (s[k].toNat : Int) = false → allDig s.data.toList = false := fun hq => by
        have := allDig_snoc (s.data.toList.take k) s[k]
        rw [← take_snoc s k hlt', hq, Bool.and_false] at this
        unfold allDig at *
        rw [← List.take_append_drop (k + 1) s.data.toList, List.all_append, this, Bool.false_and]
      have hno' := hid hno
      clear hno
      have hts := hid (take_snoc s k hlt')
      have hdg := hid (dg_cast s[k])
      have hd' := hid hd
      clear hd
      generalize s.data.toList.take k = l at *
      by_cases a : 48 ≤ (s[k].toNat : Int) ∧ (s[k].toNat : Int) ≤ 57
      · obtain ⟨a1, a2⟩ := a
        go_wp2
        go_round
        case rel =>
          refine ⟨k + 1, by omega, by go_num, ?_, ?_⟩
          · rw [hts.out, allDig_snoc, hd'.out, digOk_t (by omega)]; rfl
          · rw [hts.out, hv_snoc]
            refine int_eq ?_
            have := hdg.out
            unfold digV at this
            rw [if_pos ⟨a1, a2⟩] at this
            rw [IntKind.wrap_u64, IntKind.wrap_u64]
            omega
        case measure => simp [intOf]; omega
      · by_cases b : 97 ≤ (s[k].toNat : Int) ∧ (s[k].toNat : Int) ≤ 102
        · obtain ⟨b1, b2⟩ := b
          have a' := hid a
          clear a
          go_wp2
          go_round
          case rel =>
            refine ⟨k + 1, by omega, by go_num, ?_, ?_⟩
            · rw [hts.out, allDig_snoc, hd'.out, digOk_t (by omega)]; rfl
            · rw [hts.out, hv_snoc]
              refine int_eq ?_
              have := hdg.out
              unfold digV at this
              rw [if_neg a'.out, if_pos ⟨b1, b2⟩] at this
              rw [IntKind.wrap_u64, IntKind.wrap_u64]
              omega
          case measure => simp [intOf]; omega
        · have hq := hid (hno'.out (digOk_f (by omega)))
          have a1 : (s[k].toNat : Int) < 48 ∨ (57 < (s[k].toNat : Int) ∧ (s[k].toNat : Int) < 97) ∨ 102 < (s[k].toNat : Int) := by omega
          clear a b
          rcases a1 with a1 | ⟨a1, a2⟩ | a1
          · go_wp2
            go_ret2
            exact ⟨ret_tup (by unfold parseV; rw [if_neg (by simp [hq.out])]; rfl) (bool_eq hq.out.symm), rfl⟩
          · go_wp2
            go_ret2
            exact ⟨ret_tup (by unfold parseV; rw [if_neg (by simp [hq.out])]; rfl) (bool_eq hq.out.symm), rfl⟩
          · go_wp2
            go_ret2
            exact ⟨ret_tup (by unfold parseV; rw [if_neg (by simp [hq.out])]; rfl) (bool_eq hq.out.symm), rfl⟩
    · have hk16 : k = 16 := by omega
      have e : s.data.toList.take k = s.data.toList := List.take_of_length_le (by simp; omega)
      rw [e] at hd ⊢
      have hd' := hid hd
      clear e hd
      subst hk16
      go_wp2
      go_ret2
      exact ⟨ret_tup (by unfold parseV; rw [if_pos hd'.out]; rfl) (bool_eq hd'.out.symm), rfl⟩

theorem refBits_any (s : ByteArray) (hs : s.size ≤ maxLen) (w : World) :
    Calls Tryd.prog 21 #[.string s] w fun e w' => e = .returned (.tuple #[.int .u64 (parseN s : Nat), .bool (parseOk s)]) ∧ w = w' := by
  by_cases h : s.size = 16
  · refine (refBits_16 s h w).mono ?_
    rintro e w' ⟨rfl, rfl⟩
    exact ⟨ret_tup (by unfold parseN; rw [if_pos h]) (bool_eq (by unfold parseOk; simp [h])), rfl⟩
  · refine (refBits_len s h hs w).mono ?_
    rintro e w' ⟨rfl, rfl⟩
    exact ⟨ret_tup (by unfold parseN; rw [if_neg h]; rfl) (bool_eq (by unfold parseOk; simp [h])), rfl⟩


theorem hexDigit_dg : ∀ d : Fin 16, dg (hexDigit d.val) = d.val := by decide
theorem hexDigit_ok : ∀ d : Fin 16, digOk ((hexDigit d.val).toNat : Int) = true := by decide

theorem dg_hex {d : Nat} (h : d < 16) : dg (hexDigit d) = d := hexDigit_dg ⟨d, h⟩

theorem hexT_ok (b : Nat) : allDig (hexT b) = true := by
  unfold allDig hexT
  rw [List.all_map, List.all_eq_true]
  intro x _
  exact hexDigit_ok ⟨b / 16 ^ (15 - x) % 16, Nat.mod_lt _ (by decide)⟩

theorem hexT_pre (b : Nat) (hb : b < 18446744073709551616) : ∀ m, m ≤ 16 → hv ((List.range m).map fun k => hexDigit (b / 16 ^ (15 - k) % 16)) = b / 16 ^ (16 - m) := by
  intro m
  induction m with
  | zero => intro _; rw [show hv ((List.range 0).map fun k => hexDigit (b / 16 ^ (15 - k) % 16)) = 0 from rfl]; omega
  | succ m ih =>
    intro h
    rw [List.range_succ, List.map_append, List.map_singleton, hv_snoc, ih (by omega), dg_hex (Nat.mod_lt _ (by decide))]
    have e1 : b / 16 ^ (16 - m) = b / 16 ^ (15 - m) / 16 := by
      rw [Nat.div_div_eq_div_mul, ← Nat.pow_succ]; congr 2; omega
    have e2 : 16 - (m + 1) = 15 - m := by omega
    rw [e1, e2]
    omega

theorem hexT_hv {b : Nat} (hb : b < 18446744073709551616) : hv (hexT b) = b := by
  have := hexT_pre b hb 16 (by omega)
  simpa [hexT] using this

theorem parseN_hex {b : Nat} (hb : b < 18446744073709551616) : parseN ⟨(hexT b).toArray⟩ = b := by
  unfold parseN
  rw [if_pos (by show (hexT b).toArray.size = 16; simp [hexT_len])]
  unfold parseV
  rw [if_pos (hexT_ok b)]
  exact hexT_hv hb
theorem parseOk_hex (b : Nat) : parseOk ⟨(hexT b).toArray⟩ = true := by
  unfold parseOk
  rw [decide_eq_true (by show (hexT b).toArray.size = 16; simp [hexT_len]), Bool.true_and]
  exact hexT_ok b


theorem hex_dg {c : UInt8} (h : digOk (c.toNat : Int) = true) : hexDigit (dg c) = c := by
  have e : ((List.range 256).all fun n => !digOk ((UInt8.ofNat n).toNat : Int) || hexDigit (dg (UInt8.ofNat n)) == UInt8.ofNat n) = true := by decide +kernel
  have := List.all_eq_true.1 e c.toNat (List.mem_range.2 c.toNat_lt)
  simp only [UInt8.ofNat_toNat, h] at this
  simpa using this
def hexTo (n v : Nat) : List UInt8 := (List.range n).map fun k => hexDigit (v / 16 ^ (n - 1 - k) % 16)
theorem hexTo_hv : ∀ (l : List UInt8), allDig l = true → hexTo l.length (hv l) = l := by
  suffices H : ∀ (n : Nat) (l : List UInt8), l.length = n → allDig l = true → hexTo l.length (hv l) = l from fun l => H _ l rfl
  intro n
  induction n with
  | zero => intro l hl _; rw [List.eq_nil_of_length_eq_zero hl]; rfl
  | succ n ih =>
    intro l hl h
    rcases List.eq_nil_or_concat l with rfl | ⟨m, c, rfl⟩
    · rfl
    · rw [List.concat_eq_append] at *
      have hm : m.length = n := by simpa using hl
      rw [allDig_snoc, Bool.and_eq_true] at h
      have hi := ih m hm h.1
      rw [List.length_append, List.length_singleton, hm, hv_snoc]
      unfold hexTo
      rw [List.range_succ, List.map_append, List.map_singleton]
      congr 1
      · have hi2 : (List.range n).map (fun k => hexDigit (hv m / 16 ^ (n - 1 - k) % 16)) = m := by
          have := hi
          unfold hexTo at this
          rw [hm] at this
          exact this
        refine Eq.trans ?_ hi2
        apply List.map_congr_left
        intro k hk
        rw [List.mem_range] at hk
        have hd := dg_lt c
        have e1 : n + 1 - 1 - k = (n - 1 - k) + 1 := by omega
        rw [e1, Nat.pow_succ, Nat.mul_comm (16 ^ (n - 1 - k)), ← Nat.div_div_eq_div_mul, show (hv m * 16 + dg c) / 16 = hv m from by omega]
      · have hd := dg_lt c
        rw [show n + 1 - 1 - n = 0 from by omega, Nat.pow_zero, Nat.div_one, show (hv m * 16 + dg c) % 16 = dg c from by omega, hex_dg h.2]
theorem hexT_parse {l : List UInt8} (h : parseOk ⟨l.toArray⟩ = true) : hexT (parseN ⟨l.toArray⟩) = l := by
  unfold parseOk at h
  rw [Bool.and_eq_true, decide_eq_true_eq] at h
  have h1 : l.length = 16 := by
    have : l.toArray.size = 16 := h.1
    simpa using this
  have h2 : allDig l = true := h.2
  unfold parseN
  rw [if_pos h.1]
  show hexT (parseV l) = l
  unfold parseV
  rw [if_pos h2]
  have := hexTo_hv l h2
  rw [h1] at this
  exact this
end Go.Proofs.YtmfmgenmnikhbaaDoor.Hx
