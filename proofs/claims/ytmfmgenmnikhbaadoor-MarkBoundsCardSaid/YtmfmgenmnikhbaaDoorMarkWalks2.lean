/-
  LAYER 6, PACKAGE mark: Join, Meet, Count.
-/
import Derived.Test.YtmfmgenmnikhbaaDoorMarkWalks
namespace Go.Proofs.YtmfmgenmnikhbaaDoor.Mk
open Go.RowKit

def NumsAt (w : World) (B o : Nat) (xs : List Nat) : Prop := B < w.heap.size ∧ ∀ k, k < xs.length → w.cell? ⟨B, o + k, none⟩ = some (.int .u32 (xs.getD k 0 : Nat))
def small (xs : List Nat) : Prop := ∀ k, k < xs.length → xs.getD k 0 < 4294967296
def joinV (xs : List Nat) (k : Nat) : Nat := (xs.take k).foldl (· ||| ·) 0
def meetV (xs : List Nat) (k : Nat) : Nat := (xs.take k).foldl (· &&& ·) 67108863
theorem take_get {xs : List Nat} {k : Nat} (h : k < xs.length) : xs.take (k + 1) = xs.take k ++ [xs.getD k 0] := by
  rw [List.take_succ_eq_append_getElem h]
  congr 2
  simp [List.getD, List.getElem?_eq_getElem h]
theorem joinV_succ {xs : List Nat} {k : Nat} (h : k < xs.length) : joinV xs (k + 1) = joinV xs k ||| xs.getD k 0 := by
  unfold joinV; rw [take_get h, List.foldl_append]; rfl
theorem meetV_succ {xs : List Nat} {k : Nat} (h : k < xs.length) : meetV xs (k + 1) = meetV xs k &&& xs.getD k 0 := by
  unfold meetV; rw [take_get h, List.foldl_append]; rfl
theorem joinV_lt {xs : List Nat} (hs : small xs) : ∀ k, k ≤ xs.length → joinV xs k < 4294967296 := by
  intro k
  induction k with
  | zero => intro _; show (_ : Nat) < _; simp [joinV]
  | succ k ih =>
    intro hk
    rw [joinV_succ (by omega)]
    exact Nat.or_lt_two_pow (n := 32) (ih (by omega)) (hs k (by omega))
theorem meetV_lt (xs : List Nat) : ∀ k, k ≤ xs.length → meetV xs k < 67108864 := by
  intro k
  induction k with
  | zero => intro _; show (_ : Nat) < _; simp [meetV]
  | succ k ih =>
    intro hk
    rw [meetV_succ (by omega)]
    exact Nat.lt_of_le_of_lt Nat.and_le_left (ih (by omega))

theorem join_any (xs : List Nat) (hs : small xs) (hn : xs.length ≤ 140737488355328) (B o c : Nat) (w : World) (hc : NumsAt w B o xs) :
    Calls Tryd.prog 18 #[.slice (some ⟨B, o, none⟩) xs.length c] w fun e w' => e = .returned (.int .u32 (joinV xs xs.length : Nat)) ∧ w = w' := by
  go_enter Tryd.func18, Tryd.ntmps18
  go_wp2_with fail
  go_loop [3, 8] (fun v i => ∃ k : Nat, k ≤ xs.length ∧ i = .int .i64 k ∧ v = .int .u32 (joinV xs k : Nat)) (fun _ i => xs.length - (intOf i).toNat)
  case atStart => exact ⟨0, by omega, rfl, rfl⟩
  case round =>
    obtain ⟨k, hk, rfl, rfl⟩ := hrel
    by_cases hlt : k < xs.length
    · have hcell := hc.2 k hlt
      have hbl := hc.1
      have hsx := hs k hlt
      have hj := joinV_lt hs k hk
      have hor := u32_or_nat (joinV xs k) (xs.getD k 0) hj hsx
      have HJ := hid (joinV_succ hlt)
      generalize xs.getD k 0 = x at *
      generalize joinV xs k = A at *
      go_wp2_with fail
      go_round
      case rel => exact ⟨k + 1, by omega, by go_num, int_eq (by rw [HJ.out])⟩
      case measure => simp [intOf]; omega
    · have hke : k = xs.length := by omega
      go_wp2_with fail
      go_ret
      exact ⟨rfl, rfl⟩
theorem meet_any (xs : List Nat) (hs : small xs) (hn : xs.length ≤ 140737488355328) (B o c : Nat) (w : World) (hc : NumsAt w B o xs) :
    Calls Tryd.prog 19 #[.slice (some ⟨B, o, none⟩) xs.length c] w fun e w' => e = .returned (.int .u32 (meetV xs xs.length : Nat)) ∧ w = w' := by
  go_enter Tryd.func19, Tryd.ntmps19
  go_wp2_with fail
  go_loop [3, 8] (fun v i => ∃ k : Nat, k ≤ xs.length ∧ i = .int .i64 k ∧ v = .int .u32 (meetV xs k : Nat)) (fun _ i => xs.length - (intOf i).toNat)
  case atStart => exact ⟨0, by omega, rfl, rfl⟩
  case round =>
    obtain ⟨k, hk, rfl, rfl⟩ := hrel
    by_cases hlt : k < xs.length
    · have hcell := hc.2 k hlt
      have hbl := hc.1
      have hsx := hs k hlt
      have hj := meetV_lt xs k hk
      have hor := u32_and_nat (meetV xs k) (xs.getD k 0) (by omega) hsx
      have HJ := hid (meetV_succ hlt)
      generalize xs.getD k 0 = x at *
      generalize meetV xs k = A at *
      go_wp2_with fail
      go_round
      case rel => exact ⟨k + 1, by omega, by go_num, int_eq (by rw [HJ.out])⟩
      case measure => simp [intOf]; omega
    · have hke : k = xs.length := by omega
      go_wp2_with fail
      go_ret
      exact ⟨rfl, rfl⟩
theorem join_nil (a : Option Addr) (c : Nat) (w : World) :
    Calls Tryd.prog 18 #[.slice a 0 c] w fun e w' => e = .returned (.int .u32 0) ∧ w = w' := by
  go_enter Tryd.func18, Tryd.ntmps18
  go_wp2_with fail
  go_loop [3, 8] (fun v i => i = .int .i64 0 ∧ v = .int .u32 0) (fun _ _ => 0)
  case atStart => exact ⟨rfl, rfl⟩
  case round =>
    obtain ⟨rfl, rfl⟩ := hrel
    go_wp2_with fail
    go_ret
    exact ⟨rfl, rfl⟩
theorem meet_nil (a : Option Addr) (c : Nat) (w : World) :
    Calls Tryd.prog 19 #[.slice a 0 c] w fun e w' => e = .returned (.int .u32 67108863) ∧ w = w' := by
  go_enter Tryd.func19, Tryd.ntmps19
  go_wp2_with fail
  go_loop [3, 8] (fun v i => i = .int .i64 0 ∧ v = .int .u32 67108863) (fun _ _ => 0)
  case atStart => exact ⟨rfl, rfl⟩
  case round =>
    obtain ⟨rfl, rfl⟩ := hrel
    go_wp2_with fail
    go_ret
    exact ⟨rfl, rfl⟩

/-- how many bits each byte has -/
def popT : ByteArray := ⟨((([0, 1, 1, 2, 1, 2, 2, 3, 1, 2, 2, 3, 2, 3, 3, 4, 1, 2, 2, 3, 2, 3, 3, 4, 2, 3, 3, 4, 3, 4, 4, 5, 1, 2, 2, 3, 2, 3, 3, 4, 2, 3, 3, 4, 3, 4, 4, 5, 2, 3, 3, 4, 3, 4, 4, 5, 3, 4, 4, 5, 4, 5, 5, 6] : List UInt8).append [1, 2, 2, 3, 2, 3, 3, 4, 2, 3, 3, 4, 3, 4, 4, 5, 2, 3, 3, 4, 3, 4, 4, 5, 3, 4, 4, 5, 4, 5, 5, 6, 2, 3, 3, 4, 3, 4, 4, 5, 3, 4, 4, 5, 4, 5, 5, 6, 3, 4, 4, 5, 4, 5, 5, 6, 4, 5, 5, 6, 5, 6, 6, 7]).append (([1, 2, 2, 3, 2, 3, 3, 4, 2, 3, 3, 4, 3, 4, 4, 5, 2, 3, 3, 4, 3, 4, 4, 5, 3, 4, 4, 5, 4, 5, 5, 6, 2, 3, 3, 4, 3, 4, 4, 5, 3, 4, 4, 5, 4, 5, 5, 6, 3, 4, 4, 5, 4, 5, 5, 6, 4, 5, 5, 6, 5, 6, 6, 7] : List UInt8).append [2, 3, 3, 4, 3, 4, 4, 5, 3, 4, 4, 5, 4, 5, 5, 6, 3, 4, 4, 5, 4, 5, 5, 6, 4, 5, 5, 6, 5, 6, 6, 7, 3, 4, 4, 5, 4, 5, 5, 6, 4, 5, 5, 6, 5, 6, 6, 7, 4, 5, 5, 6, 5, 6, 6, 7, 5, 6, 6, 7, 6, 7, 7, 8])).toArray⟩
theorem popT_size : popT.size = 256 := by kernel_rfl
/-- how many of the first m bits are set -/
def cnt (m a : Nat) : Nat := ((List.range m).filter fun i => a.testBit i).length
theorem pop_cnt (x : Nat) (h : x < 256) (h' : x < popT.size) : popT[x].toNat = cnt 8 x := by
  have e : ((List.range 256).all fun x => popT.data.toList[x]?.map UInt8.toNat == some (cnt 8 x)) = true := by decide +kernel
  have := List.all_eq_true.1 e x (List.mem_range.2 h)
  rw [byte_at popT x h'] at this
  simpa using this
theorem cnt_add (m a : Nat) : cnt (8 + m) a = cnt 8 (a % 256) + cnt m (a / 256) := by
  unfold cnt
  rw [List.range_add, List.filter_append, List.length_append, List.filter_map, List.length_map]
  congr 1
  · congr 1
    apply List.filter_congr
    intro i hi
    rw [List.mem_range] at hi
    rw [show (256 : Nat) = 2 ^ 8 from rfl, Nat.testBit_mod_two_pow, decide_eq_true hi, Bool.true_and]
  · congr 1
    apply List.filter_congr
    intro i _
    rw [show (256 : Nat) = 2 ^ 8 from rfl, Nat.testBit_div_two_pow]
    simp [Nat.add_comm]
theorem cnt_four {a : Nat} (ha : a < 4294967296) : cnt 32 a = cnt 8 (a / 16777216) + cnt 8 (a / 65536 % 256) + cnt 8 (a / 256 % 256) + cnt 8 (a % 256) := by
  rw [show 32 = 8 + 24 from rfl, cnt_add, show 24 = 8 + 16 from rfl, cnt_add, show 16 = 8 + 8 from rfl, cnt_add, Nat.div_div_eq_div_mul, Nat.div_div_eq_div_mul, show 8 = 8 + 0 from rfl, cnt_add 0 (a / (256 * 256 * 256))]
  have : a / (256 * 256 * 256) % 256 = a / 16777216 := by omega
  rw [this]
  have z : ∀ b, cnt 0 b = 0 := fun b => rfl
  rw [z]
  simp only [Nat.add_zero, Nat.reduceMul]
  omega
theorem cnt_labs (n : Nat) : cnt 32 (n % 67108864) = (labs n).length := by
  unfold cnt labs
  rw [List.length_map, show 32 = 26 + 6 from rfl, List.range_add, List.filter_append, List.length_append]
  have e2 : ((List.range 6).map (26 + ·)).filter (fun i => (n % 67108864).testBit i) = [] := by
    rw [List.filter_eq_nil_iff]
    intro i hi
    obtain ⟨j, _, rfl⟩ := List.mem_map.1 hi
    rw [show (67108864 : Nat) = 2 ^ 26 from rfl, Nat.testBit_mod_two_pow, decide_eq_false (by omega : ¬ 26 + j < 26)]
    simp
  rw [e2, List.length_nil, Nat.add_zero]
  congr 1
  apply List.filter_congr
  intro i hi
  rw [List.mem_range] at hi
  rw [show (67108864 : Nat) = 2 ^ 26 from rfl, Nat.testBit_mod_two_pow, decide_eq_true hi, Bool.true_and]

set_option maxRecDepth 100000 in
theorem ones_any (a : Nat) (ha : a < 4294967296) (w : World) :
    Calls Tryd.prog 28 #[.int .u32 (a : Int)] w (Gives (.int .i64 (cnt 32 a : Nat)) w) := by
  have HC := hid (cnt_four ha)
  have h1 : bits .and .u32 ((a : Int) / 65536) 255 = ((a / 65536 % 256 : Nat) : Int) := by
    have := u32_and_nat (a / 65536) 255 (by omega) (by decide)
    rw [show (255 : Nat) = 2 ^ 8 - 1 from rfl, Nat.and_two_pow_sub_one_eq_mod] at this
    exact this
  have h2 : bits .and .u32 ((a : Int) / 256) 255 = ((a / 256 % 256 : Nat) : Int) := by
    have := u32_and_nat (a / 256) 255 (by omega) (by decide)
    rw [show (255 : Nat) = 2 ^ 8 - 1 from rfl, Nat.and_two_pow_sub_one_eq_mod] at this
    exact this
  have h3 : bits .and .u32 (a : Int) 255 = ((a % 256 : Nat) : Int) := by
    have := u32_and_nat a 255 ha (by decide)
    rw [show (255 : Nat) = 2 ^ 8 - 1 from rfl, Nat.and_two_pow_sub_one_eq_mod] at this
    exact this
  have b1 : a / 65536 % 256 < 256 := Nat.mod_lt _ (by decide)
  have b2 : a / 256 % 256 < 256 := Nat.mod_lt _ (by decide)
  have b3 : a % 256 < 256 := Nat.mod_lt _ (by decide)
  have b0 : a / 16777216 < 256 := by omega
  have e0 : (a : Int) / 16777216 = ((a / 16777216 : Nat) : Int) := by omega
  have HP := hid (fun x h h' => pop_cnt x h h')
  generalize a / 65536 % 256 = x1 at *
  generalize a / 256 % 256 = x2 at *
  generalize a % 256 = x3 at *
  generalize a / 16777216 = x0 at *
  have d0 : x0 < popT.size := by rw [popT_size]; exact b0
  have d1 : x1 < popT.size := by rw [popT_size]; exact b1
  have d2 : x2 < popT.size := by rw [popT_size]; exact b2
  have d3 : x3 < popT.size := by rw [popT_size]; exact b3
  go_enter Tryd.func28, Tryd.ntmps28
  go_wp2_with fail
  rw [show (⟨((([0, 1, 1, 2, 1, 2, 2, 3, 1, 2, 2, 3, 2, 3, 3, 4, 1, 2, 2, 3, 2, 3, 3, 4, 2, 3, 3, 4, 3, 4, 4, 5, 1, 2, 2, 3, 2, 3, 3, 4, 2, 3, 3, 4, 3, 4, 4, 5, 2, 3, 3, 4, 3, 4, 4, 5, 3, 4, 4, 5, 4, 5, 5, 6] : List UInt8).append [1, 2, 2, 3, 2, 3, 3, 4, 2, 3, 3, 4, 3, 4, 4, 5, 2, 3, 3, 4, 3, 4, 4, 5, 3, 4, 4, 5, 4, 5, 5, 6, 2, 3, 3, 4, 3, 4, 4, 5, 3, 4, 4, 5, 4, 5, 5, 6, 3, 4, 4, 5, 4, 5, 5, 6, 4, 5, 5, 6, 5, 6, 6, 7]).append (([1, 2, 2, 3, 2, 3, 3, 4, 2, 3, 3, 4, 3, 4, 4, 5, 2, 3, 3, 4, 3, 4, 4, 5, 3, 4, 4, 5, 4, 5, 5, 6, 2, 3, 3, 4, 3, 4, 4, 5, 3, 4, 4, 5, 4, 5, 5, 6, 3, 4, 4, 5, 4, 5, 5, 6, 4, 5, 5, 6, 5, 6, 6, 7] : List UInt8).append [2, 3, 3, 4, 3, 4, 4, 5, 3, 4, 4, 5, 4, 5, 5, 6, 3, 4, 4, 5, 4, 5, 5, 6, 4, 5, 5, 6, 5, 6, 6, 7, 3, 4, 4, 5, 4, 5, 5, 6, 4, 5, 5, 6, 5, 6, 6, 7, 4, 5, 5, 6, 5, 6, 6, 7, 5, 6, 6, 7, 6, 7, 7, 8])).toArray⟩ : ByteArray) = popT from rfl]
  go_quiet (fail)
  go_wp2
  go_ret
  refine gives rfl (int_eq ?_) (below_drewN' (Below.refl _ _) _)
  rw [HP.out x0 b0 d0, HP.out x1 b1 d1, HP.out x2 b2 d2, HP.out x3 b3 d3, HC.out]
  have hl : ∀ x, cnt 8 x ≤ 8 := fun x => by unfold cnt; exact Nat.le_trans (List.length_filter_le _ _) (by simp)
  have := hl x0
  have := hl x1
  have := hl x2
  have := hl x3
  omega

theorem and_all (n : Nat) (hn : n < 4294967296) : bits .and .u32 (n : Int) 67108863 = ((n % 67108864 : Nat) : Int) := by
  have := u32_and_nat n 67108863 hn (by decide)
  rw [show (67108863 : Nat) = 2 ^ 26 - 1 from rfl, Nat.and_two_pow_sub_one_eq_mod] at this
  exact this
theorem count_any (n : Nat) (hn : n < 4294967296) (w : World) :
    Calls Tryd.prog 15 #[.int .u32 (n : Int)] w (Gives (.int .i64 ((labs n).length : Nat)) w) := by
  have ha := and_all n hn
  have hm : n % 67108864 < 4294967296 := by omega
  have HO := fun w => hid (ones_any (n % 67108864) hm w)
  rw [cnt_labs] at HO
  generalize (labs n).length = L at HO ⊢
  generalize n % 67108864 = m at HO ha hm
  go_enter Tryd.func15, Tryd.ntmps15
  go_wp2_with (go_at_call 28; (with_reducible refine ((HO _).out).mono ?_); rintro e w' ⟨rfl, hb⟩)
  go_ret
  exact gives rfl rfl hb
end Go.Proofs.YtmfmgenmnikhbaaDoor.Mk
