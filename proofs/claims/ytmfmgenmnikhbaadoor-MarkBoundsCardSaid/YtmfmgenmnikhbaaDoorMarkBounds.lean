/-
  LAYER 6: the law of bounds.
-/
import Derived.Test.YtmfmgenmnikhbaaDoorMarkLaws
import Derived.Test.YtmfmgenmnikhbaaDoorOpens
namespace Go.Proofs.YtmfmgenmnikhbaaDoor.Mk
open Go.RowKit

theorem bit_hi {a i : Nat} (ha : a < 4294967296) (h : 32 ≤ i) : a.testBit i = false :=
  Nat.testBit_lt_two_pow (Nat.lt_of_lt_of_le ha (Nat.pow_le_pow_right (by decide : 0 < 2) h))
theorem under_or {a b n : Nat} (ha : a < 4294967296) (hb : b < 4294967296) (hn : n < 4294967296) : underV (a ||| b) n = (underV a n && underV b n) := by
  have hab : a ||| b < 4294967296 := Nat.or_lt_two_pow (n := 32) ha hb
  rw [Bool.eq_iff_iff, Bool.and_eq_true, under_bits hab hn, under_bits ha hn, under_bits hb hn]
  constructor
  · intro h
    exact ⟨fun i hi k => h i hi (by rw [Nat.testBit_or, k]; rfl), fun i hi k => h i hi (by rw [Nat.testBit_or, k, Bool.or_true])⟩
  · rintro ⟨h1, h2⟩ i hi k
    rw [Nat.testBit_or, Bool.or_eq_true] at k
    rcases k with k | k
    · exact h1 i hi k
    · exact h2 i hi k
theorem under_and {a b n : Nat} (ha : a < 4294967296) (hb : b < 4294967296) (hn : n < 4294967296) : underV n (a &&& b) = (underV n a && underV n b) := by
  have hab : a &&& b < 4294967296 := Nat.lt_of_le_of_lt Nat.and_le_left ha
  rw [Bool.eq_iff_iff, Bool.and_eq_true, under_bits hn hab, under_bits hn ha, under_bits hn hb]
  constructor
  · intro h
    refine ⟨fun i hi k => ?_, fun i hi k => ?_⟩
    · have := h i hi k; rw [Nat.testBit_and, Bool.and_eq_true] at this; exact this.1
    · have := h i hi k; rw [Nat.testBit_and, Bool.and_eq_true] at this; exact this.2
  · rintro ⟨h1, h2⟩ i hi k
    rw [Nat.testBit_and, h1 i hi k, h2 i hi k]; rfl
theorem under_zero {n : Nat} (hn : n < 4294967296) : underV 0 n = true := (under_bits (by decide) hn).2 (fun i _ h => by simp at h)

def abv (xs : List Nat) (n k : Nat) : Bool := (xs.take k).all fun x => underV x n
def bel (xs : List Nat) (n k : Nat) : Bool := (xs.take k).all fun x => underV n x
theorem abv_succ {xs : List Nat} {n k : Nat} (h : k < xs.length) : abv xs n (k + 1) = (abv xs n k && underV (xs.getD k 0) n) := by
  unfold abv; rw [take_get h, List.all_append]; simp
theorem bel_succ {xs : List Nat} {n k : Nat} (h : k < xs.length) : bel xs n (k + 1) = (bel xs n k && underV n (xs.getD k 0)) := by
  unfold bel; rw [take_get h, List.all_append]; simp
theorem join_under {xs : List Nat} {n : Nat} (hs : small xs) (hn : n < 4294967296) : ∀ k, k ≤ xs.length → underV (joinV xs k) n = abv xs n k := by
  intro k
  induction k with
  | zero => intro _; exact under_zero hn
  | succ k ih =>
    intro hk
    rw [joinV_succ (by omega), abv_succ (by omega), under_or (joinV_lt hs k (by omega)) (hs k (by omega)) hn, ih (by omega)]
theorem meet_under {xs : List Nat} {n : Nat} (hs : small xs) (hn : n < 4294967296) : ∀ k, k ≤ xs.length → underV n (meetV xs k) = (bel xs n k && decide (n < 67108864)) := by
  intro k
  induction k with
  | zero => intro _; show underV n 67108863 = _; rw [check_lt hn]; rfl
  | succ k ih =>
    intro hk
    have hm := meetV_lt xs k (by omega)
    rw [meetV_succ (by omega), bel_succ (by omega), under_and (by omega) (hs k (by omega)) hn, ih (by omega), Bool.and_right_comm]
theorem join_over {xs : List Nat} (hs : small xs) : ∀ k, k ≤ xs.length → ∀ i, i < k → underV (xs.getD i 0) (joinV xs k) = true := by
  intro k
  induction k with
  | zero => intro _ i h; omega
  | succ k ih =>
    intro hk i hi
    have hj := joinV_lt hs k (by omega)
    have hj' := joinV_lt hs (k + 1) hk
    rw [under_bits (hs i (by omega)) hj']
    intro b hb h
    rw [joinV_succ (by omega), Nat.testBit_or]
    rcases Nat.lt_or_ge i k with h' | h'
    · rw [(under_bits (hs i (by omega)) hj).1 (ih (by omega) i h') b hb h]; rfl
    · rw [show k = i from by omega, h, Bool.or_true]
theorem meet_over {xs : List Nat} (hs : small xs) : ∀ k, k ≤ xs.length → ∀ i, i < k → underV (meetV xs k) (xs.getD i 0) = true := by
  intro k
  induction k with
  | zero => intro _ i h; omega
  | succ k ih =>
    intro hk i hi
    have hj := meetV_lt xs k (by omega)
    have hj' := meetV_lt xs (k + 1) hk
    rw [under_bits (by omega) (hs i (by omega))]
    intro b hb h
    rw [meetV_succ (by omega), Nat.testBit_and, Bool.and_eq_true] at h
    rcases Nat.lt_or_ge i k with h' | h'
    · exact (under_bits (by omega) (hs i (by omega))).1 (ih (by omega) i h') b hb h.1
    · rw [show i = k from by omega]; exact h.2

def labCells (xs : List Nat) : List Value := xs.map fun (x : Nat) => .int .u32 (x : Int)
theorem lab_snoc (xs : List Nat) (x : Nat) : labCells (xs ++ [x]) = labCells xs ++ [.int .u32 (x : Int)] := by simp [labCells]
theorem infoLab : (Tryd.prog.info? 23).map (fun i => (i.zero, i.size, i.bytes)) = some (some (.int .u32 0), 1, 4) := by kernel_rfl

theorem lab_len (xs : List Nat) : (labCells xs).length = xs.length := by simp [labCells]
theorem lab_get {xs : List Nat} {k : Nat} (h : k < xs.length) : (labCells xs)[k]? = some (.int .u32 (xs.getD k 0 : Nat)) := by
  unfold labCells
  rw [List.getElem?_map, List.getElem?_eq_getElem h]
  simp [List.getD, List.getElem?_eq_getElem h]
theorem NumsAt.below {w w' : World} {B o : Nat} {xs : List Nat} (h : NumsAt w B o xs) (hb : Below w.heap.size w w') : NumsAt w' B o xs :=
  ⟨Nat.lt_of_lt_of_le h.1 hb.size, fun k hk => by rw [hb.cell h.1]; exact h.2 k hk⟩

set_option maxRecDepth 100000 in
set_option maxHeartbeats 4000000 in
theorem law_bounds_in (xs : List Nat) (hs : small xs) (hn : xs.length ≤ 100) (B o c n : Nat) (hnn : n < 4294967296) (w : World) (hc : NumsAt w B o xs) (ht : Tab w) :
    Calls Tryd.prog 6 #[.slice (some ⟨B, o, none⟩) xs.length c, .int .u32 (n : Int)] w (LawOk w) := by
  have HM := hid (marked_any w ht)
  have HC := hid hc
  have HS := hid hs
  have HNN := hid hnn
  clear ht hc hs
  go_enter Tryd.func6, Tryd.ntmps6
  go_wp2_with (first | (go_at_call 10; (with_reducible refine (HM.out).mono ?_); rintro e w' ⟨rfl, hb1⟩))
  go_loopw [5, 6, 7, 9] (fun v a b i wr => ∃ k : Nat, k ≤ xs.length ∧ i = .int .i64 k ∧ a = .bool (abv xs n k) ∧ b = .bool (bel xs n k) ∧ wr.ownsRow w.heap.size 23 1 v k (labCells (xs.take k)) ∧ Below w.heap.size w wr) (fun _ _ _ i _ => xs.length - (intOf i).toNat)
  case atStart => exact ⟨0, by omega, rfl, rfl, rfl, World.ownsRow_nil _ _ _ _, hb1⟩
  case round =>
    obtain ⟨k, hk, rfl, rfl, rfl, hown, hb⟩ := hrel
    by_cases hlt : k < xs.length
    · have hN := HC.out.below hb
      have hcell := hN.2 k hlt
      have hbl := hN.1
      have hx := HS.out k hlt
      have HA := hid (abv_succ (n := n) hlt)
      have HBb := hid (bel_succ (n := n) hlt)
      have HTK := hid (show labCells (xs.take (k + 1)) = labCells (xs.take k) ++ [.int .u32 (xs.getD k 0 : Nat)] by rw [take_get hlt, lab_snoc])
      have U1 := fun w => hid (runder_any (xs.getD k 0) n hx HNN.out w)
      have U2 := fun w => hid (runder_any n (xs.getD k 0) HNN.out hx w)
      have HCX := hid (fun w' (h : Below w.heap.size w w') => (HC.out.below h).2 k hlt)
      generalize xs.getD k 0 = x at *
      generalize underV x n = p at *
      generalize underV n x = q at *
      have hlen : (labCells (xs.take k)).length = k := by rw [lab_len, List.length_take]; omega
      generalize labCells (xs.take k) = L at *
      generalize hL1 : labCells (xs.take (k + 1)) = L1 at *
      have HL1 := hid hL1
      clear hL1
      obtain ⟨va, vc, rfl⟩ := own_shape hown
      obtain ⟨iI, ki, kz0, kz1, kz2⟩ := info_parts infoLab
      have ki := hid ki
      have kz0 := hid kz0
      have kz1 := hid kz1
      have kz2 := hid kz2
      have hszb := hb.size
      have HLEN := hid hlen
      have HOWN := hid hown
      have HB := hid hb
      clear hlen hown hN hb
      generalize abv xs n k = aa at *
      generalize bel xs n k = bb at *
      generalize hA1 : abv xs n (k + 1) = aa1 at *
      generalize hB1 : bel xs n (k + 1) = bb1 at *
      have HA1 := hid hA1
      have HB1 := hid hB1
      clear hA1 hB1
      go_wp2_with (at_builtin; refine wpList_append_own _ rfl _ _ 40 rfl w.heap.size 23 iI (.int .u32 0) 1 4 Tryd.underlying40 ki.out kz0.out kz1.out kz2.out rfl (by decide) _ _ _ rfl (HOWN.out.alloc _) ⟨wr.heap.size, 0, none⟩ 1 1 [.int .u32 (x : Int)] rfl rfl ?c1 ?c2 ?c3 ?c4 ?c5 ?_)
      case c1 => exact cell_one_at _ _ _ _ rfl
      case c2 => intro u hu; simp at hu; subst hu; rfl
      case c3 => unfold maxLen; omega
      case c4 => omega
      case c5 => simp; omega
      intro v' w2 hown2 hgrow _
      have hb2 : Below w.heap.size w w2 := (HB.out.alloc hszb _).grown hgrow (by simp; omega) (fun k hk => (HOWN.out.lt k hk).1)
      have hc2 := HCX.out w2 hb2
      have hbl2 := (HC.out.below hb2).1
      have HG := hid hgrow
      have HO2 := hid hown2
      have HB2 := hid hb2
      clear hgrow hown2 hb2 hcell hbl
      cases aa <;> cases bb
      all_goals
        go_wp2_with (first | (go_at_call 17; (with_reducible refine ((U1 _).out).mono ?_); rintro e w' ⟨rfl, rfl⟩) | (go_at_call 17; (with_reducible refine ((U2 _).out).mono ?_); rintro e w' ⟨rfl, rfl⟩))
        go_roundw
        case rel => exact ⟨k + 1, by omega, by go_num, bool_eq (by rw [HA1.out, HA.out]; rfl), bool_eq (by rw [HB1.out, HBb.out]; rfl), by rw [HL1.out, HTK.out]; exact HO2.out, HB2.out⟩
        case measure => simp [intOf]; omega
    · have hke : k = xs.length := by omega
      subst hke
      rw [List.take_length] at hown
      have HJ := hid (join_under HS.out HNN.out xs.length (Nat.le_refl _))
      have HME := hid (meet_under HS.out HNN.out xs.length (Nat.le_refl _))
      have HJO := hid (join_over HS.out xs.length (Nat.le_refl _))
      have HMO := hid (meet_over HS.out xs.length (Nat.le_refl _))
      have hJ := joinV_lt HS.out xs.length (Nat.le_refl _)
      have hM := meetV_lt xs xs.length (Nat.le_refl _)
      obtain ⟨oa, cc, rfl⟩ := own_shape hown
      obtain ⟨J, M, hcells⟩ : Hid (Calls Tryd.prog 18 #[.slice oa xs.length cc] wr fun e w' => e = .returned (.int .u32 (joinV xs xs.length : Nat)) ∧ wr = w') ∧ Hid (Calls Tryd.prog 19 #[.slice oa xs.length cc] wr fun e w' => e = .returned (.int .u32 (meetV xs xs.length : Nat)) ∧ wr = w') ∧ Hid (∀ k, k < xs.length → ∃ g, oa = some ⟨g, 0, none⟩ ∧ g < wr.heap.size ∧ wr.cell? ⟨g, k, none⟩ = some (.int .u32 (xs.getD k 0 : Nat))) := by
        rcases ownsRow_one hown with ⟨_, h0, _⟩ | ⟨g, cc', hv, hg1, hg2, hg3, hg4, hcell⟩
        · have hx0 : xs = [] := List.eq_nil_of_length_eq_zero h0
          subst hx0
          exact ⟨hid (join_nil oa cc wr), hid (meet_nil oa cc wr), hid (fun k h => by simp at h)⟩
        · injection hv with e1 e2 e3
          subst e1
          have hat : NumsAt wr g 0 xs := ⟨hg2, fun k hk => by rw [Nat.zero_add]; exact hcell k _ (lab_get hk)⟩
          exact ⟨hid (join_any xs HS.out (by omega) g 0 cc wr hat), hid (meet_any xs HS.out (by omega) g 0 cc wr hat), hid (fun k hk => ⟨g, rfl, hg2, hcell k _ (lab_get hk)⟩)⟩
      have HB := hid hb
      have U3 := fun w => hid (under_any (joinV xs xs.length) n hJ HNN.out w)
      have U4 := fun w => hid (under_any n (meetV xs xs.length) HNN.out (by omega) w)
      have K := fun w => hid (check_any (meetV xs xs.length) (by omega) w)
      rw [check_lt (by omega), decide_eq_true hM] at K
      have U1 := hid (fun k (hk : k < xs.length) w => (show Calls Tryd.prog 16 #[.int .u32 (xs.getD k 0 : Nat), .int .u32 (joinV xs xs.length : Nat)] w fun e w' => e = .returned (.bool true) ∧ w = w' from by
        have h := under_any (xs.getD k 0) (joinV xs xs.length) (HS.out k hk) hJ w
        rwa [HJO.out k hk] at h))
      have U2 := hid (fun k (hk : k < xs.length) w => (show Calls Tryd.prog 16 #[.int .u32 (meetV xs xs.length : Nat), .int .u32 (xs.getD k 0 : Nat)] w fun e w' => e = .returned (.bool true) ∧ w = w' from by
        have h := under_any (meetV xs xs.length) (xs.getD k 0) (by omega) (HS.out k hk) w
        rwa [HMO.out k hk] at h))
      rw [HJ.out] at U3
      rw [HME.out] at U4
      clear hJ hM hown hb HJO HMO HJ HME
      generalize joinV xs xs.length = Jv at *
      generalize meetV xs xs.length = Mv at *
      generalize abv xs n xs.length = aa at *
      generalize bel xs n xs.length = bb at *
      obtain ⟨d26, hd0⟩ : ∃ d, d = decide ((n : Int) < 67108864) := ⟨_, rfl⟩
      have hdn : decide (n < 67108864) = d26 := by rw [hd0]; apply decide_eq_decide.2; omega
      rw [hdn] at U4
      have hd26 := hd0.symm
      clear hdn HNN hnn hd0
      generalize (n : Int) = N at *
      go_wp2_with (first | (go_at_call 18; (with_reducible refine (J.out).mono ?_); rintro e w' ⟨rfl, rfl⟩) | (go_at_call 19; (with_reducible refine (M.out).mono ?_); rintro e w' ⟨rfl, rfl⟩))
      go_loop [12] (fun i => ∃ k : Nat, k ≤ xs.length ∧ i = .int .i64 k) (fun i => xs.length - (intOf i).toNat)
      case atStart => exact ⟨0, Nat.zero_le _, rfl⟩
      case round =>
        obtain ⟨k, hk, rfl⟩ := hrel
        by_cases hlt2 : k < xs.length
        · obtain ⟨g, rfl, hgl, hcell⟩ := hcells.out k hlt2
          have u1 := fun w => hid (U1.out k hlt2 w)
          have u2 := fun w => hid (U2.out k hlt2 w)
          generalize xs.getD k 0 = x at *
          go_wp2_with (first | (go_at_call 16; (with_reducible refine ((u1 _).out).mono ?_); rintro e w' ⟨rfl, rfl⟩) | (go_at_call 16; (with_reducible refine ((u2 _).out).mono ?_); rintro e w' ⟨rfl, rfl⟩))
          go_round
          case rel => exact ⟨k + 1, by omega, by go_num⟩
          case measure => simp [intOf]; omega
        · by_cases hN : N < 67108864
          · rw [decide_eq_true hN] at hd26
            subst hd26
            cases bb
            all_goals
              go_wp2_with (first | (go_at_call 16; (with_reducible refine ((U3 _).out).mono ?_); rintro e w' ⟨rfl, rfl⟩) | (go_at_call 16; (with_reducible refine ((U4 _).out).mono ?_); rintro e w' ⟨rfl, rfl⟩) | (go_at_call 13; (with_reducible refine ((K _).out).mono ?_); rintro e w' ⟨rfl, rfl⟩))
              go_ret
              exact ⟨rfl, HB.out⟩
          · rw [decide_eq_false hN] at hd26
            subst hd26
            have hN2 : (67108864 : Int) ≤ N := by omega
            clear hN
            cases bb
            all_goals
              go_wp2_with (first | (go_at_call 16; (with_reducible refine ((U3 _).out).mono ?_); rintro e w' ⟨rfl, rfl⟩) | (go_at_call 16; (with_reducible refine ((U4 _).out).mono ?_); rintro e w' ⟨rfl, rfl⟩) | (go_at_call 13; (with_reducible refine ((K _).out).mono ?_); rintro e w' ⟨rfl, rfl⟩))
              go_ret
              first | exact ⟨ret_bool (by rw [decide_eq_false (by omega)]; rfl), HB.out⟩ | exact ⟨rfl, HB.out⟩

theorem law_bounds_out (a : Option Addr) (m c : Nat) (hm : 100 < m) (n : Int) (w : World) (ht : Tab w) :
    Calls Tryd.prog 6 #[.slice a m c, .int .u32 n] w (LawOk w) := by
  have HT := hid ht
  have HM := fun w h => hid (marked_any w h)
  have hmI : (100 : Int) < (m : Int) := by omega
  clear ht
  go_enter Tryd.func6, Tryd.ntmps6
  go_wp2_with fail
  refine (HM _ HT.out).out.mono ?_
  rintro e w1 ⟨rfl, hb1⟩
  go_wp2_with fail
  refine (HM _ (HT.out.below hb1)).out.mono ?_
  rintro e w2 ⟨rfl, hb2⟩
  go_wp2_with fail
  go_ret
  exact ⟨rfl, below_trans hb1 hb2⟩

set_option maxHeartbeats 1000000 in
theorem law_bounds_nil (a : Option Addr) (c n : Nat) (hnn : n < 4294967296) (w : World) (ht : Tab w) :
    Calls Tryd.prog 6 #[.slice a 0 c, .int .u32 (n : Int)] w (LawOk w) := by
  have HM := hid (marked_any w ht)
  have J := fun w => hid (join_nil none 0 w)
  have M := fun w => hid (meet_nil none 0 w)
  have U3 := fun w => hid (show Calls Tryd.prog 16 #[.int .u32 0, .int .u32 (n : Int)] w fun e w' => e = .returned (.bool true) ∧ w = w' from by
    have h := under_any 0 n (by decide) hnn w
    rwa [under_zero hnn] at h)
  have U4 := fun w => hid (show Calls Tryd.prog 16 #[.int .u32 (n : Int), .int .u32 67108863] w fun e w' => e = .returned (.bool (decide (n < 67108864))) ∧ w = w' from by
    have h := under_any n 67108863 hnn (by decide) w
    rwa [check_lt hnn] at h)
  have K := fun w => hid (show Calls Tryd.prog 13 #[.int .u32 67108863] w fun e w' => e = .returned (.bool true) ∧ w = w' from by
    have h := check_any 67108863 (by decide) w
    rwa [check_lt (by decide), decide_eq_true (by decide)] at h)
  obtain ⟨d26, hd0⟩ : ∃ d, d = decide ((n : Int) < 67108864) := ⟨_, rfl⟩
  have hdn : decide (n < 67108864) = d26 := by rw [hd0]; apply decide_eq_decide.2; omega
  rw [hdn] at U4
  have hd26 := hd0.symm
  clear hdn hnn ht hd0
  generalize (n : Int) = N at *
  go_enter Tryd.func6, Tryd.ntmps6
  go_wp2_with (first | (go_at_call 10; (with_reducible refine (HM.out).mono ?_); rintro e w' ⟨rfl, hb1⟩))
  go_loopw [5, 6, 7, 9] (fun v a b i wr => v = .slice none 0 0 ∧ a = .bool true ∧ b = .bool true ∧ i = .int .i64 0 ∧ Below w.heap.size w wr) (fun _ _ _ _ _ => 0)
  case atStart => exact ⟨rfl, rfl, rfl, rfl, hb1⟩
  case round =>
    obtain ⟨rfl, rfl, rfl, rfl, hb⟩ := hrel
    by_cases hN : N < 67108864
    · rw [decide_eq_true hN] at hd26
      subst hd26
      go_wp2_with (first | (go_at_call 18; (with_reducible refine ((J _).out).mono ?_); rintro e w' ⟨rfl, rfl⟩) | (go_at_call 19; (with_reducible refine ((M _).out).mono ?_); rintro e w' ⟨rfl, rfl⟩))
      go_loop [12] (fun i => i = .int .i64 0) (fun _ => 0)
      case atStart => rfl
      case round =>
        subst hrel
        go_wp2_with (first | (go_at_call 16; (with_reducible refine ((U3 _).out).mono ?_); rintro e w' ⟨rfl, rfl⟩) | (go_at_call 16; (with_reducible refine ((U4 _).out).mono ?_); rintro e w' ⟨rfl, rfl⟩) | (go_at_call 13; (with_reducible refine ((K _).out).mono ?_); rintro e w' ⟨rfl, rfl⟩))
        go_ret
        exact ⟨rfl, hb⟩
    · rw [decide_eq_false hN] at hd26
      subst hd26
      have hN2 : (67108864 : Int) ≤ N := by omega
      clear hN
      go_wp2_with (first | (go_at_call 18; (with_reducible refine ((J _).out).mono ?_); rintro e w' ⟨rfl, rfl⟩) | (go_at_call 19; (with_reducible refine ((M _).out).mono ?_); rintro e w' ⟨rfl, rfl⟩))
      go_loop [12] (fun i => i = .int .i64 0) (fun _ => 0)
      case atStart => rfl
      case round =>
        subst hrel
        go_wp2_with (first | (go_at_call 16; (with_reducible refine ((U3 _).out).mono ?_); rintro e w' ⟨rfl, rfl⟩) | (go_at_call 16; (with_reducible refine ((U4 _).out).mono ?_); rintro e w' ⟨rfl, rfl⟩) | (go_at_call 13; (with_reducible refine ((K _).out).mono ?_); rintro e w' ⟨rfl, rfl⟩))
        go_ret
        exact ⟨ret_bool (by rw [decide_eq_false (by omega)]; rfl), hb⟩
end Go.Proofs.YtmfmgenmnikhbaaDoor.Mk
