/-
  SEVERAL TEXTS, one behind the other.
-/
import Derived.Test.YtafnohojnjpfcaaGreatDoorIA
import Derived.Test.YtafnohojnjpfcaaGreatDoorManParsesLaw
import Derived.Test.YtafnohojnjpfcaaGreatDoorSameNeeds
/-
  LAYER 9, PLAIN MATHEMATICS: a root's line more, behind all others.
-/
namespace Go.Proofs.YtafnohojnjpfcaaGreatDoor.Ix
open Go.Proofs.YtafnohojnjpfcaaGreatDoor Go.Proofs.YtafnohojnjpfcaaGreatDoor.Ln

theorem rdC_nl {most no : Nat} {l : List UInt8} {out : List LineS} (h : ¬ most < no) : rdC most (10 :: l) no out = rdC most l (no + 1) out := by
  rw [rdC_ok (ws := []) (cs := []) (by simp) h (by rw [show fore 10 (10 :: l) = [] from fore_cut (l := []) (by simp)]; kernel_rfl)]
  rw [show aft 10 (10 :: l) = l from aft_cut (l := []) (by simp), if_pos rfl]

theorem drop_none {c : UInt8} : ∀ {l : List UInt8}, c ∉ l → l.dropWhile (· != c) = [] := by
  intro l
  induction l with
  | nil => intro _; rfl
  | cons d l ih =>
    intro h
    have hd : (d != c) = true := by simp only [bne_iff_ne, ne_eq]; rintro rfl; exact h (by simp)
    rw [List.dropWhile_cons, hd]
    exact ih (fun h' => h (by simp [h']))

theorem rdC_app (r : List UInt8) : ∀ (N : Nat) (l : List UInt8) (no : Nat) (out xs : List LineS), l.length ≤ N → rdC 800 l no out = .ok xs → no + l.count 10 ≤ 799 → rdC 800 (l ++ 10 :: r) no out = rdC 800 r (no + l.count 10 + 1) xs := by
  intro N
  induction N with
  | zero =>
    intro l no out xs hN h hc
    have : l = [] := List.eq_nil_of_length_eq_zero (by omega)
    subst this
    rw [rdC_nil] at h
    cases h
    rw [List.nil_append, rdC_nl (by omega), List.count_nil]
  | succ N ih =>
    intro l no out xs hN h hc
    by_cases h0 : l = []
    · subst h0
      rw [rdC_nil] at h
      cases h
      rw [List.nil_append, rdC_nl (by omega), List.count_nil]
    · have hno : ¬ 800 < no := by omega
      cases hl : lineOf (fore 10 l) with
      | error e =>
        obtain ⟨e, col⟩ := e
        rw [rdC_err h0 hno hl] at h
        cases h
      | ok p =>
        obtain ⟨ws, cs⟩ := p
        rw [rdC_ok h0 hno hl] at h
        by_cases h10 : (10 : UInt8) ∈ l
        · obtain ⟨a, b, rfl, ha⟩ := List.eq_append_cons_of_mem h10
          rw [fore_cut ha] at hl
          rw [aft_cut ha] at h
          have e1 : (a ++ 10 :: b).count 10 = 1 + b.count 10 := by
            rw [List.count_append, List.count_eq_zero_of_not_mem ha, List.count_cons_self]; omega
          rw [e1] at hc ⊢
          have hne : a ++ 10 :: (b ++ 10 :: r) ≠ [] := by simp
          rw [show a ++ 10 :: b ++ 10 :: r = a ++ 10 :: (b ++ 10 :: r) by simp]
          rw [rdC_ok (ws := ws) (cs := cs) hne hno (by rw [fore_cut ha]; exact hl), aft_cut ha]
          rw [List.length_append, List.length_cons] at hN
          rw [ih b (no + 1) _ xs (by omega) h (by omega)]
          congr 1
          omega
        · rw [fore_none h10] at hl
          have e2 : aft 10 l = [] := by
            have := aft_cut (c := 10) (l := l) (r := []) h10
            unfold aft at *
            rw [drop_none h10]; rfl
          rw [e2, rdC_nil] at h
          cases h
          rw [rdC_ok (ws := ws) (cs := cs) (by simp) hno (by rw [fore_cut h10]; exact hl), aft_cut h10, List.count_eq_zero_of_not_mem h10]

/-- one line alone -/
theorem rdC_last {r : List UInt8} (h0 : r ≠ []) (h10 : (10 : UInt8) ∉ r) {no : Nat} (hno : ¬ 800 < no) (xs : List LineS) :
    rdC 800 r no xs = (match lineOf r with
      | .error (e, col) => .error (e, no, col)
      | .ok (ws, cs) => .ok (if ws = [] then xs else xs ++ [(no, ws, cs)])) := by
  have e2 : aft 10 r = [] := by
    unfold aft
    rw [drop_none h10]; rfl
  cases hl : lineOf r with
  | error e =>
    obtain ⟨e, col⟩ := e
    exact rdC_err h0 hno (by rw [fore_none h10]; exact hl)
  | ok p =>
    obtain ⟨ws, cs⟩ := p
    rw [rdC_ok (ws := ws) (cs := cs) h0 hno (by rw [fore_none h10]; exact hl), e2, rdC_nil]

theorem sp_more (l : List UInt8) : ∀ (f a : Nat) (ws : Words) (cs : List Nat) {ws' : Words} {cs' : List Nat}, sp l f a ws cs = .ok (ws', cs') → ∃ us, ws' = ws ++ us := by
  intro f
  induction f with
  | zero => intro a ws cs ws' cs' h; unfold sp at h; cases h; exact ⟨[], by simp⟩
  | succ f ih =>
    intro a ws cs ws' cs' h
    unfold sp at h
    dsimp only at h
    split at h
    · cases h; exact ⟨[], by simp⟩
    · split at h
      · cases h
      · split at h
        · cases h
        · obtain ⟨us, hu⟩ := ih _ _ _ h
          exact ⟨_, by rw [hu, List.append_assoc]⟩
theorem line_root (t : List UInt8) {ws : Words} {cs : List Nat} (h : lineOf ([114, 111, 111, 116, 32] ++ t) = .ok (ws, cs)) : ∃ us, ws = rootW :: us := by
  unfold lineOf at h
  have e : fore 35 ([114, 111, 111, 116, 32] ++ t) = 114 :: 111 :: 111 :: 116 :: 32 :: fore 35 t := by
    unfold fore
    simp
  rw [e] at h
  generalize fore 35 t = t' at h
  have r0 : Ln.run isBl (114 :: 111 :: 111 :: 116 :: 32 :: t') 0 = 0 := Ln.run_no (c := 114) rfl rfl
  have r1 : Ln.run (fun c => !isBl c) (114 :: 111 :: 111 :: 116 :: 32 :: t') 0 = 4 := by
    rw [Ln.run_yes (c := 114) rfl rfl, Ln.run_yes (c := 111) rfl rfl, Ln.run_yes (c := 111) rfl rfl, Ln.run_yes (c := 116) rfl rfl, Ln.run_no (c := 32) rfl rfl]
  rw [spC_word (l := 114 :: 111 :: 111 :: 116 :: 32 :: t') (a := 0) (b := 0) (t := 4) (by simp) (by rw [r0]) (by rw [r1]) (by simp) (by simp) (by
    rw [show word (114 :: 111 :: 111 :: 116 :: 32 :: t') 0 4 = [114, 111, 111, 116] from rfl]
    decide)] at h
  rw [show word (114 :: 111 :: 111 :: 116 :: 32 :: t') 0 4 = rootW from rfl] at h
  unfold spC at h
  obtain ⟨us, hu⟩ := sp_more _ _ _ _ _ h
  exact ⟨us, by rw [hu]; rfl⟩

theorem manGo_app (no : Nat) (ws : Words) (cs : List Nat) : ∀ (xs : List LineS) (out ns : List NeedS), manGo xs true out = .ok ns → manGo (xs ++ [(no, ws, cs)]) true out = (match manLine true ws cs ns with
      | .error (c, col) => .error (c, no, col)
      | .ok out' => .ok out') := by
  intro xs
  induction xs with
  | nil =>
    intro out ns h
    unfold manGo at h
    cases h
    rw [List.nil_append]
    unfold manGo
    split
    · rename_i e; rw [e]
    · rename_i e; rw [e]; rfl
  | cons x xs ih =>
    intro out ns h
    obtain ⟨n1, w1, c1⟩ := x
    rw [List.cons_append]
    unfold manGo at h ⊢
    split at h
    · cases h
    · rename_i e
      exact ih _ _ h
theorem manL_app (no : Nat) (ws : Words) (cs : List Nat) (xs : List LineS) (ns : List NeedS) (h : manL xs = .ok ns) : manL (xs ++ [(no, ws, cs)]) = (match manLine true ws cs ns with
      | .error (c, col) => .error (c, no, col)
      | .ok out' => .ok out') := by
  unfold manL at h ⊢
  split at h
  · cases h
  · rw [if_neg (by simp)]
    cases xs with
    | nil => contradiction
    | cons x xs =>
      obtain ⟨n1, w1, c1⟩ := x
      rw [List.cons_append]
      unfold manGo at h ⊢
      split at h
      · cases h
      · exact manGo_app no ws cs _ _ _ h

/-- a line more behind a text that is a manifest -/
theorem manP_app {s r : List UInt8} {ns : List NeedS} (h : manP s = .ok ns) (h0 : r ≠ []) (h10 : (10 : UInt8) ∉ r) (hl : s.length + r.length + 1 ≤ 20000) (hc : s.count 10 ≤ 798) :
    manP (s ++ 10 :: r) = (match lineOf r with
      | .error (e, col) => .error (e, 1 + s.count 10 + 1, col)
      | .ok (ws, cs) => if ws = [] then .ok ns else (match manLine true ws cs ns with
        | .error (c, col) => .error (c, 1 + s.count 10 + 1, col)
        | .ok out' => .ok out')) := by
  unfold manP readS at h ⊢
  rw [if_neg (by omega)] at h
  rw [if_neg (by rw [List.length_append, List.length_cons]; omega)]
  cases hx : rdC 800 s 1 [] with
  | error e => rw [hx] at h; cases h
  | ok xs =>
    rw [hx] at h
    rw [rdC_app r s.length s 1 [] xs (Nat.le_refl _) hx (by omega), rdC_last h0 h10 (by omega)]
    cases hr : lineOf r with
    | error e => rfl
    | ok p =>
      obtain ⟨ws, cs⟩ := p
      dsimp only
      by_cases hw : ws = []
      · rw [if_pos hw, if_pos hw]; exact h
      · rw [if_neg hw, if_neg hw]
        exact manL_app _ ws cs xs ns h

theorem man_only : manP [109, 97, 110, 105, 102, 101, 115, 116] = .ok [] := by kernel_rfl

theorem more_math {s root : List UInt8} {ns : List NeedS} (h : manP s = .ok ns) (hn : ns.length ≤ 8) (hs : s.length ≤ 2000) (hr : root.length ≤ 200) (hno : (10 : UInt8) ∉ root) (hc : s.count 10 ≤ 700) :
    (∃ e1 e2, manP ([109, 97, 110, 105, 102, 101, 115, 116, 10, 114, 111, 111, 116, 32] ++ root) = .error e1 ∧ manP (s ++ [10, 114, 111, 111, 116, 32] ++ root) = .error e2) ∨
    ∃ n, manP ([109, 97, 110, 105, 102, 101, 115, 116, 10, 114, 111, 111, 116, 32] ++ root) = .ok [n] ∧ ((8 ≤ ns.length ∧ ∃ e, manP (s ++ [10, 114, 111, 111, 116, 32] ++ root) = .error e) ∨ (ns.length < 8 ∧ manP (s ++ [10, 114, 111, 111, 116, 32] ++ root) = .ok (ns ++ [n]))) := by
  have e1 : ([109, 97, 110, 105, 102, 101, 115, 116, 10, 114, 111, 111, 116, 32] : List UInt8) ++ root = [109, 97, 110, 105, 102, 101, 115, 116] ++ 10 :: ([114, 111, 111, 116, 32] ++ root) := by simp
  have e2 : s ++ [10, 114, 111, 111, 116, 32] ++ root = s ++ 10 :: ([114, 111, 111, 116, 32] ++ root) := by simp
  rw [e1, e2]
  have hr0 : ([114, 111, 111, 116, 32] : List UInt8) ++ root ≠ [] := by simp
  have hr10 : (10 : UInt8) ∉ ([114, 111, 111, 116, 32] : List UInt8) ++ root := by simp [hno]
  have hrl : (([114, 111, 111, 116, 32] : List UInt8) ++ root).length = root.length + 5 := by simp
  rw [manP_app man_only hr0 hr10 (by rw [hrl]; simp; omega) (by decide), manP_app h hr0 hr10 (by rw [hrl]; omega) (by omega)]
  cases hl : lineOf ([114, 111, 111, 116, 32] ++ root) with
  | error e => exact .inl ⟨_, _, rfl, rfl⟩
  | ok p =>
    obtain ⟨ws, cs⟩ := p
    obtain ⟨us, rfl⟩ := line_root root hl
    dsimp only
    rw [if_neg (by simp), if_neg (by simp)]
    unfold manLine
    simp only [if_true, List.getD_cons_zero, ne_eq, not_true_eq_false, if_false, List.length_nil]
    rw [if_neg (by decide)]
    cases hp : needP 4 (rootW :: us) cs 1 with
    | error e =>
      left
      by_cases h8 : ns.length = 8
      · rw [if_pos h8]; exact ⟨_, _, rfl, rfl⟩
      · rw [if_neg h8]; exact ⟨_, _, rfl, rfl⟩
    | ok q =>
      obtain ⟨n, t⟩ := q
      dsimp only
      unfold endW
      by_cases ht : t < (rootW :: us).length
      · left
        rw [if_pos ht, if_pos ht]
        by_cases h8 : ns.length = 8
        · rw [if_pos h8]; exact ⟨_, _, rfl, rfl⟩
        · rw [if_neg h8]; exact ⟨_, _, rfl, rfl⟩
      · right
        rw [if_neg ht, if_neg ht]
        refine ⟨n, rfl, ?_⟩
        by_cases h8 : ns.length = 8
        · rw [if_pos h8]; exact .inl ⟨by omega, _, rfl⟩
        · rw [if_neg h8]; exact .inr ⟨by omega, rfl⟩
end Go.Proofs.YtafnohojnjpfcaaGreatDoor.Ix

/-
  LAYER 9, ManifestMore: a root's line more, behind all others, is that root more; or what is wrong with it is told, or that it is too much.
-/
namespace Go.Proofs.YtafnohojnjpfcaaGreatDoor.Ix
open Go.RowKit
open Go.Proofs.YtafnohojnjpfcaaGreatDoor Go.Proofs.YtafnohojnjpfcaaGreatDoor.Ln Go.Proofs.YtafnohojnjpfcaaGreatDoor.Vs Go.Proofs.YtafnohojnjpfcaaGreatDoor.Sp Go.Proofs.YtafnohojnjpfcaaGreatDoor.Sf

set_option maxHeartbeats 2000000 in
/-- one need, whichever place of a row it stands at -/
theorem sameOne (N : NeedS) (hfl : N.feats.length ≤ 1000) (GA oA ac : Nat) (a0 a1 a2 : Value) (F : Nat → Prop) (w : World) (ha0 : w.cell? ⟨GA, oA, none⟩ = some a0) (ha1 : w.cell? ⟨GA, oA + 1, none⟩ = some a1) (ha2 : w.cell? ⟨GA, oA + 2, none⟩ = some a2) (hv : DNeedV F w a0 a1 a2 N) (vb : Value) (hb : DNeedsV w vb [N]) :
    Calls Tryz.prog 46 #[.slice (some ⟨GA, oA, none⟩) 1 ac, vb] w (TrueQ w) := by
  obtain ⟨ba, bc, rfl, hb⟩ := hb
  obtain ⟨GB, cB, rfl, hGB, hcB, hNB⟩ := hb (by simp)
  obtain ⟨b0, b1, b2, d0, d1, d2, rfl, rfl, hfb⟩ := hNB.2 0 N rfl
  obtain ⟨rfl, rfl, hfa⟩ := hv
  have x0 := hid (hcB _ _ d0)
  have x1 := hid (hcB _ _ d1)
  have x2 := hid (hcB _ _ d2)
  have TX := hid (fun x => texts_eq N.feats (by omega) a2 b2 (w.drewN x) (show RowIs (w.drewN x) a2 _ from hfa.row) (show RowIs (w.drewN x) b2 _ from hfb.row))
  obtain ⟨fa, fac, rfl, -⟩ := hfa
  obtain ⟨fb, fbc, rfl, -⟩ := hfb
  have y0 := hid ha0
  have y1 := hid ha1
  have y2 := hid ha2
  clear d0 d1 d2 hfl hb hcB hNB ha0 ha1 ha2
  generalize N.feats.length = fl at TX x2 y2
  generalize (⟨N.name.toArray⟩ : ByteArray) = S1 at x0 y0
  generalize (⟨N.rng.toArray⟩ : ByteArray) = S2 at x1 y1
  rw [show [N].length = 1 from rfl]
  go_enter Tryz.func46, Tryz.ntmps46
  go_wp2_with fail
  go_loopw [5] (fun v wr => ∃ k m : Nat, k ≤ 1 ∧ v = .int .i64 k ∧ wr = w.drewN m) (fun v _ => 1 - (intOf v).toNat)
  case atStart => exact ⟨0, 0, by omega, rfl, rfl⟩
  case round =>
    obtain ⟨k, m, hk, rfl, rfl⟩ := hrel
    by_cases hlt : k < 1
    · have hk0 := hid (show k = 0 by omega)
      have c0 : w.cell? ⟨GA, oA + k * 3, none⟩ = some (.string S1) := by rw [hk0.out]; exact y0.out
      have c1 : w.cell? ⟨GA, oA + k * 3 + 1, none⟩ = some (.string S2) := by rw [hk0.out]; exact y1.out
      have c2 : w.cell? ⟨GA, oA + k * 3 + 2, none⟩ = some (.slice fa fl fac) := by rw [hk0.out]; exact y2.out
      have z0 : w.cell? ⟨GB, k * 3, none⟩ = some (.string S1) := by rw [hk0.out]; exact x0.out
      have z1 : w.cell? ⟨GB, k * 3 + 1, none⟩ = some (.string S2) := by rw [hk0.out]; exact x1.out
      have z2 : w.cell? ⟨GB, k * 3 + 2, none⟩ = some (.slice fb fl fbc) := by rw [hk0.out]; exact x2.out
      clear x0 x1 x2 y0 y1 y2
      go_wp2_with fail
      go_quiet ((go_at_call 56; exact quiet_at' (TX.out _)))
      go_wp2_with fail
      go_roundw
      case rel => exact ⟨k + 1, _, by omega, by go_num, rfl⟩
      case measure => simp [intOf]; omega
    · go_wp2_with fail
      go_ret
      exact ⟨rfl, m, rfl⟩

theorem listB (S : ByteArray) : (⟨S.data.toList.toArray⟩ : ByteArray) = S := by simp
theorem appB (a : List UInt8) (S : ByteArray) : (⟨a.toArray⟩ : ByteArray) ++ S = ⟨(a ++ S.data.toList).toArray⟩ := by
  apply ByteArray.ext
  rw [ByteArray.data_append]
  apply Array.ext'
  simp
theorem appB2 (S R : ByteArray) (a : List UInt8) : S ++ (⟨a.toArray⟩ : ByteArray) ++ R = ⟨(S.data.toList ++ a ++ R.data.toList).toArray⟩ := by
  apply ByteArray.ext
  rw [ByteArray.data_append, ByteArray.data_append]
  apply Array.ext'
  simp
theorem manP_code {l : List UInt8} {c no col : Nat} (h : manP l = .error (c, no, col)) : c = 1 ∨ c = 2 ∨ c = 3 := by
  unfold manP at h
  split at h
  · rename_i e
    cases h
    rcases readS_codes e with h | h <;> omega
  · unfold manL at h
    split at h
    · cases h; exact .inl rfl
    · have := manGo_code _ _ _ h; omega


set_option maxRecDepth 100000 in
set_option maxHeartbeats 8000000 in
theorem more_off (S R : ByteArray) (c no col : Int) (ns : List NeedS) (hS : S.size ≤ 140737488355328) (hR : R.size ≤ 140737488355328) (hc : c = 1 ∨ c = 2 ∨ c = 3 ∨ c = 0 ∧ no = 0 ∧ col = 0 ∧ (2000 < S.size ∨ 200 < R.size)) (w : World) (hm : MaxAt w) (hg : SignsAt w)
    (h1 : ∀ w, MaxAt w → SignsAt w → Calls Tryz.prog 47 #[.string S] w (LawM ns c no col w)) :
    Calls Tryz.prog 14 #[.string S, .string R] w (LawOk w) := by
  have HW := hid (fun w hm hg => show Calls Tryz.prog 49 #[] w (fun e w' => e = .returned (.bool true) ∧ Below w.heap.size w w') from wanted_any w hm hg)
  have H1 := hid h1
  unfold LawM at H1
  clear h1
  generalize hn : ns.length = n at H1
  clear hn
  rcases hc with rfl | rfl | rfl | ⟨rfl, rfl, rfl, hlen⟩
  case inr.inr.inr =>
    by_cases h2 : (2000 : Int) < (S.size : Int)
    all_goals
      have h2' : (2000 : Int) < (S.size : Int) ∨ (200 : Int) < (R.size : Int) := by omega
      first | (have h3 : (200 : Int) < (R.size : Int) := by omega) | skip
      go_enter Tryz.func14, Tryz.ntmps14
      go_wp2_with fail
      refine (H1.out w hm hg).mono ?_
      rintro e w1 ⟨a, cp, rfl, hb1, -⟩
      have A1 := below_alloc (below_alloc hb1 (.cells #[.slice a n cp] 106)) (.cells #[.int .i64 0, .int .i64 0, .int .i64 0] 27)
      have P2 := Blk.new (w1.alloc (.cells #[.slice a n cp] 106)) [.int .i64 0, .int .i64 0, .int .i64 0] 27
      rw [show (w1.alloc (.cells #[.slice a n cp] 106)).heap.size = w1.heap.size + 1 by simp] at P2
      have A1 := hid A1
      have P2 := hid P2
      clear hb1
      go_wp2_with fail
      refine (HW.out _ (hm.below A1.out) (hg.below A1.out)).mono ?_
      rintro e w2 ⟨rfl, hb2⟩
      have q0 := (P2.out.below hb2).cell 0 rfl
      have q1 := (P2.out.below hb2).cell 1 rfl
      have q2 := (P2.out.below hb2).cell 2 rfl
      have A2 := hid (below_trans A1.out hb2)
      clear hb2 P2 A1
      go_wp2_with fail
      refine (HW.out _ (hm.below A2.out) (hg.below A2.out)).mono ?_
      rintro e w3 ⟨rfl, hb3⟩
      go_wp2_with fail
      go_ret
      exact ⟨rfl, below_trans A2.out hb3⟩
  case inl =>
    go_enter Tryz.func14, Tryz.ntmps14
    go_wp2_with fail
    refine (H1.out w hm hg).mono ?_
    rintro e w1 ⟨a, cp, rfl, hb1, -⟩
    have A1 := below_alloc (below_alloc hb1 (.cells #[.slice a n cp] 106)) (.cells #[.int .i64 1, .int .i64 no, .int .i64 col] 27)
    have P2 := Blk.new (w1.alloc (.cells #[.slice a n cp] 106)) [.int .i64 1, .int .i64 no, .int .i64 col] 27
    rw [show (w1.alloc (.cells #[.slice a n cp] 106)).heap.size = w1.heap.size + 1 by simp] at P2
    have A1 := hid A1
    have P2 := hid P2
    clear hb1
    go_wp2_with fail
    refine (HW.out _ (hm.below A1.out) (hg.below A1.out)).mono ?_
    rintro e w2 ⟨rfl, hb2⟩
    have q0 := (P2.out.below hb2).cell 0 rfl
    have q1 := (P2.out.below hb2).cell 1 rfl
    have q2 := (P2.out.below hb2).cell 2 rfl
    have A2 := hid (below_trans A1.out hb2)
    clear hb2 P2 A1
    go_wp2_with fail
    refine (HW.out _ (hm.below A2.out) (hg.below A2.out)).mono ?_
    rintro e w3 ⟨rfl, hb3⟩
    go_wp2_with fail
    go_ret
    exact ⟨rfl, below_trans A2.out hb3⟩
  case inr.inl =>
    go_enter Tryz.func14, Tryz.ntmps14
    go_wp2_with fail
    refine (H1.out w hm hg).mono ?_
    rintro e w1 ⟨a, cp, rfl, hb1, -⟩
    have A1 := below_alloc (below_alloc hb1 (.cells #[.slice a n cp] 106)) (.cells #[.int .i64 2, .int .i64 no, .int .i64 col] 27)
    have P2 := Blk.new (w1.alloc (.cells #[.slice a n cp] 106)) [.int .i64 2, .int .i64 no, .int .i64 col] 27
    rw [show (w1.alloc (.cells #[.slice a n cp] 106)).heap.size = w1.heap.size + 1 by simp] at P2
    have A1 := hid A1
    have P2 := hid P2
    clear hb1
    go_wp2_with fail
    refine (HW.out _ (hm.below A1.out) (hg.below A1.out)).mono ?_
    rintro e w2 ⟨rfl, hb2⟩
    have q0 := (P2.out.below hb2).cell 0 rfl
    have q1 := (P2.out.below hb2).cell 1 rfl
    have q2 := (P2.out.below hb2).cell 2 rfl
    have A2 := hid (below_trans A1.out hb2)
    clear hb2 P2 A1
    go_wp2_with fail
    refine (HW.out _ (hm.below A2.out) (hg.below A2.out)).mono ?_
    rintro e w3 ⟨rfl, hb3⟩
    go_wp2_with fail
    go_ret
    exact ⟨rfl, below_trans A2.out hb3⟩
  case inr.inr.inl =>
    go_enter Tryz.func14, Tryz.ntmps14
    go_wp2_with fail
    refine (H1.out w hm hg).mono ?_
    rintro e w1 ⟨a, cp, rfl, hb1, -⟩
    have A1 := below_alloc (below_alloc hb1 (.cells #[.slice a n cp] 106)) (.cells #[.int .i64 3, .int .i64 no, .int .i64 col] 27)
    have P2 := Blk.new (w1.alloc (.cells #[.slice a n cp] 106)) [.int .i64 3, .int .i64 no, .int .i64 col] 27
    rw [show (w1.alloc (.cells #[.slice a n cp] 106)).heap.size = w1.heap.size + 1 by simp] at P2
    have A1 := hid A1
    have P2 := hid P2
    clear hb1
    go_wp2_with fail
    refine (HW.out _ (hm.below A1.out) (hg.below A1.out)).mono ?_
    rintro e w2 ⟨rfl, hb2⟩
    have q0 := (P2.out.below hb2).cell 0 rfl
    have q1 := (P2.out.below hb2).cell 1 rfl
    have q2 := (P2.out.below hb2).cell 2 rfl
    have A2 := hid (below_trans A1.out hb2)
    clear hb2 P2 A1
    go_wp2_with fail
    refine (HW.out _ (hm.below A2.out) (hg.below A2.out)).mono ?_
    rintro e w3 ⟨rfl, hb3⟩
    go_wp2_with fail
    go_ret
    exact ⟨rfl, below_trans A2.out hb3⟩
end Go.Proofs.YtafnohojnjpfcaaGreatDoor.Ix

/-
  LAYER 9: the law's own Of: a manifest's roots by their texts.
-/
namespace Go.Proofs.YtafnohojnjpfcaaGreatDoor.Iy
open Go.Proofs.YtafnohojnjpfcaaGreatDoor.Ix
open Go.RowKit
open Go.Proofs.YtafnohojnjpfcaaGreatDoor Go.Proofs.YtafnohojnjpfcaaGreatDoor.Ln Go.Proofs.YtafnohojnjpfcaaGreatDoor.Vs Go.Proofs.YtafnohojnjpfcaaGreatDoor.Sp Go.Proofs.YtafnohojnjpfcaaGreatDoor.Sf

/-- one need more, whose memory is old -/
theorem push_old2 {w1 w3 : World} {base : Nat} {a : Option Addr} {c' m : Nat} {cells : List Value} {ns : List NeedS} {x y z : Value} {n : NeedS} {g cap : Nat} {T : TypeId} (h1 : DGrow w1 base (fun b => b < base) (.slice a m c') cells ns) (hm : ns.length = m)
    (hn : DNeedV (fun b => b < base) w1 x y z n)
    (hown3 : w3.ownsRow base 83 3 (.slice (some ⟨g, 0, none⟩) (m + 1) cap) (m + 1) (cells ++ [x, y, z]))
    (hgrow : (w1.alloc (.cells #[x, y, z] T)).grownBy w3 (Value.slice a m c').ownBlock) :
    DGrow w3 base (fun b => b < base) (.slice (some ⟨g, 0, none⟩) (m + 1) cap) (cells ++ [x, y, z]) (ns ++ [n]) := by
  have hK : Kept (fun b => b < base) w1 w3 := Kept.grown ((Kept.refl _ _).alloc _) hgrow (fun k hk hf => by
    have := (h1.own.lt k hk).1; omega)
  refine ⟨?_, (h1.needs.push hn).kept hK, fun k hk hf => ?_⟩
  · rw [show (ns ++ [n]).length = m + 1 by rw [List.length_append, hm]; rfl]
    exact hown3
  · have := (hown3.lt k hk).1; omega

def OfC (ns : List NeedS) (w : World) (e : Ending) (w' : World) : Prop := ∃ a cp, e = .returned (.slice a ns.length cp) ∧ ns.length ≤ cp ∧ Below w.heap.size w w' ∧ DNeedsV w' (.slice a ns.length cp) ns
theorem own_cap {w : World} {base s : Nat} {e : TypeId} {a : Option Addr} {m c n : Nat} {cells : List Value} (h : w.ownsRow base e s (.slice a m c) n cells) : m ≤ c ∧ m = n := by
  rcases h.2 with ⟨hv, hn⟩ | ⟨g, cap, cur, hv, hg, hh, h1, h2, h3, h4⟩
  · injection hv with e1 e2 e3
    subst e2; subst e3
    exact ⟨Nat.le_refl _, hn.symm⟩
  · injection hv with e1 e2 e3
    subst e2; subst e3
    refine ⟨?_, rfl⟩
    omega
def OfM (ns : List NeedS) (w : World) (e : Ending) (w' : World) : Prop := ∃ v, e = .returned v ∧ Below w.heap.size w w' ∧ DNeedsV w' v ns
theorem DGrow.nil (w : World) (base : Nat) (F : Nat → Prop) : DGrow w base F (.slice none 0 0) [] [] := ⟨World.ownsRow_nil _ _ _ _, ⟨rfl, fun i n h => by simp at h⟩, fun _ h => by cases h⟩

set_option maxRecDepth 100000 in
set_option maxHeartbeats 4000000 in
theorem manOf_cap (ns : List NeedS) (hl : ns.length ≤ 1000) (v : Value) (w : World) (hm : MaxAt w) (ht : TenAt w) (hg : SignsAt w) (hv : NeedsV w v ns) :
    Calls Tryz.prog 50 #[.agg #[v]] w (OfC ns w) := by
  obtain ⟨a, cp, rfl, hne⟩ := hv
  obtain ⟨n, hn⟩ : ∃ n, ns.length = n := ⟨_, rfl⟩
  rw [hn] at hl ⊢
  have HN := hid hn
  have HNE := hid hne
  have BW := hid (below_alloc (Below.refl w.heap.size w) (.cells #[.slice a n cp] 106))
  have BB := hid (Blk.new w [.slice a n cp] 106)
  have L1 := hid (show (w.alloc (.cells #[.slice a n cp] 106)).heap.size = w.heap.size + 1 by simp)
  clear hn hne
  go_enter Tryz.func50, Tryz.ntmps50
  go_wp2_with fail
  generalize w.alloc (.cells #[.slice a n cp] 106) = w1 at BW BB L1 ⊢
  change Hid (Blk w1 w.heap.size [.slice a n cp] 106) at BB
  go_loopw [3, 4, 5] (fun v i _ wr => ∃ (k : Nat) (b : Option Addr) (c : Nat) (cls : List Value), k ≤ n ∧ i = .int .i64 k ∧ v = .slice b k c ∧ Hid (Below w1.heap.size w1 wr) ∧ Hid (DGrow wr w1.heap.size (fun x => x < w1.heap.size) (.slice b k c) cls (ns.take k))) (fun _ i _ _ => n - (intOf i).toNat)
  case atStart => exact ⟨0, none, 0, [], by omega, rfl, rfl, hid (Below.refl _ _), hid (by rw [List.take_zero]; exact DGrow.nil _ _ _)⟩
  case round =>
    obtain ⟨k, b, c, cls, hk, rfl, rfl, hb, hgr⟩ := hrel
    have hbb := BB.out.below hb.out
    have m0 := hbb.cell 0 rfl
    have ml := hbb.lt
    by_cases hlt : k < n
    · have hkn : k < ns.length := by have := HN.out; omega
      obtain ⟨G, cells, rfl, hG, hc, hN⟩ := HNE.out (fun e => by rw [e] at hkn; simp at hkn)
      have hnk : ns[k]? = some ns[k] := List.getElem?_eq_getElem hkn
      obtain ⟨a0, a1, a2, e0, e1, e2, hnv⟩ := hN.2 k _ hnk
      have htk := hid (show ns.take (k + 1) = ns.take k ++ [ns[k]] from List.take_succ_eq_append_getElem hkn)
      generalize ns[k] = N at *
      obtain ⟨ba, bn, bc, ca, cn, cc, rfl, rfl⟩ := NeedV.shape hnv
      obtain ⟨rfl, ⟨rs, hrs, hR⟩, hS⟩ := hnv
      have BX := hid (below_trans BW.out hb.out)
      have c0 := bcell BX.out (hc _ _ e0)
      have c1 := bcell BX.out (hc _ _ e1)
      have c2 := bcell BX.out (hc _ _ e2)
      have gl := World.block_lt_of_cell? wr _ c0
      have hts := (rngOf_ok hrs).1
      have A2 := hid (below_alloc (Below.refl wr.heap.size wr) (.cells #[.string ⟨N.name.toArray⟩, .slice ba bn bc, .slice ca cn cc] 78))
      have P2 := hid (Blk.new wr [.string ⟨N.name.toArray⟩, .slice ba bn bc, .slice ca cn cc] 78)
      have B2 := hid (below_trans BX.out A2.out)
      have TX := hid (show Calls Tryz.prog 96 #[.agg #[.slice ba bn bc]] (wr.alloc (.cells #[.string ⟨N.name.toArray⟩, .slice ba bn bc, .slice ca cn cc] 78)).drew (fun e w' => e = .returned (.string ⟨N.rng.toArray⟩) ∧ Below (wr.alloc (.cells #[.string ⟨N.name.toArray⟩, .slice ba bn bc, .slice ca cn cc] 78)).heap.size (wr.alloc (.cells #[.string ⟨N.name.toArray⟩, .slice ba bn bc, .slice ca cn cc] 78)).drew w') from by
        have h9 := textR_any rs (.slice ba bn bc) (rngOf_ok hrs).2 (wr.alloc (.cells #[.string ⟨N.name.toArray⟩, .slice ba bn bc, .slice ca cn cc] 78)).drew (hm.below B2.out.drew) (ht.below B2.out.drew) (hg.below B2.out.drew) (RngF.at' (RngF.below (RngF.below hR B2.out) (Below.refl _ _).drew))
        rw [hts] at h9
        exact h9)
      have HS := hid (StrsF.kept (StrsF.mono (G := fun x => x < w1.heap.size) hS (fun x hx _ => by have := L1.out; omega)) (Kept.of_below B2.out))
      have LA := hid (show (wr.alloc (.cells #[.string ⟨N.name.toArray⟩, .slice ba bn bc, .slice ca cn cc] 78)).heap.size = wr.heap.size + 1 by simp)
      have GA := hid (hgr.out.below A2.out)
      have ZA := hid (below_trans hb.out A2.out)
      have HP8 := hid (show w1.heap.size ≤ wr.heap.size from hb.out.size)
      have OTH := hid (show some wr.heap.size ≠ (Value.slice b k c).ownBlock from fun e => by have := (hgr.out.own.lt _ e.symm).2; omega)
      have HLT := hid (show (ns.take k).length = k by rw [List.length_take]; omega)
      clear hgr hc hN e0 e1 e2 hnk hS hR hrs hts hbb A2 B2
      go_wp2_with fail
      generalize wr.alloc (.cells #[.string ⟨N.name.toArray⟩, .slice ba bn bc, .slice ca cn cc] 78) = Wa at P2 TX HS LA GA ZA ⊢
      change Hid (Blk Wa wr.heap.size [.string ⟨N.name.toArray⟩, .slice ba bn bc, .slice ca cn cc] 78) at P2
      clear BX c0 c1 c2 gl hb ml m0
      generalize wr.heap.size = p8 at P2 LA HP8 OTH ⊢
      generalize ns.take k = T0 at GA HLT htk
      obtain ⟨iC, hi, hz0, hz1, hz2⟩ := info_parts infoRN
      have hi := hid hi
      have hz0 := hid hz0
      have hz1 := hid hz1
      have hz2 := hid hz2
      have AL := hid (fun (Wc : World) (hbt : Below Wa.heap.size Wa.drew Wc) => show (Wc.alloc (.cells #[.string ⟨N.name.toArray⟩, .string ⟨N.rng.toArray⟩, .slice ca cn cc] 83)).ownsRow w1.heap.size 83 3 (.slice b k c) k cls from by
        have h := ownsRow_below (ownsRow_below GA.out.own (below_trans (Below.refl Wa.heap.size Wa).drew hbt)) (below_alloc (Below.refl Wc.heap.size Wc) (.cells #[.string ⟨N.name.toArray⟩, .string ⟨N.rng.toArray⟩, .slice ca cn cc] 83))
        rw [HLT.out] at h
        exact h)
      have KP := hid (fun (Wc : World) (hbt : Below Wa.heap.size Wa.drew Wc) => show Blk Wc p8 [.string ⟨N.name.toArray⟩, .slice ba bn bc, .slice ca cn cc] 78 from P2.out.below (below_trans (Below.refl Wa.heap.size Wa).drew hbt))
      have KG := hid (fun (Wc w3 : World) (hbt : Below Wa.heap.size Wa.drew Wc) (hg : (Wc.alloc (.cells #[.string ⟨N.name.toArray⟩, .string ⟨N.rng.toArray⟩, .slice ca cn cc] 83)).grownBy w3 (Value.slice b k c).ownBlock) => show Blk w3 p8 [.string ⟨N.name.toArray⟩, .slice ba bn bc, .slice ca cn cc] 78 from ((KP.out Wc hbt).alloc _).grown hg (fun e => OTH.out e))
      have SZ := hid (fun (Wc : World) (hbt : Below Wa.heap.size Wa.drew Wc) => show w1.heap.size ≤ Wc.heap.size from Nat.le_trans ZA.out.size hbt.size)
      have FIN := hid (fun (Wc w3 : World) (g cap : Nat) (hbt : Below Wa.heap.size Wa.drew Wc)
          (hown3 : w3.ownsRow w1.heap.size 83 3 (.slice (some ⟨g, 0, none⟩) (k + 1) cap) (k + 1) (cls ++ [.string ⟨N.name.toArray⟩, .string ⟨N.rng.toArray⟩, .slice ca cn cc]))
          (hgrow : (Wc.alloc (.cells #[.string ⟨N.name.toArray⟩, .string ⟨N.rng.toArray⟩, .slice ca cn cc] 83)).grownBy w3 (Value.slice b k c).ownBlock) =>
        show Below w1.heap.size w1 w3 ∧ DGrow w3 w1.heap.size (fun x => x < w1.heap.size) (.slice (some ⟨g, 0, none⟩) (k + 1) cap) (cls ++ [.string ⟨N.name.toArray⟩, .string ⟨N.rng.toArray⟩, .slice ca cn cc]) (T0 ++ [N]) from by
          have hW := below_trans (Below.refl Wa.heap.size Wa).drew hbt
          have hG1 := GA.out.below hW
          refine ⟨((below_trans ZA.out hW).alloc (SZ.out Wc hbt) _).grown hgrow (by have := SZ.out Wc hbt; simp; omega) (fun q hq => (((AL.out Wc hbt).lt q hq)).1), ?_⟩
          exact push_old2 hG1 HLT.out ⟨rfl, rfl, HS.out.kept (Kept.of_below hW)⟩ hown3 hgrow)
      have q0 := P2.out.cell 0 rfl
      have q1 := P2.out.cell 1 rfl
      have q2 := P2.out.cell 2 rfl
      clear GA HS
      go_region_held3 (fun w' => w'.cell? ⟨p8, 0, none⟩ = some (.string ⟨N.name.toArray⟩) ∧ w'.cell? ⟨p8, 1, none⟩ = some (.slice ba bn bc) ∧ w'.cell? ⟨p8, 2, none⟩ = some (.slice ca cn cc))
        (first | (exact ⟨q0, q1, q2⟩) | (with_reducible exact ⟨hb3.cell 0 rfl, hb3.cell 1 rfl, hb3.cell 2 rfl⟩) | (exact ⟨hb2.cell 0 rfl, hb2.cell 1 rfl, hb2.cell 2 rfl⟩) | (exact ⟨(hb2.alloc _).cell 0 rfl, (hb2.alloc _).cell 1 rfl, (hb2.alloc _).cell 2 rfl⟩))
        (first
          | (refine step_append_lies _ rfl _ _ 50 rfl w1.heap.size 83 iC (.agg #[.string ⟨#[]⟩, .string ⟨#[]⟩, .slice none 0 0]) 3 56 Tryz.underlying50 hi.out hz0.out hz1.out hz2.out rfl (by decide) _ _ _ rfl (AL.out _ hbt) ⟨_, 0, none⟩ 1 1 [.string ⟨N.name.toArray⟩, .string ⟨N.rng.toArray⟩, .slice ca cn cc] rfl rfl (cells_new _ [_, _, _] _ _ rfl) (by intro u hu; simp at hu; rcases hu with rfl | rfl | rfl <;> rfl) (by decide) (by unfold maxLen; omega) (by omega) (by have := SZ.out _ hbt; simp; omega) _ rfl ?_; intro g cap w3 hown3 hgrow hat hlt3; have hb3 := KG.out _ _ hbt hgrow)
          | (go_at_call 96; (with_reducible refine TX.out.mono ?_); rintro e wc ⟨rfl, hbt⟩; have hb2 := KP.out _ hbt))
      all_goals
        obtain ⟨F1, F2⟩ := FIN.out _ _ _ _ hbt hown3 hgrow
        rw [← htk.out] at F2
        have F1 := hid F1
        have F2 := hid F2
        clear hown3 hgrow hat hlt3 hb3 hb2
        go_wp2_with fail
        go_roundw
        case rel => exact ⟨k + 1, some ⟨g, 0, none⟩, cap, _, by omega, by go_num, rfl, F1, F2⟩
        case measure => simp [intOf]; omega
    · have E := hid (show ns.take k = ns from List.take_of_length_le (by have := HN.out; omega))
      rw [E.out] at hgr
      have V := hid (hgr.out.v)
      have hkn : k = ns.length := by have := HN.out; omega
      have CP := hid ((own_cap hgr.out.own).1)
      rw [hkn] at V CP
      have BX := hid (below_trans BW.out hb.out)
      clear hgr HNE
      go_wp2_with fail
      go_ret
      rw [hkn]
      exact ⟨_, _, rfl, CP.out, BX.out, V.out⟩

theorem manOf_any (ns : List NeedS) (hl : ns.length ≤ 1000) (v : Value) (w : World) (hm : MaxAt w) (ht : TenAt w) (hg : SignsAt w) (hv : NeedsV w v ns) :
    Calls Tryz.prog 50 #[.agg #[v]] w (OfM ns w) :=
  (manOf_cap ns hl v w hm ht hg hv).mono fun _ _ ⟨_, _, he, _, hb, hd⟩ => ⟨_, he, hb, hd⟩
end Go.Proofs.YtafnohojnjpfcaaGreatDoor.Iy

/-
  LAYER 9, ManifestMore, behind a manifest that is none too long.
-/
namespace Go.Proofs.YtafnohojnjpfcaaGreatDoor.Ix
open Go.RowKit
open Go.Proofs.YtafnohojnjpfcaaGreatDoor Go.Proofs.YtafnohojnjpfcaaGreatDoor.Ln Go.Proofs.YtafnohojnjpfcaaGreatDoor.Vs Go.Proofs.YtafnohojnjpfcaaGreatDoor.Sp Go.Proofs.YtafnohojnjpfcaaGreatDoor.Sf

/-- what the two longer texts come to -/
def Out (S R : ByteArray) (ns : List NeedS) : Prop :=
  ∃ (c1 o1 l1 c2 o2 l2 : Int) (os ms : List NeedS),
    (∀ w, Calls Tryz.prog 48 #[.string (⟨#[109, 97, 110, 105, 102, 101, 115, 116, 10, 114, 111, 111, 116, 32]⟩ ++ R)] w (LawD os c1 o1 l1 w)) ∧
    (∀ w, MaxAt w → SignsAt w → Calls Tryz.prog 47 #[.string (S ++ ⟨#[10, 114, 111, 111, 116, 32]⟩ ++ R)] w (LawM ms c2 o2 l2 w)) ∧
    (((c2 != 0) = true ∧ ms = [] ∧ ((c1 != 0) = true ∨ c1 = 0 ∧ 8 ≤ ns.length)) ∨ (c1 = 0 ∧ c2 = 0 ∧ o2 = 0 ∧ l2 = 0 ∧ ns.length < 8 ∧ ∃ n : NeedS, n.feats.length ≤ 4 ∧ os = [n] ∧ ms = ns ++ [n]))

theorem keepM {W5 b c : World} {p q : Nat} {v1 v2 v3 v4 : Value} (k : Below b.heap.size b c) (h : Below W5.heap.size W5 b ∧ b.cell? ⟨p, 0, none⟩ = some v1 ∧ b.cell? ⟨q, 0, none⟩ = some v2 ∧ b.cell? ⟨q, 1, none⟩ = some v3 ∧ b.cell? ⟨q, 2, none⟩ = some v4) :
    Below W5.heap.size W5 c ∧ c.cell? ⟨p, 0, none⟩ = some v1 ∧ c.cell? ⟨q, 0, none⟩ = some v2 ∧ c.cell? ⟨q, 1, none⟩ = some v3 ∧ c.cell? ⟨q, 2, none⟩ = some v4 := ⟨below_trans h.1 k, bcell k h.2.1, bcell k h.2.2.1, bcell k h.2.2.2.1, bcell k h.2.2.2.2⟩

set_option maxRecDepth 100000 in
set_option maxHeartbeats 8000000 in
theorem more_on (S R : ByteArray) (ns : List NeedS) (hS : S.size ≤ 2000) (hR : R.size ≤ 200) (hns : Few ns) (w : World) (hm : MaxAt w) (ht : TenAt w) (hg : SignsAt w)
    (h1 : ∀ w, MaxAt w → SignsAt w → Calls Tryz.prog 47 #[.string S] w (LawM ns 0 0 0 w)) (HE : (10 : UInt8) ∉ R.data.toList → S.data.toList.count 10 ≤ 700 → Out S R ns) :
    Calls Tryz.prog 14 #[.string S, .string R] w (LawOk w) := by
  have HW := hid (fun w hm hg => show Calls Tryz.prog 49 #[] w (fun e w' => e = .returned (.bool true) ∧ Below w.heap.size w w') from wanted_any w hm hg)
  have H1 := hid h1
  replace HE := hid HE
  have HNS := hid hns
  unfold LawM at H1
  clear h1 hns
  obtain ⟨n, hn⟩ : ∃ n, ns.length = n := ⟨_, rfl⟩
  rw [hn] at H1
  have HN := hid hn
  clear hn
  go_enter Tryz.func14, Tryz.ntmps14
  go_wp2_with fail
  refine (H1.out w hm hg).mono ?_
  rintro e w1 ⟨a, cp, rfl, hb1, hv1⟩
  have A1 := below_alloc (below_alloc (Below.refl w1.heap.size w1) (.cells #[.slice a n cp] 106)) (.cells #[.int .i64 0, .int .i64 0, .int .i64 0] 27)
  have P1 := hid ((Blk.new w1 [.slice a n cp] 106).alloc (.cells #[.int .i64 0, .int .i64 0, .int .i64 0] 27))
  have P2 := Blk.new (w1.alloc (.cells #[.slice a n cp] 106)) [.int .i64 0, .int .i64 0, .int .i64 0] 27
  rw [show (w1.alloc (.cells #[.slice a n cp] 106)).heap.size = w1.heap.size + 1 by simp] at P2
  have Z1 := hid (below_trans hb1 A1)
  have V1 := hid (hv1.below A1)
  have P2 := hid P2
  clear hb1 hv1 A1
  go_wp2_with fail
  refine (HW.out _ (hm.below Z1.out) (hg.below Z1.out)).mono ?_
  rintro e w2 ⟨rfl, hb2⟩
  have q0 := (P2.out.below hb2).cell 0 rfl
  have q1 := (P2.out.below hb2).cell 1 rfl
  have q2 := (P2.out.below hb2).cell 2 rfl
  have Q1 := hid (P1.out.below hb2)
  have Z2 := hid (below_trans Z1.out hb2)
  have V2 := hid (V1.out.below hb2)
  clear hb2 P1 P2 Z1 V1 H1
  have hS2 : ¬ (2000 : Int) < (S.size : Int) := by omega
  have hR2 : ¬ (200 : Int) < (R.size : Int) := by omega
  change Hid (Blk w2 w1.heap.size [.slice a n cp] 106) at Q1
  go_wp2_with fail
  generalize w1.heap.size = p1 at Q1 q0 q1 q2 ⊢
  go_loop [7] (fun v => ∃ k : Nat, k ≤ R.size ∧ v = .int .i64 k ∧ ∀ j, j < k → R.data.toList[j]? ≠ some 10) (fun v => R.size - (intOf v).toNat)
  case atStart => exact ⟨0, by omega, rfl, fun j hj => absurd hj (by omega)⟩
  case round =>
    obtain ⟨k, hk, rfl, hj⟩ := hrel
    have HJ := hid hj
    clear hj
    by_cases hlt : k < R.size
    · have hlt64 : (k : Int) < (R.size : Int) := by omega
      have U1 := hid (fun (h : (R[k].toNat : Int) = 10) => show R[k] = 10 from UInt8.toNat_inj.1 (by have : (10 : UInt8).toNat = 10 := rfl; omega))
      have U2 := hid (fun (h : R[k] = 10) => show (R[k].toNat : Int) = 10 from by rw [h]; rfl)
      by_cases h10 : (R[k].toNat : Int) = 10
      · clear U1 U2
        clear HJ
        go_wp2_with fail
        go_ret
        exact ⟨rfl, Z2.out⟩
      · have HJ2 := hid (show ∀ j, j < k + 1 → R.data.toList[j]? ≠ some 10 from fun j hj e => by
          by_cases hjk : j = k
          · subst hjk
            rw [byte_at R j hlt] at e
            exact h10 (U2.out (Option.some.inj e))
          · exact HJ.out j (by omega) e)
        clear HJ U1 U2
        go_wp2_with fail
        go_round
        case rel => exact ⟨k + 1, by omega, by go_num, HJ2.out⟩
        case measure => simp [intOf]; omega
    · have hno := hid (show (10 : UInt8) ∉ R.data.toList from fun hx => by
        obtain ⟨j, hj⟩ := List.mem_iff_getElem?.1 hx
        have hjl := (List.getElem?_eq_some_iff.1 hj).1
        have hsz : R.data.toList.length = R.size := by simp
        exact HJ.out j (by omega) hj)
      have hge : ¬ (k : Int) < (R.size : Int) := by omega
      clear HJ
      go_wp2_with fail
      generalize hkv : (Value.int IntKind.i64 (k : Int)) = kv
      clear hkv hlt hge hk
      go_loop [8, 9] (fun r v => ∃ k : Nat, k ≤ S.size ∧ v = .int .i64 k ∧ r = .int .i64 (((S.data.toList.take k).count 10 : Nat) : Int)) (fun _ v => S.size - (intOf v).toNat)
      case atStart => exact ⟨0, by omega, rfl, rfl⟩
      case round =>
        obtain ⟨k, hk, rfl, rfl⟩ := hrel
        by_cases hlt : k < S.size
        · have hlt64 : (k : Int) < (S.size : Int) := by omega
          have hcl : (S.data.toList.take k).count 10 ≤ k := Nat.le_trans (List.count_le_length) (by rw [List.length_take]; omega)
          have U1 := hid (fun (h : (S[k].toNat : Int) = 10) => show S[k] = 10 from UInt8.toNat_inj.1 (by have : (10 : UInt8).toNat = 10 := rfl; omega))
          have U2 := hid (fun (h : S[k] = 10) => show (S[k].toNat : Int) = 10 from by rw [h]; rfl)
          by_cases h10 : (S[k].toNat : Int) = 10
          · have HC := hid (show (S.data.toList.take (k + 1)).count 10 = (S.data.toList.take k).count 10 + 1 by
              have hkl : k < S.data.toList.length := by simpa using hlt
              have e : S.data.toList[k] = 10 := by
                have := byte_at S k hlt
                rw [List.getElem?_eq_getElem hkl, U1.out h10] at this
                exact Option.some.inj this
              rw [List.take_succ_eq_append_getElem hkl, List.count_append, e]; rfl)
            generalize (S.data.toList.take k).count 10 = cnt at hcl HC ⊢
            generalize hc2 : (S.data.toList.take (k + 1)).count 10 = cnt2 at HC
            replace hc2 := hid hc2
            clear U1 U2
            go_wp2_with fail
            go_round
            case rel => exact ⟨k + 1, by omega, by go_num, by rw [hc2.out, HC.out]; go_num⟩
            case measure => simp [intOf]; omega
          · have HC := hid (show (S.data.toList.take (k + 1)).count 10 = (S.data.toList.take k).count 10 by
              have hkl : k < S.data.toList.length := by simpa using hlt
              have e : S.data.toList[k] ≠ 10 := by
                have := byte_at S k hlt
                rw [List.getElem?_eq_getElem hkl] at this
                rw [Option.some.inj this]; exact fun h => h10 (U2.out h)
              rw [List.take_succ_eq_append_getElem hkl, List.count_append, List.count_eq_zero_of_not_mem (l := [S.data.toList[k]]) (by intro h; exact e (List.mem_singleton.1 h).symm)]; rfl)
            generalize (S.data.toList.take k).count 10 = cnt at hcl HC ⊢
            generalize hc2 : (S.data.toList.take (k + 1)).count 10 = cnt2 at HC
            replace hc2 := hid hc2
            clear U1 U2
            go_wp2_with fail
            go_round
            case rel => exact ⟨k + 1, by omega, by go_num, by rw [hc2.out, HC.out]⟩
            case measure => simp [intOf]; omega
        · have hge : ¬ (k : Int) < (S.size : Int) := by omega
          have hsl : S.data.toList.length = S.size := by simp
          have hal : S.data.toList.take k = S.data.toList := List.take_of_length_le (by omega)
          rw [hal]
          have HEE := hid (fun h => HE.out hno.out h)
          generalize hct : S.data.toList.count 10 = ct at HEE ⊢
          have HCT := hid hct
          clear hct
          by_cases h7 : (700 : Int) < (ct : Int)
          · go_wp2_with fail
            go_ret
            exact ⟨rfl, Z2.out⟩
          · have HO := hid (HEE.out (by omega))
            clear HEE HE hsl
            go_wp2_with fail
            obtain ⟨c1, o1, l1, c2, o2, l2, os, ms, hd, hp, hcase⟩ := HO.out
            unfold LawD at hd
            unfold LawM at hp
            obtain ⟨ml, hml⟩ : ∃ ml, ms.length = ml := ⟨_, rfl⟩
            obtain ⟨ol, hol⟩ : ∃ ol, os.length = ol := ⟨_, rfl⟩
            rw [hml] at hp
            rw [hol] at hd
            have HML := hid hml
            have HOL := hid hol
            clear hml hol
            have hd := hid hd
            have hp := hid hp
            have hcase := hid hcase
            clear HO hge hk hal h7 hlt HCT
            refine (hd.out _).mono ?_
            rintro e w3 ⟨da, dc, rfl, hb3, hv3⟩
            have A3 := below_alloc (Below.refl w3.heap.size w3) (.cells #[.int .i64 c1, .int .i64 o1, .int .i64 l1] 34)
            have P3 := hid (Blk.new w3 [.int .i64 c1, .int .i64 o1, .int .i64 l1] 34)
            have Q3 := hid (Q1.out.below (below_trans hb3 A3))
            have Z3 := hid (below_trans Z2.out (below_trans hb3 A3))
            have V3 := hid (V2.out.below (below_trans hb3 A3))
            have D3 := hid (hv3.below A3)
            clear hb3 hv3 A3 Q1 Z2 V2 q0 q1 q2
            go_wp2_with fail
            refine (hp.out _ (hm.below Z3.out) (hg.below Z3.out)).mono ?_
            rintro e w4 ⟨ma, mc, rfl, hb4, hv4⟩
            have A4 := below_alloc (below_alloc (Below.refl w4.heap.size w4) (.cells #[.slice ma ml mc] 106)) (.cells #[.int .i64 c2, .int .i64 o2, .int .i64 l2] 27)
            have P4 := hid ((Blk.new w4 [.slice ma ml mc] 106).alloc (.cells #[.int .i64 c2, .int .i64 o2, .int .i64 l2] 27))
            have P5 := Blk.new (w4.alloc (.cells #[.slice ma ml mc] 106)) [.int .i64 c2, .int .i64 o2, .int .i64 l2] 27
            rw [show (w4.alloc (.cells #[.slice ma ml mc] 106)).heap.size = w4.heap.size + 1 by simp] at P5
            have P5 := hid P5
            have Q4 := hid (Q3.out.below (below_trans hb4 A4))
            have R4 := hid (P3.out.below (below_trans hb4 A4))
            have Z4 := hid (below_trans Z3.out (below_trans hb4 A4))
            have V4 := hid (V3.out.below (below_trans hb4 A4))
            have D4 := hid (D3.out.below (below_trans hb4 A4))
            have U4 := hid (hv4.below A4)
            clear hb4 hv4 A4 Q3 P3 Z3 V3 D3 hd hp
            have m0 := Q4.out.cell 0 rfl
            have g0 := R4.out.cell 0 rfl
            have x0 := P4.out.cell 0 rfl
            have y0 := P5.out.cell 0 rfl
            have y1 := P5.out.cell 1 rfl
            have y2 := P5.out.cell 2 rfl
            have hn8 : (n : Int) ≤ 8 := by have := HNS.out.1; have := HN.out; omega
            rcases hcase.out with ⟨hc2, hms, hc1 | ⟨rfl, h8⟩⟩ | ⟨rfl, rfl, rfl, rfl, h8, x, hx, hos, hms⟩
            · obtain rfl : ml = 0 := by rw [← HML.out, hms]; rfl
              clear hcase hms
              go_wp2_with fail
              go_ret
              exact ⟨rfl, Z4.out⟩
            · have h8n : (8 : Int) ≤ (n : Int) := by have := HN.out; omega
              obtain rfl : ml = 0 := by rw [← HML.out, hms]; rfl
              clear hcase hms
              go_wp2_with fail
              go_ret
              exact ⟨rfl, Z4.out⟩
            · have h8n : ¬ (8 : Int) ≤ (n : Int) := by have := HN.out; omega
              have h8m : (n : Int) < 8 := by omega
              obtain rfl : ml = n + 1 := by rw [← HML.out, hms, List.length_append, HN.out]; rfl
              obtain rfl : ol = 1 := by rw [← HOL.out, hos]; rfl
              have HMS := hid hms
              have HOS := hid hos
              clear hcase hms hos
              go_wp2_with fail
              have HC := hid (Iy.manOf_cap ms (by have := HML.out; omega) _ _ (hm.below Z4.out) (ht.below Z4.out) (hg.below Z4.out) U4.out)
              unfold Iy.OfC at HC
              rw [HML.out] at HC
              refine HC.out.mono ?_
              clear HC
              rintro e w5 ⟨va, vc, rfl, hvc, hb5, hd5⟩
              obtain ⟨_, _, hv5, hne⟩ := hd5
              obtain ⟨rfl, rfl⟩ : va = _ ∧ vc = _ := by injection hv5 with e1 e2 e3; exact ⟨e1, e3⟩
              clear hv5
              obtain ⟨G, cells, rfl, hG, hcl, hdn⟩ := hne (by intro h; rw [h] at HML; have := HML.out; simp at this)
              have m5 := bcell hb5 m0
              have y05 := bcell hb5 y0
              have y15 := bcell hb5 y1
              have y25 := bcell hb5 y2
              have Z5 := hid (below_trans Z4.out hb5)
              have V5 := hid (V4.out.below hb5)
              have D5 := hid (D4.out.below hb5)
              have HCL := hid hcl
              have HDN := hid hdn
              have HGL := hid hG
              clear m0 g0 x0 y0 y1 y2 hb5 V4 D4 U4 Z4 Q4 R4 P4 P5 hcl hdn hG hne
              have HB := hid (Below.refl w5.heap.size w5)
              have HOF := hid (fun w' (h : Below w5.heap.size w5 w') => show Calls Tryz.prog 50 #[.agg #[.slice a n cp]] w' (fun e w'' => ∃ v, e = .returned v ∧ Below w'.heap.size w' w'' ∧ DNeedsV w'' v ns) from by
                have hz := below_trans Z5.out h
                exact manOf_any ns (by have := HNS.out.1; omega) _ w' (hm.below hz) (ht.below hz) (hg.below hz) (V5.out.below h))
              have HS1 := hid (fun v c' w' (h : Below w5.heap.size w5 w') (hv : DNeedsV w' v ns) => show Calls Tryz.prog 46 #[.slice (some ⟨G, 0, none⟩) n c', v] w' (fun e w'' => e = .returned (.bool true) ∧ Below w'.heap.size w' w'') from by
                refine (sameNeeds_any ns (by have := HNS.out.1; omega) (.slice (some ⟨G, 0, none⟩) n c') v w' ?_ hv (fun x hx => by have := HNS.out.2 x hx; omega)).mono (fun e w'' ⟨he, m, hm⟩ => ⟨he, by rw [hm]; exact below_drewN' (Below.refl _ _) m⟩)
                refine ⟨_, c', by rw [HN.out], fun _ => ⟨G, cells.take (n * 3), rfl, Nat.lt_of_lt_of_le HGL.out h.size, fun k x hk => ?_, ?_, fun i x hi => ?_⟩⟩
                · rw [List.getElem?_take] at hk
                  split at hk
                  · rw [h.cell HGL.out]; exact HCL.out k x hk
                  · cases hk
                · rw [List.length_take, HDN.out.1, HMS.out, List.length_append, HN.out]; simp
                · have hil := (List.getElem?_eq_some_iff.1 hi).1
                  have hnn := HN.out
                  obtain ⟨a0, a1, a2, e0, e1, e2, hv0⟩ := HDN.out.2 i x (by rw [HMS.out, List.getElem?_append_left hil]; exact hi)
                  refine ⟨a0, a1, a2, ?_, ?_, ?_, hv0.kept (Kept.of_below h)⟩
                  · rw [List.getElem?_take, if_pos (by omega)]; exact e0
                  · rw [List.getElem?_take, if_pos (by omega)]; exact e1
                  · rw [List.getElem?_take, if_pos (by omega)]; exact e2)
              have HS2 := hid (fun c' w' (h : Below w5.heap.size w5 w') => show Calls Tryz.prog 46 #[.slice (some ⟨G, n * 3, none⟩) 1 c', .slice da 1 dc] w' (fun e w'' => e = .returned (.bool true) ∧ Below w'.heap.size w' w'') from by
                obtain ⟨a0, a1, a2, e0, e1, e2, hv0⟩ := HDN.out.2 n x (by rw [HMS.out, List.getElem?_append_right (by rw [HN.out]; exact Nat.le_refl _), HN.out]; simp)
                refine (sameOne x (by omega) G (n * 3) c' a0 a1 a2 (fun _ => True) w' (by rw [h.cell HGL.out]; exact HCL.out _ _ e0) (by rw [h.cell HGL.out]; exact HCL.out _ _ e1) (by rw [h.cell HGL.out]; exact HCL.out _ _ e2) (hv0.kept (Kept.of_below h)) _ (by have := D5.out.below h; rw [HOS.out] at this; exact this)).mono (fun e w'' ⟨he, m, hm⟩ => ⟨he, by rw [hm]; exact below_drewN' (Below.refl _ _) m⟩))
              have hcap : (n : Int) + 1 ≤ (vc : Int) := by omega
              have hcap2 : (n : Int) ≤ (vc : Int) := by omega
              have hcap3 : n + 1 ≤ vc := hvc
              clear HDN HCL HMS HOS D5 V5 HGL
              go_wp2_with fail
              generalize w4.heap.size + 1 = p5 at y05 y15 y25 ⊢
              have hbr : Below w5.heap.size w5 w5 := Below.refl _ _
              have hb0 : Below w5.heap.size w5 w5.drew := hbr.drew
              have hwr1 : IntKind.i64.wrap ((n : Int) + 1) = (n : Int) + 1 := IntWalk.i64_in _ (by omega)
              have hwr2 : IntKind.i64.wrap (n : Int) = (n : Int) := IntWalk.i64_in _ (by omega)
              have hsub : n + 1 - n = 1 := by omega
              have hf1 : (n : Int) < (vc : Int) := by omega
              have hf2 : n < vc := by omega
              have hf3 : ((n + 1 : Nat) : Int) ≤ (vc : Int) := by omega
              have hf4 : (0 : Int) ≤ (n : Int) := by omega
              have hf5 : (n : Int) ≤ (n : Int) + 1 := by omega
              have hf6 : (0 : Int) ≤ (n : Int) + 1 := by omega
              have hf7 : n ≤ vc := by omega
              have hf8 : n + 1 ≤ vc := by omega
              have hf9 : ((n : Int) + 1).toNat = n + 1 := by omega
              have hf10 : (n : Int).toNat = n := by omega
              have hf11 : ¬ vc = n := by omega
              clear HW HN HML HOL HNS hcap hcap2 hcap3
              go_region_held3 (fun w' => Below w5.heap.size w5 w' ∧ w'.cell? ⟨p1, 0, none⟩ = some (.slice a n cp) ∧ w'.cell? ⟨p5, 0, none⟩ = some (.int .i64 0) ∧ w'.cell? ⟨p5, 1, none⟩ = some (.int .i64 0) ∧ w'.cell? ⟨p5, 2, none⟩ = some (.int .i64 0)) (first | (exact keepM (by assumption) (by assumption)) | (exact keepM hb0 ⟨hbr, m5, y05, y15, y25⟩))
                (first
                  | (go_at_call 50; (with_reducible refine (HOF.out _ (And.left (by assumption))).mono ?_); rintro e w' ⟨v9, rfl, hb, hv9⟩)
                  | (go_at_call 46; (with_reducible refine (HS1.out _ _ _ (And.left (by assumption)) (by assumption)).mono ?_); rintro e w' ⟨rfl, hb⟩)
                  | (go_at_call 46; (with_reducible refine (HS2.out _ _ (And.left (by assumption))).mono ?_); rintro e w' ⟨rfl, hb⟩)
                  | (go_at_call 46; rw [if_neg hf11]; (with_reducible refine (HS2.out _ _ (And.left (by assumption))).mono ?_); rintro e w' ⟨rfl, hb⟩))
              all_goals
                go_wp2_with fail
                go_ret
                exact ⟨rfl, below_trans Z5.out (And.left (by assumption))⟩
end Go.Proofs.YtafnohojnjpfcaaGreatDoor.Ix

/-
  LAYER 9, ManifestMore, for every two texts.
-/
namespace Go.Proofs.YtafnohojnjpfcaaGreatDoor.Ix
open Go.RowKit
open Go.Proofs.YtafnohojnjpfcaaGreatDoor Go.Proofs.YtafnohojnjpfcaaGreatDoor.Ln Go.Proofs.YtafnohojnjpfcaaGreatDoor.Vs Go.Proofs.YtafnohojnjpfcaaGreatDoor.Sp Go.Proofs.YtafnohojnjpfcaaGreatDoor.Sf

theorem parse_ok {l : List UInt8} {ns : List NeedS} (h : manP l = .ok ns) (hs : l.length ≤ 140737488355328) (w : World) (hm : MaxAt w) (hg : SignsAt w) : Calls Tryz.prog 47 #[.string ⟨l.toArray⟩] w (LawM ns 0 0 0 w) := by
  have h1 := manParse_any l hs w hm hg
  unfold ManIs at h1
  rw [h] at h1
  refine h1.mono ?_
  rintro e w' ⟨hb, mv, rfl, hv⟩
  obtain ⟨a, cp, rfl, h3⟩ := hv
  exact ⟨a, cp, rfl, hb, a, cp, rfl, h3⟩
theorem parse_err {l : List UInt8} {c no col : Nat} (h : manP l = .error (c, no, col)) (hs : l.length ≤ 140737488355328) (w : World) (hm : MaxAt w) (hg : SignsAt w) : Calls Tryz.prog 47 #[.string ⟨l.toArray⟩] w (LawM [] (c : Int) (no : Int) (col : Int) w) := by
  have h1 := manParse_any l hs w hm hg
  unfold ManIs at h1
  rw [h] at h1
  refine h1.mono ?_
  rintro e w' ⟨hb, rfl⟩
  exact ⟨none, 0, rfl, hb, none, 0, rfl, fun h => absurd rfl h⟩
theorem doc_ok {l : List UInt8} {ns : List NeedS} (h : manP l = .ok ns) (hs : l.length ≤ 140737488355328) (w : World) : Calls Tryz.prog 48 #[.string ⟨l.toArray⟩] w (LawD ns 0 0 0 w) := by
  have h1 := docParse_any l hs w
  unfold DocIs at h1
  rw [h] at h1
  refine h1.mono ?_
  rintro e w' ⟨hb, mv, rfl, hv⟩
  obtain ⟨a, cp, rfl, h3⟩ := hv
  exact ⟨a, cp, rfl, hb, a, cp, rfl, h3⟩
theorem doc_err {l : List UInt8} {c no col : Nat} (h : manP l = .error (c, no, col)) (hs : l.length ≤ 140737488355328) (w : World) : Calls Tryz.prog 48 #[.string ⟨l.toArray⟩] w (LawD [] (c : Int) (no : Int) (col : Int) w) := by
  have h1 := docParse_any l hs w
  unfold DocIs at h1
  rw [h] at h1
  refine h1.mono ?_
  rintro e w' ⟨hb, rfl⟩
  exact ⟨none, 0, rfl, hb, none, 0, rfl, fun h => absurd rfl h⟩
theorem code_on {l : List UInt8} {c no col : Nat} (h : manP l = .error (c, no, col)) : (((c : Nat) : Int) != 0) = true := by
  rcases manP_code h with rfl | rfl | rfl <;> rfl

theorem law_manMore (S R : ByteArray) (hS : S.data.toList.length ≤ 140737488355328) (hR : R.data.toList.length ≤ 140737488355328) (w : World) (hm : MaxAt w) (ht : TenAt w) (hg : SignsAt w) :
    Calls Tryz.prog 14 #[.string S, .string R] w (LawOk w) := by
  have hsl : S.data.toList.length = S.size := by simp
  have hrl : R.data.toList.length = R.size := by simp
  have hS2 : S.size ≤ 140737488355328 := by omega
  have hR2 : R.size ≤ 140737488355328 := by omega
  cases hp : manP S.data.toList with
  | error x =>
    obtain ⟨c, no, col⟩ := x
    refine more_off S R c no col [] hS2 hR2 ?_ w hm hg (fun w hm hg => ?_)
    · rcases manP_code hp with rfl | rfl | rfl
      · exact .inl rfl
      · exact .inr (.inl rfl)
      · exact .inr (.inr (.inl rfl))
    · have h := parse_err hp hS w hm hg
      rwa [listB] at h
  | ok ns =>
    have h1 : ∀ w, MaxAt w → SignsAt w → Calls Tryz.prog 47 #[.string S] w (LawM ns 0 0 0 w) := fun w hm hg => by
      have h := parse_ok hp hS w hm hg
      rwa [listB] at h
    by_cases hlen : 2000 < S.size ∨ 200 < R.size
    · exact more_off S R 0 0 0 ns hS2 hR2 (.inr (.inr (.inr ⟨rfl, rfl, rfl, hlen⟩))) w hm hg h1
    · refine more_on S R ns (by omega) (by omega) (manP_few hp) w hm ht hg h1 (fun hno hc => ?_)
      have eh : (⟨#[109, 97, 110, 105, 102, 101, 115, 116, 10, 114, 111, 111, 116, 32]⟩ : ByteArray) ++ R = ⟨([109, 97, 110, 105, 102, 101, 115, 116, 10, 114, 111, 111, 116, 32] ++ R.data.toList).toArray⟩ := appB [109, 97, 110, 105, 102, 101, 115, 116, 10, 114, 111, 111, 116, 32] R
      have et : S ++ (⟨#[10, 114, 111, 111, 116, 32]⟩ : ByteArray) ++ R = ⟨(S.data.toList ++ [10, 114, 111, 111, 116, 32] ++ R.data.toList).toArray⟩ := appB2 S R [10, 114, 111, 111, 116, 32]
      have lh : ([109, 97, 110, 105, 102, 101, 115, 116, 10, 114, 111, 111, 116, 32] ++ R.data.toList).length ≤ 140737488355328 := by rw [List.length_append]; simp only [List.length_cons, List.length_nil]; omega
      have lt : (S.data.toList ++ [10, 114, 111, 111, 116, 32] ++ R.data.toList).length ≤ 140737488355328 := by rw [List.length_append, List.length_append]; simp only [List.length_cons, List.length_nil]; omega
      unfold Out
      rw [eh, et]
      rcases more_math hp (manP_few hp).1 (by omega) (by omega) hno hc with ⟨e1, e2, h2, h3⟩ | ⟨n, h2, ⟨h8, e, h3⟩ | ⟨h8, h3⟩⟩
      · obtain ⟨c1, o1, l1⟩ := e1
        obtain ⟨c2, o2, l2⟩ := e2
        exact ⟨c1, o1, l1, c2, o2, l2, [], [], fun w => doc_err h2 lh w, fun w hm hg => parse_err h3 lt w hm hg, .inl ⟨code_on h3, rfl, .inl (code_on h2)⟩⟩
      · obtain ⟨c2, o2, l2⟩ := e
        exact ⟨0, 0, 0, c2, o2, l2, [n], [], fun w => doc_ok h2 lh w, fun w hm hg => parse_err h3 lt w hm hg, .inl ⟨code_on h3, rfl, .inr ⟨rfl, h8⟩⟩⟩
      · exact ⟨0, 0, 0, 0, 0, 0, [n], ns ++ [n], fun w => doc_ok h2 lh w, fun w hm hg => parse_ok h3 lt w hm hg, .inr ⟨rfl, rfl, rfl, rfl, h8, n, (manP_few h2).2 n (by simp), rfl, rfl⟩⟩
end Go.Proofs.YtafnohojnjpfcaaGreatDoor.Ix
