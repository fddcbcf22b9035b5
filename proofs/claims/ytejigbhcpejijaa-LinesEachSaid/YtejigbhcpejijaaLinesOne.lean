/-
  LAYER 1: one question of the statements, asked of a reader.
-/
import Derived.Test.YtejigbhcpejijaaLinesPlay
import Derived.Test.YtejigbhcpejijaaLinesNum2
import Derived.Test.YtejigbhcpejijaaLinesDigits
namespace Go.Proofs.Ytejigbhcpejijaa.Ln
open Go.RowKit

/-- a row of texts that has just been made -/
theorem row_one {w : World} (base : Nat) (hb : base ≤ w.heap.size) (x : List UInt8) : (w.alloc (.cells #[.string ⟨x.toArray⟩] 9)).ownsRow base 9 1 (.slice (some ⟨w.heap.size, 0, none⟩) 1 1) 1 (strs [x]) :=
  ⟨rfl, .inr ⟨w.heap.size, 1, _, rfl, hb, heap_alloc_new w _, Nat.le_refl _, by unfold maxLen; decide, rfl, rfl⟩⟩

/-- a slice of texts as a question answers it: nil, or one text in new memory -/
def AnsIs (base : Nat) (w : World) (v : Value) (x : List (List UInt8)) : Prop :=
  (x = [] ∧ v = .slice none 0 0) ∨ ∃ u g, x = [u] ∧ v = .slice (some ⟨g, 0, none⟩) 1 1 ∧ base ≤ g ∧ Blk w g [.string ⟨u.toArray⟩] 9

/-- what a question comes to -/
def OneIs (r : Rd) (ws : List (List UInt8)) (cs : List Nat) (o : OpD) (t : Nat) (w : World) (e : Ending) (w' : World) : Prop :=
  Only (· = r.p) w w' ∧ match oneV ws cs o t with
  | .ok (x, t') => ∃ v, e = .returned v ∧ RdAt w' r t' ∧ AnsIs w.heap.size w' v x
  | .error (c, col) => e = .panicked [{ v := stopV r.ea ⟨c, r.no, col⟩, recovered := false }]

theorem one_ok {r : Rd} {ws : List (List UInt8)} {cs : List Nat} {o : OpD} {t t' : Nat} {w w' : World} {e : Ending} {x : List (List UInt8)} {v : Value} (h : oneV ws cs o t = .ok (x, t')) (ho : Only (· = r.p) w w') (he : e = .returned v) (hr : RdAt w' r t') (ha : AnsIs w.heap.size w' v x) : OneIs r ws cs o t w e w' := by
  unfold OneIs; rw [h]; exact ⟨ho, v, he, hr, ha⟩
theorem one_err {r : Rd} {ws : List (List UInt8)} {cs : List Nat} {o : OpD} {t : Nat} {w w' : World} {e : Ending} {c col : Int} (h : oneV ws cs o t = .error (c, col)) (ho : Only (· = r.p) w w') (he : e = .panicked [{ v := stopV r.ea ⟨c, r.no, col⟩, recovered := false }]) : OneIs r ws cs o t w e w' := by
  unfold OneIs; rw [h]; exact ⟨ho, he⟩
theorem getD_word {ws : List (List UInt8)} {t : Nat} (h : t < ws.length) : ws.getD t [] = ws[t] := by simp [List.getD, List.getElem?_eq_getElem h]

theorem ans_new {w : World} (base : Nat) (hb : base ≤ w.heap.size) (x : List UInt8) : AnsIs base (w.alloc (.cells #[.string ⟨x.toArray⟩] 9)) (.slice (some ⟨w.heap.size, 0, none⟩) 1 1) [x] :=
  .inr ⟨x, w.heap.size, rfl, rfl, hb, Blk.new w [.string ⟨x.toArray⟩] _⟩

set_option maxRecDepth 100000 in
set_option maxHeartbeats 2000000 in
theorem one_word {w : World} {r : Rd} {t : Nat} {ws : List (List UInt8)} {cs : List Nat} (h : RdAt w r t) (hl : RdL w r ws cs) (ht : t < ws.length) (n : Int) (V : List UInt8) :
    Calls Try.prog 26 #[.pointer (some ⟨r.p, 0, none⟩), .agg #[.int .i64 1, .int .i64 n, .string ⟨V.toArray⟩]] w (OneIs r ws cs ⟨1, n, V⟩ t w) := by
  have hbox : Only (· = r.p) w (w.alloc (.cells #[.int .i64 1, .int .i64 n, .string ⟨V.toArray⟩] 58)) := (Only.refl _ _).alloc _
  have H1 := hid (h.alloc (.cells #[.int .i64 1, .int .i64 n, .string ⟨V.toArray⟩] 58))
  have HL1 := hid (hl.self hbox)
  have HP := hid h.lt
  have HO := hid hbox
  have EV : Hid (oneV ws cs ⟨1, n, V⟩ t = .ok ([ws[t]], t + 1)) := hid (by simp [oneV, ht])
  have W1 := hid (word_ok H1.out HL1.out ht)
  generalize ws[t] = W at *
  clear h hl hbox
  go_enter Try.func26, Try.ntmps26
  go_wp2_with fail
  refine (W1.out).mono ?_
  rintro e w1 ⟨rfl, ho, hr⟩
  have HO1 := hid (HO.out.trans ho)
  have HR1 := hid hr
  clear ho hr
  go_wp2_with fail
  go_ret
  exact one_ok EV.out (HO1.out.alloc _) rfl (HR1.out.alloc _) (ans_new _ HO1.out.size _)

set_option maxRecDepth 100000 in
set_option maxHeartbeats 2000000 in
theorem one_word_no {w : World} {r : Rd} {t : Nat} {ws : List (List UInt8)} {cs : List Nat} (h : RdAt w r t) (hl : RdL w r ws cs) (ht : ¬ t < ws.length) (n : Int) (V : List UInt8) :
    Calls Try.prog 26 #[.pointer (some ⟨r.p, 0, none⟩), .agg #[.int .i64 1, .int .i64 n, .string ⟨V.toArray⟩]] w (OneIs r ws cs ⟨1, n, V⟩ t w) := by
  have hbox : Only (· = r.p) w (w.alloc (.cells #[.int .i64 1, .int .i64 n, .string ⟨V.toArray⟩] 58)) := (Only.refl _ _).alloc _
  have H1 := hid (h.alloc (.cells #[.int .i64 1, .int .i64 n, .string ⟨V.toArray⟩] 58))
  have HL1 := hid (hl.self hbox)
  have HP := hid h.lt
  have HO := hid hbox
  have EV : Hid (oneV ws cs ⟨1, n, V⟩ t = .error (1, 0)) := hid (by simp [oneV, ht])
  have W1 := hid (word_none H1.out HL1.out ht)
  clear h hl hbox
  go_enter Try.func26, Try.ntmps26
  go_wp2_with fail
  refine (W1.out).mono ?_
  rintro e w1 ⟨rfl, ho⟩
  exact ⟨rfl, one_err EV.out (HO.out.trans ho) rfl⟩

set_option maxRecDepth 100000 in
set_option maxHeartbeats 2000000 in
theorem one_is_yes {w : World} {r : Rd} {t : Nat} {ws : List (List UInt8)} {cs : List Nat} (h : RdAt w r t) (hl : RdL w r ws cs) (ht : t < ws.length) (n : Int) :
    Calls Try.prog 26 #[.pointer (some ⟨r.p, 0, none⟩), .agg #[.int .i64 2, .int .i64 n, .string ⟨ws[t].toArray⟩]] w (OneIs r ws cs ⟨2, n, ws[t]⟩ t w) := by
  have hbox : Only (· = r.p) w (w.alloc (.cells #[.int .i64 2, .int .i64 n, .string ⟨ws[t].toArray⟩] 58)) := (Only.refl _ _).alloc _
  have H1 := hid (h.alloc (.cells #[.int .i64 2, .int .i64 n, .string ⟨ws[t].toArray⟩] 58))
  have HL1 := hid (hl.self hbox)
  have HP := hid h.lt
  have HO := hid hbox
  have EV : Hid (oneV ws cs ⟨2, n, ws[t]⟩ t = .ok ([[121, 101, 115]], t + 1)) := hid (by simp [oneV, ht])
  have W1 := hid (is_yes H1.out HL1.out ht)
  generalize ws[t] = W at *
  clear h hl hbox
  go_enter Try.func26, Try.ntmps26
  go_wp2_with fail
  refine (W1.out).mono ?_
  rintro e w1 ⟨rfl, ho, hr⟩
  have HO1 := hid (HO.out.trans ho)
  have HR1 := hid hr
  clear ho hr
  go_wp2_with fail
  go_ret
  exact one_ok EV.out (HO1.out.alloc _) rfl (HR1.out.alloc _) (ans_new _ HO1.out.size _)

set_option maxRecDepth 100000 in
set_option maxHeartbeats 2000000 in
theorem one_is_no {w : World} {r : Rd} {t : Nat} {ws : List (List UInt8)} {cs : List Nat} (h : RdAt w r t) (hl : RdL w r ws cs) (ht : t < ws.length) (n : Int) (V : List UInt8) (hV : ws[t] ≠ V) :
    Calls Try.prog 26 #[.pointer (some ⟨r.p, 0, none⟩), .agg #[.int .i64 2, .int .i64 n, .string ⟨V.toArray⟩]] w (OneIs r ws cs ⟨2, n, V⟩ t w) := by
  have hbox : Only (· = r.p) w (w.alloc (.cells #[.int .i64 2, .int .i64 n, .string ⟨V.toArray⟩] 58)) := (Only.refl _ _).alloc _
  have H1 := hid (h.alloc (.cells #[.int .i64 2, .int .i64 n, .string ⟨V.toArray⟩] 58))
  have HL1 := hid (hl.self hbox)
  have HP := hid h.lt
  have HO := hid hbox
  have EV : Hid (oneV ws cs ⟨2, n, V⟩ t = .ok ([[110, 111]], t)) := hid (by simp [oneV, ht, hV])
  have W1 := hid (is_no H1.out HL1.out ht V hV)
  clear hV
  generalize ws[t] = W at *
  clear h hl hbox
  go_enter Try.func26, Try.ntmps26
  go_wp2_with fail
  refine (W1.out).mono ?_
  rintro e w1 ⟨rfl, ho, hr⟩
  have HO1 := hid (HO.out.trans ho)
  have HR1 := hid hr
  clear ho hr
  go_wp2_with fail
  go_ret
  exact one_ok EV.out (HO1.out.alloc _) rfl (HR1.out.alloc _) (ans_new _ HO1.out.size _)

set_option maxRecDepth 100000 in
set_option maxHeartbeats 2000000 in
theorem one_is_end {w : World} {r : Rd} {t : Nat} {ws : List (List UInt8)} {cs : List Nat} (h : RdAt w r t) (hl : RdL w r ws cs) (ht : ¬ t < ws.length) (n : Int) (V : List UInt8) :
    Calls Try.prog 26 #[.pointer (some ⟨r.p, 0, none⟩), .agg #[.int .i64 2, .int .i64 n, .string ⟨V.toArray⟩]] w (OneIs r ws cs ⟨2, n, V⟩ t w) := by
  have hbox : Only (· = r.p) w (w.alloc (.cells #[.int .i64 2, .int .i64 n, .string ⟨V.toArray⟩] 58)) := (Only.refl _ _).alloc _
  have H1 := hid (h.alloc (.cells #[.int .i64 2, .int .i64 n, .string ⟨V.toArray⟩] 58))
  have HL1 := hid (hl.self hbox)
  have HP := hid h.lt
  have HO := hid hbox
  have EV : Hid (oneV ws cs ⟨2, n, V⟩ t = .ok ([[110, 111]], t)) := hid (by simp [oneV, ht])
  have W1 := hid (is_end H1.out HL1.out ht V)
  clear h hl hbox
  go_enter Try.func26, Try.ntmps26
  go_wp2_with fail
  refine (W1.out).mono ?_
  rintro e w1 ⟨rfl, ho, hr⟩
  have HO1 := hid (HO.out.trans ho)
  have HR1 := hid hr
  clear ho hr
  go_wp2_with fail
  go_ret
  exact one_ok EV.out (HO1.out.alloc _) rfl (HR1.out.alloc _) (ans_new _ HO1.out.size _)

set_option maxRecDepth 100000 in
set_option maxHeartbeats 2000000 in
theorem one_num {w : World} {r : Rd} {t : Nat} {ws : List (List UInt8)} {cs : List Nat} (h : RdAt w r t) (hl : RdL w r ws cs) (ht : t < ws.length) (hs : ws[t].length ≤ 1099511627776) (hb : numB ws[t] = true) (n : Int) (hm : ¬ n < (numN ws[t] : Int)) (V : List UInt8) :
    Calls Try.prog 26 #[.pointer (some ⟨r.p, 0, none⟩), .agg #[.int .i64 3, .int .i64 n, .string ⟨V.toArray⟩]] w (OneIs r ws cs ⟨3, n, V⟩ t w) := by
  have hbox : Only (· = r.p) w (w.alloc (.cells #[.int .i64 3, .int .i64 n, .string ⟨V.toArray⟩] 58)) := (Only.refl _ _).alloc _
  have H1 := hid (h.alloc (.cells #[.int .i64 3, .int .i64 n, .string ⟨V.toArray⟩] 58))
  have HL1 := hid (hl.self hbox)
  have HP := hid h.lt
  have HO := hid hbox
  have EV : Hid (oneV ws cs ⟨3, n, V⟩ t = .ok ([ws[t]], t + 1)) := hid (by simp [oneV, ht, hb]; omega)
  have W1 := hid (number_ok H1.out HL1.out ht hs hb n hm)
  have DG := hid (fun M => hid (digits_any (numN ws[t]) (by have := numN_lt hb; omega) M))
  rw [numN_dec hb] at DG
  clear hs hb hm
  generalize numN ws[t] = N at *
  generalize ws[t] = W at *
  clear h hl hbox
  go_enter Try.func26, Try.ntmps26
  go_wp2_with fail
  refine (W1.out).mono ?_
  rintro e w1 ⟨rfl, ho, hr⟩
  have HO1 := hid (HO.out.trans ho)
  have HR1 := hid hr
  clear ho hr
  go_wp2_with fail
  refine (DG.out _).out.mono ?_
  rintro e w2 ⟨rfl, hb2⟩
  have HB2 := hid hb2
  clear hb2
  go_wp2_with fail
  go_ret
  exact one_ok EV.out ((HO1.out.trans (Only.of_below HB2.out)).alloc _) rfl ((HR1.out.below HB2.out).alloc _) (ans_new _ (HO1.out.trans (Only.of_below (S := (· = r.p)) HB2.out)).size _)

set_option maxRecDepth 100000 in
set_option maxHeartbeats 2000000 in
theorem one_num_high {w : World} {r : Rd} {t : Nat} {ws : List (List UInt8)} {cs : List Nat} (h : RdAt w r t) (hl : RdL w r ws cs) (ht : t < ws.length) (hs : ws[t].length ≤ 1099511627776) (hb : numB ws[t] = true) (n : Int) (hm : n < (numN ws[t] : Int)) (V : List UInt8) :
    Calls Try.prog 26 #[.pointer (some ⟨r.p, 0, none⟩), .agg #[.int .i64 3, .int .i64 n, .string ⟨V.toArray⟩]] w (OneIs r ws cs ⟨3, n, V⟩ t w) := by
  have hbox : Only (· = r.p) w (w.alloc (.cells #[.int .i64 3, .int .i64 n, .string ⟨V.toArray⟩] 58)) := (Only.refl _ _).alloc _
  have H1 := hid (h.alloc (.cells #[.int .i64 3, .int .i64 n, .string ⟨V.toArray⟩] 58))
  have HL1 := hid (hl.self hbox)
  have HP := hid h.lt
  have HO := hid hbox
  have EV : Hid (oneV ws cs ⟨3, n, V⟩ t = .error (8, (cs.getD t 0 : Nat))) := hid (by simp [oneV, ht, hb, hm])
  have W1 := hid (number_high H1.out HL1.out ht hs hb n hm)
  clear hs hb hm
  clear h hl hbox
  go_enter Try.func26, Try.ntmps26
  go_wp2_with fail
  refine (W1.out).mono ?_
  rintro e w1 ⟨rfl, ho⟩
  exact ⟨rfl, one_err EV.out (HO.out.trans ho) rfl⟩

set_option maxRecDepth 100000 in
set_option maxHeartbeats 2000000 in
theorem one_num_bad {w : World} {r : Rd} {t : Nat} {ws : List (List UInt8)} {cs : List Nat} (h : RdAt w r t) (hl : RdL w r ws cs) (ht : t < ws.length) (hs : ws[t].length ≤ 1099511627776) (hb : numB ws[t] = false) (n : Int) (V : List UInt8) :
    Calls Try.prog 26 #[.pointer (some ⟨r.p, 0, none⟩), .agg #[.int .i64 3, .int .i64 n, .string ⟨V.toArray⟩]] w (OneIs r ws cs ⟨3, n, V⟩ t w) := by
  have hbox : Only (· = r.p) w (w.alloc (.cells #[.int .i64 3, .int .i64 n, .string ⟨V.toArray⟩] 58)) := (Only.refl _ _).alloc _
  have H1 := hid (h.alloc (.cells #[.int .i64 3, .int .i64 n, .string ⟨V.toArray⟩] 58))
  have HL1 := hid (hl.self hbox)
  have HP := hid h.lt
  have HO := hid hbox
  have EV : Hid (oneV ws cs ⟨3, n, V⟩ t = .error (1, (cs.getD t 0 : Nat))) := hid (by simp [oneV, ht, hb])
  have W1 := hid (number_bad H1.out HL1.out ht hs hb n)
  clear hs hb
  clear h hl hbox
  go_enter Try.func26, Try.ntmps26
  go_wp2_with fail
  refine (W1.out).mono ?_
  rintro e w1 ⟨rfl, ho⟩
  exact ⟨rfl, one_err EV.out (HO.out.trans ho) rfl⟩

set_option maxRecDepth 100000 in
set_option maxHeartbeats 2000000 in
theorem one_num_end {w : World} {r : Rd} {t : Nat} {ws : List (List UInt8)} {cs : List Nat} (h : RdAt w r t) (hl : RdL w r ws cs) (ht : ¬ t < ws.length) (n : Int) (V : List UInt8) :
    Calls Try.prog 26 #[.pointer (some ⟨r.p, 0, none⟩), .agg #[.int .i64 3, .int .i64 n, .string ⟨V.toArray⟩]] w (OneIs r ws cs ⟨3, n, V⟩ t w) := by
  have hbox : Only (· = r.p) w (w.alloc (.cells #[.int .i64 3, .int .i64 n, .string ⟨V.toArray⟩] 58)) := (Only.refl _ _).alloc _
  have H1 := hid (h.alloc (.cells #[.int .i64 3, .int .i64 n, .string ⟨V.toArray⟩] 58))
  have HL1 := hid (hl.self hbox)
  have HP := hid h.lt
  have HO := hid hbox
  have EV : Hid (oneV ws cs ⟨3, n, V⟩ t = .error (1, 0)) := hid (by simp [oneV, ht])
  have W1 := hid (number_none H1.out HL1.out ht n)
  clear h hl hbox
  go_enter Try.func26, Try.ntmps26
  go_wp2_with fail
  refine (W1.out).mono ?_
  rintro e w1 ⟨rfl, ho⟩
  exact ⟨rfl, one_err EV.out (HO.out.trans ho) rfl⟩

set_option maxRecDepth 100000 in
set_option maxHeartbeats 2000000 in
theorem one_fail {w : World} {r : Rd} {t : Nat} {ws : List (List UInt8)} {cs : List Nat} (h : RdAt w r t) (hl : RdL w r ws cs) (ht : t ≤ ws.length) (n : Int) (V : List UInt8) :
    Calls Try.prog 26 #[.pointer (some ⟨r.p, 0, none⟩), .agg #[.int .i64 4, .int .i64 n, .string ⟨V.toArray⟩]] w (OneIs r ws cs ⟨4, n, V⟩ t w) := by
  have hbox : Only (· = r.p) w (w.alloc (.cells #[.int .i64 4, .int .i64 n, .string ⟨V.toArray⟩] 58)) := (Only.refl _ _).alloc _
  have H1 := hid (h.alloc (.cells #[.int .i64 4, .int .i64 n, .string ⟨V.toArray⟩] 58))
  have HL1 := hid (hl.self hbox)
  have HP := hid h.lt
  have HO := hid hbox
  have EV : Hid (oneV ws cs ⟨4, n, V⟩ t = .error (n, (lastC cs t : Nat))) := hid (by unfold lastC; by_cases h0 : t = 0 <;> simp [oneV, h0])
  have W1 := hid (fail_any H1.out HL1.out ht n)
  clear h hl hbox
  go_enter Try.func26, Try.ntmps26
  go_wp2_with fail
  refine (W1.out).mono ?_
  rintro e w1 ⟨rfl, ho⟩
  exact ⟨rfl, one_err EV.out (HO.out.trans ho) rfl⟩

set_option maxRecDepth 100000 in
set_option maxHeartbeats 2000000 in
theorem one_more {w : World} {r : Rd} {t : Nat} {ws : List (List UInt8)} {cs : List Nat} (h : RdAt w r t) (hl : RdL w r ws cs) (ht : t < ws.length) (n : Int) (V : List UInt8) :
    Calls Try.prog 26 #[.pointer (some ⟨r.p, 0, none⟩), .agg #[.int .i64 5, .int .i64 n, .string ⟨V.toArray⟩]] w (OneIs r ws cs ⟨5, n, V⟩ t w) := by
  have hbox : Only (· = r.p) w (w.alloc (.cells #[.int .i64 5, .int .i64 n, .string ⟨V.toArray⟩] 58)) := (Only.refl _ _).alloc _
  have H1 := hid (h.alloc (.cells #[.int .i64 5, .int .i64 n, .string ⟨V.toArray⟩] 58))
  have HL1 := hid (hl.self hbox)
  have HP := hid h.lt
  have HO := hid hbox
  have EV : Hid (oneV ws cs ⟨5, n, V⟩ t = .ok ([[109, 111, 114, 101]], t)) := hid (by simp [oneV, ht])
  have W1 := hid (more_yes H1.out (by have := HL1.out.n; omega))
  clear h hl hbox
  go_enter Try.func26, Try.ntmps26
  go_wp2_with fail
  refine (W1.out).mono ?_
  rintro e w1 ⟨rfl, hd⟩
  have HD := hid hd
  clear hd
  go_wp2_with fail
  go_ret
  exact one_ok EV.out ((HO.out.trans HD.out.only).alloc _) rfl ((H1.out.below HD.out.below).alloc _) (ans_new _ (HO.out.trans HD.out.only).size _)

set_option maxRecDepth 100000 in
set_option maxHeartbeats 2000000 in
theorem one_end {w : World} {r : Rd} {t : Nat} {ws : List (List UInt8)} {cs : List Nat} (h : RdAt w r t) (hl : RdL w r ws cs) (ht : ¬ t < ws.length) (n : Int) (V : List UInt8) :
    Calls Try.prog 26 #[.pointer (some ⟨r.p, 0, none⟩), .agg #[.int .i64 5, .int .i64 n, .string ⟨V.toArray⟩]] w (OneIs r ws cs ⟨5, n, V⟩ t w) := by
  have hbox : Only (· = r.p) w (w.alloc (.cells #[.int .i64 5, .int .i64 n, .string ⟨V.toArray⟩] 58)) := (Only.refl _ _).alloc _
  have H1 := hid (h.alloc (.cells #[.int .i64 5, .int .i64 n, .string ⟨V.toArray⟩] 58))
  have HL1 := hid (hl.self hbox)
  have HP := hid h.lt
  have HO := hid hbox
  have EV : Hid (oneV ws cs ⟨5, n, V⟩ t = .ok ([[101, 110, 100]], t)) := hid (by simp [oneV, ht])
  have W1 := hid (more_no H1.out (by have := HL1.out.n; omega))
  clear h hl hbox
  go_enter Try.func26, Try.ntmps26
  go_wp2_with fail
  refine (W1.out).mono ?_
  rintro e w1 ⟨rfl, hd⟩
  have HD := hid hd
  clear hd
  go_wp2_with fail
  go_ret
  exact one_ok EV.out ((HO.out.trans HD.out.only).alloc _) rfl ((H1.out.below HD.out.below).alloc _) (ans_new _ (HO.out.trans HD.out.only).size _)

set_option maxRecDepth 100000 in
set_option maxHeartbeats 2000000 in
theorem one_same {w : World} {r : Rd} {t : Nat} {ws : List (List UInt8)} {cs : List Nat} (h : RdAt w r t) (hl : RdL w r ws cs) (ht : t < ws.length) (n : Int) :
    Calls Try.prog 26 #[.pointer (some ⟨r.p, 0, none⟩), .agg #[.int .i64 6, .int .i64 n, .string ⟨ws[t].toArray⟩]] w (OneIs r ws cs ⟨6, n, ws[t]⟩ t w) := by
  have hbox : Only (· = r.p) w (w.alloc (.cells #[.int .i64 6, .int .i64 n, .string ⟨ws[t].toArray⟩] 58)) := (Only.refl _ _).alloc _
  have H1 := hid (h.alloc (.cells #[.int .i64 6, .int .i64 n, .string ⟨ws[t].toArray⟩] 58))
  have HL1 := hid (hl.self hbox)
  have HP := hid h.lt
  have HO := hid hbox
  have EV : Hid (oneV ws cs ⟨6, n, ws[t]⟩ t = .ok ([ws[t]], t + 1)) := hid (by simp [oneV, ht])
  have W1 := hid (takeStr_yes H1.out HL1.out ht w.heap.size (by have := HP.out; omega) (by simp))
  generalize ws[t] = W at *
  clear h hl hbox
  go_enter Try.func26, Try.ntmps26
  go_wp2_with fail
  refine (W1.out).mono ?_
  rintro e w1 ⟨rfl, ho, hr⟩
  have HO1 := hid (HO.out.trans ho)
  have HR1 := hid hr
  clear ho hr
  go_wp2_with fail
  go_ret
  exact one_ok EV.out (HO1.out.alloc _) rfl (HR1.out.alloc _) (ans_new _ HO1.out.size _)

set_option maxRecDepth 100000 in
set_option maxHeartbeats 2000000 in
theorem one_other {w : World} {r : Rd} {t : Nat} {ws : List (List UInt8)} {cs : List Nat} (h : RdAt w r t) (hl : RdL w r ws cs) (ht : t < ws.length) (n : Int) (V : List UInt8) (hV : ws[t] ≠ V) :
    Calls Try.prog 26 #[.pointer (some ⟨r.p, 0, none⟩), .agg #[.int .i64 6, .int .i64 n, .string ⟨V.toArray⟩]] w (OneIs r ws cs ⟨6, n, V⟩ t w) := by
  have hbox : Only (· = r.p) w (w.alloc (.cells #[.int .i64 6, .int .i64 n, .string ⟨V.toArray⟩] 58)) := (Only.refl _ _).alloc _
  have H1 := hid (h.alloc (.cells #[.int .i64 6, .int .i64 n, .string ⟨V.toArray⟩] 58))
  have HL1 := hid (hl.self hbox)
  have HP := hid h.lt
  have HO := hid hbox
  have EV : Hid (oneV ws cs ⟨6, n, V⟩ t = .error (1, (cs.getD t 0 : Nat))) := hid (by simp [oneV, ht, hV])
  have W1 := hid (takeStr_no H1.out HL1.out ht w.heap.size (by have := HP.out; omega) V (by simp) hV)
  clear hV
  clear h hl hbox
  go_enter Try.func26, Try.ntmps26
  go_wp2_with fail
  refine (W1.out).mono ?_
  rintro e w1 ⟨rfl, ho⟩
  exact ⟨rfl, one_err EV.out (HO.out.trans ho) rfl⟩

set_option maxRecDepth 100000 in
set_option maxHeartbeats 2000000 in
theorem one_other_end {w : World} {r : Rd} {t : Nat} {ws : List (List UInt8)} {cs : List Nat} (h : RdAt w r t) (hl : RdL w r ws cs) (ht : ¬ t < ws.length) (n : Int) (V : List UInt8) :
    Calls Try.prog 26 #[.pointer (some ⟨r.p, 0, none⟩), .agg #[.int .i64 6, .int .i64 n, .string ⟨V.toArray⟩]] w (OneIs r ws cs ⟨6, n, V⟩ t w) := by
  have hbox : Only (· = r.p) w (w.alloc (.cells #[.int .i64 6, .int .i64 n, .string ⟨V.toArray⟩] 58)) := (Only.refl _ _).alloc _
  have H1 := hid (h.alloc (.cells #[.int .i64 6, .int .i64 n, .string ⟨V.toArray⟩] 58))
  have HL1 := hid (hl.self hbox)
  have HP := hid h.lt
  have HO := hid hbox
  have EV : Hid (oneV ws cs ⟨6, n, V⟩ t = .error (1, 0)) := hid (by simp [oneV, ht])
  have W1 := hid (takeStr_none H1.out HL1.out ht)
  clear h hl hbox
  go_enter Try.func26, Try.ntmps26
  go_wp2_with fail
  refine (W1.out _).mono ?_
  rintro e w1 ⟨rfl, ho⟩
  exact ⟨rfl, one_err EV.out (HO.out.trans ho) rfl⟩

set_option maxRecDepth 100000 in
set_option maxHeartbeats 2000000 in
theorem one_else {w : World} {r : Rd} {t : Nat} {ws : List (List UInt8)} {cs : List Nat} (h : RdAt w r t) (hl : RdL w r ws cs) (k n : Int) (V : List UInt8) (h1 : (k == 1) = false) (h2 : (k == 2) = false) (h3 : (k == 3) = false) (h4 : (k == 4) = false) (h5 : (k == 5) = false) (h6 : (k == 6) = false) :
    Calls Try.prog 26 #[.pointer (some ⟨r.p, 0, none⟩), .agg #[.int .i64 k, .int .i64 n, .string ⟨V.toArray⟩]] w (OneIs r ws cs ⟨k, n, V⟩ t w) := by
  have hbox : Only (· = r.p) w (w.alloc (.cells #[.int .i64 k, .int .i64 n, .string ⟨V.toArray⟩] 58)) := (Only.refl _ _).alloc _
  have H1 := hid (h.alloc (.cells #[.int .i64 k, .int .i64 n, .string ⟨V.toArray⟩] 58))
  have HL1 := hid (hl.self hbox)
  have HP := hid h.lt
  have HO := hid hbox
  have EV : Hid (oneV ws cs ⟨k, n, V⟩ t = .ok ([], t)) := hid (by simp only [beq_eq_false_iff_ne, ne_eq] at h1 h2 h3 h4 h5 h6; simp [oneV, h1, h2, h3, h4, h5, h6])
  clear h hl hbox
  go_enter Try.func26, Try.ntmps26
  go_wp2_with fail
  go_ret
  exact one_ok EV.out HO.out rfl H1.out (.inl ⟨rfl, rfl⟩)

theorem one_any {w : World} {r : Rd} {t : Nat} {ws : List (List UInt8)} {cs : List Nat} (h : RdAt w r t) (hl : RdL w r ws cs) (ht : t ≤ ws.length) (hs : ∀ x, x ∈ ws → x.length ≤ 1099511627776) (o : OpD) :
    Calls Try.prog 26 #[.pointer (some ⟨r.p, 0, none⟩), .agg #[.int .i64 o.kind, .int .i64 o.n, .string ⟨o.w.toArray⟩]] w (OneIs r ws cs o t w) := by
  obtain ⟨k, n, V⟩ := o
  by_cases k1 : k = 1
  · subst k1
    by_cases hlt : t < ws.length
    · exact one_word h hl hlt n V
    · exact one_word_no h hl hlt n V
  by_cases k2 : k = 2
  · subst k2
    by_cases hlt : t < ws.length
    · by_cases hV : ws[t] = V
      · subst hV; exact one_is_yes h hl hlt n
      · exact one_is_no h hl hlt n V hV
    · exact one_is_end h hl hlt n V
  by_cases k3 : k = 3
  · subst k3
    by_cases hlt : t < ws.length
    · have hm := hs _ (List.getElem_mem hlt)
      cases hb : numB ws[t]
      · exact one_num_bad h hl hlt hm hb n V
      · by_cases hn : n < (numN ws[t] : Int)
        · exact one_num_high h hl hlt hm hb n hn V
        · exact one_num h hl hlt hm hb n hn V
    · exact one_num_end h hl hlt n V
  by_cases k4 : k = 4
  · subst k4; exact one_fail h hl ht n V
  by_cases k5 : k = 5
  · subst k5
    by_cases hlt : t < ws.length
    · exact one_more h hl hlt n V
    · exact one_end h hl hlt n V
  by_cases k6 : k = 6
  · subst k6
    by_cases hlt : t < ws.length
    · by_cases hV : ws[t] = V
      · subst hV; exact one_same h hl hlt n
      · exact one_other h hl hlt n V hV
    · exact one_other_end h hl hlt n V
  · exact one_else h hl k n V (beq_eq_false_iff_ne.2 k1) (beq_eq_false_iff_ne.2 k2) (beq_eq_false_iff_ne.2 k3) (beq_eq_false_iff_ne.2 k4) (beq_eq_false_iff_ne.2 k5) (beq_eq_false_iff_ne.2 k6)

end Go.Proofs.Ytejigbhcpejijaa.Ln
