/-
  LAYER 1: what a reader answers, or gives up with: Take at number, Number.
-/
import Derived.Test.YtejigbhcpejijaaLinesTake
namespace Go.Proofs.Ytejigbhcpejijaa.Ln
open Go.RowKit

theorem small_word {ws : List (List UInt8)} {t : Nat} (h : ∀ w, w ∈ ws → w.length ≤ 1099511627776) (ht : t < ws.length) : (⟨ws[t].toArray⟩ : ByteArray).size ≤ maxLen := by
  have := h _ (List.getElem_mem ht)
  unfold maxLen
  show ws[t].toArray.size ≤ _
  simp; omega

theorem number_list (l : List UInt8) (hs : l.length ≤ 1099511627776) (w : World) :
    Calls Try.prog 48 #[.string ⟨l.toArray⟩] w fun e w' => e = .returned (.tuple #[.int .i64 (numN l : Int), .bool (numB l)]) ∧ w = w' :=
  number_any ⟨l.toArray⟩ (by show l.toArray.size ≤ _; unfold maxLen; simp; omega) w

@[go_sem] theorem eqlFI (fn : Fn) (a b : Array Value) (w : World) : (binOp .eql 62 (.func fn a b) .nilFunc).run Try.prog w = .ok (.bool false) w := by kernel_rfl
@[go_sem] theorem eqlFS (fn : Fn) (a b : Array Value) (w : World) : (binOp .eql 90 (.func fn a b) .nilFunc).run Try.prog w = .ok (.bool false) w := by kernel_rfl
@[go_sem] theorem eqlFR (fn : Fn) (a b : Array Value) (w : World) : (binOp .eql 54 (.func fn a b) .nilFunc).run Try.prog w = .ok (.bool false) w := by kernel_rfl

set_option maxRecDepth 100000 in
set_option maxHeartbeats 1000000 in
theorem takeInt_none {w : World} {r : Rd} {t : Nat} {ws : List (List UInt8)} {cs : List Nat} (h : RdAt w r t) (hl : RdL w r ws cs) (ht : ¬ t < ws.length) (v : Value) :
    Calls Try.prog 47 #[.pointer (some ⟨r.p, 0, none⟩), v] w (Gives r ⟨1, r.no, 0⟩ w) := by
  have H := hid h
  have HL := hid hl
  have HT := hid ht
  clear h hl ht
  go_enter Try.func47, Try.ntmps47
  go_wp2_with fail
  refine (word_none H.out HL.out HT.out).mono ?_
  rintro e w1 ⟨rfl, ho⟩
  exact ⟨rfl, rfl, ho⟩

set_option maxRecDepth 100000 in
set_option maxHeartbeats 1000000 in
theorem takeInt_some {w : World} {r : Rd} {t : Nat} {ws : List (List UInt8)} {cs : List Nat} (h : RdAt w r t) (hl : RdL w r ws cs) (ht : t < ws.length) (hs : ws[t].length ≤ 1099511627776) (hb : numB ws[t] = true) :
    Calls Try.prog 47 #[.pointer (some ⟨r.p, 0, none⟩), .func (.func 48) #[] #[]] w (Has r (t + 1) (.int .i64 (numN ws[t] : Int)) w) := by
  have H := hid h
  have HL := hid hl
  have W1 := hid (word_ok h hl ht)
  generalize ws[t] = W at *
  have HS := hid hs
  have HB := hid hb
  clear h hl ht hs hb
  go_enter Try.func47, Try.ntmps47
  go_wp2_with fail
  refine W1.out.mono ?_
  rintro e w1 ⟨rfl, ho, hr⟩
  have HO := hid ho
  have HR := hid hr
  clear ho hr
  go_wp2_with fail
  refine (number_list W HS.out _).mono ?_
  rw [HB.out]
  rintro e w2 ⟨rfl, rfl⟩
  go_wp2_with fail
  go_ret
  exact ⟨rfl, HO.out, HR.out⟩

set_option maxRecDepth 100000 in
set_option maxHeartbeats 1000000 in
theorem takeInt_bad {w : World} {r : Rd} {t : Nat} {ws : List (List UInt8)} {cs : List Nat} (h : RdAt w r t) (hl : RdL w r ws cs) (ht : t < ws.length) (hs : ws[t].length ≤ 1099511627776) (hb : numB ws[t] = false) :
    Calls Try.prog 47 #[.pointer (some ⟨r.p, 0, none⟩), .func (.func 48) #[] #[]] w (Gives r ⟨1, r.no, (cs.getD t 0 : Nat)⟩ w) := by
  have H := hid h
  have HL := hid hl
  have HT := hid ht
  have W1 := hid (word_ok h hl ht)
  generalize ws[t] = W at *
  have HS := hid hs
  have HB := hid hb
  clear h hl ht hs hb
  go_enter Try.func47, Try.ntmps47
  go_wp2_with fail
  refine W1.out.mono ?_
  rintro e w1 ⟨rfl, ho, hr⟩
  have HO := hid ho
  have HR := hid hr
  clear ho hr
  go_wp2_with fail
  refine (number_list W HS.out _).mono ?_
  rw [HB.out]
  rintro e w2 ⟨rfl, rfl⟩
  go_wp2_with fail
  refine (fail_any HR.out (HL.out.self HO.out) HT.out _).mono ?_
  rintro e w2 ⟨rfl, ho⟩
  exact ⟨rfl, rfl, HO.out.trans ho⟩

end Go.Proofs.Ytejigbhcpejijaa.Ln
