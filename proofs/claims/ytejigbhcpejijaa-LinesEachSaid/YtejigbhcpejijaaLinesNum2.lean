/-
  LAYER 1: what a reader answers, or gives up with: Number; Take at a text.
-/
import Derived.Test.YtejigbhcpejijaaLinesTakeN
namespace Go.Proofs.Ytejigbhcpejijaa.Ln
open Go.RowKit

set_option maxRecDepth 100000 in
set_option maxHeartbeats 1000000 in
theorem number_none {w : World} {r : Rd} {t : Nat} {ws : List (List UInt8)} {cs : List Nat} (h : RdAt w r t) (hl : RdL w r ws cs) (ht : ¬ t < ws.length) (most : Int) :
    Calls Try.prog 29 #[.pointer (some ⟨r.p, 0, none⟩), .int .i64 most] w (Gives r ⟨1, r.no, 0⟩ w) := by
  have H := hid h
  have HL := hid hl
  have HT := hid ht
  clear h hl ht
  go_enter Try.func29, Try.ntmps29
  go_wp2_with fail
  refine (takeInt_none H.out HL.out HT.out _).mono ?_
  rintro e w1 ⟨rfl, ho⟩
  exact ⟨rfl, rfl, ho⟩

set_option maxRecDepth 100000 in
set_option maxHeartbeats 1000000 in
theorem number_bad {w : World} {r : Rd} {t : Nat} {ws : List (List UInt8)} {cs : List Nat} (h : RdAt w r t) (hl : RdL w r ws cs) (ht : t < ws.length) (hs : ws[t].length ≤ 1099511627776) (hb : numB ws[t] = false) (most : Int) :
    Calls Try.prog 29 #[.pointer (some ⟨r.p, 0, none⟩), .int .i64 most] w (Gives r ⟨1, r.no, (cs.getD t 0 : Nat)⟩ w) := by
  have H := hid h
  have HL := hid hl
  have HT := hid ht
  have K := hid (takeInt_bad h hl ht hs hb)
  clear h hl ht hs hb
  go_enter Try.func29, Try.ntmps29
  go_wp2_with fail
  refine K.out.mono ?_
  rintro e w1 ⟨rfl, ho⟩
  exact ⟨rfl, rfl, ho⟩

set_option maxRecDepth 100000 in
set_option maxHeartbeats 1000000 in
theorem number_ok {w : World} {r : Rd} {t : Nat} {ws : List (List UInt8)} {cs : List Nat} (h : RdAt w r t) (hl : RdL w r ws cs) (ht : t < ws.length) (hs : ws[t].length ≤ 1099511627776) (hb : numB ws[t] = true) (most : Int) (hm : ¬ most < (numN ws[t] : Int)) :
    Calls Try.prog 29 #[.pointer (some ⟨r.p, 0, none⟩), .int .i64 most] w (Has r (t + 1) (.int .i64 (numN ws[t] : Int)) w) := by
  have H := hid h
  have HL := hid hl
  have HT := hid ht
  have K := hid (takeInt_some h hl ht hs hb)
  generalize ws[t] = W at *
  clear h hl ht hs hb
  go_enter Try.func29, Try.ntmps29
  go_wp2_with fail
  refine K.out.mono ?_
  rintro e w1 ⟨rfl, ho, hr⟩
  have HO := hid ho
  have HR := hid hr
  clear ho hr
  go_wp2_with fail
  go_ret
  exact ⟨rfl, HO.out, HR.out⟩

set_option maxRecDepth 100000 in
set_option maxHeartbeats 1000000 in
theorem number_high {w : World} {r : Rd} {t : Nat} {ws : List (List UInt8)} {cs : List Nat} (h : RdAt w r t) (hl : RdL w r ws cs) (ht : t < ws.length) (hs : ws[t].length ≤ 1099511627776) (hb : numB ws[t] = true) (most : Int) (hm : most < (numN ws[t] : Int)) :
    Calls Try.prog 29 #[.pointer (some ⟨r.p, 0, none⟩), .int .i64 most] w (Gives r ⟨8, r.no, (cs.getD t 0 : Nat)⟩ w) := by
  have H := hid h
  have HL := hid hl
  have HT := hid ht
  have K := hid (takeInt_some h hl ht hs hb)
  generalize ws[t] = W at *
  clear h hl ht hs hb
  go_enter Try.func29, Try.ntmps29
  go_wp2_with fail
  refine K.out.mono ?_
  rintro e w1 ⟨rfl, ho, hr⟩
  have HO := hid ho
  have HR := hid hr
  clear ho hr
  go_wp2_with fail
  refine (fail_any HR.out (HL.out.self HO.out) HT.out _).mono ?_
  rintro e w2 ⟨rfl, ho⟩
  exact ⟨rfl, rfl, HO.out.trans ho⟩

set_option maxHeartbeats 1000000 in
theorem asks_yes {w : World} {ob : Nat} (W : List UInt8) (hc : w.cell? ⟨ob, 2, none⟩ = some (.string ⟨W.toArray⟩)) :
    Calls Try.prog 45 #[.string ⟨W.toArray⟩, .pointer (some ⟨ob, 0, none⟩)] w fun e w' => e = .returned (.tuple #[.string ⟨W.toArray⟩, .bool true]) ∧ Drawn w w' := by
  go_enter Try.func45, Try.ntmps45
  go_wp2_with fail
  go_quiet (fail)
  go_wp2
  go_ret2
  exact ⟨rfl, _, rfl⟩
set_option maxHeartbeats 1000000 in
theorem asks_no {w : World} {ob : Nat} (W V : List UInt8) (hc : w.cell? ⟨ob, 2, none⟩ = some (.string ⟨V.toArray⟩)) (hWV : (W == V) = false) :
    Calls Try.prog 45 #[.string ⟨W.toArray⟩, .pointer (some ⟨ob, 0, none⟩)] w fun e w' => e = .returned (.tuple #[.string ⟨W.toArray⟩, .bool false]) ∧ Drawn w w' := by
  go_enter Try.func45, Try.ntmps45
  go_wp2_with fail
  go_quiet (fail)
  go_wp2
  go_ret2
  exact ⟨rfl, _, rfl⟩

set_option maxRecDepth 100000 in
set_option maxHeartbeats 1000000 in
theorem takeStr_none {w : World} {r : Rd} {t : Nat} {ws : List (List UInt8)} {cs : List Nat} (h : RdAt w r t) (hl : RdL w r ws cs) (ht : ¬ t < ws.length) (v : Value) :
    Calls Try.prog 44 #[.pointer (some ⟨r.p, 0, none⟩), v] w (Gives r ⟨1, r.no, 0⟩ w) := by
  have H := hid h
  have HL := hid hl
  have HT := hid ht
  clear h hl ht
  go_enter Try.func44, Try.ntmps44
  go_wp2_with fail
  refine (word_none H.out HL.out HT.out).mono ?_
  rintro e w1 ⟨rfl, ho⟩
  exact ⟨rfl, rfl, ho⟩

set_option maxRecDepth 100000 in
set_option maxHeartbeats 1000000 in
theorem takeStr_yes {w : World} {r : Rd} {t : Nat} {ws : List (List UInt8)} {cs : List Nat} (h : RdAt w r t) (hl : RdL w r ws cs) (ht : t < ws.length) (ob : Nat) (hob : ob ≠ r.p) (hc : w.cell? ⟨ob, 2, none⟩ = some (.string ⟨ws[t].toArray⟩)) :
    Calls Try.prog 44 #[.pointer (some ⟨r.p, 0, none⟩), .func (.func 45) #[] #[.pointer (some ⟨ob, 0, none⟩)]] w (Has r (t + 1) (.string ⟨ws[t].toArray⟩) w) := by
  have H := hid h
  have HL := hid hl
  have HT := hid ht
  have W1 := hid (word_ok h hl ht)
  generalize ws[t] = W at *
  have HC := hid hc
  have HOB := hid hob
  clear h hl ht hc hob
  go_enter Try.func44, Try.ntmps44
  go_wp2_with fail
  refine W1.out.mono ?_
  rintro e w1 ⟨rfl, ho, hr⟩
  have HO := hid ho
  have HR := hid hr
  clear ho hr
  go_wp2_with fail
  refine (asks_yes W (HO.out.cell HOB.out HC.out)).mono ?_
  rintro e w2 ⟨rfl, hd⟩
  have HD := hid hd
  clear hd
  go_wp2_with fail
  go_ret
  exact ⟨rfl, HO.out.trans HD.out.only, HR.out.below HD.out.below⟩

set_option maxRecDepth 100000 in
set_option maxHeartbeats 1000000 in
theorem takeStr_no {w : World} {r : Rd} {t : Nat} {ws : List (List UInt8)} {cs : List Nat} (h : RdAt w r t) (hl : RdL w r ws cs) (ht : t < ws.length) (ob : Nat) (hob : ob ≠ r.p) (V : List UInt8) (hc : w.cell? ⟨ob, 2, none⟩ = some (.string ⟨V.toArray⟩)) (hV : ws[t] ≠ V) :
    Calls Try.prog 44 #[.pointer (some ⟨r.p, 0, none⟩), .func (.func 45) #[] #[.pointer (some ⟨ob, 0, none⟩)]] w (Gives r ⟨1, r.no, (cs.getD t 0 : Nat)⟩ w) := by
  have H := hid h
  have HL := hid hl
  have HT := hid ht
  have W1 := hid (word_ok h hl ht)
  generalize ws[t] = W at *
  have HC := hid hc
  have HOB := hid hob
  have HV := hid (beq_eq_false_iff_ne.2 hV : (W == V) = false)
  clear h hl ht hc hob hV
  go_enter Try.func44, Try.ntmps44
  go_wp2_with fail
  refine W1.out.mono ?_
  rintro e w1 ⟨rfl, ho, hr⟩
  have HO := hid ho
  have HR := hid hr
  clear ho hr
  go_wp2_with fail
  refine (asks_no W V (HO.out.cell HOB.out HC.out) HV.out).mono ?_
  rintro e w2 ⟨rfl, hd⟩
  have HD := hid hd
  clear hd
  go_wp2_with fail
  refine (fail_any (HR.out.below HD.out.below) ((HL.out.self HO.out).self HD.out.only) HT.out _).mono ?_
  rintro e w2 ⟨rfl, ho⟩
  exact ⟨rfl, rfl, (HO.out.trans HD.out.only).trans ho⟩

end Go.Proofs.Ytejigbhcpejijaa.Ln
