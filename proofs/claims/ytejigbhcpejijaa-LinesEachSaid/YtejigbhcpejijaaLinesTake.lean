/-
  LAYER 1: what a reader answers, or gives up with: Word, Is, Number.
-/
import Derived.Test.YtejigbhcpejijaaLinesReader
import Derived.Test.YtejigbhcpejijaaLinesNumber
namespace Go.Proofs.Ytejigbhcpejijaa.Ln
open Go.RowKit

theorem only_take {w w' : World} {r : Rd} (h : Only (· = r.p) w w') (v : Value) : Only (· = r.p) w (w'.setCell ⟨r.p, 3, none⟩ v) := h.setCell rfl v

set_option maxHeartbeats 2000000 in
theorem word_ok {w : World} {r : Rd} {t : Nat} {ws : List (List UInt8)} {cs : List Nat} (h : RdAt w r t) (hl : RdL w r ws cs) (ht : t < ws.length) :
    Calls Try.prog 28 #[.pointer (some ⟨r.p, 0, none⟩)] w (Has r (t + 1) (.string ⟨ws[t].toArray⟩) w) := by
  have H := hid h
  have HL := hid hl
  have hp := h.lt
  have hs := hl.small
  have hne := hl.wp
  have hn := hid hl.n
  have hx := hl.word t ht
  generalize ws[t] = W at *
  have HX := hid hx
  clear h hl hx
  have hwr : IntKind.i64.wrap ((t : Int) + 1) = (t : Int) + 1 := IntWalk.i64_in _ (by omega)
  have hwr2 : IntKind.i64.wrap (t : Int) = (t : Int) := IntWalk.i64_in _ (by omega)
  have hlt : t < r.n := by have := hn.out; omega
  go_enter Try.func28, Try.ntmps28
  go_wp2_with fail
  refine (more_yes H.out (by have := hn.out; omega)).mono ?_
  rintro e w1 ⟨rfl, hd⟩
  have hb := hd.below
  have H1 := hid (H.out.below hb)
  have c1 := H1.out.cell 1 rfl
  have c3 := H1.out.cell 3 rfl
  have cf := H1.out.free 3
  have hx := bcell hb HX.out
  have HO := hid (hd.only (S := (· = r.p)))
  clear hd hb
  go_wp2_with fail
  go_quiet (fail)
  go_wp2
  go_ret
  exact ⟨rfl, (HO.out.setCell rfl _).drewN _, (RdAt.take H1.out).drewN _⟩

set_option maxHeartbeats 1000000 in
theorem word_none {w : World} {r : Rd} {t : Nat} {ws : List (List UInt8)} {cs : List Nat} (h : RdAt w r t) (hl : RdL w r ws cs) (ht : ¬ t < ws.length) :
    Calls Try.prog 28 #[.pointer (some ⟨r.p, 0, none⟩)] w (Gives r ⟨1, r.no, 0⟩ w) := by
  have H := hid h
  have hn := hid hl.n
  clear hl h
  go_enter Try.func28, Try.ntmps28
  go_wp2_with fail
  refine (more_no H.out (by have := hn.out; omega)).mono ?_
  rintro e w1 ⟨rfl, hd⟩
  have HD := hid hd
  clear hd
  go_wp2_with fail
  refine (line_any (H.out.below HD.out.below)).mono ?_
  rintro e w2 ⟨rfl, rfl⟩
  go_wp2_with fail
  refine (giveUp_any (H.out.below HD.out.below) _ _ _).mono ?_
  rintro e w2 ⟨rfl, ho⟩
  exact ⟨rfl, rfl, HD.out.only.trans ho⟩

theorem quiet_drawn {f : FuncId} {args : Array Value} {w : World} {x : Nat} {v : Value} (h : Calls Try.prog f args (w.drewN x) fun e w' => e = .returned v ∧ Drawn (w.drewN x) w') :
    Calls Try.prog f args (w.drewN x) fun e w' => e = .returned v ∧ ∃ n, w' = w.drewN n :=
  h.mono fun _ _ ⟨he, k, hk⟩ => ⟨he, x + k, by rw [hk, World.drewN_drewN]⟩

set_option maxHeartbeats 1000000 in
theorem is_end {w : World} {r : Rd} {t : Nat} {ws : List (List UInt8)} {cs : List Nat} (h : RdAt w r t) (hl : RdL w r ws cs) (ht : ¬ t < ws.length) (V : List UInt8) :
    Calls Try.prog 41 #[.pointer (some ⟨r.p, 0, none⟩), .string ⟨V.toArray⟩] w (Has r t (.bool false) w) := by
  have H := hid h
  have hn := hid (show ¬ t < r.n by have := hl.n; omega)
  clear hl h ht
  go_enter Try.func41, Try.ntmps41
  go_wp2_with fail
  go_quiet ((go_at_call 39; exact quiet_drawn (more_no (H.out.drewN _) hn.out)))
  go_wp2
  go_ret
  exact ⟨rfl, (Only.refl _ _).drewN _, H.out.drewN _⟩

set_option maxHeartbeats 1000000 in
theorem is_yes {w : World} {r : Rd} {t : Nat} {ws : List (List UInt8)} {cs : List Nat} (h : RdAt w r t) (hl : RdL w r ws cs) (ht : t < ws.length) :
    Calls Try.prog 41 #[.pointer (some ⟨r.p, 0, none⟩), .string ⟨ws[t].toArray⟩] w (Has r (t + 1) (.bool true) w) := by
  have H := hid h
  have hlt : t < r.n := by have := hl.n; omega
  have hs : r.n ≤ 1099511627776 := by have := hl.n; have := hl.small; omega
  have hx := hl.word t ht
  have hne := hl.wp
  generalize ws[t] = W at *
  have c1 := h.cell 1 rfl
  have c3 := h.cell 3 rfl
  have cf := h.free 3
  have hwr : IntKind.i64.wrap ((t : Int) + 1) = (t : Int) + 1 := IntWalk.i64_in _ (by omega)
  clear hl h ht
  go_enter Try.func41, Try.ntmps41
  go_wp2_with fail
  go_quiet ((go_at_call 39; exact quiet_drawn (more_yes (H.out.drewN _) hlt)))
  go_wp2
  go_ret
  exact ⟨rfl, only_take ((Only.refl _ _).drewN _) _, RdAt.take (H.out.drewN _)⟩

set_option maxHeartbeats 1000000 in
theorem is_no {w : World} {r : Rd} {t : Nat} {ws : List (List UInt8)} {cs : List Nat} (h : RdAt w r t) (hl : RdL w r ws cs) (ht : t < ws.length) (V : List UInt8) (hV : ws[t] ≠ V) :
    Calls Try.prog 41 #[.pointer (some ⟨r.p, 0, none⟩), .string ⟨V.toArray⟩] w (Has r t (.bool false) w) := by
  have H := hid h
  have hlt : t < r.n := by have := hl.n; omega
  have hs : r.n ≤ 1099511627776 := by have := hl.n; have := hl.small; omega
  have hx := hl.word t ht
  have hne := hl.wp
  generalize ws[t] = W at *
  have c1 := h.cell 1 rfl
  have c3 := h.cell 3 rfl
  have hWV : (W != V) = true := bne_iff_ne.2 hV
  have hWV2 : (W == V) = false := beq_eq_false_iff_ne.2 hV
  have HV := hid hV
  clear hl h ht hV
  go_enter Try.func41, Try.ntmps41
  go_wp2_with fail
  go_quiet ((go_at_call 39; exact quiet_drawn (more_yes (H.out.drewN _) hlt)))
  go_wp2
  go_ret
  exact ⟨rfl, (Only.refl _ _).drewN _, H.out.drewN _⟩

end Go.Proofs.Ytejigbhcpejijaa.Ln
