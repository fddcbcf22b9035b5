/-
  SEVERAL TEXTS, one behind the other.
-/
import Derived.Test.YtafnohojnjpfcaaGreatDoorIB
import Derived.Test.YtafnohojnjpfcaaGreatDoorIA
import Derived.Deep.QuietTactic
import Derived.Test.YtafnohojnjpfcaaGreatDoorNameRef2
import Derived.Test.YtafnohojnjpfcaaGreatDoorID
import Derived.Test.YtafnohojnjpfcaaGreatDoorIC
/-
  LAYER 7, the document's own: a scan of a line's words: what its small calls do.
-/
namespace Go.Proofs.YtafnohojnjpfcaaGreatDoor.Ix
open Go.RowKit
open Go.Proofs.YtafnohojnjpfcaaGreatDoor Go.Proofs.YtafnohojnjpfcaaGreatDoor.Ln

/-- the document's scan in memory: where it lies, what it has taken, what is wrong so far -/
def ScAt (w : World) (r : Rd) (t : Nat) (f : Flt) : Prop :=
  Blk w r.p [.int .i64 (r.no : Int), .slice (some ⟨r.wB, 0, none⟩) r.n r.wc, .slice (some ⟨r.cB, 0, none⟩) r.n r.cc, .int .i64 (t : Int), .int .i64 f.code, .int .i64 f.line, .int .i64 f.col] 94
/-- nothing is wrong so far and so many words are taken; or something is wrong -/
def ScS (w : World) (r : Rd) : Except Err Nat → Prop
  | .ok t => ScAt w r t ⟨0, 0, 0⟩
  | .error e => e.1 ≠ 0 ∧ ∃ t, ScAt w r t ⟨(e.1 : Int), (r.no : Int), (e.2 : Int)⟩
theorem ScAt.below {w w' : World} {r : Rd} {t : Nat} {f : Flt} (h : ScAt w r t f) (hb : Below w.heap.size w w') : ScAt w' r t f := Blk.below h hb
theorem ScAt.other {w : World} {r : Rd} {t : Nat} {f : Flt} (h : ScAt w r t f) {a : Addr} (ha : r.p ≠ a.block) (u : Value) : ScAt (w.setCell a u) r t f := Blk.other h ha u
theorem ScS.below {w w' : World} {r : Rd} {o : Except Err Nat} (h : ScS w r o) (hb : Below w.heap.size w w') : ScS w' r o := by
  cases o with
  | ok t => exact ScAt.below h hb
  | error e => obtain ⟨h1, t, h2⟩ := h; exact ⟨h1, t, h2.below hb⟩
theorem ScS.kept {w w' : World} {r : Rd} {o : Except Err Nat} (h : ScS w r o) (hk : ∀ cs e, Blk w r.p cs e → Blk w' r.p cs e) : ScS w' r o := by
  cases o with
  | ok t => exact hk _ _ h
  | error e => obtain ⟨h1, t, h2⟩ := h; exact ⟨h1, t, hk _ _ h2⟩
theorem ScS.lt {w : World} {r : Rd} {o : Except Err Nat} (h : ScS w r o) : r.p < w.heap.size := by
  cases o with
  | ok t => exact Blk.lt h
  | error e => obtain ⟨_, t, h2⟩ := h; exact Blk.lt h2
def okO {α : Type} : Except Err α → Bool
  | .ok _ => true
  | .error _ => false

set_option maxHeartbeats 400000 in
theorem good_any {w : World} {r : Rd} {o : Except Err Nat} (h : ScS w r o) :
    Calls Tryz.prog 63 #[.pointer (some ⟨r.p, 0, none⟩)] w fun e w' => e = .returned (.bool (okO o)) ∧ w = w' := by
  cases o with
  | ok t =>
    have c4 := Blk.cell (show Blk w r.p _ _ from h) 4 rfl
    clear h
    go_enter Tryz.func63, Tryz.ntmps63
    go_wp2
    go_ret
    exact ⟨rfl, rfl⟩
  | error e =>
    obtain ⟨h1, t, h2⟩ := h
    have c4 := Blk.cell (show Blk w r.p _ _ from h2) 4 rfl
    have hc : ((e.1 : Int) == 0) = false := by simp; exact h1
    have hc2 : ¬ (e.1 : Int) = 0 := by omega
    clear h2
    simp only at c4
    generalize (e.1 : Int) = x at c4 hc hc2
    go_enter Tryz.func63, Tryz.ntmps63
    go_wp2
    go_ret
    exact ⟨rfl, rfl⟩

/-- are words left? -/
def moreO (n : Nat) : Except Err Nat → Bool
  | .ok t => decide (t < n)
  | .error _ => false

theorem quiet_eq {f : FuncId} {args : Array Value} {w : World} {x : Nat} {v : Value} (h : Calls Tryz.prog f args (w.drewN x) fun e w' => e = .returned v ∧ w.drewN x = w') :
    Calls Tryz.prog f args (w.drewN x) fun e w' => e = .returned v ∧ ∃ n, w' = w.drewN n :=
  h.mono fun _ _ ⟨he, hk⟩ => ⟨he, x, hk.symm⟩
theorem ScS.drewN {w : World} {r : Rd} {o : Except Err Nat} (h : ScS w r o) (n : Nat) : ScS (w.drewN n) r o := by
  cases o with
  | ok t => exact h
  | error e => exact h

set_option maxHeartbeats 1000000 in
theorem moreS_any {w : World} {r : Rd} {o : Except Err Nat} (h : ScS w r o) :
    Calls Tryz.prog 98 #[.pointer (some ⟨r.p, 0, none⟩)] w fun e w' => e = .returned (.bool (moreO r.n o)) ∧ Drawn w w' := by
  have HG := hid (fun n => good_any (h.drewN n))
  cases o with
  | ok t =>
    have c1 := Blk.cell (show Blk w r.p _ _ from h) 1 rfl
    have c3 := Blk.cell (show Blk w r.p _ _ from h) 3 rfl
    clear h
    unfold okO at HG
    by_cases ht : t < r.n
    · have hd : decide (t < r.n) = true := decide_eq_true ht
      rw [show moreO r.n (.ok t) = true from hd]
      go_enter Tryz.func98, Tryz.ntmps98
      go_wp2_with fail
      go_quiet ((go_at_call 63; exact quiet_eq (HG.out _)))
      go_wp2
      go_ret
      exact ⟨rfl, ⟨_, rfl⟩⟩
    · have hd : decide (t < r.n) = false := decide_eq_false ht
      rw [show moreO r.n (.ok t) = false from hd]
      go_enter Tryz.func98, Tryz.ntmps98
      go_wp2_with fail
      go_quiet ((go_at_call 63; exact quiet_eq (HG.out _)))
      go_wp2
      go_ret
      exact ⟨rfl, ⟨_, rfl⟩⟩
  | error e =>
    unfold okO at HG
    unfold moreO
    clear h
    go_enter Tryz.func98, Tryz.ntmps98
    go_wp2_with fail
    go_quiet ((go_at_call 63; exact quiet_eq (HG.out _)))
    go_wp2
    go_ret
    exact ⟨rfl, ⟨_, rfl⟩⟩

theorem Blk.seven {w : World} {b : Nat} {c0 c1 c2 c3 x y z : Value} {e : TypeId} (h : Blk w b [c0, c1, c2, c3, x, y, z] e) (x' y' z' : Value) :
    Blk (((w.setCell ⟨b, 4, none⟩ x').setCell ⟨b, 5, none⟩ y').setCell ⟨b, 6, none⟩ z') b [c0, c1, c2, c3, x', y', z'] e := ((h.set 4 x').set 5 y').set 6 z'
theorem only_seven {w : World} {b : Nat} (x' y' z' : Value) : Only (· = b) w (((w.setCell ⟨b, 4, none⟩ x').setCell ⟨b, 5, none⟩ y').setCell ⟨b, 6, none⟩ z') :=
  ((Only.setCell (S := (· = b)) (p := ⟨b, 4, none⟩) (Only.refl _ _) rfl _).setCell (p := ⟨b, 5, none⟩) rfl _).setCell (p := ⟨b, 6, none⟩) rfl _

/-- what a call comes to that yields nothing and leaves the scan in a state -/
def Voids (r : Rd) (o : Except Err Nat) (w : World) (e : Ending) (w' : World) : Prop := e = .returned (.tuple #[]) ∧ Only (· = r.p) w w' ∧ ScS w' r o
/-- what a fault notes -/
def failO (c : Nat) (cs : List Nat) : Except Err Nat → Except Err Nat
  | .ok t => .error (c, lastC cs t)
  | .error e => .error e

set_option maxHeartbeats 1000000 in
theorem failS_any {w : World} {r : Rd} {o : Except Err Nat} {ws : List (List UInt8)} {cs : List Nat} (h : ScS w r o) (hl : RdL w r ws cs) (ho : ∀ t, o = .ok t → t ≤ ws.length) (c : Nat) (hc : c ≠ 0) :
    Calls Tryz.prog 59 #[.pointer (some ⟨r.p, 0, none⟩), .int .i64 (c : Int)] w (Voids r (failO c cs o) w) := by
  cases o with
  | error e =>
    obtain ⟨h1, t, h2⟩ := h
    have H := hid (show ScS w r (.error e) from ⟨h1, t, h2⟩)
    have c4 := Blk.cell (show Blk w r.p _ _ from h2) 4 rfl
    have hc1 : ((e.1 : Int) == 0) = false := by simp; exact h1
    have hc2 : ¬ (e.1 : Int) = 0 := by omega
    clear h2 hl ho
    simp only at c4
    generalize (e.1 : Int) = x at c4 hc1 hc2
    go_enter Tryz.func59, Tryz.ntmps59
    go_wp2
    refine bodyPost_ret (v := .tuple #[]) (by simp [results, Tryz.results59, go_sem]) rfl ?_
    exact ⟨rfl, Only.refl _ _, H.out⟩
  | ok t =>
    have hB : Blk w r.p _ _ := h
    have c0 := hB.cell 0 rfl
    have c2 := hB.cell 2 rfl
    have c3 := hB.cell 3 rfl
    have c4 := hB.cell 4 rfl
    have c5 := hB.cell 5 rfl
    have c6 := hB.cell 6 rfl
    have cf := hB.free
    have hp := hB.lt
    have HB := hid hB
    have ht := ho t rfl
    cases t with
    | zero =>
      clear h hl ho hB
      go_enter Tryz.func59, Tryz.ntmps59
      go_wp2
      refine bodyPost_ret (v := .tuple #[]) (by simp [results, Tryz.results59, go_sem]) rfl ?_
      exact ⟨rfl, only_seven _ _ _, hc, 0, Blk.seven HB.out _ _ _⟩
    | succ k =>
      have hx := hl.col k (by have := hl.m; omega)
      have hne := hl.cp
      have hn : k < r.n := by have := hl.n; omega
      have hkn : (k : Int) < (r.n : Int) := by omega
      have hsm : k ≤ 1099511627776 := by have := hl.small; omega
      have bl := hl.cl
      have e1 : (((k + 1 : Nat) : Int)) = (k : Int) + 1 := by omega
      have hw1 : IntKind.i64.wrap ((k : Int) + 1 - 1) = (k : Int) := by rw [show (k : Int) + 1 - 1 = k by omega]; exact IntWalk.i64_in _ (by omega)
      have hlast := hid (show lastC cs (k + 1) = cs.getD k 0 from rfl)
      rw [e1] at c3
      have hcol := hid hl.cp
      clear h hl ho hB ht
      generalize cs.getD k 0 = z at hx hlast
      have hpos : (0 : Int) < (k : Int) + 1 := by omega
      go_enter Tryz.func59, Tryz.ntmps59
      go_wp2_with fail
      go_region
      all_goals
        go_wp2_with fail
        refine bodyPost_ret (v := .tuple #[]) (by simp [results, Tryz.results59, go_sem]) rfl ?_
        refine ⟨rfl, ((only_seven _ _ _).setCell (p := ⟨r.p, 6, none⟩) rfl _).drew, hc, k + 1, ?_⟩
        have hq := (Blk.seven HB.out (.int .i64 (c : Int)) (.int .i64 (r.no : Int)) (.int .i64 0)).set 6 (.int .i64 (z : Int))
        show ScAt _ r (k + 1) ⟨(c : Int), (r.no : Int), ((lastC cs (k + 1) : Nat) : Int)⟩
        rw [hlast.out]
        exact hq

/-- the state behind what was asked -/
def sndO {α : Type} : Except Err (α × Nat) → Except Err Nat
  | .ok p => .ok p.2
  | .error e => .error e
def fstIs {α : Type} (q : Except Err (α × Nat)) (x : α) : Prop := ∀ y t, q = .ok (y, t) → x = y
/-- the next word -/
def wordO (ws : Words) : Except Err Nat → Except Err (List UInt8 × Nat)
  | .error e => .error e
  | .ok t => match ws[t]? with
    | none => .error (1, 0)
    | some w => .ok (w, t + 1)
/-- the next word, of a kind -/
def takeO (p : List UInt8 → Bool) (ws : Words) (cs : List Nat) : Except Err Nat → Except Err (List UInt8 × Nat)
  | .error e => .error e
  | .ok t => match takeW p ws cs t with
    | .error e => .error e
    | .ok x => .ok (x, t + 1)
/-- what a call comes to that yields a text and leaves the scan in a state -/
def Says (r : Rd) (q : Except Err (List UInt8 × Nat)) (w : World) (e : Ending) (w' : World) : Prop :=
  ∃ x : List UInt8, e = .returned (.string ⟨x.toArray⟩) ∧ Only (· = r.p) w w' ∧ ScS w' r (sndO q) ∧ fstIs q x

set_option maxHeartbeats 2000000 in
theorem wordS_any {w : World} {r : Rd} {o : Except Err Nat} {ws : List (List UInt8)} {cs : List Nat} (h : ScS w r o) (hl : RdL w r ws cs) (ho : ∀ t, o = .ok t → t ≤ ws.length) :
    Calls Tryz.prog 38 #[.pointer (some ⟨r.p, 0, none⟩)] w (Says r (wordO ws o) w) := by
  have HG := hid (good_any h)
  cases o with
  | error e =>
    have H := hid h
    clear h hl ho
    unfold okO at HG
    go_enter Tryz.func38, Tryz.ntmps38
    go_wp2_with fail
    refine HG.out.mono ?_
    rintro e1 w1 ⟨rfl, rfl⟩
    go_wp2_with fail
    go_ret
    exact ⟨[], rfl, Only.refl _ _, H.out, fun y t h => by cases h⟩
  | ok t =>
    unfold okO at HG
    have hB : Blk w r.p _ _ := h
    have c0 := hB.cell 0 rfl
    have c1 := hB.cell 1 rfl
    have c3 := hB.cell 3 rfl
    have c4 := hB.cell 4 rfl
    have c5 := hB.cell 5 rfl
    have c6 := hB.cell 6 rfl
    have cf := hB.free
    have hp := hB.lt
    have HB := hid hB
    have hn := hid hl.n
    by_cases ht : t < ws.length
    · have hwo := hid (show wordO ws (.ok t) = .ok (ws[t], t + 1) by unfold wordO; dsimp only; rw [List.getElem?_eq_getElem ht])
      have hx := hl.word t ht
      have hne := hl.wp
      have bl := hl.wl
      have hsm : r.n ≤ 1099511627776 := by have := hl.small; have := hl.n; omega
      have hlt : t < r.n := by have := hl.n; omega
      generalize ws[t] = W at *
      have HX := hid hx
      have hti : ¬ (r.n : Int) ≤ (t : Int) := by omega
      have hti2 : (t : Int) < (r.n : Int) := by omega
      have hwr : IntKind.i64.wrap ((t : Int) + 1) = (t : Int) + 1 := IntWalk.i64_in _ (by omega)
      have hwr2 : IntKind.i64.wrap ((t : Int) + 1 - 1) = (t : Int) := by rw [show (t : Int) + 1 - 1 = t by omega]; exact IntWalk.i64_in _ (by omega)
      have hd : decide (r.n ≤ t) = false := decide_eq_false (by omega)
      clear h hl ho hB
      go_enter Tryz.func38, Tryz.ntmps38
      go_wp2_with fail
      refine HG.out.mono ?_
      rintro e1 w1 ⟨rfl, rfl⟩
      go_wp2_with fail
      go_quiet (fail)
      go_wp2_with fail
      go_quiet (fail)
      go_wp2_with fail
      go_ret
      rw [hwo.out]
      refine ⟨W, rfl, (Only.setCell (S := (· = r.p)) (p := ⟨r.p, 3, none⟩) ((Only.refl _ _).drewN _) rfl _).drewN _, ?_, fun y t' h => by cases h; rfl⟩
      exact Blk.set (w := w.drewN _) HB.out 3 _
    · have hwo := hid (show wordO ws (.ok t) = .error (1, 0) by unfold wordO; dsimp only; rw [List.getElem?_eq_none (by omega)])
      have hti : (r.n : Int) ≤ (t : Int) := by have := hl.n; omega
      have hd : decide (r.n ≤ t) = true := decide_eq_true (by omega)
      clear h hl ho hB
      go_enter Tryz.func38, Tryz.ntmps38
      go_wp2_with fail
      refine HG.out.mono ?_
      rintro e1 w1 ⟨rfl, rfl⟩
      go_wp2_with fail
      go_quiet (fail)
      go_wp2_with fail
      go_ret
      rw [hwo.out]
      refine ⟨[], rfl, Only.trans ((Only.refl _ _).drewN _) (only_seven _ _ _), ⟨Nat.one_ne_zero, t, ?_⟩, fun y t' h => by cases h⟩
      exact Blk.seven (w := w.drewN _) HB.out _ _ _

/-- a kind of words, and what the document's Is says of it -/
def Kinds (k : Int) (p : List UInt8 → Bool) : Prop := ∀ (x : List UInt8), x.length ≤ 1000 → ∀ w, Calls Tryz.prog 26 #[.string ⟨x.toArray⟩, .int .i64 k] w fun e w' => e = .returned (.bool (p x)) ∧ Below w.heap.size w w'

theorem words_in {ws : Words} {o : Except Err Nat} {x : List UInt8} {t : Nat} (h : wordO ws o = .ok (x, t)) : x ∈ ws ∧ 1 ≤ t ∧ t ≤ ws.length ∧ ∃ hl : t - 1 < ws.length, ws[t - 1] = x := by
  cases o with
  | error e => cases h
  | ok k =>
    unfold wordO at h
    dsimp only at h
    by_cases hk : k < ws.length
    · rw [List.getElem?_eq_getElem hk] at h
      cases h
      exact ⟨List.getElem_mem hk, by omega, by omega, by omega, rfl⟩
    · rw [List.getElem?_eq_none (by omega)] at h; cases h
theorem takeO_bad {p : List UInt8 → Bool} {ws : Words} {cs : List Nat} {o : Except Err Nat} {e : Err} (h : wordO ws o = .error e) : takeO p ws cs o = .error e := by
  cases o with
  | error e' => exact h
  | ok k =>
    unfold wordO at h
    dsimp only at h
    by_cases hk : k < ws.length
    · rw [List.getElem?_eq_getElem hk] at h; cases h
    · rw [List.getElem?_eq_none (by omega)] at h
      cases h
      unfold takeO
      dsimp only
      rw [takeW_none hk]
theorem takeO_is {p : List UInt8 → Bool} {ws : Words} {cs : List Nat} {o : Except Err Nat} {x : List UInt8} {t : Nat} (h : wordO ws o = .ok (x, t)) : takeO p ws cs o = if p x then .ok (x, t) else .error (1, lastC cs t) := by
  cases o with
  | error e' => cases h
  | ok k =>
    unfold wordO at h
    dsimp only at h
    by_cases hk : k < ws.length
    · rw [List.getElem?_eq_getElem hk] at h
      cases h
      unfold takeO
      dsimp only
      cases hp : p ws[k] with
      | true => rw [takeW_yes hk hp]; rfl
      | false => rw [takeW_no hk hp]; rfl
    · rw [List.getElem?_eq_none (by omega)] at h; cases h

set_option maxHeartbeats 2000000 in
theorem takeS'_any {w : World} {r : Rd} {o : Except Err Nat} {ws : List (List UInt8)} {cs : List Nat} (h : ScS w r o) (hl : RdL w r ws cs) (ho : ∀ t, o = .ok t → t ≤ ws.length) (hs : ∀ u, u ∈ ws → u.length ≤ 1000) (k : Int) (p : List UInt8 → Bool) (HK : Kinds k p) :
    Calls Tryz.prog 60 #[.pointer (some ⟨r.p, 0, none⟩), .int .i64 k] w (Says r (takeO p ws cs o) w) := by
  have HW := hid (wordS_any h hl ho)
  unfold Says at HW
  have HL := hid hl
  have HP := hid h.lt
  cases hwo : wordO ws o with
  | error e =>
    have HT := hid (takeO_bad (p := p) (cs := cs) hwo)
    rw [hwo] at HW
    clear h hl ho hwo
    go_enter Tryz.func60, Tryz.ntmps60
    go_wp2_with fail
    refine HW.out.mono ?_
    rintro e1 w1 ⟨x, rfl, ho1, hs1, _⟩
    have HS := hid hs1
    have HO := hid ho1
    clear hs1 ho1 HW
    go_wp2_with fail
    refine (show Calls Tryz.prog 63 #[.pointer (some ⟨r.p, 0, none⟩)] w1 (fun e' w' => e' = .returned (.bool false) ∧ w1 = w') from good_any (o := .error e) HS.out).mono ?_
    rintro e1 w2 ⟨rfl, rfl⟩
    go_wp2_with fail
    go_ret
    rw [HT.out]
    exact ⟨x, rfl, HO.out, HS.out, fun y t h => by cases h⟩
  | ok q =>
    obtain ⟨x0, t⟩ := q
    obtain ⟨hin, ht1, ht2, _⟩ := words_in hwo
    have HT := hid (takeO_is (p := p) (cs := cs) hwo)
    have HX := hid (HK x0 (hs x0 hin))
    rw [hwo] at HW
    clear h hl ho hwo hin HK
    go_enter Tryz.func60, Tryz.ntmps60
    go_wp2_with fail
    refine HW.out.mono ?_
    rintro e1 w1 ⟨x, rfl, ho1, hs1, hf⟩
    obtain rfl := hf x0 t rfl
    have HS := hid hs1
    have HO := hid ho1
    clear hs1 ho1 HW hf
    go_wp2_with fail
    refine (show Calls Tryz.prog 63 #[.pointer (some ⟨r.p, 0, none⟩)] w1 (fun e' w' => e' = .returned (.bool true) ∧ w1 = w') from good_any (o := .ok t) HS.out).mono ?_
    rintro e1 w2 ⟨rfl, rfl⟩
    go_wp2_with fail
    refine (HX.out w1).mono ?_
    cases hp : p x with
    | true =>
      rw [hp, if_pos rfl] at HT
      clear hp
      rintro e1 w2 ⟨rfl, hb2⟩
      go_wp2_with fail
      go_ret
      rw [HT.out]
      exact ⟨x, rfl, HO.out.trans (Only.of_below hb2), ScS.below (o := .ok t) HS.out hb2, fun y t h => by cases h; rfl⟩
    | false =>
      rw [hp, if_neg (by simp)] at HT
      clear hp
      rintro e1 w2 ⟨rfl, hb2⟩
      have HB2 := hid hb2
      clear hb2
      go_wp2_with fail
      refine (show Calls Tryz.prog 59 #[.pointer (some ⟨r.p, 0, none⟩), .int .i64 1] w2 (Voids r (.error (1, lastC cs t)) w2) from failS_any (o := .ok t) (ScS.below (o := .ok t) HS.out HB2.out) ((HL.out.self HO.out).self (Only.of_below HB2.out)) (fun t' h => by cases h; exact ht2) 1 (by decide)).mono ?_
      rintro e1 w3 ⟨rfl, ho3, hs3⟩
      go_wp2_with fail
      go_ret
      rw [HT.out]
      exact ⟨x, rfl, (HO.out.trans (Only.of_below HB2.out)).trans ho3, hs3, fun y t h => by cases h⟩

/-- nothing may be left -/
def endO (ws : Words) (cs : List Nat) : Except Err Nat → Except Err Nat
  | .error e => .error e
  | .ok t => if t < ws.length then .error (1, cs.getD t 0) else .ok t

set_option maxHeartbeats 2000000 in
theorem endS_any {w : World} {r : Rd} {o : Except Err Nat} {ws : List (List UInt8)} {cs : List Nat} (h : ScS w r o) (hl : RdL w r ws cs) :
    Calls Tryz.prog 40 #[.pointer (some ⟨r.p, 0, none⟩)] w (Voids r (endO ws cs o) w) := by
  have HM := hid (moreS_any h)
  have HL := hid hl
  have H := hid h
  cases o with
  | error e =>
    unfold moreO at HM
    clear h hl
    go_enter Tryz.func40, Tryz.ntmps40
    go_wp2_with fail
    refine HM.out.mono ?_
    rintro e1 w1 ⟨rfl, n, rfl⟩
    go_wp2_with fail
    refine bodyPost_ret (v := .tuple #[]) (by simp [results, Tryz.results40, go_sem]) rfl ?_
    exact ⟨rfl, (Only.refl _ _).drewN _, H.out⟩
  | ok t =>
    by_cases ht : t < ws.length
    · have hE := hid (show endO ws cs (.ok t) = .error (1, cs.getD t 0) from if_pos ht)
      have hd : decide (t < r.n) = true := decide_eq_true (by have := hl.n; omega)
      rw [show moreO r.n (.ok t) = true from hd] at HM
      have hB : Blk w r.p _ _ := h
      have hsm : t ≤ 1099511627776 := by have := hl.small; omega
      have hwr : IntKind.i64.wrap ((t : Int) + 1) = (t : Int) + 1 := IntWalk.i64_in _ (by omega)
      have HB := hid hB
      clear h hl hd hB
      go_enter Tryz.func40, Tryz.ntmps40
      go_wp2_with fail
      refine HM.out.mono ?_
      rintro e1 w1 ⟨rfl, n, rfl⟩
      have hB1 : Blk (w.drewN n) r.p _ _ := HB.out
      have c3 := hB1.cell 3 rfl
      have cf := hB1.free
      have HB1 := hid hB1
      clear hB1
      go_wp2_with fail
      have hq := HB1.out.set 3 (.int .i64 ((t : Int) + 1))
      have e1 : (((t + 1 : Nat) : Int)) = (t : Int) + 1 := by omega
      refine (show Calls Tryz.prog 59 #[.pointer (some ⟨r.p, 0, none⟩), .int .i64 1] ((w.drewN n).setCell ⟨r.p, 3, none⟩ (.int .i64 ((t : Int) + 1))) (Voids r (.error (1, lastC cs (t + 1))) ((w.drewN n).setCell ⟨r.p, 3, none⟩ (.int .i64 ((t : Int) + 1)))) from
        failS_any (o := .ok (t + 1)) (show ScAt _ r (t + 1) ⟨0, 0, 0⟩ from by unfold ScAt; rw [e1]; exact hq) ((HL.out.self ((Only.refl _ _).drewN n)).self (Only.setCell (S := (· = r.p)) (p := ⟨r.p, 3, none⟩) (Only.refl _ _) rfl _)) (fun t' h => by cases h; omega) 1 (by decide)).mono ?_
      rintro e1 w3 ⟨rfl, ho3, hs3⟩
      go_wp2_with fail
      refine bodyPost_ret (v := .tuple #[]) (by simp [results, Tryz.results40, go_sem]) rfl ?_
      rw [hE.out]
      exact ⟨rfl, (((Only.refl _ _).drewN n).setCell (S := (· = r.p)) (p := ⟨r.p, 3, none⟩) rfl _).trans ho3, hs3⟩
    · have hE := hid (show endO ws cs (.ok t) = .ok t from if_neg ht)
      have hd : decide (t < r.n) = false := decide_eq_false (by have := hl.n; omega)
      rw [show moreO r.n (.ok t) = false from hd] at HM
      clear h hl hd
      go_enter Tryz.func40, Tryz.ntmps40
      go_wp2_with fail
      refine HM.out.mono ?_
      rintro e1 w1 ⟨rfl, n, rfl⟩
      go_wp2_with fail
      refine bodyPost_ret (v := .tuple #[]) (by simp [results, Tryz.results40, go_sem]) rfl ?_
      rw [hE.out]
      exact ⟨rfl, (Only.refl _ _).drewN _, H.out⟩

/-- a list that is as long as it may be -/
def fullO (n most : Nat) (cs : List Nat) : Except Err Nat → Except Err Nat
  | .error e => .error e
  | .ok t => if most ≤ n then .error (2, lastC cs t) else .ok t

set_option maxHeartbeats 2000000 in
theorem fullS_any {w : World} {r : Rd} {o : Except Err Nat} {ws : List (List UInt8)} {cs : List Nat} (h : ScS w r o) (hl : RdL w r ws cs) (ho : ∀ t, o = .ok t → t ≤ ws.length) (n most : Nat) :
    Calls Tryz.prog 112 #[.pointer (some ⟨r.p, 0, none⟩), .int .i64 (n : Int), .int .i64 (most : Int)] w (Voids r (fullO n most cs o) w) := by
  have HG := hid (good_any h)
  have H := hid h
  cases o with
  | error e =>
    unfold okO at HG
    clear h hl ho
    go_enter Tryz.func112, Tryz.ntmps112
    go_wp2_with fail
    refine HG.out.mono ?_
    rintro e1 w1 ⟨rfl, rfl⟩
    go_wp2_with fail
    refine bodyPost_ret (v := .tuple #[]) (by simp [results, Tryz.results112, go_sem]) rfl ?_
    exact ⟨rfl, Only.refl _ _, H.out⟩
  | ok t =>
    unfold okO at HG
    have ht := ho t rfl
    by_cases hm : most ≤ n
    · have hE := hid (show fullO n most cs (.ok t) = .error (2, lastC cs t) from if_pos hm)
      have hmi : (most : Int) ≤ (n : Int) := by omega
      have HF := hid (show Calls Tryz.prog 59 #[.pointer (some ⟨r.p, 0, none⟩), .int .i64 2] w (Voids r (.error (2, lastC cs t)) w) from failS_any (o := .ok t) h hl (fun t' h => by cases h; exact ht) 2 (by decide))
      clear h hl ho
      go_enter Tryz.func112, Tryz.ntmps112
      go_wp2_with fail
      refine HG.out.mono ?_
      rintro e1 w1 ⟨rfl, rfl⟩
      go_wp2_with fail
      refine HF.out.mono ?_
      rintro e1 w3 ⟨rfl, ho3, hs3⟩
      go_wp2_with fail
      refine bodyPost_ret (v := .tuple #[]) (by simp [results, Tryz.results112, go_sem]) rfl ?_
      rw [hE.out]
      exact ⟨rfl, ho3, hs3⟩
    · have hE := hid (show fullO n most cs (.ok t) = .ok t from if_neg hm)
      have hmi : ¬ (most : Int) ≤ (n : Int) := by omega
      clear h hl ho
      go_enter Tryz.func112, Tryz.ntmps112
      go_wp2_with fail
      refine HG.out.mono ?_
      rintro e1 w1 ⟨rfl, rfl⟩
      go_wp2_with fail
      refine bodyPost_ret (v := .tuple #[]) (by simp [results, Tryz.results112, go_sem]) rfl ?_
      rw [hE.out]
      exact ⟨rfl, Only.refl _ _, H.out⟩
end Go.Proofs.YtafnohojnjpfcaaGreatDoor.Ix

/-
  LAYER 7, the document's own: which words are of a kind.
-/
namespace Go.Proofs.YtafnohojnjpfcaaGreatDoor.Ix
open Go.RowKit
open Go.Proofs.YtafnohojnjpfcaaGreatDoor Go.Proofs.YtafnohojnjpfcaaGreatDoor.Ln Go.Proofs.YtafnohojnjpfcaaGreatDoor.Sp

theorem kinds_name : Kinds 2 Nm.checkV := by
  intro x hx w
  have HC := hid (Nm.rcheck x (by omega) w)
  unfold Nm.GivesQ at HC
  generalize Nm.checkV x = b at HC ⊢
  generalize (⟨x.toArray⟩ : ByteArray) = X at HC ⊢
  go_enter Tryz.func26, Tryz.ntmps26
  go_wp2_with fail
  refine HC.out.mono ?_
  rintro e w1 ⟨rfl, hq⟩
  go_wp2_with fail
  go_ret
  exact ⟨rfl, hq.below⟩
theorem kinds_plain : Kinds 1 Nm.plain := by
  intro x hx w
  have HC := hid (Nm.rplain x (by omega) w)
  unfold Nm.GivesQ at HC
  generalize Nm.plain x = b at HC ⊢
  generalize (⟨x.toArray⟩ : ByteArray) = X at HC ⊢
  go_enter Tryz.func26, Tryz.ntmps26
  go_wp2_with fail
  refine HC.out.mono ?_
  rintro e w1 ⟨rfl, hq⟩
  go_wp2_with fail
  go_ret
  exact ⟨rfl, hq.below⟩
theorem kinds_range : Kinds 4 isRng := by
  intro x hx w
  have HC := hid (rrparse_any ⟨x.toArray⟩ (by show x.toArray.size < _; simp; omega) w)
  unfold RParseRes at HC
  have HV := hid (show isRng x = (rngOf x).isSome from rfl)
  change Hid (Calls _ _ _ w fun e w' => Below w.heap.size w w' ∧ ((rngOf x = none ∧ e = _) ∨ ∃ rs v, rngOf x = some rs ∧ _)) at HC
  generalize rngOf x = o at HC HV
  generalize isRng x = b at HV ⊢
  generalize (⟨x.toArray⟩ : ByteArray) = X at HC ⊢
  go_enter Tryz.func26, Tryz.ntmps26
  go_wp2_with fail
  refine HC.out.mono ?_
  rintro e w1 ⟨hb, ⟨rfl, rfl⟩ | ⟨rs, v, rfl, rfl, _⟩⟩
  · have := HV.out
    subst this
    go_wp2_with fail
    go_ret
    exact ⟨rfl, hb⟩
  · have := HV.out
    subst this
    go_wp2_with fail
    go_ret
    exact ⟨rfl, hb⟩
end Go.Proofs.YtafnohojnjpfcaaGreatDoor.Ix

/-
  LAYER 7, the document's own: a need's words.
-/
namespace Go.Proofs.YtafnohojnjpfcaaGreatDoor.Ix
open Go.RowKit
open Go.Proofs.YtafnohojnjpfcaaGreatDoor Go.Proofs.YtafnohojnjpfcaaGreatDoor.Ln

theorem infoRN : (Tryz.prog.info? 83).map (fun i => (i.zero, i.size, i.bytes)) = some (some (.agg #[.string ⟨#[]⟩, .string ⟨#[]⟩, .slice none 0 0]), 3, 56) := by kernel_rfl

/-- a need behind a state -/
def needO (most : Int) (ws : Words) (cs : List Nat) : Except Err Nat → Except Err (NeedS × Nat)
  | .error e => .error e
  | .ok t => needP most ws cs t

/-- what the document's Need comes to -/
def NeedD (r : Rd) (q : Except Err (NeedS × Nat)) (w : World) (e : Ending) (w' : World) : Prop :=
  ∃ (a b : List UInt8) (fa : Option Addr) (fn fc : Nat), e = .returned (.agg #[.string ⟨a.toArray⟩, .string ⟨b.toArray⟩, .slice fa fn fc]) ∧ Only (· = r.p) w w' ∧ ScS w' r (sndO q) ∧
    ∀ n t, q = .ok (n, t) → a = n.name ∧ b = n.rng ∧ StrsF (fun b => w.heap.size ≤ b) w' (.slice fa fn fc) n.feats

/-- how the world stands in the midst of Need; the need lies in block nB -/
structure NdSt (w w' : World) (nB : Nat) (r : Rd) (o : Except Err Nat) (ws : Words) (cs : List Nat) (a b c : Value) : Prop where
  only : Only (· = r.p) w w'
  sc : ScS w' r o
  rl : RdL w' r ws cs
  plt : r.p < w.heap.size
  nlt : w.heap.size < nB
  res : Blk w' w.heap.size [.string ⟨#[]⟩, .string ⟨#[]⟩, .slice none 0 0] 83
  n : Blk w' nB [a, b, c] 83
theorem NdSt.step {w w' w'' : World} {nB : Nat} {r : Rd} {o o' : Except Err Nat} {ws : Words} {cs : List Nat} {a b c : Value} (h : NdSt w w' nB r o ws cs a b c) (ho : Only (· = r.p) w' w'') (hr : ScS w'' r o') : NdSt w w'' nB r o' ws cs a b c :=
  ⟨h.only.trans ho, hr, h.rl.self ho, h.plt, h.nlt, Ln.Blk.only h.res ho (by have := h.plt; omega), Ln.Blk.only h.n ho (by have := h.plt; have := h.nlt; omega)⟩
theorem NdSt.below {w w' w'' : World} {nB : Nat} {r : Rd} {o : Except Err Nat} {ws : Words} {cs : List Nat} {a b c : Value} (h : NdSt w w' nB r o ws cs a b c) (hb : Below w'.heap.size w' w'') : NdSt w w'' nB r o ws cs a b c :=
  h.step (Only.of_below hb) (h.sc.below hb)
theorem NdSt.set {w w' : World} {nB : Nat} {r : Rd} {o : Except Err Nat} {ws : Words} {cs : List Nat} {a b c : Value} (h : NdSt w w' nB r o ws cs a b c) (hw : r.wB < w.heap.size) (hc : r.cB < w.heap.size) (j : Nat) (u : Value) {a' b' c' : Value} (e : [a, b, c].set j u = [a', b', c']) : NdSt w (w'.setCell ⟨nB, j, none⟩ u) nB r o ws cs a' b' c' :=
  have hn := h.nlt
  ⟨only_new h.only (by omega) u, h.sc.kept (fun _ _ hB => hB.other (by have := h.plt; show r.p ≠ nB; omega) u), RdL.set h.rl (by omega) (by omega) u, h.plt, h.nlt, h.res.other (by show w.heap.size ≠ nB; omega) u, e ▸ h.n.set j u⟩
theorem NdSt.grown {w w' w'' : World} {nB : Nat} {r : Rd} {o : Except Err Nat} {ws : Words} {cs : List Nat} {a b c : Value} {row : Option Nat} (h : NdSt w w' nB r o ws cs a b c) (hw : r.wB < w.heap.size) (hc : r.cB < w.heap.size) (hg : w'.grownBy w'' row) (hr : ∀ k, row = some k → nB < k) : NdSt w w'' nB r o ws cs a b c :=
  have hn := h.nlt
  ⟨h.only.grown hg (fun k hk hl => by have := hr k hk; omega), h.sc.kept (fun _ _ hB => hB.grown hg (by intro e; have := hr _ e.symm; have := h.plt; omega)),
   h.rl.only (S := fun k => some k = row) ((Only.refl _ _).grown hg (fun k hk _ => hk.symm)) (by intro e; have := hr _ e.symm; omega) (by intro e; have := hr _ e.symm; omega),
   h.plt, h.nlt, h.res.grown hg (by intro e; have := hr _ e.symm; omega), h.n.grown hg (by intro e; have := hr _ e.symm; omega)⟩

/-- how far a scan is from its end: nothing is left where something is wrong -/
def scLeft (p n : Nat) (w : World) : Nat := match w.cell? ⟨p, 4, none⟩, w.cell? ⟨p, 3, none⟩ with
  | some (.int _ c), some (.int _ t) => if c = 0 then n + 1 - t.toNat else 0
  | _, _ => 0
theorem scLeft_ok {w : World} {r : Rd} {t n : Nat} (h : ScS w r (.ok t)) : scLeft r.p n w = n + 1 - t := by
  unfold scLeft
  rw [Blk.cell (show Blk w r.p _ _ from h) 4 rfl, Blk.cell (show Blk w r.p _ _ from h) 3 rfl]
  simp
theorem scLeft_bad {w : World} {r : Rd} {e : Err} {n : Nat} (h : ScS w r (.error e)) : scLeft r.p n w = 0 := by
  obtain ⟨h1, t, h2⟩ := h
  unfold scLeft
  rw [Blk.cell (show Blk w r.p _ _ from h2) 4 rfl, Blk.cell (show Blk w r.p _ _ from h2) 3 rfl]
  simp only
  rw [if_neg (by omega)]

/-- the features that are to come, behind a state -/
def featsO (most : Int) (ws : Words) (cs : List Nat) (nm rg : List UInt8) (o : Except Err Nat) (fs : Words) : Except Err (NeedS × Nat) := match o with
  | .error e => .error e
  | .ok t => if 0 < most then match featsC most ws cs t fs with
      | .error e => .error e
      | .ok fs => .ok (⟨nm, rg, fs⟩, ws.length)
    else .ok (⟨nm, rg, fs⟩, t)

theorem takeO_le {p : List UInt8 → Bool} {ws : Words} {cs : List Nat} {o : Except Err Nat} {t : Nat} (h : sndO (takeO p ws cs o) = .ok t) : t ≤ ws.length := by
  cases o with
  | error e => cases h
  | ok k =>
    unfold takeO at h
    dsimp only at h
    cases h1 : takeW p ws cs k with
    | error e => rw [h1] at h; cases h
    | ok x =>
      rw [h1] at h
      obtain ⟨hl, _⟩ := takeW_ok h1
      cases h; omega
theorem needO_feats (most : Int) (ws : Words) (cs : List Nat) (o : Except Err Nat) {x1 x2 : List UInt8} (h1 : fstIs (takeO Nm.checkV ws cs o) x1) (h2 : fstIs (takeO isRng ws cs (sndO (takeO Nm.checkV ws cs o))) x2) :
    needO most ws cs o = featsO most ws cs x1 x2 (sndO (takeO isRng ws cs (sndO (takeO Nm.checkV ws cs o)))) [] := by
  cases o with
  | error e => rfl
  | ok t =>
    have e1 : takeO Nm.checkV ws cs (.ok t) = match takeW Nm.checkV ws cs t with
      | .error e => .error e
      | .ok x => .ok (x, t + 1) := rfl
    show needP most ws cs t = _
    unfold needP
    cases c1 : takeW Nm.checkV ws cs t with
    | error e => rw [c1] at e1; rw [e1]; rfl
    | ok nm =>
      rw [c1] at e1
      rw [e1] at h1 h2 ⊢
      have hx1 := h1 nm (t + 1) rfl
      subst hx1
      have e2 : takeO isRng ws cs (.ok (t + 1)) = match takeW isRng ws cs (t + 1) with
        | .error e => .error e
        | .ok x => .ok (x, t + 1 + 1) := rfl
      dsimp only
      cases c2 : takeW isRng ws cs (t + 1) with
      | error e =>
        rw [c2] at e2
        show Except.error e = featsO most ws cs x1 x2 (sndO (takeO isRng ws cs (.ok (t + 1)))) []
        rw [e2]; rfl
      | ok rg =>
        rw [c2] at e2
        have hx2 := h2 rg (t + 1 + 1) (show takeO isRng ws cs (.ok (t + 1)) = _ from e2)
        subst hx2
        show _ = featsO most ws cs x1 x2 (sndO (takeO isRng ws cs (.ok (t + 1)))) []
        rw [e2]
        rfl
theorem featsO_step {most : Int} {ws : Words} {cs : List Nat} {nm rg : List UInt8} {t : Nat} {fs : Words} (hm : 0 < most) (h : t < ws.length) :
    featsO most ws cs nm rg (.ok t) fs = (if Nm.plain ws[t] = false then .error (1, cs.getD t 0) else if fs.contains ws[t] = true then .error (3, cs.getD t 0) else if most ≤ (fs.length : Int) then .error (2, cs.getD t 0) else featsO most ws cs nm rg (.ok (t + 1)) (fs ++ [ws[t]])) := by
  unfold featsO
  dsimp only
  rw [if_pos hm, if_pos hm, featsC_step h]
  by_cases h1 : Nm.plain ws[t] = false
  · rw [if_pos h1, if_pos h1]
  · rw [if_neg h1, if_neg h1]
    by_cases h2 : fs.contains ws[t] = true
    · rw [if_pos h2, if_pos h2]
    · rw [if_neg h2, if_neg h2]
      by_cases h3 : most ≤ (fs.length : Int)
      · rw [if_pos h3, if_pos h3]
      · rw [if_neg h3, if_neg h3]
theorem takeO_yes {p : List UInt8 → Bool} {ws : Words} {cs : List Nat} {t : Nat} (h : t < ws.length) (hp : p ws[t] = true) : takeO p ws cs (.ok t) = .ok (ws[t], t + 1) := by
  unfold takeO; dsimp only; rw [takeW_yes h hp]
theorem takeO_no {p : List UInt8 → Bool} {ws : Words} {cs : List Nat} {t : Nat} (h : t < ws.length) (hp : p ws[t] = false) : takeO p ws cs (.ok t) = .error (1, cs.getD t 0) := by
  unfold takeO; dsimp only; rw [takeW_no h hp]
end Go.Proofs.YtafnohojnjpfcaaGreatDoor.Ix

/-
  LAYER 7, the document's own: a need's words, walked.
-/
namespace Go.Proofs.YtafnohojnjpfcaaGreatDoor.Ix
open Go.RowKit
open Go.Proofs.YtafnohojnjpfcaaGreatDoor Go.Proofs.YtafnohojnjpfcaaGreatDoor.Ln

set_option maxRecDepth 100000 in
set_option maxHeartbeats 8000000 in
theorem needS_any {w : World} {r : Rd} {o : Except Err Nat} {ws : Words} {cs : List Nat} (h : ScS w r o) (hl : RdL w r ws cs) (ho : ∀ t, o = .ok t → t ≤ ws.length) (hs : ∀ u, u ∈ ws → u.length ≤ 1000) (hn : ws.length ≤ 1000) (most : Int) :
    Calls Tryz.prog 39 #[.pointer (some ⟨r.p, 0, none⟩), .int .i64 most] w (NeedD r (needO most ws cs o) w) := by
  have hz1 : (w.alloc (.cells #[.string ⟨#[]⟩, .string ⟨#[]⟩, .slice none 0 0] 83)).heap.size = w.heap.size + 1 := by simp
  have hb1 := below_alloc (Below.refl w.heap.size w) (.cells #[.string ⟨#[]⟩, .string ⟨#[]⟩, .slice none 0 0] 83)
  have HRES := hid (Blk.new w [.string ⟨#[]⟩, .string ⟨#[]⟩, .slice none 0 0] 83)
  have H1 := hid (h.below hb1)
  have L1 := hid (hl.self (Only.of_below hb1))
  have B1 := hid hb1
  have Z1 := hid hz1
  have HWL := hid hl.wl
  have HCL := hid hl.cl
  have HP := hid h.lt
  have HFE := hid (fun x1 x2 h1 h2 => needO_feats most ws cs o (x1 := x1) (x2 := x2) h1 h2)
  generalize hG : needO most ws cs o = G at HFE
  clear hG h hl hz1 hb1
  go_enter Tryz.func39, Tryz.ntmps39
  go_wp2_with fail
  generalize w.alloc (.cells #[.string ⟨#[]⟩, .string ⟨#[]⟩, .slice none 0 0] 83) = w1 at HRES H1 L1 B1 Z1 ⊢
  change Hid (Blk w1 w.heap.size [.string ⟨#[]⟩, .string ⟨#[]⟩, .slice none 0 0] 83) at HRES
  refine (show Calls Tryz.prog 60 #[.pointer (some ⟨r.p, 0, none⟩), .int .i64 2] w1 (Says r (takeO Nm.checkV ws cs o) w1) from takeS'_any H1.out L1.out ho hs 2 _ kinds_name).mono ?_
  rintro e w2 ⟨x1, rfl, ho2, hs2, hf1⟩
  have HO2 := hid ho2
  have HS2 := hid hs2
  have L2 := hid (L1.out.self ho2)
  have HF1 := hid hf1
  have HR2 := hid (Ln.Blk.only HRES.out ho2 (by have := HP.out; omega))
  clear ho2 hs2 hf1
  go_wp2_with fail
  refine (show Calls Tryz.prog 60 #[.pointer (some ⟨r.p, 0, none⟩), .int .i64 4] w2 (Says r (takeO isRng ws cs (sndO (takeO Nm.checkV ws cs o))) w2) from takeS'_any HS2.out L2.out (fun t ht => takeO_le ht) hs 4 _ kinds_range).mono ?_
  rintro e w3 ⟨x2, rfl, ho3, hs3, hf2⟩
  have HGE := hid (HFE.out x1 x2 HF1.out hf2)
  have hLE := hid (fun t (ht : sndO (takeO isRng ws cs (sndO (takeO Nm.checkV ws cs o))) = .ok t) => takeO_le ht)
  generalize sndO (takeO isRng ws cs (sndO (takeO Nm.checkV ws cs o))) = o3 at hs3 HGE hLE
  have hz3 : w.heap.size < w3.heap.size := by have h1 := Z1.out; have h2 := HO2.out.size; have h3 := ho3.size; omega
  have ST := hid (show NdSt w (w3.alloc (.cells #[.string ⟨x1.toArray⟩, .string ⟨x2.toArray⟩, .slice none 0 0] 83)) w3.heap.size r o3 ws cs (.string ⟨x1.toArray⟩) (.string ⟨x2.toArray⟩) (.slice none 0 0) from
    ⟨((Only.trans (Only.of_below B1.out) HO2.out).trans ho3).alloc _, hs3.below (below_alloc (Below.refl _ _) _), (L2.out.self ho3).self ((Only.refl _ _).alloc _), HP.out, hz3, (Ln.Blk.only HR2.out ho3 (by have := HP.out; omega)).alloc _, Blk.new w3 _ _⟩)
  clear ho3 hs3 hf2 HF1 HFE HRES H1 L1 B1 Z1 HO2 HS2 L2 HR2 hz3
  go_wp2_with fail
  generalize w3.alloc (.cells #[.string ⟨x1.toArray⟩, .string ⟨x2.toArray⟩, .slice none 0 0] 83) = w4 at ST ⊢
  generalize w3.heap.size = nB at ST ⊢
  go_loopw [6] (fun _ wr => ∃ (o : Except Err Nat) (fs : Words) (a : Option Addr) (n c : Nat), Hid (NdSt w wr nB r o ws cs (.string ⟨x1.toArray⟩) (.string ⟨x2.toArray⟩) (.slice a n c)) ∧ Hid (wr.ownsRow (nB + 1) 9 1 (.slice a n c) fs.length (Ln.strs fs)) ∧ Hid (G = featsO most ws cs x1 x2 o fs) ∧ Hid (fs.length ≤ 1002) ∧ Hid (∀ t, o = .ok t → t ≤ ws.length ∧ fs.length ≤ t) ∧ Hid (0 < most → (∃ t, o = .ok t) → (fs.length : Int) ≤ most)) (fun _ wr => scLeft r.p ws.length wr)
  case atStart => exact ⟨o3, [], none, 0, 0, ST, hid (World.ownsRow_nil _ _ _ _), HGE, hid (by simp), hid (fun t ht => ⟨hLE.out t ht, Nat.zero_le _⟩), hid (fun hm _ => by simp; omega)⟩
  case round =>
    obtain ⟨o, fs, fa, fn, fc, ST, OW, HF, HFL, HLE, HMO⟩ := hrel
    clear HGE hLE
    have FIN := hid (fun (W : World) (hST : NdSt w W nB r o ws cs (.string ⟨x1.toArray⟩) (.string ⟨x2.toArray⟩) (.slice fa fn fc)) (hOW : W.ownsRow (nB + 1) 9 1 (.slice fa fn fc) fs.length (Ln.strs fs)) (hq : sndO G = o ∧ ∀ n t, G = .ok (n, t) → x1 = n.name ∧ x2 = n.rng ∧ n.feats = fs) =>
      show NeedD r G w (.returned (.agg #[.string ⟨x1.toArray⟩, .string ⟨x2.toArray⟩, .slice fa fn fc])) (((W.setCell ⟨w.heap.size, 0, none⟩ (.string ⟨x1.toArray⟩)).setCell ⟨w.heap.size, 1, none⟩ (.string ⟨x2.toArray⟩)).setCell ⟨w.heap.size, 2, none⟩ (.slice fa fn fc)) from by
        have hp := hST.plt
        have hnl := hST.nlt
        have hk : Kept (fun b => nB + 1 ≤ b) W (((W.setCell ⟨w.heap.size, 0, none⟩ (.string ⟨x1.toArray⟩)).setCell ⟨w.heap.size, 1, none⟩ (.string ⟨x2.toArray⟩)).setCell ⟨w.heap.size, 2, none⟩ (.slice fa fn fc)) :=
          (((Kept.refl _ W).setCell (by show ¬ (nB + 1 ≤ w.heap.size); omega) _).setCell (by show ¬ (nB + 1 ≤ w.heap.size); omega) _).setCell (by show ¬ (nB + 1 ≤ w.heap.size); omega) _
        refine ⟨x1, x2, fa, fn, fc, rfl, only_new (only_new (only_new hST.only (Nat.le_refl _) _) (Nat.le_refl _) _) (Nat.le_refl _) _, ?_, fun n t he => ?_⟩
        · rw [hq.1]
          exact ((hST.sc.kept (fun _ _ hB => hB.other (by show r.p ≠ w.heap.size; omega) _)).kept (fun _ _ hB => hB.other (by show r.p ≠ w.heap.size; omega) _)).kept (fun _ _ hB => hB.other (by show r.p ≠ w.heap.size; omega) _)
        · obtain ⟨h1, h2, h3⟩ := hq.2 n t he
          refine ⟨h1, h2, ?_⟩
          rw [h3]
          exact StrsF.mono (StrsF.kept (StrsF.of_owns hOW) hk) (fun b _ h => by have : nB + 1 ≤ b := h; omega))
    by_cases hmo : 0 < most
    · cases hmore : moreO r.n o with
      | false =>
        have hGq := hid (show sndO G = o ∧ ∀ n t, G = .ok (n, t) → x1 = n.name ∧ x2 = n.rng ∧ n.feats = fs from by
          cases o with
          | error e => rw [HF.out]; exact ⟨rfl, fun n t h => by cases h⟩
          | ok t =>
            have h1 : ¬ t < r.n := of_decide_eq_false hmore
            have h2 := ST.out.rl.n
            have h3 := (HLE.out t rfl).1
            have he : t = ws.length := by omega
            rw [HF.out]
            unfold featsO
            dsimp only
            rw [if_pos hmo, featsC_end (by omega)]
            subst he
            exact ⟨rfl, fun n t h => by cases h; exact ⟨rfl, rfl, rfl⟩⟩)
        have HMQ := hid (moreS_any ST.out.sc)
        rw [hmore] at HMQ
        clear hmore
        go_wp2_with fail
        refine HMQ.out.mono ?_
        rintro e w7 ⟨rfl, hd⟩
        have S7 := hid (ST.out.below hd.below)
        have O7 := hid (ownsRow_below OW.out hd.below)
        have n0 := S7.out.n.cell 0 rfl
        have n1 := S7.out.n.cell 1 rfl
        have n2 := S7.out.n.cell 2 rfl
        have rf := S7.out.res.free
        have r0 := S7.out.res.cell 0 rfl
        have r1 := S7.out.res.cell 1 rfl
        have r2 := S7.out.res.cell 2 rfl
        have rl := S7.out.res.lt
        have nl := S7.out.n.lt
        clear hd
        go_wp2_with fail
        have q := three_cells S7.out.res (.string ⟨x1.toArray⟩) (.string ⟨x2.toArray⟩) (.slice fa fn fc)
        have q0 := q.cell 0 rfl
        have q1 := q.cell 1 rfl
        have q2 := q.cell 2 rfl
        refine bodyPost_ret (v := .agg #[.string ⟨x1.toArray⟩, .string ⟨x2.toArray⟩, .slice fa fn fc]) (by simp [results, Tryz.results39, go_sem, q0, q1, q2]) rfl ?_
        exact FIN.out w7 S7.out O7.out hGq.out
      | true =>
        cases o with
        | error e => cases hmore
        | ok t =>
          have hlt : t < ws.length := by
            have h1 : t < r.n := of_decide_eq_true hmore
            have h2 := ST.out.rl.n
            omega
          have HMQ := hid (moreS_any ST.out.sc)
          rw [hmore] at HMQ
          have hstep := hid (HF.out.trans (featsO_step hmo hlt))
          have hT := hid (scLeft_ok (n := ws.length) ST.out.sc)
          have HLT := hid hlt
          have HLE2 := hid (HLE.out t rfl)
          have HT1000 : t ≤ 1000 := by omega
          have HM1 := hid (HMO.out hmo ⟨t, rfl⟩)
          have HFN := hid (show fn = fs.length from by
            have := OW.out.2
            rcases this with ⟨hv, h0⟩ | ⟨g, cap, cur, hv, _⟩
            · injection hv with _ h1 _; omega
            · injection hv)
          clear hmore HF HLE HMO FIN
          cases hp : Nm.plain ws[t] with
          | false =>
            have HTK := hid (takeO_no (cs := cs) hlt hp)
            have HGX := hid (hstep.out.trans (if_pos hp))
            clear hstep hp hlt
            go_wp2_with fail
            refine HMQ.out.mono ?_
            rintro e w7 ⟨rfl, hd⟩
            have S7 := hid (ST.out.below hd.below)
            have O7 := hid (ownsRow_below OW.out hd.below)
            clear hd
            go_wp2_with fail
            refine (show Calls Tryz.prog 60 #[.pointer (some ⟨r.p, 0, none⟩), .int .i64 1] w7 (Says r (.error (1, cs.getD t 0)) w7) from by have := takeS'_any S7.out.sc S7.out.rl (fun t' ht => by cases ht; exact HLE2.out.1) hs 1 _ kinds_plain; rw [HTK.out] at this; exact this).mono ?_
            rintro e w9 ⟨x, rfl, ho9, hs9, _⟩
            have S9 := hid (S7.out.step ho9 hs9)
            have O9 := hid (ownsRow_only O7.out ho9 (fun k hk _ => by have := HP.out; have := S7.out.nlt; omega))
            clear ho9 hs9
            go_wp2_with fail
            refine (show Calls Tryz.prog 63 #[.pointer (some ⟨r.p, 0, none⟩)] w9 (fun e' w' => e' = .returned (.bool false) ∧ w9 = w') from good_any (o := sndO (α := List UInt8) (.error (1, cs.getD t 0))) S9.out.sc).mono ?_
            rintro e wx ⟨rfl, rfl⟩
            go_wp2_with fail
            refine (show Calls Tryz.prog 63 #[.pointer (some ⟨r.p, 0, none⟩)] w9 (fun e' w' => e' = .returned (.bool false) ∧ w9 = w') from good_any (o := sndO (α := List UInt8) (.error (1, cs.getD t 0))) S9.out.sc).mono ?_
            rintro e wx ⟨rfl, rfl⟩
            obtain ⟨iC, hi, hz0, hz1, hz2⟩ := info_parts infoS
            have hi := hid hi
            have hz0 := hid hz0
            have hz1 := hid hz1
            have hz2 := hid hz2
            have HAPP := hid (strs_app fs x)
            have HLN := hid (show (fs ++ [x]).length = fs.length + 1 by simp)
            have HGQ := hid (show G = featsO most ws cs x1 x2 (.error (1, cs.getD t 0)) (fs ++ [x]) from HGX.out)
            have HMQ := hid (fun (_ : 0 < most) (h : ∃ t', (Except.error (1, cs.getD t 0) : Except Err Nat) = .ok t') => show (((fs ++ [x]).length : Nat) : Int) ≤ most from by obtain ⟨t', h⟩ := h; cases h)
            have HT9 := hid (hT.out)
            have n9 := S9.out.n.cell 2 rfl
            have l9 := S9.out.n.lt
            generalize hfx : fs ++ [x] = fx at HGQ HMQ HAPP HLN
            replace hfx := hid hfx
            generalize Ln.strs fs = sf at O9 HAPP
            generalize hfl : fs.length = m at O9 HLN HFL
            replace hfl := hid hfl
            clear HFN
            generalize (⟨x.toArray⟩ : ByteArray) = X at HAPP ⊢
            go_wp2_with (at_builtin; refine wpList_append_lies _ rfl _ _ 76 rfl (nB + 1) 9 iC (.string ⟨#[]⟩) 1 16 Tryz.underlying76 hi.out hz0.out hz1.out hz2.out rfl (by decide) _ _ _ rfl (ownsRow_below O9.out (below_alloc (Below.refl _ _) _)) ⟨_, 0, none⟩ 1 1 [.string X] rfl rfl ?c1 ?c2 ?cm ?c3 ?c4 ?c5 _ rfl ?_)
            case c1 => exact cell_one_at _ _ _ _ rfl
            case c2 => intro u hu; simp at hu; subst hu; rfl
            case cm => decide
            case c3 => have := HFL.out; unfold maxLen; omega
            case c4 => have := HFL.out; omega
            case c5 => have := l9; simp; omega
            intro g cap w12 hown12 hgrow hat hlt12
            have A9 := hid (below_alloc (Below.refl w9.heap.size w9) (.cells #[.string X] 9))
            have hrow : ∀ k, (Value.slice fa fn fc).ownBlock = some k → nB < k := fun k hk => (O9.out.lt k hk).1
            have S12 := hid ((S9.out.below A9.out).grown HWL.out HCL.out hgrow hrow)
            have O12 := hid hown12
            have f12 := S12.out.n.free
            have m12 := S12.out.n.cell 2 rfl
            have l12 := S12.out.n.lt
            clear hown12 hgrow hat hrow n9 l9
            go_wp2_with fail
            have S13 := S12.out.set HWL.out HCL.out 2 (.slice (some ⟨g, 0, none⟩) (m + 1) cap) (a' := .string ⟨x1.toArray⟩) (b' := .string ⟨x2.toArray⟩) (c' := .slice (some ⟨g, 0, none⟩) (m + 1) cap) rfl
            go_roundw
            case rel =>
              refine ⟨.error (1, cs.getD t 0), fx, _, _, _, hid S13, hid ?_, HGQ, hid (by rw [HLN.out]; have := hfl.out; have := HT1000; have := HLE2.out; omega), hid (fun t ht => by cases ht), HMQ⟩
              rw [HLN.out, HAPP.out]
              exact ownsRow_setCell_below O12.out (by show nB < nB + 1; omega) _
            case measure =>
              have hSc := S13.sc
              rw [scLeft_bad hSc, HT9.out]; have := HLT.out; omega
          | true =>
            have HTK := hid (takeO_yes (cs := cs) hlt hp)
            obtain ⟨y, hy⟩ : ∃ y, y = ws[t]'hlt := ⟨_, rfl⟩
            replace HTK := hid (show takeO Nm.plain ws cs (.ok t) = .ok (y, t + 1) by rw [hy]; exact HTK.out)
            replace hstep := hid (show G = (if fs.contains y = true then .error (3, cs.getD t 0) else if most ≤ (fs.length : Int) then .error (2, cs.getD t 0) else featsO most ws cs x1 x2 (.ok (t + 1)) (fs ++ [y])) by
              rw [hy]; exact hstep.out.trans (if_neg (fun h => Bool.noConfusion (hp.symm.trans h))))
            clear hp hy
            go_wp2_with fail
            refine HMQ.out.mono ?_
            rintro e w7 ⟨rfl, hd⟩
            have S7 := hid (ST.out.below hd.below)
            have O7 := hid (ownsRow_below OW.out hd.below)
            clear hd
            go_wp2_with fail
            refine (show Calls Tryz.prog 60 #[.pointer (some ⟨r.p, 0, none⟩), .int .i64 1] w7 (Says r (.ok (y, t + 1)) w7) from by have := takeS'_any S7.out.sc S7.out.rl (fun t' ht => by cases ht; exact HLE2.out.1) hs 1 _ kinds_plain; rw [HTK.out] at this; exact this).mono ?_
            rintro e w9 ⟨x, rfl, ho9, hs9, hf9⟩
            obtain rfl := hf9 y (t + 1) rfl
            have S9 := hid (S7.out.step ho9 hs9)
            have O9 := hid (ownsRow_only O7.out ho9 (fun k hk _ => by have := HP.out; have := S7.out.nlt; omega))
            clear ho9 hs9 hf9 HTK HMQ ST OW S7 O7
            go_wp2_with fail
            refine (show Calls Tryz.prog 63 #[.pointer (some ⟨r.p, 0, none⟩)] w9 (fun e' w' => e' = .returned (.bool true) ∧ w9 = w') from good_any (o := .ok (t + 1)) S9.out.sc).mono ?_
            rintro e wx ⟨rfl, rfl⟩
            have n8 := S9.out.n.cell 2 rfl
            have l8 := S9.out.n.lt
            go_wp2_with fail
            refine (in_any fs (by have := HFL.out; omega) x _ _ (rowIs_of O9.out)).mono ?_
            cases hct : fs.contains x with
            | true =>
              rw [if_pos hct] at hstep
              clear hct
              rintro e wx ⟨rfl, rfl⟩
              go_wp2_with fail
              refine (show Calls Tryz.prog 59 #[.pointer (some ⟨r.p, 0, none⟩), .int .i64 3] w9 (Voids r (.error (3, lastC cs (t + 1))) w9) from failS_any (o := .ok (t + 1)) S9.out.sc S9.out.rl (fun t' ht => by cases ht; have := HLT.out; omega) 3 (by decide)).mono ?_
              rintro e w10 ⟨rfl, ho10, hs10⟩
              have S10 := hid (S9.out.step ho10 hs10)
              have O10 := hid (ownsRow_only O9.out ho10 (fun k hk _ => by have := HP.out; have := S9.out.nlt; omega))
              clear ho10 hs10 S9 O9 n8 l8
              go_wp2_with fail
              refine (show Calls Tryz.prog 63 #[.pointer (some ⟨r.p, 0, none⟩)] w10 (fun e' w' => e' = .returned (.bool false) ∧ w10 = w') from good_any (o := .error (3, lastC cs (t + 1))) S10.out.sc).mono ?_
              rintro e wx ⟨rfl, rfl⟩
              obtain ⟨iC, hi, hz0, hz1, hz2⟩ := info_parts infoS
              have hi := hid hi
              have hz0 := hid hz0
              have hz1 := hid hz1
              have hz2 := hid hz2
              have HAPP := hid (strs_app fs x)
              have HLN := hid (show (fs ++ [x]).length = fs.length + 1 by simp)
              have HGQ := hid (show G = featsO most ws cs x1 x2 (.error (3, lastC cs (t + 1))) (fs ++ [x]) from hstep.out)
              have HMQ := hid (fun (_ : 0 < most) (h : ∃ t', (Except.error (3, lastC cs (t + 1)) : Except Err Nat) = .ok t') => show (((fs ++ [x]).length : Nat) : Int) ≤ most from by obtain ⟨t', h⟩ := h; cases h)
              have HT9 := hid (hT.out)
              have n9 := S10.out.n.cell 2 rfl
              have l9 := S10.out.n.lt
              generalize hfx : fs ++ [x] = fx at HGQ HMQ HAPP HLN
              replace hfx := hid hfx
              generalize Ln.strs fs = sf at O10 HAPP
              generalize hfl : fs.length = m at O10 HLN HFL
              replace hfl := hid hfl
              clear HFN
              generalize (⟨x.toArray⟩ : ByteArray) = X at HAPP ⊢
              go_wp2_with (at_builtin; refine wpList_append_lies _ rfl _ _ 76 rfl (nB + 1) 9 iC (.string ⟨#[]⟩) 1 16 Tryz.underlying76 hi.out hz0.out hz1.out hz2.out rfl (by decide) _ _ _ rfl (ownsRow_below O10.out (below_alloc (Below.refl _ _) _)) ⟨_, 0, none⟩ 1 1 [.string X] rfl rfl ?c1 ?c2 ?cm ?c3 ?c4 ?c5 _ rfl ?_)
              case c1 => exact cell_one_at _ _ _ _ rfl
              case c2 => intro u hu; simp at hu; subst hu; rfl
              case cm => decide
              case c3 => have := HFL.out; unfold maxLen; omega
              case c4 => have := HFL.out; omega
              case c5 => have := l9; simp; omega
              intro g cap w12 hown12 hgrow hat hlt12
              have A9 := hid (below_alloc (Below.refl w10.heap.size w10) (.cells #[.string X] 9))
              have hrow : ∀ k, (Value.slice fa fn fc).ownBlock = some k → nB < k := fun k hk => (O10.out.lt k hk).1
              have S12 := hid ((S10.out.below A9.out).grown HWL.out HCL.out hgrow hrow)
              have O12 := hid hown12
              have f12 := S12.out.n.free
              have m12 := S12.out.n.cell 2 rfl
              have l12 := S12.out.n.lt
              clear hown12 hgrow hat hrow n9 l9
              go_wp2_with fail
              have S13 := S12.out.set HWL.out HCL.out 2 (.slice (some ⟨g, 0, none⟩) (m + 1) cap) (a' := .string ⟨x1.toArray⟩) (b' := .string ⟨x2.toArray⟩) (c' := .slice (some ⟨g, 0, none⟩) (m + 1) cap) rfl
              go_roundw
              case rel =>
                refine ⟨.error (3, lastC cs (t + 1)), fx, _, _, _, hid S13, hid ?_, HGQ, hid (by rw [HLN.out]; have := hfl.out; have := HT1000; have := HLE2.out; omega), hid (fun t ht => by cases ht), HMQ⟩
                rw [HLN.out, HAPP.out]
                exact ownsRow_setCell_below O12.out (by show nB < nB + 1; omega) _
              case measure =>
                have hSc := S13.sc
                rw [scLeft_bad hSc, HT9.out]; have := HLT.out; omega
            | false =>
              rw [if_neg (by rw [hct]; simp)] at hstep
              clear hct
              rintro e wx ⟨rfl, rfl⟩
              go_wp2_with fail
              refine (show Calls Tryz.prog 63 #[.pointer (some ⟨r.p, 0, none⟩)] w9 (fun e' w' => e' = .returned (.bool true) ∧ w9 = w') from good_any (o := .ok (t + 1)) S9.out.sc).mono ?_
              rintro e wx ⟨rfl, rfl⟩
              by_cases hq : most ≤ (fs.length : Int)
              · rw [if_pos hq] at hstep
                have hqe : most ≤ (fn : Int) := by have := HFN.out; omega
                clear hq
                go_wp2_with fail
                refine (show Calls Tryz.prog 59 #[.pointer (some ⟨r.p, 0, none⟩), .int .i64 2] w9 (Voids r (.error (2, lastC cs (t + 1))) w9) from failS_any (o := .ok (t + 1)) S9.out.sc S9.out.rl (fun t' ht => by cases ht; have := HLT.out; omega) 2 (by decide)).mono ?_
                rintro e w10 ⟨rfl, ho10, hs10⟩
                have S10 := hid (S9.out.step ho10 hs10)
                have O10 := hid (ownsRow_only O9.out ho10 (fun k hk _ => by have := HP.out; have := S9.out.nlt; omega))
                clear ho10 hs10 S9 O9 n8 l8
                obtain ⟨iC, hi, hz0, hz1, hz2⟩ := info_parts infoS
                have hi := hid hi
                have hz0 := hid hz0
                have hz1 := hid hz1
                have hz2 := hid hz2
                have HAPP := hid (strs_app fs x)
                have HLN := hid (show (fs ++ [x]).length = fs.length + 1 by simp)
                have HGQ := hid (show G = featsO most ws cs x1 x2 (.error (2, lastC cs (t + 1))) (fs ++ [x]) from hstep.out)
                have HMQ := hid (fun (_ : 0 < most) (h : ∃ t', (Except.error (2, lastC cs (t + 1)) : Except Err Nat) = .ok t') => show (((fs ++ [x]).length : Nat) : Int) ≤ most from by obtain ⟨t', h⟩ := h; cases h)
                have HT9 := hid (hT.out)
                have n9 := S10.out.n.cell 2 rfl
                have l9 := S10.out.n.lt
                generalize hfx : fs ++ [x] = fx at HGQ HMQ HAPP HLN
                replace hfx := hid hfx
                generalize Ln.strs fs = sf at O10 HAPP
                generalize hfl : fs.length = m at O10 HLN HFL
                replace hfl := hid hfl
                clear HFN
                generalize (⟨x.toArray⟩ : ByteArray) = X at HAPP ⊢
                go_wp2_with (at_builtin; refine wpList_append_lies _ rfl _ _ 76 rfl (nB + 1) 9 iC (.string ⟨#[]⟩) 1 16 Tryz.underlying76 hi.out hz0.out hz1.out hz2.out rfl (by decide) _ _ _ rfl (ownsRow_below O10.out (below_alloc (Below.refl _ _) _)) ⟨_, 0, none⟩ 1 1 [.string X] rfl rfl ?c1 ?c2 ?cm ?c3 ?c4 ?c5 _ rfl ?_)
                case c1 => exact cell_one_at _ _ _ _ rfl
                case c2 => intro u hu; simp at hu; subst hu; rfl
                case cm => decide
                case c3 => have := HFL.out; unfold maxLen; omega
                case c4 => have := HFL.out; omega
                case c5 => have := l9; simp; omega
                intro g cap w12 hown12 hgrow hat hlt12
                have A9 := hid (below_alloc (Below.refl w10.heap.size w10) (.cells #[.string X] 9))
                have hrow : ∀ k, (Value.slice fa fn fc).ownBlock = some k → nB < k := fun k hk => (O10.out.lt k hk).1
                have S12 := hid ((S10.out.below A9.out).grown HWL.out HCL.out hgrow hrow)
                have O12 := hid hown12
                have f12 := S12.out.n.free
                have m12 := S12.out.n.cell 2 rfl
                have l12 := S12.out.n.lt
                clear hown12 hgrow hat hrow n9 l9
                go_wp2_with fail
                have S13 := S12.out.set HWL.out HCL.out 2 (.slice (some ⟨g, 0, none⟩) (m + 1) cap) (a' := .string ⟨x1.toArray⟩) (b' := .string ⟨x2.toArray⟩) (c' := .slice (some ⟨g, 0, none⟩) (m + 1) cap) rfl
                go_roundw
                case rel =>
                  refine ⟨.error (2, lastC cs (t + 1)), fx, _, _, _, hid S13, hid ?_, HGQ, hid (by rw [HLN.out]; have := hfl.out; have := HT1000; have := HLE2.out; omega), hid (fun t ht => by cases ht), HMQ⟩
                  rw [HLN.out, HAPP.out]
                  exact ownsRow_setCell_below O12.out (by show nB < nB + 1; omega) _
                case measure =>
                  have hSc := S13.sc
                  rw [scLeft_bad hSc, HT9.out]; have := HLT.out; omega
              · rw [if_neg hq] at hstep
                have hqe : ¬ most ≤ (fn : Int) := by have := HFN.out; omega
                have HQ := hid hq
                clear hq
                obtain ⟨iC, hi, hz0, hz1, hz2⟩ := info_parts infoS
                have hi := hid hi
                have hz0 := hid hz0
                have hz1 := hid hz1
                have hz2 := hid hz2
                have HAPP := hid (strs_app fs x)
                have HLN := hid (show (fs ++ [x]).length = fs.length + 1 by simp)
                have HGQ := hid (show G = featsO most ws cs x1 x2 (.ok (t + 1)) (fs ++ [x]) from hstep.out)
                have HMQ := hid (fun (_ : 0 < most) (_ : ∃ t', (Except.ok (t + 1) : Except Err Nat) = .ok t') => show (((fs ++ [x]).length : Nat) : Int) ≤ most from by have := HQ.out; simp; omega)
                have HT9 := hid (hT.out)
                have n9 := S9.out.n.cell 2 rfl
                have l9 := S9.out.n.lt
                generalize hfx : fs ++ [x] = fx at HGQ HMQ HAPP HLN
                replace hfx := hid hfx
                generalize Ln.strs fs = sf at O9 HAPP
                generalize hfl : fs.length = m at O9 HLN HFL
                replace hfl := hid hfl
                clear HFN
                generalize (⟨x.toArray⟩ : ByteArray) = X at HAPP ⊢
                go_wp2_with (at_builtin; refine wpList_append_lies _ rfl _ _ 76 rfl (nB + 1) 9 iC (.string ⟨#[]⟩) 1 16 Tryz.underlying76 hi.out hz0.out hz1.out hz2.out rfl (by decide) _ _ _ rfl (ownsRow_below O9.out (below_alloc (Below.refl _ _) _)) ⟨_, 0, none⟩ 1 1 [.string X] rfl rfl ?c1 ?c2 ?cm ?c3 ?c4 ?c5 _ rfl ?_)
                case c1 => exact cell_one_at _ _ _ _ rfl
                case c2 => intro u hu; simp at hu; subst hu; rfl
                case cm => decide
                case c3 => have := HFL.out; unfold maxLen; omega
                case c4 => have := HFL.out; omega
                case c5 => have := l9; simp; omega
                intro g cap w12 hown12 hgrow hat hlt12
                have A9 := hid (below_alloc (Below.refl w9.heap.size w9) (.cells #[.string X] 9))
                have hrow : ∀ k, (Value.slice fa fn fc).ownBlock = some k → nB < k := fun k hk => (O9.out.lt k hk).1
                have S12 := hid ((S9.out.below A9.out).grown HWL.out HCL.out hgrow hrow)
                have O12 := hid hown12
                have f12 := S12.out.n.free
                have m12 := S12.out.n.cell 2 rfl
                have l12 := S12.out.n.lt
                clear hown12 hgrow hat hrow n9 l9
                go_wp2_with fail
                have S13 := S12.out.set HWL.out HCL.out 2 (.slice (some ⟨g, 0, none⟩) (m + 1) cap) (a' := .string ⟨x1.toArray⟩) (b' := .string ⟨x2.toArray⟩) (c' := .slice (some ⟨g, 0, none⟩) (m + 1) cap) rfl
                go_roundw
                case rel =>
                  refine ⟨.ok (t + 1), fx, _, _, _, hid S13, hid ?_, HGQ, hid (by rw [HLN.out]; have := hfl.out; have := HT1000; have := HLE2.out; omega), hid (fun t' ht => by cases ht; rw [HLN.out]; have := hfl.out; have := HLT.out; have := HLE2.out; omega), HMQ⟩
                  rw [HLN.out, HAPP.out]
                  exact ownsRow_setCell_below O12.out (by show nB < nB + 1; omega) _
                case measure =>
                  have hSc := S13.sc
                  rw [scLeft_ok hSc, HT9.out]; have := HLT.out; omega
    · have hGq := hid (show sndO G = o ∧ ∀ n t, G = .ok (n, t) → x1 = n.name ∧ x2 = n.rng ∧ n.feats = fs from by
        cases o with
        | error e => rw [HF.out]; exact ⟨rfl, fun n t h => by cases h⟩
        | ok t =>
          rw [HF.out]
          unfold featsO
          dsimp only
          rw [if_neg hmo]
          exact ⟨rfl, fun n t h => by cases h; exact ⟨rfl, rfl, rfl⟩⟩)
      have n0 := ST.out.n.cell 0 rfl
      have n1 := ST.out.n.cell 1 rfl
      have n2 := ST.out.n.cell 2 rfl
      have rf := ST.out.res.free
      have r0 := ST.out.res.cell 0 rfl
      have r1 := ST.out.res.cell 1 rfl
      have r2 := ST.out.res.cell 2 rfl
      have rl := ST.out.res.lt
      have nl := ST.out.n.lt
      go_wp2_with fail
      have q := three_cells ST.out.res (.string ⟨x1.toArray⟩) (.string ⟨x2.toArray⟩) (.slice fa fn fc)
      have q0 := q.cell 0 rfl
      have q1 := q.cell 1 rfl
      have q2 := q.cell 2 rfl
      refine bodyPost_ret (v := .agg #[.string ⟨x1.toArray⟩, .string ⟨x2.toArray⟩, .slice fa fn fc]) (by simp [results, Tryz.results39, go_sem, q0, q1, q2]) rfl ?_
      exact FIN.out _ ST.out OW.out hGq.out
end Go.Proofs.YtafnohojnjpfcaaGreatDoor.Ix
