/-
  SEVERAL TEXTS, one behind the other.
-/
import Derived.Test.YtmeaajhongalaaaGreatDoorLinesRefRead
import Derived.Test.YtmeaajhongalaaaGreatDoorIC
import Derived.Test.YtmeaajhongalaaaGreatDoorLinesEach4
import Derived.Test.YtmeaajhongalaaaGreatDoorIB
/-
  LAYER 1: Read of texts of whatever length.
-/
namespace Go.Proofs.YtmeaajhongalaaaGreatDoor.Ln
open Go.RowKit

theorem Read_all (l : List UInt8) (hs : l.length ≤ 140737488355328) (w : World) :
    Calls Tryz.prog 29 #[.string ⟨l.toArray⟩] w (ReadIs 140 (readS l) w) := by
  by_cases h : 20000 < l.length
  · have hS := hid (show readS l = .error (2, 0, 0) by unfold readS; rw [if_pos h])
    have hft1 := Blk.new w [.int .i64 0, .int .i64 0, .int .i64 0] 87
    go_enter Tryz.func29, Tryz.ntmps29
    go_wp2_with fail
    have q := three_cells hft1 (.int .i64 2) (.int .i64 0) (.int .i64 0)
    exact bodyPost_ret (v := .tuple #[.slice none 0 0, .agg #[.int .i64 2, .int .i64 0, .int .i64 0]]) (by simp [results, Tryz.results29, go_sem]) rfl (read_err hS.out rfl (by (repeat (first | exact Below.refl _ _ | assumption | refine below_alloc ?_ _ | refine below_drew ?_ | refine below_trans ?_ (by assumption)))))
  · exact Read_any l (by omega) w
theorem refRead_all (l : List UInt8) (hs : l.length ≤ 140737488355328) (w : World) :
    Calls Tryz.prog 25 #[.string ⟨l.toArray⟩] w (ReadIs 80 (readS l) w) := by
  by_cases h : 20000 < l.length
  · have hS := hid (show readS l = .error (2, 0, 0) by unfold readS; rw [if_pos h])
    have hft1 := Blk.new w [.int .i64 0, .int .i64 0, .int .i64 0] 74
    go_enter Tryz.func25, Tryz.ntmps25
    go_wp2_with fail
    have q := three_cells hft1 (.int .i64 2) (.int .i64 0) (.int .i64 0)
    exact bodyPost_ret (v := .tuple #[.slice none 0 0, .agg #[.int .i64 2, .int .i64 0, .int .i64 0]]) (by simp [results, Tryz.results25, go_sem]) rfl (read_err hS.out rfl (by (repeat (first | exact Below.refl _ _ | assumption | refine below_alloc ?_ _ | refine below_drew ?_ | refine below_trans ?_ (by assumption)))))
  · exact refRead_any l (by omega) w
theorem readS_fits {l : List UInt8} {xs : List LineS} (h : readS l = .ok xs) : l.length ≤ 1099511627776 := by
  unfold readS at h
  by_cases hl : 20000 < l.length
  · rw [if_pos hl] at h; cases h
  · omega
end Go.Proofs.YtmeaajhongalaaaGreatDoor.Ln

/-
  LAYER 9, PACKAGE manifest: what Parse hands to Each.
-/
namespace Go.Proofs.YtmeaajhongalaaaGreatDoor.Ix
open Go.RowKit
open Go.Proofs.YtmeaajhongalaaaGreatDoor Go.Proofs.YtmeaajhongalaaaGreatDoor.Ln Go.Proofs.YtmeaajhongalaaaGreatDoor.Vs Go.Proofs.YtmeaajhongalaaaGreatDoor.Sp Go.Proofs.YtmeaajhongalaaaGreatDoor.Sf

/-- what holds ahead of line k -/
def manI (xs : List LineS) (bB mB base : Nat) (k : Nat) (w : World) : Prop :=
  ∃ begun mv cells F out, Blk w bB [.bool begun] 4 ∧ Grow w mB base 96 F mv cells out ∧ (∀ b, F b → base ≤ b ∧ b < w.heap.size) ∧ manGo xs false [] = manGo (xs.drop k) begun out ∧ out.length ≤ 8
/-- what holds where it ends -/
def manD (xs : List LineS) (f : Flt) (_ : World) : Prop := ∃ c no col : Nat, f = ⟨(c : Int), (no : Int), (col : Int)⟩ ∧ manGo xs false [] = .error (c, no, col)

theorem manI_only {xs : List LineS} {bB mB base k eB : Nat} {w1 w2 : World} (h : manI xs bB mB base k w1) (ho : Only (· = eB) w1 w2) (h1 : bB ≠ eB) (h2 : mB ≠ eB) (h3 : eB < base) : manI xs bB mB base k w2 := by
  obtain ⟨begun, mv, cells, F, out, hb, hg, hF, he, hl⟩ := h
  refine ⟨begun, mv, cells, F, out, Ln.Blk.only hb ho h1, hg.only ho h2 (fun b hb e => ?_) (fun b _ hb e => ?_), fun b hb => ⟨(hF b hb).1, Nat.lt_of_lt_of_le (hF b hb).2 ho.size⟩, he, hl⟩
  · have := (hg.own.lt b hb).1; omega
  · have := (hF b hb).1; omega

theorem needP_le {most : Int} {ws : Words} {cs : List Nat} {t t' : Nat} {n : NeedS} (h : needP most ws cs t = .ok (n, t')) : t' ≤ ws.length := by
  unfold needP at h
  cases h1 : takeW Nm.checkV ws cs t with
  | error e => rw [h1] at h; cases h
  | ok nm =>
    rw [h1] at h
    dsimp only at h
    cases h2 : takeW isRng ws cs (t + 1) with
    | error e => rw [h2] at h; cases h
    | ok rg =>
      rw [h2] at h
      dsimp only at h
      obtain ⟨hl, _⟩ := takeW_ok h2
      by_cases hm : 0 < most
      · rw [if_pos hm] at h
        cases h3 : featsP most ws cs (ws.length - (t + 2)) (t + 2) [] with
        | error e => rw [h3] at h; cases h
        | ok fs => rw [h3] at h; cases h; exact Nat.le_refl _
      · rw [if_neg hm] at h; cases h; omega

theorem man_stop {xs : List LineS} {k no : Nat} {ws : Words} {cs : List Nat} {begun : Bool} {out : List NeedS} {c col : Nat} (hx : xs[k]? = some (no, ws, cs)) (he : manGo xs false [] = manGo (xs.drop k) begun out) (hl : manLine begun ws cs out = .error (c, col)) (w : World) : manD xs ⟨(c : Int), (no : Int), (col : Int)⟩ w :=
  ⟨c, no, col, rfl, by rw [he, manGo_step hx, hl]⟩
theorem man_next {xs : List LineS} {k no : Nat} {ws : Words} {cs : List Nat} {begun : Bool} {out out' : List NeedS} (hx : xs[k]? = some (no, ws, cs)) (he : manGo xs false [] = manGo (xs.drop k) begun out) (hl : manLine begun ws cs out = .ok out') : manGo xs false [] = manGo (xs.drop (k + 1)) true out' := by
  rw [he, manGo_step hx, hl]

set_option maxRecDepth 100000 in
set_option maxHeartbeats 4000000 in
theorem manBy_any (xs : List LineS) (hok : ∀ x, x ∈ xs → LineOk x) {w0 : World} (hm : MaxAt w0) (hg : SignsAt w0) (bB mB eB : Nat) (hbm : bB ≠ mB) (hbe : bB < eB) (hme : mB < eB) (k : Nat) (x : LineS) (r : Rd) (wr : World) (hxk : xs[k]? = some x) (hno : r.no = x.1) (hp : eB < r.p) (hsr : wr.heap.size = r.p + 1) (hr : RdAt wr r 0) (hl : RdL wr r x.2.1 x.2.2) (hb0 : Below w0.heap.size w0 wr) (h0e : w0.heap.size ≤ eB)
    (hI : ∃ wq, manI xs bB mB (eB + 1) k wq ∧ wq.heap.size + 1 = r.p ∧ Below wq.heap.size wq wr) :
    Calls Tryz.prog 91 #[.pointer (some ⟨r.p, 0, none⟩), .pointer (some ⟨bB, 0, none⟩), .pointer (some ⟨mB, 0, none⟩)] wr (ByIs r x.2.1 x.2.2 (fun b => (b = bB ∨ b = mB) ∨ eB < b) (manI xs bB mB (eB + 1) (k + 1)) (manD xs) wr) := by
  obtain ⟨wq, ⟨begun, mv, cells, F, out, hbb, hgr, hF, he, hl8⟩, hzq, hbq⟩ := hI
  obtain ⟨no, ws, cs⟩ := x
  have hx := hok _ (List.mem_of_getElem? hxk)
  obtain ⟨hx1, hx2, hx3, hx4, hx5⟩ := hx
  have hno : r.no = no := hno
  have hl : RdL wr r ws cs := hl
  have hw20 : ws.length ≤ 20 := hx3
  have h0 : 0 < ws.length := by
    have : ws ≠ [] := hx2
    exact List.length_pos_iff.2 this
  have hws : ∀ u, u ∈ ws → u.length ≤ 1000 := fun u hu => by have := hx5 u hu; omega
  subst hno
  have HX := hid hxk
  have HE := hid he
  have HGQ := hid (hgr.below hbq)
  have HBB := hid (hbb.below hbq)
  have HF := hid (fun b (hb : F b) => show eB + 1 ≤ b ∧ b < r.p from ⟨(hF b hb).1, by have := (hF b hb).2; omega⟩)
  have HROW := hid (fun g (hgk : mv.ownBlock = some g) => show g ≠ r.p from by have := (hgr.own.lt g hgk).2; omega)
  have HR := hid hr
  have HL := hid hl
  have W1 := hid (word_ok hr hl h0)
  have hW0 : ws.getD 0 [] = ws[0] := by simp [List.getD, List.getElem?_eq_getElem h0]
  have HPW := hid (show r.p ≠ bB ∧ r.p ≠ mB by omega)
  clear hbb hgr hF hbq hzq hxk he hok hx1 hx2 hx3 hx4 hx5 hr hl
  -- the world behind the word
  have AFT := hid (fun (w1 : World) (ho : Only (· = r.p) wr w1) => show Grow w1 mB (eB + 1) 96 F mv cells out ∧ Blk w1 bB [.bool begun] 4 ∧ RdL w1 r ws cs ∧ Below w0.heap.size w0 w1 ∧ wr.heap.size ≤ w1.heap.size from
    ⟨HGQ.out.only ho (fun e => HPW.out.2 e.symm) (fun b hb e => HROW.out b hb e) (fun b _ hb e => by have := (HF.out b hb).2; omega), Ln.Blk.only HBB.out ho (fun e => HPW.out.1 e.symm), HL.out.self ho, base_only hb0 ho (by omega), ho.size⟩)
  have STOP := hid (fun (c col : Nat) (w2 : World) (ho : Only (fun b => (b = bB ∨ b = mB) ∨ eB < b) wr w2) (hln : manLine begun ws cs out = .error (c, col)) =>
    show ByIs r ws cs (fun b => (b = bB ∨ b = mB) ∨ eB < b) (manI xs bB mB (eB + 1) (k + 1)) (manD xs) wr (.panicked [{ v := stopV r.ea ⟨(c : Int), (r.no : Int), (col : Int)⟩, recovered := false }]) w2 from
      ⟨ho, .inr ⟨(c : Int), (col : Int), rfl, man_stop HX.out HE.out hln w2⟩⟩)
  have HML := hid (show manLine begun ws cs out = if begun then (if ws[0] ≠ rootW then .error (1, cs.getD 0 0) else if out.length = 8 then .error (2, cs.getD 0 0) else match needP 4 ws cs 1 with
      | .error e => .error e
      | .ok (n, t) => endW ws cs t (out ++ [n])) else (if ws[0] ≠ manW then .error (1, cs.getD 0 0) else endW ws cs 1 out) by unfold manLine; rw [hW0]; rfl)
  clear hW0
  generalize hml : manLine begun ws cs out = ml at STOP HML
  replace hml := hid hml
  have HS1 := hid (fun (w1 : World) (ho : Only (· = r.p) wr w1) => show Only (fun b => (b = bB ∨ b = mB) ∨ eB < b) wr w1 from ho.mono (fun b _ h => .inr (by omega)))
  generalize hWW : ws[0] = W at *
  clear hWW
  cases begun with
  | true =>
    rw [if_pos rfl] at HML
    by_cases hW : W = rootW
    · rw [if_neg (fun h => h hW)] at HML
      subst hW
      have W2 := hid (show Calls Tryz.prog 32 #[.pointer (some ⟨r.p, 0, none⟩)] wr (Has r 1 (.string ⟨#[114, 111, 111, 116]⟩) wr) from W1.out)
      clear W1
      go_enter Tryz.func91, Tryz.ntmps91
      go_wp2_with fail
      refine W2.out.mono ?_
      rintro e w1 ⟨rfl, ho, hr1⟩
      obtain ⟨G1, B1, L1, Z1, S1⟩ := AFT.out w1 ho
      have b0 := B1.cell 0 rfl
      have HO := hid ho
      have HR1 := hid hr1
      have HL1 := hid L1
      have HG1 := hid G1
      have HB1 := hid B1
      have HZ1 := hid Z1
      have HS := hid S1
      clear ho hr1 L1 G1 B1 Z1 S1
      go_wp2_with fail
      by_cases h8 : out.length = 8
      · have hln := HML.out.trans (if_pos h8)
        refine (takeRoot_full HR1.out HL1.out h0 HG1.out h8).mono ?_
        rintro e w2 ⟨rfl, ho2⟩
        exact ⟨rfl, STOP.out 2 (cs.getD 0 0) w2 (HS1.out _ (HO.out.trans ho2)) hln⟩
      · rw [if_neg h8] at HML
        cases hnp : needP 4 ws cs 1 with
        | error ec =>
          obtain ⟨c, col⟩ := ec
          rw [hnp] at HML
          have hln := HML.out
          dsimp only at hln
          refine (takeRoot_err HR1.out HL1.out hws (by omega) HZ1.out hm hg (by omega) HG1.out (by omega) hnp).mono ?_
          rintro e w2 ⟨rfl, ho2⟩
          exact ⟨rfl, STOP.out c col w2 (HS1.out _ (HO.out.trans ho2)) hln⟩
        | ok p =>
          obtain ⟨n, t'⟩ := p
          rw [hnp] at HML
          have hln := HML.out
          dsimp only at hln
          have hle := needP_le hnp
          have hsz := HS.out
          refine (takeRoot_ok HR1.out HL1.out hws (by omega) HZ1.out hm hg (by omega) HG1.out (by omega) (fun b hb => by have := (HF.out b hb).2; omega) (fun hb => by have := (HF.out _ hb).2; omega) (fun e => HPW.out.2 e.symm) HROW.out (by omega) hnp).mono ?_
          rintro e w2 ⟨rfl, ho2, hr2, mv', cells', F', hg2, hFb, hFs, hsz2⟩
          have hO2 : Only (fun b => (b = bB ∨ b = mB) ∨ eB < b) wr w2 := (HS1.out _ HO.out).trans (ho2.mono (fun b _ hb => by
            rcases hb with hb | hb | hb
            · exact .inr (by omega)
            · exact .inl (.inr hb)
            · exact .inr (by omega)))
          have hB2 : Blk w2 bB [.bool true] 4 := Ln.Blk.only HB1.out ho2 (fun hb => by
            rcases hb with hb | hb | hb
            · exact HPW.out.1 hb.symm
            · exact hbm hb
            · omega)
          have HO2 := hid hO2
          have HB2 := hid hB2
          have HR2 := hid hr2
          have HG2 := hid hg2
          have hFF : ∀ b, F' b → eB + 1 ≤ b ∧ b < w2.heap.size := fun b hb => ⟨by
            rcases hFs b hb with h | h
            · exact (HF.out b h).1
            · omega, hFb b hb⟩
          have HFF := hid hFF
          clear hO2 hB2 hr2 hg2 hFF hFb hFs ho2
          have key : ByIs r ws cs (fun b => (b = bB ∨ b = mB) ∨ eB < b) (manI xs bB mB (eB + 1) (k + 1)) (manD xs) wr (.returned (.tuple #[])) w2 := by
            refine ⟨HO2.out, .inl ⟨t', rfl, HR2.out, ?_⟩⟩
            by_cases hlt : t' < ws.length
            · left
              refine ⟨hlt, ?_⟩
              unfold endW at hln
              rw [if_pos hlt] at hln
              exact man_stop HX.out HE.out (hml.out.trans hln) w2
            · right
              refine ⟨by omega, true, mv', cells', F', out ++ [n], HB2.out, HG2.out, HFF.out, ?_, by simp; omega⟩
              unfold endW at hln
              rw [if_neg hlt] at hln
              exact man_next HX.out HE.out (hml.out.trans hln)
          have KEY := hid key
          clear key hln hle
          go_wp2_with fail
          exact bodyPost_ret (v := .tuple #[]) (by simp [results, Tryz.results91, go_sem]) rfl KEY.out
    · have hln := HML.out.trans (if_pos hW)
      have hW1 : (W == [114, 111, 111, 116]) = false := beq_eq_false_iff_ne.2 hW
      go_enter Tryz.func91, Tryz.ntmps91
      go_wp2_with fail
      refine W1.out.mono ?_
      rintro e w1 ⟨rfl, ho, hr1⟩
      obtain ⟨G1, B1, L1, Z1, S1⟩ := AFT.out w1 ho
      have b0 := B1.cell 0 rfl
      have HO := hid ho
      have HR1 := hid hr1
      have HL1 := hid L1
      clear ho hr1 L1 G1
      go_wp2_with fail
      refine (fail_any HR1.out HL1.out h0 1).mono ?_
      rintro e w2 ⟨rfl, ho2⟩
      exact ⟨rfl, STOP.out 1 (cs.getD 0 0) w2 (HS1.out _ (HO.out.trans ho2)) hln⟩
  | false =>
    rw [if_neg (by simp)] at HML
    by_cases hW : W = manW
    · rw [if_neg (fun h => h hW)] at HML
      subst hW
      have W2 := hid (show Calls Tryz.prog 32 #[.pointer (some ⟨r.p, 0, none⟩)] wr (Has r 1 (.string ⟨#[109, 97, 110, 105, 102, 101, 115, 116]⟩) wr) from W1.out)
      clear W1
      go_enter Tryz.func91, Tryz.ntmps91
      go_wp2_with fail
      refine W2.out.mono ?_
      rintro e w1 ⟨rfl, ho, hr1⟩
      obtain ⟨G1, B1, L1, Z1, S1⟩ := AFT.out w1 ho
      have b0 := B1.cell 0 rfl
      have bf := B1.free
      have bl := B1.lt
      have hln := HML.out
      have key : ByIs r ws cs (fun b => (b = bB ∨ b = mB) ∨ eB < b) (manI xs bB mB (eB + 1) (k + 1)) (manD xs) wr (.returned (.tuple #[])) (w1.setCell ⟨bB, 0, none⟩ (.bool true)) := by
        refine ⟨(HS1.out _ ho).setCell (p := ⟨bB, 0, none⟩) (.inl (.inl rfl)) _, .inl ⟨1, rfl, Blk.other hr1 (a := ⟨bB, 0, none⟩) (fun e => HPW.out.1 e) _, ?_⟩⟩
        by_cases hlt : 1 < ws.length
        · left
          refine ⟨hlt, ?_⟩
          unfold endW at hln
          rw [if_pos hlt] at hln
          exact man_stop HX.out HE.out (hml.out.trans hln) _
        · right
          refine ⟨by omega, true, mv, cells, F, out, B1.set 0 _, G1.kept ((Kept.refl _ _).setCell (p := ⟨bB, 0, none⟩) (fun hb => ?_) _), fun b hb => ?_, ?_, hl8⟩
          · rcases hb with hb | hb | hb
            · exact hbm hb
            · have h1 := (G1.own.lt bB hb).1; omega
            · have h1 := (HF.out bB hb).1; omega
          · have h1 := HF.out b hb
            have h2 : (w1.setCell ⟨bB, 0, none⟩ (.bool true)).heap.size = w1.heap.size := by simp
            rw [h2]; exact ⟨h1.1, by omega⟩
          · unfold endW at hln
            rw [if_neg hlt] at hln
            exact man_next HX.out HE.out (hml.out.trans hln)
      have KEY := hid key
      clear key hln ho hr1 G1 B1 L1 Z1 S1
      go_wp2_with fail
      exact bodyPost_ret (v := .tuple #[]) (by simp [results, Tryz.results91, go_sem]) rfl KEY.out
    · have hln := HML.out.trans (if_pos hW)
      have hW1 : (W == [109, 97, 110, 105, 102, 101, 115, 116]) = false := beq_eq_false_iff_ne.2 hW
      go_enter Tryz.func91, Tryz.ntmps91
      go_wp2_with fail
      refine W1.out.mono ?_
      rintro e w1 ⟨rfl, ho, hr1⟩
      obtain ⟨G1, B1, L1, Z1, S1⟩ := AFT.out w1 ho
      have b0 := B1.cell 0 rfl
      have HO := hid ho
      have HR1 := hid hr1
      have HL1 := hid L1
      clear ho hr1 L1 G1
      go_wp2_with fail
      refine (fail_any HR1.out HL1.out h0 1).mono ?_
      rintro e w2 ⟨rfl, ho2⟩
      exact ⟨rfl, STOP.out 1 (cs.getD 0 0) w2 (HS1.out _ (HO.out.trans ho2)) hln⟩
end Go.Proofs.YtmeaajhongalaaaGreatDoor.Ix

/-
  LAYER 9, PACKAGE manifest: Parse.
-/
namespace Go.Proofs.YtmeaajhongalaaaGreatDoor.Ix
open Go.RowKit
open Go.Proofs.YtmeaajhongalaaaGreatDoor Go.Proofs.YtmeaajhongalaaaGreatDoor.Ln Go.Proofs.YtmeaajhongalaaaGreatDoor.Vs Go.Proofs.YtmeaajhongalaaaGreatDoor.Sp Go.Proofs.YtmeaajhongalaaaGreatDoor.Sf

/-- needs in a slice -/
def NeedsV (w : World) (v : Value) (ns : List NeedS) : Prop :=
  ∃ a cp, v = .slice a ns.length cp ∧ (ns ≠ [] → ∃ G cells, a = some ⟨G, 0, none⟩ ∧ G < w.heap.size ∧ (∀ k x, cells[k]? = some x → w.cell? ⟨G, k, none⟩ = some x) ∧ NeedsF (fun _ => True) w cells ns)
theorem NeedsV.below {w w' : World} {v : Value} {ns : List NeedS} (h : NeedsV w v ns) (hb : Below w.heap.size w w') : NeedsV w' v ns := by
  obtain ⟨a, cp, h1, h2⟩ := h
  refine ⟨a, cp, h1, fun hne => ?_⟩
  obtain ⟨G, cells, h3, h4, h5, h6⟩ := h2 hne
  exact ⟨G, cells, h3, Nat.lt_of_lt_of_le h4 hb.size, fun k x hk => by rw [hb.cell h4]; exact h5 k x hk, h6.kept (Kept.of_below hb)⟩
theorem Grow.v {w : World} {mB base : Nat} {T : TypeId} {F : Nat → Prop} {mv : Value} {cells : List Value} {ns : List NeedS} (h : Grow w mB base T F mv cells ns) : NeedsV w mv ns := by
  obtain ⟨a, c, e⟩ := own_shape h.own
  refine ⟨a, c, e, fun hne => ?_⟩
  obtain ⟨g, c', h1, h2, h3, h4, h5, h6⟩ := ownsRow_any h.own (by intro e; exact hne (List.eq_nil_of_length_eq_zero e))
  rw [h1] at e
  injection e with e1 e2 e3
  exact ⟨g, cells, e1.symm, h3, h6, h.needs.mono (fun _ _ _ => trivial)⟩

def ManIs (o : Except (Nat × Nat × Nat) (List NeedS)) (w : World) (e : Ending) (w' : World) : Prop := Below w.heap.size w w' ∧ match o with
  | .ok ns => ∃ mv, e = .returned (.tuple #[.agg #[mv], .agg #[.int .i64 0, .int .i64 0, .int .i64 0]]) ∧ NeedsV w' mv ns
  | .error (c, no, col) => e = .returned (.tuple #[.agg #[.slice none 0 0], .agg #[.int .i64 (c : Int), .int .i64 (no : Int), .int .i64 (col : Int)]])

theorem takeW_code {p : List UInt8 → Bool} {ws : Words} {cs : List Nat} {t : Nat} {c col : Nat} (h : takeW p ws cs t = .error (c, col)) : c = 1 := by
  unfold takeW at h
  split at h
  · cases h; rfl
  · split at h
    · cases h
    · cases h; rfl
theorem featsP_code {most : Int} {ws : Words} {cs : List Nat} : ∀ (f t : Nat) (fs : Words) {c col : Nat}, featsP most ws cs f t fs = .error (c, col) → 1 ≤ c ∧ c ≤ 3 := by
  intro f
  induction f with
  | zero => intro t fs c col h; cases h
  | succ f ih =>
    intro t fs c col h
    unfold featsP at h
    split at h
    · cases h
    · split at h
      · cases h; omega
      · split at h
        · cases h; omega
        · split at h
          · cases h; omega
          · exact ih _ _ h
theorem needP_code {most : Int} {ws : Words} {cs : List Nat} {t : Nat} {c col : Nat} (h : needP most ws cs t = .error (c, col)) : 1 ≤ c ∧ c ≤ 3 := by
  unfold needP at h
  split at h
  · rename_i e he; cases h; have := takeW_code he; omega
  · split at h
    · rename_i e he; cases h; have := takeW_code he; omega
    · split at h
      · split at h
        · rename_i e he; cases h; exact featsP_code _ _ _ he
        · cases h
      · cases h
theorem endW_code {α : Type} {ws : Words} {cs : List Nat} {t : Nat} {x : α} {c col : Nat} (h : endW ws cs t x = .error (c, col)) : c = 1 := by
  unfold endW at h
  split at h
  · cases h; rfl
  · cases h
theorem manLine_code {b : Bool} {ws : Words} {cs : List Nat} {out : List NeedS} {c col : Nat} (h : manLine b ws cs out = .error (c, col)) : 1 ≤ c ∧ c ≤ 3 := by
  unfold manLine at h
  split at h
  · split at h
    · cases h; omega
    · split at h
      · cases h; omega
      · split at h
        · rename_i e he; cases h; exact needP_code he
        · have := endW_code h; omega
  · split at h
    · cases h; omega
    · have := endW_code h; omega
theorem manGo_code : ∀ (xs : List LineS) (b : Bool) (out : List NeedS) {c no col : Nat}, manGo xs b out = .error (c, no, col) → 1 ≤ c ∧ c ≤ 3 := by
  intro xs
  induction xs with
  | nil => intro b out c no col h; cases h
  | cons x xs ih =>
    intro b out c no col h
    obtain ⟨n, ws, cs⟩ := x
    unfold manGo at h
    split at h
    · rename_i he; cases h; exact manLine_code he
    · exact ih _ _ h

theorem res_four {w1 : World} {R : Nat} {a0 x y z : Value} {T T2 : TypeId} (Y : Blk w1 R [a0] T) (X : Blk w1 (R + 1) [x, y, z] T2) (v c n k : Value) :
    Blk ((((w1.setCell ⟨R, 0, none⟩ v).setCell ⟨R + 1, 0, none⟩ c).setCell ⟨R + 1, 1, none⟩ n).setCell ⟨R + 1, 2, none⟩ k) R [v] T ∧ Blk ((((w1.setCell ⟨R, 0, none⟩ v).setCell ⟨R + 1, 0, none⟩ c).setCell ⟨R + 1, 1, none⟩ n).setCell ⟨R + 1, 2, none⟩ k) (R + 1) [c, n, k] T2 :=
  ⟨(((Y.set 0 v).other (a := ⟨R + 1, 0, none⟩) (by show R ≠ R + 1; omega) c).other (a := ⟨R + 1, 1, none⟩) (by show R ≠ R + 1; omega) n).other (a := ⟨R + 1, 2, none⟩) (by show R ≠ R + 1; omega) k,
   three_cells (X.other (a := ⟨R, 0, none⟩) (by show R + 1 ≠ R; omega) v) c n k⟩
theorem below_four {w w1 : World} {R : Nat} (h : Below w.heap.size w w1) (hR : w.heap.size ≤ R) (v c n k : Value) : Below w.heap.size w ((((w1.setCell ⟨R, 0, none⟩ v).setCell ⟨R + 1, 0, none⟩ c).setCell ⟨R + 1, 1, none⟩ n).setCell ⟨R + 1, 2, none⟩ k) :=
  (((h.setCell (p := ⟨R, 0, none⟩) hR v).setCell (p := ⟨R + 1, 0, none⟩) (Nat.le_succ_of_le hR) c).setCell (p := ⟨R + 1, 1, none⟩) (Nat.le_succ_of_le hR) n).setCell (p := ⟨R + 1, 2, none⟩) (Nat.le_succ_of_le hR) k
theorem kept_four {w1 : World} {R : Nat} {F : Nat → Prop} (hF : ∀ b, F b → R + 1 < b) (v c n k : Value) : Kept F w1 ((((w1.setCell ⟨R, 0, none⟩ v).setCell ⟨R + 1, 0, none⟩ c).setCell ⟨R + 1, 1, none⟩ n).setCell ⟨R + 1, 2, none⟩ k) :=
  ((((Kept.refl _ _).setCell (p := ⟨R, 0, none⟩) (fun h => by have := hF R h; omega) _).setCell (p := ⟨R + 1, 0, none⟩) (fun h => by have := hF (R + 1) h; omega) _).setCell (p := ⟨R + 1, 1, none⟩) (fun h => by have := hF (R + 1) h; omega) _).setCell (p := ⟨R + 1, 2, none⟩) (fun h => by have := hF (R + 1) h; omega) _

set_option maxRecDepth 100000 in
set_option maxHeartbeats 4000000 in
theorem manParse_any (l : List UInt8) (hs : l.length ≤ 140737488355328) (w : World) (hm : MaxAt w) (hg : SignsAt w) :
    Calls Tryz.prog 40 #[.string ⟨l.toArray⟩] w (ManIs (manP l) w) := by
  have HRD := fun w => hid (Read_all l hs w)
  have HP := hid (show manP l = match readS l with
    | .error e => .error e
    | .ok xs => manL xs from rfl)
  have HOK := hid (fun xs (h : readS l = .ok xs) => readS_lines h)
  have HLN := hid (fun xs (h : readS l = .ok xs) => readS_len h)
  have HSM := hid (fun xs (h : readS l = .ok xs) => readS_fits h)
  have HCD := hid (fun c no col (h : readS l = .error (c, no, col)) => readS_codes h)
  generalize manP l = o at HP ⊢
  generalize readS l = rr at HRD HP HOK HLN HSM HCD
  unfold ReadIs at HRD
  have hb0 := below_alloc (below_alloc (Below.refl w.heap.size w) (.cells #[.slice none 0 0] 96)) (.cells #[.int .i64 0, .int .i64 0, .int .i64 0] 87)
  have E1 : (w.alloc (.cells #[.slice none 0 0] 96)).heap.size = w.heap.size + 1 := by simp
  have hR1 := (Blk.new w [.slice none 0 0] 96).alloc (.cells #[.int .i64 0, .int .i64 0, .int .i64 0] 87)
  have hR2 := Blk.new (w.alloc (.cells #[.slice none 0 0] 96)) [.int .i64 0, .int .i64 0, .int .i64 0] 87
  rw [E1] at hR2
  have HB0 := hid hb0
  have HR1 := hid hR1
  have HR2 := hid hR2
  clear hb0 E1 hR1 hR2 hs
  go_enter Tryz.func40, Tryz.ntmps40
  go_wp2_with fail
  generalize (w.alloc (.cells #[.slice none 0 0] 96)).alloc (.cells #[.int .i64 0, .int .i64 0, .int .i64 0] 87) = w0 at HB0 HR1 HR2 ⊢
  change Hid (Blk w0 w.heap.size [.slice none 0 0] 96) at HR1
  change Hid (Blk w0 (w.heap.size + 1) [.int .i64 0, .int .i64 0, .int .i64 0] 87) at HR2
  refine (HRD w0).out.mono ?_
  rintro e w1 ⟨hb1, hcase⟩
  have Z1 := hid (below_trans HB0.out hb1)
  have Y1 := hid (HR1.out.below hb1)
  have X1 := hid (HR2.out.below hb1)
  cases rr with
  | error ec =>
    obtain ⟨c, no, col⟩ := ec
    obtain rfl := hcase
    have hc := HCD.out c no col rfl
    have HO := hid HP.out
    clear HP HCD HLN HSM HOK HRD
    have hcn : ((c : Int) != 0) = true := by rcases hc with rfl | rfl <;> rfl
    have hF := Blk.new w1 [.int .i64 (c : Int), .int .i64 (no : Int), .int .i64 (col : Int)] 87
    have f0 := hF.cell 0 rfl
    have f1 := hF.cell 1 rfl
    have f2 := hF.cell 2 rfl
    have y0 := Y1.out.cell 0 rfl
    have yf := Y1.out.free
    have x0 := X1.out.cell 0 rfl
    have x1 := X1.out.cell 1 rfl
    have x2 := X1.out.cell 2 rfl
    have xf := X1.out.free
    have yl := Y1.out.lt
    have xl := X1.out.lt
    go_wp2_with fail
    go_region
    all_goals
      go_wp2_with fail
      obtain ⟨p1, p2⟩ := res_four Y1.out X1.out (.slice none 0 0) (.int .i64 (c : Int)) (.int .i64 (no : Int)) (.int .i64 (col : Int))
      have m0 := (p1.alloc (.cells #[.int .i64 (c : Int), .int .i64 (no : Int), .int .i64 (col : Int)] 87)).cell 0 rfl
      have q0 := (p2.alloc (.cells #[.int .i64 (c : Int), .int .i64 (no : Int), .int .i64 (col : Int)] 87)).cell 0 rfl
      have q1 := (p2.alloc (.cells #[.int .i64 (c : Int), .int .i64 (no : Int), .int .i64 (col : Int)] 87)).cell 1 rfl
      have q2 := (p2.alloc (.cells #[.int .i64 (c : Int), .int .i64 (no : Int), .int .i64 (col : Int)] 87)).cell 2 rfl
      have hB := (below_alloc (below_four Z1.out (Nat.le_refl _) (.slice none 0 0) (.int .i64 (c : Int)) (.int .i64 (no : Int)) (.int .i64 (col : Int))) (.cells #[.int .i64 (c : Int), .int .i64 (no : Int), .int .i64 (col : Int)] 87)).drew
      refine bodyPost_ret (v := .tuple #[.agg #[.slice none 0 0], .agg #[.int .i64 (c : Int), .int .i64 (no : Int), .int .i64 (col : Int)]]) (by simp [results, Tryz.results40, go_sem, m0, q0, q1, q2]) rfl ?_
      rw [HO.out]
      exact ⟨hB, rfl⟩
  | ok xs =>
    obtain ⟨v, rfl, cells, hown, hrow⟩ := hcase
    have hX := hid (HOK.out xs rfl)
    have hN := hid (HLN.out xs rfl)
    have hl2 := hid (HSM.out xs rfl)
    have HO := hid (show o = manL xs from HP.out)
    clear HP HCD HLN HSM HOK HRD
    by_cases hxs : xs = []
    · subst hxs
      obtain ⟨a, c, rfl⟩ := own_shape hown
      have HO' := hid (show o = .error (1, 0, 0) from HO.out)
      have y0 := Y1.out.cell 0 rfl
      have yf := Y1.out.free
      have x0 := X1.out.cell 0 rfl
      have x1 := X1.out.cell 1 rfl
      have x2 := X1.out.cell 2 rfl
      have xf := X1.out.free
      have yl := Y1.out.lt
      have xl := X1.out.lt
      have hF := Blk.new w1 [.int .i64 0, .int .i64 0, .int .i64 0] 87
      have f0 := hF.cell 0 rfl
      clear hown hrow
      go_wp2_with fail
      obtain ⟨p1, p2⟩ := res_four Y1.out X1.out (.slice none 0 0) (.int .i64 1) (.int .i64 0) (.int .i64 0)
      have m0 := (p1.alloc (.cells #[.int .i64 0, .int .i64 0, .int .i64 0] 87)).cell 0 rfl
      have q0 := (p2.alloc (.cells #[.int .i64 0, .int .i64 0, .int .i64 0] 87)).cell 0 rfl
      have q1 := (p2.alloc (.cells #[.int .i64 0, .int .i64 0, .int .i64 0] 87)).cell 1 rfl
      have q2 := (p2.alloc (.cells #[.int .i64 0, .int .i64 0, .int .i64 0] 87)).cell 2 rfl
      have hB := below_alloc (below_four Z1.out (Nat.le_refl _) (.slice none 0 0) (.int .i64 1) (.int .i64 0) (.int .i64 0)) (.cells #[.int .i64 0, .int .i64 0, .int .i64 0] 87)
      refine bodyPost_ret (v := .tuple #[.agg #[.slice none 0 0], .agg #[.int .i64 1, .int .i64 0, .int .i64 0]]) (by simp [results, Tryz.results40, go_sem, m0, q0, q1, q2]) rfl ?_
      rw [HO'.out]
      exact ⟨hB, rfl⟩
    · have HO' := hid (show o = manGo xs false [] from by rw [HO.out]; unfold manL; rw [if_neg hxs])
      have hne0 : xs.length ≠ 0 := fun e => hxs (List.eq_nil_of_length_eq_zero e)
      obtain ⟨g, cp, rfl, hg1, hg2, _, _, _⟩ := ownsRow_any hown hne0
      have hnl : ((xs.length : Int) == 0) = false := by simp; exact hxs
      have hnl2 : ¬ (xs.length : Int) = 0 := by omega
      have hmf : ∀ (fn : Fn) (first cap : Array Value) (w : World), (Instr.makeFunc fn first cap).run Tryz.prog w = .ok (.func fn first cap) w := fun _ _ _ _ => rfl
      have hF := hid (Blk.new w1 [.int .i64 0, .int .i64 0, .int .i64 0] 87)
      have f0 := hF.out.cell 0 rfl
      have eF : (w1.alloc (.cells #[.int .i64 0, .int .i64 0, .int .i64 0] 87)).heap.size = w1.heap.size + 1 := by simp
      have eM : ((w1.alloc (.cells #[.int .i64 0, .int .i64 0, .int .i64 0] 87)).alloc (.cells #[.slice none 0 0] 96)).heap.size = w1.heap.size + 1 + 1 := by simp
      have eB : (((w1.alloc (.cells #[.int .i64 0, .int .i64 0, .int .i64 0] 87)).alloc (.cells #[.slice none 0 0] 96)).alloc (.cells #[.bool false] 4)).heap.size = w1.heap.size + 1 + 1 + 1 := by simp
      have BM := (Blk.new (w1.alloc (.cells #[.int .i64 0, .int .i64 0, .int .i64 0] 87)) [.slice none 0 0] 96).alloc (.cells #[.bool false] 4)
      have BB := Blk.new ((w1.alloc (.cells #[.int .i64 0, .int .i64 0, .int .i64 0] 87)).alloc (.cells #[.slice none 0 0] 96)) [.bool false] 4
      have BW := below_alloc (below_alloc (below_alloc (Below.refl w1.heap.size w1) (.cells #[.int .i64 0, .int .i64 0, .int .i64 0] 87)) (.cells #[.slice none 0 0] 96)) (.cells #[.bool false] 4)
      have BF := (hF.out.alloc (.cells #[.slice none 0 0] 96)).alloc (.cells #[.bool false] 4)
      rw [eF] at BM
      rw [eM] at BB
      replace BM := hid BM
      replace BB := hid BB
      replace BW := hid BW
      replace BF := hid BF
      replace eB := hid eB
      clear eF eM
      have HOWN := hid hown
      have HROW := hid hrow
      have HG1 := hid hg1
      have HNE := hid hxs
      clear hown hrow hg1 hg2 hxs hne0
      go_wp2_with fail
      generalize ((w1.alloc (.cells #[.int .i64 0, .int .i64 0, .int .i64 0] 87)).alloc (.cells #[.slice none 0 0] 96)).alloc (.cells #[.bool false] 4) = W at eB BM BB BW BF ⊢
      change Hid (Blk W (w1.heap.size + 1) [.slice none 0 0] 96) at BM
      change Hid (Blk W (w1.heap.size + 1 + 1) [.bool false] 4) at BB
      change Hid (Blk W w1.heap.size [.int .i64 0, .int .i64 0, .int .i64 0] 87) at BF
      clear hF f0
      have hzw := Z1.out.size
      have hzW := eB.out
      have hFn : ∀ (args : Array Value) (w : World), (callFunc 91 args).run Tryz.prog w = .ok (.enter 91 args) w := fun _ _ => by simp [go_sem]
      have EB := hid (each_over 91 hFn #[.pointer (some ⟨w1.heap.size + 1 + 1, 0, none⟩), .pointer (some ⟨w1.heap.size + 1, 0, none⟩)] xs (by have := hN.out; have := hl2.out; omega)
        (fun x hx => by have := hX.out x hx; exact ⟨by have := this.2.2.1; omega, this.2.2.2.1, this.2.1⟩) g cp W w1 BW.out w0.heap.size cells HOWN.out HROW.out
        (fun b => b = w1.heap.size + 1 + 1 ∨ b = w1.heap.size + 1) (fun b hb => by rw [hzW]; rcases hb with rfl | rfl <;> omega)
        (manI xs (w1.heap.size + 1 + 1) (w1.heap.size + 1) (W.heap.size + 1)) (manD xs)
        ⟨false, .slice none 0 0, [], fun _ => False, [], BB.out, ⟨BM.out, World.ownsRow_nil _ _ _ _, NeedsF.nil _ _, fun _ _ h => h, fun h => h, by rw [hzW]; omega⟩, fun b h => h.elim, by rw [List.drop_zero], Nat.zero_le _⟩
        (fun k wa wb ho h => manI_only h ho (by rw [hzW]; omega) (by rw [hzW]; omega) (by omega))
        (fun f wa wb _ h => h)
        (fun k x r wx hxk hno hea hpl hsr hr hl' hwb hcb hI ho => manBy_any xs (fun x hx => hX.out x hx) hm hg (w1.heap.size + 1 + 1) (w1.heap.size + 1) W.heap.size (by omega) (by rw [hzW]; omega) (by rw [hzW]; omega) k x r wx hxk hno hpl hsr hr hl'
          ((Z1.out.trans (BW.out.mono hzw)).trans (ho.below (by rw [hzW]; omega) (fun b hb hc => by rcases hc with (hc | hc) | hc <;> omega))) (by rw [hzW]; omega) hI))
      clear hmf hFn
      refine EB.out.mono ?_
      rintro e w2 ⟨c, lno, col, rfl, ho, hcase⟩
      have BF2 := hid (Ln.Blk.only BF.out ho (fun h => by rcases h with (h | h) | h <;> omega))
      have Y2 := hid (Ln.Blk.only (Y1.out.below BW.out) ho (fun h => by have := Y1.out.lt; rcases h with (h | h) | h <;> omega))
      have X2 := hid (Ln.Blk.only (X1.out.below BW.out) ho (fun h => by have := X1.out.lt; rcases h with (h | h) | h <;> omega))
      have hXl := X1.out.lt
      have Z2 := hid ((Z1.out.trans (BW.out.mono hzw)).trans (ho.below (by rw [hzW]; omega) (fun b hb hc => by rcases hc with (hc | hc) | hc <;> omega)))
      clear EB ho
      have f0 := BF2.out.cell 0 rfl
      have f1 := BF2.out.cell 1 rfl
      have f2 := BF2.out.cell 2 rfl
      have ff := BF2.out.free
      have fl := BF2.out.lt
      have y0 := Y2.out.cell 0 rfl
      have yf := Y2.out.free
      have x0 := X2.out.cell 0 rfl
      have x1 := X2.out.cell 1 rfl
      have x2 := X2.out.cell 2 rfl
      have xf := X2.out.free
      have hyl : w.heap.size ≠ w1.heap.size := by omega
      have hxl : w.heap.size + 1 ≠ w1.heap.size := by omega
      rcases hcase with ⟨rfl, rfl, rfl, hI⟩ | hD
      · obtain ⟨begun, mv, cls, F, out, _, hgr, hF, he, _⟩ := hI
        rw [List.drop_length] at he
        have HO2 := hid (show o = .ok out from HO'.out.trans he)
        have m0 := hgr.blk.cell 0 rfl
        have HGR := hid hgr
        have HF := hid hF
        obtain ⟨ma, mn, mc, rfl⟩ : ∃ a n c, mv = .slice a n c := by obtain ⟨a, c, e⟩ := own_shape hgr.own; exact ⟨_, _, _, e⟩
        clear hgr hF he
        go_wp2_with fail
        have Y3 := ((Y2.out.other (a := ⟨w1.heap.size, 0, none⟩) hyl (.int .i64 0)).other (a := ⟨w1.heap.size, 1, none⟩) hyl (.int .i64 0)).other (a := ⟨w1.heap.size, 2, none⟩) hyl (.int .i64 0)
        have X3 := ((X2.out.other (a := ⟨w1.heap.size, 0, none⟩) hxl (.int .i64 0)).other (a := ⟨w1.heap.size, 1, none⟩) hxl (.int .i64 0)).other (a := ⟨w1.heap.size, 2, none⟩) hxl (.int .i64 0)
        obtain ⟨p1, p2⟩ := res_four Y3 X3 (.slice ma mn mc) (.int .i64 0) (.int .i64 0) (.int .i64 0)
        have m0 := p1.cell 0 rfl
        have q0 := p2.cell 0 rfl
        have q1 := p2.cell 1 rfl
        have q2 := p2.cell 2 rfl
        have hB := below_four (R := w.heap.size) (((Z2.out.setCell (p := ⟨w1.heap.size, 0, none⟩) hzw (.int .i64 0)).setCell (p := ⟨w1.heap.size, 1, none⟩) hzw (.int .i64 0)).setCell (p := ⟨w1.heap.size, 2, none⟩) hzw (.int .i64 0)) (Nat.le_refl _) (.slice ma mn mc) (.int .i64 0) (.int .i64 0) (.int .i64 0)
        refine bodyPost_ret (v := .tuple #[.agg #[.slice ma mn mc], .agg #[.int .i64 0, .int .i64 0, .int .i64 0]]) (by simp [results, Tryz.results40, go_sem, m0, q0, q1, q2]) rfl ?_
        rw [HO2.out]
        refine ⟨hB, _, rfl, (HGR.out.kept (Kept.trans ((((Kept.refl _ _).setCell (p := ⟨w1.heap.size, 0, none⟩) ?_ _).setCell (p := ⟨w1.heap.size, 1, none⟩) ?_ _).setCell (p := ⟨w1.heap.size, 2, none⟩) ?_ _) (kept_four ?_ _ _ _ _))).v⟩
        · intro h
          rcases h with h | h | h
          · have h : w1.heap.size = w1.heap.size + 1 := h
            omega
          · have h1 : W.heap.size + 1 ≤ w1.heap.size := (HGR.out.own.lt _ h).1
            omega
          · have h1 : W.heap.size + 1 ≤ w1.heap.size := (HF.out _ h).1
            omega
        · intro h
          rcases h with h | h | h
          · have h : w1.heap.size = w1.heap.size + 1 := h
            omega
          · have h1 : W.heap.size + 1 ≤ w1.heap.size := (HGR.out.own.lt _ h).1
            omega
          · have h1 : W.heap.size + 1 ≤ w1.heap.size := (HF.out _ h).1
            omega
        · intro h
          rcases h with h | h | h
          · have h : w1.heap.size = w1.heap.size + 1 := h
            omega
          · have h1 : W.heap.size + 1 ≤ w1.heap.size := (HGR.out.own.lt _ h).1
            omega
          · have h1 : W.heap.size + 1 ≤ w1.heap.size := (HF.out _ h).1
            omega
        · intro b h
          rcases h with h | h | h
          · omega
          · have := (HGR.out.own.lt _ h).1; omega
          · have := (HF.out _ h).1; omega
      · obtain ⟨c', no', col', heq, herr⟩ := hD
        injection heq with e1 e2 e3
        subst e1
        subst e2
        subst e3
        have hcc := manGo_code xs false [] herr
        have hcn : ((c' : Int) != 0) = true := by simp; omega
        have HO2 := hid (HO'.out.trans herr)
        clear herr
        go_wp2_with fail
        go_region
        all_goals
          go_wp2_with fail
          have Y3 := ((Y2.out.other (a := ⟨w1.heap.size, 0, none⟩) hyl (.int .i64 (c' : Int))).other (a := ⟨w1.heap.size, 1, none⟩) hyl (.int .i64 (no' : Int))).other (a := ⟨w1.heap.size, 2, none⟩) hyl (.int .i64 (col' : Int))
          have X3 := ((X2.out.other (a := ⟨w1.heap.size, 0, none⟩) hxl (.int .i64 (c' : Int))).other (a := ⟨w1.heap.size, 1, none⟩) hxl (.int .i64 (no' : Int))).other (a := ⟨w1.heap.size, 2, none⟩) hxl (.int .i64 (col' : Int))
          obtain ⟨p1, p2⟩ := res_four Y3 X3 (.slice none 0 0) (.int .i64 (c' : Int)) (.int .i64 (no' : Int)) (.int .i64 (col' : Int))
          have m0 := p1.cell 0 rfl
          have q0 := p2.cell 0 rfl
          have q1 := p2.cell 1 rfl
          have q2 := p2.cell 2 rfl
          have hB := (below_four (R := w.heap.size) (((Z2.out.setCell (p := ⟨w1.heap.size, 0, none⟩) hzw (.int .i64 (c' : Int))).setCell (p := ⟨w1.heap.size, 1, none⟩) hzw (.int .i64 (no' : Int))).setCell (p := ⟨w1.heap.size, 2, none⟩) hzw (.int .i64 (col' : Int))) (Nat.le_refl _) (.slice none 0 0) (.int .i64 (c' : Int)) (.int .i64 (no' : Int)) (.int .i64 (col' : Int))).drew
          refine bodyPost_ret (v := .tuple #[.agg #[.slice none 0 0], .agg #[.int .i64 (c' : Int), .int .i64 (no' : Int), .int .i64 (col' : Int)]]) (by simp [results, Tryz.results40, go_sem, m0, q0, q1, q2]) rfl ?_
          rw [HO2.out]
          exact ⟨hB, rfl⟩
end Go.Proofs.YtmeaajhongalaaaGreatDoor.Ix

/-
  LAYER 9: the statements' own example.
-/
namespace Go.Proofs.YtmeaajhongalaaaGreatDoor.Ix
open Go.RowKit
open Go.Proofs.YtmeaajhongalaaaGreatDoor Go.Proofs.YtmeaajhongalaaaGreatDoor.Ln Go.Proofs.YtmeaajhongalaaaGreatDoor.Vs Go.Proofs.YtmeaajhongalaaaGreatDoor.Sp Go.Proofs.YtmeaajhongalaaaGreatDoor.Sf

def wantT : List UInt8 := [109, 97, 110, 105, 102, 101, 115, 116, 10, 114, 111, 111, 116, 32, 97, 112, 112, 32, 94, 49, 46, 48, 46, 48, 32, 116, 108, 115, 10]
def wantU : List UInt8 := [114, 111, 111, 116, 32, 97, 112, 112, 32, 42, 10]
def wantN : NeedS := ⟨[97, 112, 112], [94, 49, 46, 48, 46, 48], [[116, 108, 115]]⟩
theorem want_one : manP wantT = .ok [wantN] := by kernel_rfl
theorem want_two : manP wantU = .error (1, 1, 1) := by kernel_rfl

/-- a law comes to true, and makes memory of its own at most -/
def LawOk (w : World) (e : Ending) (w' : World) : Prop := e = .returned (.bool true) ∧ Below w.heap.size w w'
/-- Parse of a text that is a manifest, and of one that is none -/
def ManYes (ns : List NeedS) (w : World) (e : Ending) (w' : World) : Prop := ∃ a cp, e = .returned (.tuple #[.agg #[.slice a ns.length cp], .agg #[.int .i64 0, .int .i64 0, .int .i64 0]]) ∧ Below w.heap.size w w' ∧ NeedsV w' (.slice a ns.length cp) ns
def ManNo (c no col : Nat) (w : World) (e : Ending) (w' : World) : Prop := e = .returned (.tuple #[.agg #[.slice none 0 0], .agg #[.int .i64 (c : Int), .int .i64 (no : Int), .int .i64 (col : Int)]]) ∧ Below w.heap.size w w'
theorem manParse_yes {l : List UInt8} {ns : List NeedS} (h : manP l = .ok ns) (hs : l.length ≤ 140737488355328) (w : World) (hm : MaxAt w) (hg : SignsAt w) : Calls Tryz.prog 40 #[.string ⟨l.toArray⟩] w (ManYes ns w) :=
  (manParse_any l hs w hm hg).mono fun e w' ⟨hb, hc⟩ => by
    rw [h] at hc
    obtain ⟨mv, he, hv⟩ := hc
    obtain ⟨a, cp, rfl, h2⟩ := hv
    exact ⟨a, cp, he, hb, a, cp, rfl, h2⟩
theorem manParse_no {l : List UInt8} {c no col : Nat} (h : manP l = .error (c, no, col)) (hs : l.length ≤ 140737488355328) (w : World) (hm : MaxAt w) (hg : SignsAt w) : Calls Tryz.prog 40 #[.string ⟨l.toArray⟩] w (ManNo c no col w) :=
  (manParse_any l hs w hm hg).mono fun e w' ⟨hb, hc⟩ => by
    rw [h] at hc
    exact ⟨hc, hb⟩

set_option maxRecDepth 100000 in
set_option maxHeartbeats 4000000 in
theorem wanted_any (w : World) (hm : MaxAt w) (hg : SignsAt w) : Calls Tryz.prog 35 #[] w (LawOk w) := by
  have C1 := hid (fun w hm hg => show Calls Tryz.prog 40 #[.string ⟨#[109, 97, 110, 105, 102, 101, 115, 116, 10, 114, 111, 111, 116, 32, 97, 112, 112, 32, 94, 49, 46, 48, 46, 48, 32, 116, 108, 115, 10]⟩] w (ManYes [wantN] w) from manParse_yes want_one (by decide) w hm hg)
  have C2 := hid (fun w hm hg => show Calls Tryz.prog 40 #[.string ⟨#[114, 111, 111, 116, 32, 97, 112, 112, 32, 42, 10]⟩] w (ManNo 1 1 1 w) from manParse_no want_two (by decide) w hm hg)
  unfold ManYes at C1
  unfold ManNo at C2
  go_enter Tryz.func35, Tryz.ntmps35
  go_wp2_with fail
  refine (C1.out w hm hg).mono ?_
  rintro e w1 ⟨a, cp, rfl, hb1, hv⟩
  obtain ⟨a', cp', he, hne⟩ := hv
  injection he with e1 e2 e3
  subst e1
  subst e3
  obtain ⟨G, cells, rfl, hG, hc, hN⟩ := hne (by simp)
  obtain ⟨n0, r0, f0, h0, h1, h2, hnm, hrg, hft⟩ := hN.2 0 wantN rfl
  subst hnm
  obtain ⟨fa, fcp, rfl, _, _, hfs⟩ := hft
  obtain ⟨FB, rfl, hFB, _, hfc⟩ := hfs (by simp [wantN])
  have g0 := hc 0 _ h0
  have g2 := hc 2 _ h2
  have k0 := hfc 0 (by decide)
  have z1 := hid (below_alloc (below_alloc hb1 (.cells #[.slice (some ⟨G, 0, none⟩) 1 cp] 96)) (.cells #[.int .i64 0, .int .i64 0, .int .i64 0] 87))
  have y1 := hid (below_alloc (below_alloc (Below.refl w1.heap.size w1) (.cells #[.slice (some ⟨G, 0, none⟩) 1 cp] 96)) (.cells #[.int .i64 0, .int .i64 0, .int .i64 0] 87))
  have eM : (w1.alloc (.cells #[.slice (some ⟨G, 0, none⟩) 1 cp] 96)).heap.size = w1.heap.size + 1 := by simp
  have m1 := (Blk.new w1 [.slice (some ⟨G, 0, none⟩) 1 cp] 96).alloc (.cells #[.int .i64 0, .int .i64 0, .int .i64 0] 87)
  have f1 := Blk.new (w1.alloc (.cells #[.slice (some ⟨G, 0, none⟩) 1 cp] 96)) [.int .i64 0, .int .i64 0, .int .i64 0] 87
  rw [eM] at f1
  replace g0 := hid (bcell y1.out g0)
  replace g2 := hid (bcell y1.out g2)
  replace k0 := hid (bcell y1.out k0)
  replace m1 := hid m1
  replace f1 := hid f1
  clear hb1 y1 eM h0 h1 h2 hc hN hrg hfs hfc hne hG hFB
  go_wp2_with fail
  generalize (w1.alloc (.cells #[.slice (some ⟨G, 0, none⟩) 1 cp] 96)).alloc (.cells #[.int .i64 0, .int .i64 0, .int .i64 0] 87) = W1 at z1 m1 f1 g0 g2 k0 ⊢
  change Hid (Blk W1 w1.heap.size [.slice (some ⟨G, 0, none⟩) 1 cp] 96) at m1
  change Hid (Blk W1 (w1.heap.size + 1) [.int .i64 0, .int .i64 0, .int .i64 0] 87) at f1
  generalize w1.heap.size = b1 at m1 f1 ⊢
  refine (C2.out W1 (hm.below z1.out) (hg.below z1.out)).mono ?_
  rintro e w2 ⟨rfl, hb2⟩
  have z2 := hid (below_trans z1.out hb2)
  have m2 := m1.out.below hb2
  have f2 := f1.out.below hb2
  have p0 := m2.cell 0 rfl
  have p1 := m2.lt
  have q0 := f2.cell 0 rfl
  have q1 := f2.cell 1 rfl
  have q2 := f2.cell 2 rfl
  have q3 := f2.lt
  have g02 := bcell hb2 g0.out
  have g22 := bcell hb2 g2.out
  have gl := World.block_lt_of_cell? w2 _ g02
  have k02 := hid (bcell hb2 k0.out)
  have kl := hid (World.block_lt_of_cell? w2 _ k02.out)
  clear m2 f2 hb2 m1 f1 g0 g2 k0 z1 C1 C2
  change w2.cell? ⟨G, 0, none⟩ = some (.string ⟨#[97, 112, 112]⟩) at g02
  change w2.cell? ⟨G, 2, none⟩ = some (.slice (some ⟨FB, 0, none⟩) 1 fcp) at g22
  change Hid (w2.cell? ⟨FB, 0, none⟩ = some (.string ⟨#[116, 108, 115]⟩)) at k02
  have e1 : (w2.alloc (.cells #[.slice none 0 0] 96)).heap.size = w2.heap.size + 1 := by simp
  have e2 : ((w2.alloc (.cells #[.slice none 0 0] 96)).alloc (.cells #[.int .i64 1, .int .i64 1, .int .i64 1] 87)).heap.size = w2.heap.size + 1 + 1 := by simp
  have n1 := (Blk.new (w2.alloc (.cells #[.slice none 0 0] 96)) [.int .i64 1, .int .i64 1, .int .i64 1] 87).alloc (.cells #[.string ⟨#[116, 108, 115]⟩] 9)
  have r2 := rowIs_new ((w2.alloc (.cells #[.slice none 0 0] 96)).alloc (.cells #[.int .i64 1, .int .i64 1, .int .i64 1] 87)) [.string ⟨#[116, 108, 115]⟩] 9 _ e2.symm
  rw [e1] at n1
  have z3 := hid (below_alloc (below_alloc (below_alloc z2.out (.cells #[.slice none 0 0] 96)) (.cells #[.int .i64 1, .int .i64 1, .int .i64 1] 87)) (.cells #[.string ⟨#[116, 108, 115]⟩] 9))
  have y3 := below_alloc (below_alloc (below_alloc (Below.refl w2.heap.size w2) (.cells #[.slice none 0 0] 96)) (.cells #[.int .i64 1, .int .i64 1, .int .i64 1] 87)) (.cells #[.string ⟨#[116, 108, 115]⟩] 9)
  have r1 : RowIs (((w2.alloc (.cells #[.slice none 0 0] 96)).alloc (.cells #[.int .i64 1, .int .i64 1, .int .i64 1] 87)).alloc (.cells #[.string ⟨#[116, 108, 115]⟩] 9)) (.slice (some ⟨FB, 0, none⟩) 1 fcp) (Ln.strs [[116, 108, 115]]) :=
    .inr ⟨FB, 0, fcp, rfl, fun k x hk => by
      cases k with
      | zero => cases hk; exact bcell y3 k02.out
      | succ k => cases hk⟩
  have TX := hid (texts_eq [[116, 108, 115]] (by decide) _ _ _ r1 r2)
  replace n1 := hid n1
  clear e1 e2 r1 r2 y3
  go_wp2_with fail
  generalize ((w2.alloc (.cells #[.slice none 0 0] 96)).alloc (.cells #[.int .i64 1, .int .i64 1, .int .i64 1] 87)).alloc (.cells #[.string ⟨#[116, 108, 115]⟩] 9) = W3 at z3 n1 TX ⊢
  refine (show Calls Tryz.prog 89 #[.slice (some ⟨FB, 0, none⟩) 1 fcp, .slice (some ⟨w2.heap.size + 1 + 1, 0, none⟩) 1 1] W3 (TrueQ W3) from TX.out).mono ?_
  rintro e w4 ⟨rfl, m, rfl⟩
  have n1' : Blk (W3.drewN m) (w2.heap.size + 1) [.int .i64 1, .int .i64 1, .int .i64 1] 87 := n1.out
  have x0 := n1'.cell 0 rfl
  have x1 := n1'.cell 1 rfl
  have x2 := n1'.cell 2 rfl
  go_wp2_with fail
  go_ret
  exact ⟨rfl, below_drewN' z3.out m⟩
end Go.Proofs.YtmeaajhongalaaaGreatDoor.Ix
