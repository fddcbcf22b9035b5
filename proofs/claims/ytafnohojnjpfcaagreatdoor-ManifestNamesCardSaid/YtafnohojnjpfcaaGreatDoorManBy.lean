/-
  LAYER 9, PACKAGE manifest: what Parse hands to Each.
-/
import Derived.Test.YtafnohojnjpfcaaGreatDoorIC
import Derived.Test.YtafnohojnjpfcaaGreatDoorLinesEach4
import Derived.Test.YtafnohojnjpfcaaGreatDoorIB
namespace Go.Proofs.YtafnohojnjpfcaaGreatDoor.Ix
open Go.RowKit
open Go.Proofs.YtafnohojnjpfcaaGreatDoor Go.Proofs.YtafnohojnjpfcaaGreatDoor.Ln Go.Proofs.YtafnohojnjpfcaaGreatDoor.Vs Go.Proofs.YtafnohojnjpfcaaGreatDoor.Sp Go.Proofs.YtafnohojnjpfcaaGreatDoor.Sf

/-- what holds ahead of line k -/
def manI (xs : List LineS) (bB mB base : Nat) (k : Nat) (w : World) : Prop :=
  ∃ begun mv cells F out, Blk w bB [.bool begun] 4 ∧ Grow w mB base 106 F mv cells out ∧ (∀ b, F b → base ≤ b ∧ b < w.heap.size) ∧ manGo xs false [] = manGo (xs.drop k) begun out ∧ out.length ≤ 8
/-- what holds where it ends -/
def manD (xs : List LineS) (f : Flt) (_ : World) : Prop := ∃ c no col : Nat, f = ⟨(c : Int), (no : Int), (col : Int)⟩ ∧ manGo xs false [] = .error (c, no, col)

theorem manI_only {xs : List LineS} {bB mB base k eB : Nat} {w1 w2 : World} (h : manI xs bB mB base k w1) (ho : Only (· = eB) w1 w2) (h1 : bB ≠ eB) (h2 : mB ≠ eB) (h3 : eB < base) : manI xs bB mB base k w2 := by
  obtain ⟨begun, mv, cells, F, out, hb, hg, hF, he, hl⟩ := h
  refine ⟨begun, mv, cells, F, out, Ln.Blk.only hb ho h1, hg.only ho h2 (fun b hb e => ?_) (fun b _ hb e => ?_), fun b hb => ⟨(hF b hb).1, Nat.lt_of_lt_of_le (hF b hb).2 ho.size⟩, he, hl⟩
  · have := (hg.own.lt b hb).1; omega
  · have := (hF b hb).1; omega

theorem needP_le {most : Int} {ws : Words} {cs : List Nat} {t t' : Nat} {n : NeedS} (h : needP most ws cs t = .ok (n, t')) : t' ≤ ws.length := by
  unfold needP at h
  cases h1 : takeW Nm.checkV ws cs t with
  | error e => rw [h1] at h; cases h
  | ok nm =>
    rw [h1] at h
    dsimp only at h
    cases h2 : takeW isRng ws cs (t + 1) with
    | error e => rw [h2] at h; cases h
    | ok rg =>
      rw [h2] at h
      dsimp only at h
      obtain ⟨hl, _⟩ := takeW_ok h2
      by_cases hm : 0 < most
      · rw [if_pos hm] at h
        cases h3 : featsP most ws cs (ws.length - (t + 2)) (t + 2) [] with
        | error e => rw [h3] at h; cases h
        | ok fs => rw [h3] at h; cases h; exact Nat.le_refl _
      · rw [if_neg hm] at h; cases h; omega

theorem man_stop {xs : List LineS} {k no : Nat} {ws : Words} {cs : List Nat} {begun : Bool} {out : List NeedS} {c col : Nat} (hx : xs[k]? = some (no, ws, cs)) (he : manGo xs false [] = manGo (xs.drop k) begun out) (hl : manLine begun ws cs out = .error (c, col)) (w : World) : manD xs ⟨(c : Int), (no : Int), (col : Int)⟩ w :=
  ⟨c, no, col, rfl, by rw [he, manGo_step hx, hl]⟩
theorem man_next {xs : List LineS} {k no : Nat} {ws : Words} {cs : List Nat} {begun : Bool} {out out' : List NeedS} (hx : xs[k]? = some (no, ws, cs)) (he : manGo xs false [] = manGo (xs.drop k) begun out) (hl : manLine begun ws cs out = .ok out') : manGo xs false [] = manGo (xs.drop (k + 1)) true out' := by
  rw [he, manGo_step hx, hl]

set_option maxRecDepth 100000 in
set_option maxHeartbeats 4000000 in
theorem manBy_any (xs : List LineS) (hok : ∀ x, x ∈ xs → LineOk x) {w0 : World} (hm : MaxAt w0) (hg : SignsAt w0) (bB mB eB : Nat) (hbm : bB ≠ mB) (hbe : bB < eB) (hme : mB < eB) (k : Nat) (x : LineS) (r : Rd) (wr : World) (hxk : xs[k]? = some x) (hno : r.no = x.1) (hp : eB < r.p) (hsr : wr.heap.size = r.p + 1) (hr : RdAt wr r 0) (hl : RdL wr r x.2.1 x.2.2) (hb0 : Below w0.heap.size w0 wr) (h0e : w0.heap.size ≤ eB)
    (hI : ∃ wq, manI xs bB mB (eB + 1) k wq ∧ wq.heap.size + 1 = r.p ∧ Below wq.heap.size wq wr) :
    Calls Tryz.prog 110 #[.pointer (some ⟨r.p, 0, none⟩), .pointer (some ⟨bB, 0, none⟩), .pointer (some ⟨mB, 0, none⟩)] wr (ByIs r x.2.1 x.2.2 (fun b => (b = bB ∨ b = mB) ∨ eB < b) (manI xs bB mB (eB + 1) (k + 1)) (manD xs) wr) := by
  obtain ⟨wq, ⟨begun, mv, cells, F, out, hbb, hgr, hF, he, hl8⟩, hzq, hbq⟩ := hI
  obtain ⟨no, ws, cs⟩ := x
  have hx := hok _ (List.mem_of_getElem? hxk)
  obtain ⟨hx1, hx2, hx3, hx4, hx5⟩ := hx
  have hno : r.no = no := hno
  have hl : RdL wr r ws cs := hl
  have hw20 : ws.length ≤ 20 := hx3
  have h0 : 0 < ws.length := by
    have : ws ≠ [] := hx2
    exact List.length_pos_iff.2 this
  have hws : ∀ u, u ∈ ws → u.length ≤ 1000 := fun u hu => by have := hx5 u hu; omega
  subst hno
  have HX := hid hxk
  have HE := hid he
  have HGQ := hid (hgr.below hbq)
  have HBB := hid (hbb.below hbq)
  have HF := hid (fun b (hb : F b) => show eB + 1 ≤ b ∧ b < r.p from ⟨(hF b hb).1, by have := (hF b hb).2; omega⟩)
  have HROW := hid (fun g (hgk : mv.ownBlock = some g) => show g ≠ r.p from by have := (hgr.own.lt g hgk).2; omega)
  have HR := hid hr
  have HL := hid hl
  have W1 := hid (word_ok hr hl h0)
  have hW0 : ws.getD 0 [] = ws[0] := by simp [List.getD, List.getElem?_eq_getElem h0]
  have HPW := hid (show r.p ≠ bB ∧ r.p ≠ mB by omega)
  clear hbb hgr hF hbq hzq hxk he hok hx1 hx2 hx3 hx4 hx5 hr hl
  -- the world behind the word
  have AFT := hid (fun (w1 : World) (ho : Only (· = r.p) wr w1) => show Grow w1 mB (eB + 1) 106 F mv cells out ∧ Blk w1 bB [.bool begun] 4 ∧ RdL w1 r ws cs ∧ Below w0.heap.size w0 w1 ∧ wr.heap.size ≤ w1.heap.size from
    ⟨HGQ.out.only ho (fun e => HPW.out.2 e.symm) (fun b hb e => HROW.out b hb e) (fun b _ hb e => by have := (HF.out b hb).2; omega), Ln.Blk.only HBB.out ho (fun e => HPW.out.1 e.symm), HL.out.self ho, base_only hb0 ho (by omega), ho.size⟩)
  have STOP := hid (fun (c col : Nat) (w2 : World) (ho : Only (fun b => (b = bB ∨ b = mB) ∨ eB < b) wr w2) (hln : manLine begun ws cs out = .error (c, col)) =>
    show ByIs r ws cs (fun b => (b = bB ∨ b = mB) ∨ eB < b) (manI xs bB mB (eB + 1) (k + 1)) (manD xs) wr (.panicked [{ v := stopV r.ea ⟨(c : Int), (r.no : Int), (col : Int)⟩, recovered := false }]) w2 from
      ⟨ho, .inr ⟨(c : Int), (col : Int), rfl, man_stop HX.out HE.out hln w2⟩⟩)
  have HML := hid (show manLine begun ws cs out = if begun then (if ws[0] ≠ rootW then .error (1, cs.getD 0 0) else if out.length = 8 then .error (2, cs.getD 0 0) else match needP 4 ws cs 1 with
      | .error e => .error e
      | .ok (n, t) => endW ws cs t (out ++ [n])) else (if ws[0] ≠ manW then .error (1, cs.getD 0 0) else endW ws cs 1 out) by unfold manLine; rw [hW0]; rfl)
  clear hW0
  generalize hml : manLine begun ws cs out = ml at STOP HML
  replace hml := hid hml
  have HS1 := hid (fun (w1 : World) (ho : Only (· = r.p) wr w1) => show Only (fun b => (b = bB ∨ b = mB) ∨ eB < b) wr w1 from ho.mono (fun b _ h => .inr (by omega)))
  generalize hWW : ws[0] = W at *
  clear hWW
  cases begun with
  | true =>
    rw [if_pos rfl] at HML
    by_cases hW : W = rootW
    · rw [if_neg (fun h => h hW)] at HML
      subst hW
      have W2 := hid (show Calls Tryz.prog 44 #[.pointer (some ⟨r.p, 0, none⟩)] wr (Has r 1 (.string ⟨#[114, 111, 111, 116]⟩) wr) from W1.out)
      clear W1
      go_enter Tryz.func110, Tryz.ntmps110
      go_wp2_with fail
      refine W2.out.mono ?_
      rintro e w1 ⟨rfl, ho, hr1⟩
      obtain ⟨G1, B1, L1, Z1, S1⟩ := AFT.out w1 ho
      have b0 := B1.cell 0 rfl
      have HO := hid ho
      have HR1 := hid hr1
      have HL1 := hid L1
      have HG1 := hid G1
      have HB1 := hid B1
      have HZ1 := hid Z1
      have HS := hid S1
      clear ho hr1 L1 G1 B1 Z1 S1
      go_wp2_with fail
      by_cases h8 : out.length = 8
      · have hln := HML.out.trans (if_pos h8)
        refine (takeRoot_full HR1.out HL1.out h0 HG1.out h8).mono ?_
        rintro e w2 ⟨rfl, ho2⟩
        exact ⟨rfl, STOP.out 2 (cs.getD 0 0) w2 (HS1.out _ (HO.out.trans ho2)) hln⟩
      · rw [if_neg h8] at HML
        cases hnp : needP 4 ws cs 1 with
        | error ec =>
          obtain ⟨c, col⟩ := ec
          rw [hnp] at HML
          have hln := HML.out
          dsimp only at hln
          refine (takeRoot_err HR1.out HL1.out hws (by omega) HZ1.out hm hg (by omega) HG1.out (by omega) hnp).mono ?_
          rintro e w2 ⟨rfl, ho2⟩
          exact ⟨rfl, STOP.out c col w2 (HS1.out _ (HO.out.trans ho2)) hln⟩
        | ok p =>
          obtain ⟨n, t'⟩ := p
          rw [hnp] at HML
          have hln := HML.out
          dsimp only at hln
          have hle := needP_le hnp
          have hsz := HS.out
          refine (takeRoot_ok HR1.out HL1.out hws (by omega) HZ1.out hm hg (by omega) HG1.out (by omega) (fun b hb => by have := (HF.out b hb).2; omega) (fun hb => by have := (HF.out _ hb).2; omega) (fun e => HPW.out.2 e.symm) HROW.out (by omega) hnp).mono ?_
          rintro e w2 ⟨rfl, ho2, hr2, mv', cells', F', hg2, hFb, hFs, hsz2⟩
          have hO2 : Only (fun b => (b = bB ∨ b = mB) ∨ eB < b) wr w2 := (HS1.out _ HO.out).trans (ho2.mono (fun b _ hb => by
            rcases hb with hb | hb | hb
            · exact .inr (by omega)
            · exact .inl (.inr hb)
            · exact .inr (by omega)))
          have hB2 : Blk w2 bB [.bool true] 4 := Ln.Blk.only HB1.out ho2 (fun hb => by
            rcases hb with hb | hb | hb
            · exact HPW.out.1 hb.symm
            · exact hbm hb
            · omega)
          have HO2 := hid hO2
          have HB2 := hid hB2
          have HR2 := hid hr2
          have HG2 := hid hg2
          have hFF : ∀ b, F' b → eB + 1 ≤ b ∧ b < w2.heap.size := fun b hb => ⟨by
            rcases hFs b hb with h | h
            · exact (HF.out b h).1
            · omega, hFb b hb⟩
          have HFF := hid hFF
          clear hO2 hB2 hr2 hg2 hFF hFb hFs ho2
          have key : ByIs r ws cs (fun b => (b = bB ∨ b = mB) ∨ eB < b) (manI xs bB mB (eB + 1) (k + 1)) (manD xs) wr (.returned (.tuple #[])) w2 := by
            refine ⟨HO2.out, .inl ⟨t', rfl, HR2.out, ?_⟩⟩
            by_cases hlt : t' < ws.length
            · left
              refine ⟨hlt, ?_⟩
              unfold endW at hln
              rw [if_pos hlt] at hln
              exact man_stop HX.out HE.out (hml.out.trans hln) w2
            · right
              refine ⟨by omega, true, mv', cells', F', out ++ [n], HB2.out, HG2.out, HFF.out, ?_, by simp; omega⟩
              unfold endW at hln
              rw [if_neg hlt] at hln
              exact man_next HX.out HE.out (hml.out.trans hln)
          have KEY := hid key
          clear key hln hle
          go_wp2_with fail
          exact bodyPost_ret (v := .tuple #[]) (by simp [results, Tryz.results110, go_sem]) rfl KEY.out
    · have hln := HML.out.trans (if_pos hW)
      have hW1 : (W == [114, 111, 111, 116]) = false := beq_eq_false_iff_ne.2 hW
      go_enter Tryz.func110, Tryz.ntmps110
      go_wp2_with fail
      refine W1.out.mono ?_
      rintro e w1 ⟨rfl, ho, hr1⟩
      obtain ⟨G1, B1, L1, Z1, S1⟩ := AFT.out w1 ho
      have b0 := B1.cell 0 rfl
      have HO := hid ho
      have HR1 := hid hr1
      have HL1 := hid L1
      clear ho hr1 L1 G1
      go_wp2_with fail
      refine (fail_any HR1.out HL1.out h0 1).mono ?_
      rintro e w2 ⟨rfl, ho2⟩
      exact ⟨rfl, STOP.out 1 (cs.getD 0 0) w2 (HS1.out _ (HO.out.trans ho2)) hln⟩
  | false =>
    rw [if_neg (by simp)] at HML
    by_cases hW : W = manW
    · rw [if_neg (fun h => h hW)] at HML
      subst hW
      have W2 := hid (show Calls Tryz.prog 44 #[.pointer (some ⟨r.p, 0, none⟩)] wr (Has r 1 (.string ⟨#[109, 97, 110, 105, 102, 101, 115, 116]⟩) wr) from W1.out)
      clear W1
      go_enter Tryz.func110, Tryz.ntmps110
      go_wp2_with fail
      refine W2.out.mono ?_
      rintro e w1 ⟨rfl, ho, hr1⟩
      obtain ⟨G1, B1, L1, Z1, S1⟩ := AFT.out w1 ho
      have b0 := B1.cell 0 rfl
      have bf := B1.free
      have bl := B1.lt
      have hln := HML.out
      have key : ByIs r ws cs (fun b => (b = bB ∨ b = mB) ∨ eB < b) (manI xs bB mB (eB + 1) (k + 1)) (manD xs) wr (.returned (.tuple #[])) (w1.setCell ⟨bB, 0, none⟩ (.bool true)) := by
        refine ⟨(HS1.out _ ho).setCell (p := ⟨bB, 0, none⟩) (.inl (.inl rfl)) _, .inl ⟨1, rfl, Blk.other hr1 (a := ⟨bB, 0, none⟩) (fun e => HPW.out.1 e) _, ?_⟩⟩
        by_cases hlt : 1 < ws.length
        · left
          refine ⟨hlt, ?_⟩
          unfold endW at hln
          rw [if_pos hlt] at hln
          exact man_stop HX.out HE.out (hml.out.trans hln) _
        · right
          refine ⟨by omega, true, mv, cells, F, out, B1.set 0 _, G1.kept ((Kept.refl _ _).setCell (p := ⟨bB, 0, none⟩) (fun hb => ?_) _), fun b hb => ?_, ?_, hl8⟩
          · rcases hb with hb | hb | hb
            · exact hbm hb
            · have h1 := (G1.own.lt bB hb).1; omega
            · have h1 := (HF.out bB hb).1; omega
          · have h1 := HF.out b hb
            have h2 : (w1.setCell ⟨bB, 0, none⟩ (.bool true)).heap.size = w1.heap.size := by simp
            rw [h2]; exact ⟨h1.1, by omega⟩
          · unfold endW at hln
            rw [if_neg hlt] at hln
            exact man_next HX.out HE.out (hml.out.trans hln)
      have KEY := hid key
      clear key hln ho hr1 G1 B1 L1 Z1 S1
      go_wp2_with fail
      exact bodyPost_ret (v := .tuple #[]) (by simp [results, Tryz.results110, go_sem]) rfl KEY.out
    · have hln := HML.out.trans (if_pos hW)
      have hW1 : (W == [109, 97, 110, 105, 102, 101, 115, 116]) = false := beq_eq_false_iff_ne.2 hW
      go_enter Tryz.func110, Tryz.ntmps110
      go_wp2_with fail
      refine W1.out.mono ?_
      rintro e w1 ⟨rfl, ho, hr1⟩
      obtain ⟨G1, B1, L1, Z1, S1⟩ := AFT.out w1 ho
      have b0 := B1.cell 0 rfl
      have HO := hid ho
      have HR1 := hid hr1
      have HL1 := hid L1
      clear ho hr1 L1 G1
      go_wp2_with fail
      refine (fail_any HR1.out HL1.out h0 1).mono ?_
      rintro e w2 ⟨rfl, ho2⟩
      exact ⟨rfl, STOP.out 1 (cs.getD 0 0) w2 (HS1.out _ (HO.out.trans ho2)) hln⟩
end Go.Proofs.YtafnohojnjpfcaaGreatDoor.Ix
