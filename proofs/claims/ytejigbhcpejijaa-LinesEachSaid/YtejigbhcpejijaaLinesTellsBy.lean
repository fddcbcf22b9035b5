/-
  LAYER 1: LinesTells: what the function does that Each is handed.
-/
import Derived.Test.YtejigbhcpejijaaLinesAsked
import Derived.Test.YtejigbhcpejijaaLinesEach
import Derived.Deep.RegionLaw
namespace Go.Proofs.Ytejigbhcpejijaa.Ln
open Go.RowKit

/-- the variable gB holds those texts, a row from block base on -/
def GotIs (gB base : Nat) (out : List (List UInt8)) (w : World) : Prop := ∃ v, Blk w gB [v] 39 ∧ w.ownsRow base 9 1 v out.length (strs out)

/-- what is told till it ends -/
def toldF (ws : List (List UInt8)) (cs : List Nat) (os : List OpD) : List (List UInt8) :=
  match askF ws cs os [] 0 with
  | .error (_, out) => out
  | .ok (out, _) => out

set_option maxRecDepth 100000 in
set_option maxHeartbeats 8000000 in
theorem tells_by (T : Nat → Prop) (r : Rd) (ws : List (List UInt8)) (cs : List Nat) (os : List OpD) (oB gB B oo n c : Nat) (oa : Option Addr) (hoa : 0 < n → oa = some ⟨B, oo, none⟩) (hn : n = os.length) (hn30 : n ≤ 30) (hs : ∀ x, x ∈ ws → x.length ≤ 1099511627776) (w : World)
    (hp : T r.p) (hg : T gB) (hgp : gB ≠ r.p) (hop : oB ≠ r.p) (hbp : B ≠ r.p) (hgo : gB ≠ oB) (hgb : gB ≠ B) (hgw : gB ≠ r.wB) (hgc : gB ≠ r.cB) (h : RdAt w r 0) (hl : RdL w r ws cs)
    (ho : Blk w oB [.slice oa n c] 47) (hgt : Blk w gB [.slice none 0 0] 39) (hops : OpsAt w B oo os) (base : Nat) (hbase : base ≤ w.heap.size) :
    Calls Try.prog 25 #[.pointer (some ⟨r.p, 0, none⟩), .pointer (some ⟨oB, 0, none⟩), .pointer (some ⟨gB, 0, none⟩)] w
      (ByIs r ws cs T (GotIs gB base (toldF ws cs os)) (fun _ => GotIs gB base (toldF ws cs os)) w) := by
  have H := hid h
  have HL := hid hl
  have HO := hid ho
  have HG := hid hgt
  have HOPS := hid hops
  have HOA := hid hoa
  have HN := hid hn
  have HS := hid hs
  have lp := hid h.lt
  have lo := hid ho.lt
  have lg := hid hgt.lt
  have HBASE := hid hbase
  have HT : Hid (∀ (a b : World), Only (fun k => k = r.p ∨ k = gB) a b → Only T a b) := hid (fun a b h => h.mono (fun k _ hk => by rcases hk with rfl | rfl <;> assumption))
  clear h hl ho hgt hops hoa hn hs hp hg hbase
  go_enter Try.func25, Try.ntmps25
  go_wp2_with fail
  go_loopw [4] (fun u wr => ∃ (i t : Nat) (out : List (List UInt8)) (v : Value), i ≤ n ∧ u = .int .i64 (i : Nat) ∧ RdAt wr r t ∧ t ≤ ws.length ∧ Blk wr gB [v] 39 ∧ wr.ownsRow w.heap.size 9 1 v out.length (strs out) ∧ out.length ≤ i ∧ askF ws cs os [] 0 = askF ws cs (os.drop i) out t ∧ Only (fun k => k = r.p ∨ k = gB) w wr) (fun u _ => n - (intOf u).toNat)
  case atStart => exact ⟨0, 0, [], _, by omega, rfl, H.out, Nat.zero_le _, HG.out, World.ownsRow_nil _ _ _ _, Nat.le_refl _, rfl, Only.refl _ _⟩
  case round =>
    obtain ⟨i, t, out, v, hi, rfl, hr, ht, hgv, hrow, hlen, hask, hon⟩ := hrel
    have HR := hid hr
    have HTt := hid ht
    have HGV := hid hgv
    have HROW := hid hrow
    have HLEN := hid hlen
    have HASK := hid hask
    have HON := hid hon
    have o0 := (Blk.only HO.out hon (fun h => by rcases h with h | h; exact hop h; exact hgo h.symm)).cell 0 rfl
    have g0 := hgv.cell 0 rfl
    have gf := hgv.free
    have hlo := Nat.lt_of_lt_of_le lo.out hon.size
    have hlg := Nat.lt_of_lt_of_le lg.out hon.size
    clear hr ht hgv hrow hlen hask hon
    by_cases hlt : i < n
    · have hoe := HOA.out (by omega)
      subst hoe
      have hik : i < os.length := by rw [← HN.out]; exact hlt
      have hoi : os[i]? = some os[i] := List.getElem?_eq_getElem hik
      obtain ⟨a0, a1, a2⟩ := HOPS.out.only HON.out (fun h => by rcases h with h | h; exact hbp h; exact hgb h.symm) i hik
      have HLR := hid (HL.out.only HON.out (fun h => by rcases h with h | h; exact HL.out.wp h; exact hgw h.symm) (fun h => by rcases h with h | h; exact HL.out.cp h; exact hgc h.symm))
      generalize os[i] = o at *
      have HOI := hid hoi
      have hlB := World.block_lt_of_cell? wr _ a0
      clear hoi hik
      have hdd : Only (fun _ : Nat => False) wr wr.drew := (Only.refl _ _).drew
      have HLD := hid (HLR.out.only hdd (fun h => h) (fun h => h))
      clear hdd
      cases hv : oneV ws cs o t with
      | error p =>
        obtain ⟨ec, col⟩ := p
        have HF := hid (show toldF ws cs os = out by unfold toldF; rw [HASK.out, askF_err HOI.out hv])
        have HV := hid hv
        clear hv
        go_wp2_with fail
        go_region_dies
        all_goals
          refine (one_at_err (w := wr.drew) HV.out HR.out HLD.out HTt.out HS.out).mono ?_
          rintro e w2 ⟨rfl, ho2⟩
          have hO2 : Only (· = r.p) wr w2 := (Only.refl _ _).drew.trans ho2
          refine ⟨rfl, HT.out _ _ (HON.out.trans (hO2.mono (fun k _ hk => .inl hk))), .inr ⟨ec, col, rfl, v, Blk.only HGV.out hO2 hgp, ?_⟩⟩
          rw [HF.out]
          exact ownsRow_mono (row_keep HROW.out HR.out (by decide) hO2) HBASE.out
      | ok p =>
        obtain ⟨x, t'⟩ := p
        have HV := hid hv
        have hpl := oneV_place hv HTt.out
        have HP := hid hpl.1
        have hxl := hpl.2
        have HASK2 := hid (HASK.out.trans (askF_ok HOI.out hv))
        clear hv hpl
        match x, hxl with
        | [], _ =>
          have keep : Hid (∀ w2, Only (· = r.p) wr.drew w2 → Only (· = r.p) wr w2) := hid (fun w2 h => (Only.refl _ _).drew.trans h)
          rcases row_shape HROW.out with ⟨hu, hz⟩ | ⟨g, cp, hu, hgc⟩
          · subst hu
            clear hz
            go_wp2_with fail
            go_region_law ((go_simp; refine (one_at_nil (w := wr.drew) HV.out HR.out HLD.out HTt.out HS.out).mono ?_; rintro e w2 ⟨rfl, ho2, hr2⟩; have hgv2 := Blk.only HGV.out (keep.out _ ho2) hgp; have g2 := hgv2.cell 0 rfl; have gf2 := hgv2.free))
            all_goals
              have hk2 := keep.out _ ho2
              have hrow2 := row_keep HROW.out HR.out (by decide) hk2
              go_wp2_with fail
              go_roundw
              case rel => exact ⟨i + 1, t', out, _, by omega, by go_num, Blk.other hr2 (Ne.symm hgp) _, HP.out, hgv2.set 0 _, ownsRow_setCell_below hrow2 (a := ⟨gB, 0, none⟩) lg.out _, by have := HLEN.out; omega, by rw [HASK2.out, List.append_nil], (HON.out.trans (hk2.mono (fun k _ hk => .inl hk))).setCell (p := ⟨gB, 0, none⟩) (.inr rfl) _⟩
              case measure => simp [intOf]; omega
          · subst hu
            go_wp2_with fail
            go_region_law ((go_simp; refine (one_at_nil (w := wr.drew) HV.out HR.out HLD.out HTt.out HS.out).mono ?_; rintro e w2 ⟨rfl, ho2, hr2⟩; have hgv2 := Blk.only HGV.out (keep.out _ ho2) hgp; have g2 := hgv2.cell 0 rfl; have gf2 := hgv2.free))
            all_goals
              have hk2 := keep.out _ ho2
              have hrow2 := row_keep HROW.out HR.out (by decide) hk2
              go_wp2_with fail
              go_roundw
              case rel => exact ⟨i + 1, t', out, _, by omega, by go_num, Blk.other hr2 (Ne.symm hgp) _, HP.out, hgv2.set 0 _, ownsRow_setCell_below hrow2 (a := ⟨gB, 0, none⟩) lg.out _, by have := HLEN.out; omega, by rw [HASK2.out, List.append_nil], (HON.out.trans (hk2.mono (fun k _ hk => .inl hk))).setCell (p := ⟨gB, 0, none⟩) (.inr rfl) _⟩
              case measure => simp [intOf]; omega
        | [u], _ =>
          have keep : Hid (∀ w2, Only (· = r.p) wr.drew w2 → Only (· = r.p) wr w2) := hid (fun w2 h => (Only.refl _ _).drew.trans h)
          obtain ⟨iS, hi0, hz0, hz1, hz2⟩ := info_parts infoS
          have hi0 := hid hi0
          have hz0 := hid hz0
          have hz1 := hid hz1
          have hz2 := hid hz2
          go_wp2_with fail
          go_region_law (first
            | (refine step_append_lies _ (by rfl) _ _ 39 (by rfl) w.heap.size 9 iS (.string ByteArray.empty) 1 16 Try.underlying39 hi0.out hz0.out hz1.out hz2.out rfl (by decide) v out.length (strs out) (by rfl) hrow2 ⟨g', 0, none⟩ 1 1 [.string ⟨u.toArray⟩] (by rfl) (by rfl) (by intro j y hj; rw [addr_add, Nat.zero_add]; exact hb'.cell j hj) (by intro y hy; simp at hy; subst hy; rfl) (by decide) (by unfold maxLen; have := HLEN.out; omega) (by have := HLEN.out; omega) hsz2 _ rfl ?_; intro gn cap w3 hown3 hgrow hat hlt3; have hgv3 := Blk.grown hgv2 hgrow (own_ne hrow2 lg.out); have g3 := hgv3.cell 0 rfl; have gf3 := hgv3.free)
            | (go_simp; refine (one_at_one (w := wr.drew) HV.out HR.out HLD.out HTt.out HS.out).mono ?_; rintro e w2 ⟨g', rfl, ho2, hr2, hg', hb'⟩; have hk2 := keep.out _ ho2; have hgv2 := Blk.only HGV.out hk2 hgp; have g2 := hgv2.cell 0 rfl; have hrow2 := row_keep HROW.out HR.out (by decide) hk2; have hsz2 := Nat.le_trans HON.out.size hk2.size))
          all_goals
            have hrn : Blk w2 r.p _ _ := hr2
            have hr3 := Blk.grown hrn hgrow (own_ne hrow2 lp.out)
            have hon3 := (HON.out.trans (hk2.mono (fun k _ hk => .inl hk))).grown hgrow (fun k hk hkl => by have := (hrow2.lt k hk).1; omega)
            have HOWN := hid hown3
            clear hown3
            go_wp2_with fail
            go_roundw
            case rel =>
              refine ⟨i + 1, t', out ++ [u], _, by omega, by go_num, Blk.other hr3 (Ne.symm hgp) _, HP.out, hgv3.set 0 _, ?_, by rw [List.length_append, List.length_singleton]; have := HLEN.out; omega, HASK2.out, hon3.setCell (p := ⟨gB, 0, none⟩) (.inr rfl) _⟩
              rw [strs_more, List.length_append]
              exact ownsRow_setCell_below HOWN.out (a := ⟨gB, 0, none⟩) lg.out _
            case measure => simp [intOf]; omega
    · go_wp2_with fail
      go_end0
      refine ⟨HT.out _ _ HON.out, .inl ⟨t, rfl, HR.out, ?_⟩⟩
      have hg : GotIs gB base (toldF ws cs os) wr := by
        refine ⟨v, HGV.out, ?_⟩
        unfold toldF
        rw [HASK.out, askF_end (by have := HN.out; omega)]
        exact ownsRow_mono HROW.out HBASE.out
      rcases Nat.lt_or_ge t ws.length with h | h
      · exact .inl ⟨h, hg⟩
      · exact .inr ⟨by have := HTt.out; omega, hg⟩

end Go.Proofs.Ytejigbhcpejijaa.Ln
