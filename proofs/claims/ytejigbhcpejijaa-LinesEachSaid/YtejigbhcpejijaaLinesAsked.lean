/-
  LAYER 1: the questions of the statements, one behind the other, asked of a reader.
-/
import Derived.Test.YtejigbhcpejijaaLinesOne
import Derived.Deep.AppendLies
namespace Go.Proofs.Ytejigbhcpejijaa.Ln
open Go.RowKit

/-- the questions in memory -/
def OpsAt (w : World) (B oo : Nat) (os : List OpD) : Prop :=
  ∀ i (h : i < os.length), w.cell? ⟨B, oo + i * 3, none⟩ = some (.int .i64 os[i].kind) ∧ w.cell? ⟨B, oo + i * 3 + 1, none⟩ = some (.int .i64 os[i].n) ∧ w.cell? ⟨B, oo + i * 3 + 2, none⟩ = some (.string ⟨os[i].w.toArray⟩)
theorem OpsAt.only {w w' : World} {B oo : Nat} {os : List OpD} (h : OpsAt w B oo os) {S : Nat → Prop} (ho : Only S w w') (hB : ¬ S B) : OpsAt w' B oo os :=
  fun i hi => ⟨ho.cell hB (h i hi).1, ho.cell hB (h i hi).2.1, ho.cell hB (h i hi).2.2⟩

theorem append_nil_none (ty : TypeId) (w : World) : (Builtin.append_ #[39, 39] ty #[.slice none 0 0, .slice none 0 0]).run Try.prog w = .ok (.slice none 0 0) w := by kernel_rfl
theorem append_nil_some (g n c : Nat) (hn : n ≤ c) (ty : TypeId) (w : World) : (Builtin.append_ #[39, 39] ty #[.slice (some ⟨g, 0, none⟩) n c, .slice none 0 0]).run Try.prog w = .ok (.slice (some ⟨g, 0, none⟩) n c) w := by
  have hu := Try.underlying39
  simp [Builtin.append_, run_underlying hu, Builtin.lenOf, Builtin.firstCells, hn, go_sem]

/-- a row of texts stays where a block of another type is written alone -/
theorem row_keep {w w' : World} {base : Nat} {v : Value} {n : Nat} {xs : List Value} (h : w.ownsRow base 9 1 v n xs) {p : Nat} {cs : List Value} {T : TypeId} (hp : Blk w p cs T) (hT : 9 ≠ T) (ho : Only (· = p) w w') : w'.ownsRow base 9 1 v n xs := by
  refine ⟨h.1, ?_⟩
  rcases h.2 with hn | ⟨g, cap, cur, rfl, hg, hh, rest⟩
  · exact .inl hn
  · refine .inr ⟨g, cap, cur, rfl, hg, ?_, rest⟩
    have hne : ¬ g = p := by
      rintro rfl
      have h' : w.heap[g]? = some (.cells cs.toArray T (0, 0)) := hp
      rw [hh] at h'
      simp at h'
      exact hT h'.2
    rw [ho.block g (Array.getElem?_eq_some_iff.1 hh).1 hne]; exact hh
theorem row_shape {w : World} {base : Nat} {v : Value} {n : Nat} {xs : List Value} (h : w.ownsRow base 9 1 v n xs) : (v = .slice none 0 0 ∧ n = 0) ∨ ∃ g c, v = .slice (some ⟨g, 0, none⟩) n c ∧ n ≤ c := by
  rcases h.2 with ⟨hv, hn⟩ | ⟨g, cap, cur, hv, hg, hh, hc, _⟩
  · exact .inl ⟨hv, hn⟩
  · exact .inr ⟨g, cap, hv, hc⟩
theorem append_nil {w1 : World} {base : Nat} {v : Value} {n : Nat} {xs : List Value} (h : w1.ownsRow base 9 1 v n xs) (ty : TypeId) (w : World) : (Builtin.append_ #[39, 39] ty #[v, .slice none 0 0]).run Try.prog w = .ok v w := by
  rcases row_shape h with ⟨rfl, rfl⟩ | ⟨g, c, rfl, hc⟩
  · exact append_nil_none ty w
  · exact append_nil_some g n c hc ty w

theorem one_at_err {w : World} {r : Rd} {t : Nat} {ws : List (List UInt8)} {cs : List Nat} {o : OpD} {c col : Int} (hv : oneV ws cs o t = .error (c, col)) (h : RdAt w r t) (hl : RdL w r ws cs) (ht : t ≤ ws.length) (hs : ∀ x, x ∈ ws → x.length ≤ 1099511627776) :
    Calls Try.prog 26 #[.pointer (some ⟨r.p, 0, none⟩), .agg #[.int .i64 o.kind, .int .i64 o.n, .string ⟨o.w.toArray⟩]] w fun e w' => e = .panicked [{ v := stopV r.ea ⟨c, r.no, col⟩, recovered := false }] ∧ Only (· = r.p) w w' :=
  (one_any h hl ht hs o).mono fun e w' ⟨ho, hc⟩ => by rw [hv] at hc; exact ⟨hc, ho⟩
theorem one_at_nil {w : World} {r : Rd} {t t' : Nat} {ws : List (List UInt8)} {cs : List Nat} {o : OpD} (hv : oneV ws cs o t = .ok ([], t')) (h : RdAt w r t) (hl : RdL w r ws cs) (ht : t ≤ ws.length) (hs : ∀ x, x ∈ ws → x.length ≤ 1099511627776) :
    Calls Try.prog 26 #[.pointer (some ⟨r.p, 0, none⟩), .agg #[.int .i64 o.kind, .int .i64 o.n, .string ⟨o.w.toArray⟩]] w fun e w' => e = .returned (.slice none 0 0) ∧ Only (· = r.p) w w' ∧ RdAt w' r t' :=
  (one_any h hl ht hs o).mono fun e w' ⟨ho, hc⟩ => by
    rw [hv] at hc
    obtain ⟨v, he, hr, ha⟩ := hc
    rcases ha with ⟨_, rfl⟩ | ⟨u, g, h, _⟩
    · exact ⟨he, ho, hr⟩
    · cases h
theorem one_at_one {w : World} {r : Rd} {t t' : Nat} {ws : List (List UInt8)} {cs : List Nat} {o : OpD} {u : List UInt8} (hv : oneV ws cs o t = .ok ([u], t')) (h : RdAt w r t) (hl : RdL w r ws cs) (ht : t ≤ ws.length) (hs : ∀ x, x ∈ ws → x.length ≤ 1099511627776) :
    Calls Try.prog 26 #[.pointer (some ⟨r.p, 0, none⟩), .agg #[.int .i64 o.kind, .int .i64 o.n, .string ⟨o.w.toArray⟩]] w fun e w' => ∃ g, e = .returned (.slice (some ⟨g, 0, none⟩) 1 1) ∧ Only (· = r.p) w w' ∧ RdAt w' r t' ∧ w.heap.size ≤ g ∧ Blk w' g [.string ⟨u.toArray⟩] 9 :=
  (one_any h hl ht hs o).mono fun e w' ⟨ho, hc⟩ => by
    rw [hv] at hc
    obtain ⟨v, he, hr, ha⟩ := hc
    rcases ha with ⟨h, _⟩ | ⟨u', g, h, rfl, hg, hb⟩
    · cases h
    · injection h with h _
      subst h
      exact ⟨g, he, ho, hr, hg, hb⟩

/-- what questions come to -/
def AskIs (r : Rd) (ws : List (List UInt8)) (cs : List Nat) (os : List OpD) (t : Nat) (w : World) (e : Ending) (w' : World) : Prop :=
  Only (· = r.p) w w' ∧ match askF ws cs os [] t with
  | .ok (out, t') => ∃ v, e = .returned v ∧ RdAt w' r t' ∧ t' ≤ ws.length ∧ w'.ownsRow w.heap.size 9 1 v out.length (strs out) ∧ (out = [] → v = .slice none 0 0) ∧ out.length ≤ os.length
  | .error ((c, col), _) => e = .panicked [{ v := stopV r.ea ⟨c, r.no, col⟩, recovered := false }]

theorem strs_more (a b : List (List UInt8)) : strs (a ++ b) = strs a ++ strs b := by simp [strs]

set_option maxRecDepth 100000 in
set_option maxHeartbeats 4000000 in
theorem asked_any {w : World} {r : Rd} {ws : List (List UInt8)} {cs : List Nat} (h : RdAt w r 0) (hl : RdL w r ws cs) (hs : ∀ x, x ∈ ws → x.length ≤ 1099511627776) (os : List OpD) (B oo n c : Nat) (hn : n = os.length) (hn30 : n ≤ 30) (hB : B ≠ r.p) (oa : Option Addr) (hoa : 0 < n → oa = some ⟨B, oo, none⟩) (ho : OpsAt w B oo os) :
    Calls Try.prog 24 #[.pointer (some ⟨r.p, 0, none⟩), .slice oa n c] w (AskIs r ws cs os 0 w) := by
  have H := hid h
  have HL := hid hl
  have HN := hid hn
  have HB := hid hB
  have HOP := hid ho
  have HS := hid hs
  have HP := hid h.lt
  have HOA := hid hoa
  clear h hl hn hB ho hs hoa
  go_enter Try.func24, Try.ntmps24
  go_wp2_with fail
  go_loopw [5, 6] (fun v u wr => ∃ (i t : Nat) (out : List (List UInt8)), i ≤ n ∧ u = .int .i64 (i : Nat) ∧ RdAt wr r t ∧ t ≤ ws.length ∧ wr.ownsRow w.heap.size 9 1 v out.length (strs out) ∧ (out = [] → v = .slice none 0 0) ∧ out.length ≤ i ∧ askF ws cs os [] 0 = askF ws cs (os.drop i) out t ∧ Only (· = r.p) w wr) (fun _ u _ => n - (intOf u).toNat)
  case atStart => exact ⟨0, 0, [], by omega, rfl, H.out, Nat.zero_le _, World.ownsRow_nil _ _ _ _, fun _ => rfl, Nat.le_refl _, rfl, Only.refl _ _⟩
  case round =>
    obtain ⟨i, t, out, hi, rfl, hr, ht, hrow, hnil, hlen, hask, hon⟩ := hrel
    have HR := hid hr
    have HT := hid ht
    have HROW := hid hrow
    have HNIL := hid hnil
    have HLEN := hid hlen
    have HASK := hid hask
    have HON := hid hon
    clear hr ht hnil hlen hask hon
    by_cases hlt : i < n
    · have hoe := HOA.out (by omega)
      subst hoe
      have hik : i < os.length := by rw [← HN.out]; exact hlt
      have hoi : os[i]? = some os[i] := List.getElem?_eq_getElem hik
      obtain ⟨a0, a1, a2⟩ := HOP.out.only HON.out HB.out i hik
      have ONE := hid (one_any HR.out (HL.out.self HON.out) HT.out HS.out os[i])
      generalize os[i] = o at *
      have HOI := hid hoi
      clear hoi hik
      clear hrow
      go_wp2_with fail
      refine ONE.out.mono ?_
      rintro e w2 ⟨ho2, hcase⟩
      have HO2 := hid (HON.out.trans ho2)
      have HROW2 := hid (row_keep HROW.out HR.out (by decide) ho2)
      have hsz2 := HO2.out.size
      clear ho2
      cases hv : oneV ws cs o t with
      | error p =>
        obtain ⟨ec, col⟩ := p
        rw [hv] at hcase
        subst hcase
        refine ⟨rfl, HO2.out, ?_⟩
        rw [HASK.out, askF_err HOI.out hv]
      | ok p =>
        obtain ⟨x, t'⟩ := p
        rw [hv] at hcase
        obtain ⟨v, rfl, hr2, ha⟩ := hcase
        have HR2 := hid hr2
        have HV := hid (oneV_place hv HT.out).1
        have HASK2 := hid (HASK.out.trans (askF_ok HOI.out hv))
        clear hv hr2
        rcases ha with ⟨rfl, rfl⟩ | ⟨u, g, rfl, rfl, hg, hblk⟩
        · rcases row_shape HROW2.out with ⟨hu, hz⟩ | ⟨g, cp, hu, hgc⟩
          · subst hu
            clear hz
            go_wp2_with fail
            go_roundw
            case rel => exact ⟨i + 1, t', out, by omega, by go_num, HR2.out, HV.out, HROW2.out, fun _ => rfl, by have := HLEN.out; omega, by rw [HASK2.out, List.append_nil], HO2.out⟩
            case measure => simp [intOf]; omega
          · subst hu
            go_wp2_with fail
            go_roundw
            case rel => exact ⟨i + 1, t', out, by omega, by go_num, HR2.out, HV.out, HROW2.out, HNIL.out, by have := HLEN.out; omega, by rw [HASK2.out, List.append_nil], HO2.out⟩
            case measure => simp [intOf]; omega
        · obtain ⟨iS, hi, hz0, hz1, hz2⟩ := info_parts infoS
          have hi := hid hi
          have hz0 := hid hz0
          have hz1 := hid hz1
          have hz2 := hid hz2
          have HBLK := hid hblk
          have HG := hid hg
          clear hg hblk
          go_wp2_with (at_builtin; refine wpList_append_lies _ rfl _ _ 39 rfl w.heap.size 9 iS (.string ByteArray.empty) 1 16 Try.underlying39 hi.out hz0.out hz1.out hz2.out rfl (by decide) _ _ _ rfl HROW2.out ⟨g, 0, none⟩ 1 1 [.string ⟨u.toArray⟩] rfl rfl ?c1 ?c2 ?cm ?c3 ?c4 ?c5 _ rfl ?_)
          case c1 =>
            intro j y hj
            rw [addr_add, Nat.zero_add]
            exact HBLK.out.cell j hj
          case c2 =>
            intro y hy
            simp at hy
            subst hy; rfl
          case cm => decide
          case c3 => have := HLEN.out; unfold maxLen; omega
          case c4 => have := HLEN.out; omega
          case c5 => exact hsz2
          intro g' cap w3 hown3 hgrow hat hlt3
          have hRn : Blk w2 r.p _ _ := HR2.out
          have HR3 := hid (Blk.grown hRn hgrow (own_ne HROW2.out HP.out))
          have HO3 := hid (HO2.out.grown hgrow (fun k hk hkl => by have := (HROW2.out.lt k hk).1; omega))
          have HOWN3 := hid hown3
          clear hown3 hgrow hat hRn
          go_wp2
          go_roundw
          case rel =>
            refine ⟨i + 1, t', out ++ [u], by omega, by go_num, HR3.out, HV.out, ?_, fun h => by simp at h, by rw [List.length_append, List.length_singleton]; have := HLEN.out; omega, HASK2.out, HO3.out⟩
            rw [strs_more, List.length_append]; exact HOWN3.out
          case measure => simp [intOf]; omega
    · go_wp2_with fail
      go_ret
      refine ⟨HON.out, ?_⟩
      rw [HASK.out, askF_end (by have := HN.out; omega)]
      exact ⟨_, rfl, HR.out, HT.out, HROW.out, HNIL.out, by have := HLEN.out; have := HN.out; omega⟩

end Go.Proofs.Ytejigbhcpejijaa.Ln
