/-
  LAYER 1: LinesEach: what it comes to, line by line; what the function does that Each is handed.
-/
import Derived.Test.YtejigbhcpejijaaLinesTellsBy
import Derived.Test.YtejigbhcpejijaaLinesReadOk
namespace Go.Proofs.Ytejigbhcpejijaa.Ln
open Go.RowKit

/-- what the document says of some lines: what is told, the line that was read last, what ends it -/
def eachW (os : List OpD) : List LineS → List (List UInt8) → Nat → List (List UInt8) × Nat × (Int × Int × Int)
  | [], out, seen => (out, seen, (0, 0, 0))
  | x :: xs, out, _ =>
    if (playR x.1 x.2.1 x.2.2 os).2 = (0, 0, 0) then eachW os xs (out ++ (playR x.1 x.2.1 x.2.2 os).1) x.1 else (out ++ (playR x.1 x.2.1 x.2.2 os).1, x.1, (playR x.1 x.2.1 x.2.2 os).2)

theorem each_next {os : List OpD} {xs : List LineS} {k : Nat} {x : LineS} {out : List (List UInt8)} {seen : Nat} (hx : xs[k]? = some x) (h : (playR x.1 x.2.1 x.2.2 os).2 = (0, 0, 0)) :
    eachW os (xs.drop k) out seen = eachW os (xs.drop (k + 1)) (out ++ (playR x.1 x.2.1 x.2.2 os).1) x.1 := by
  have hi := (List.getElem?_eq_some_iff.1 hx).1
  have e : xs[k] = x := (List.getElem?_eq_some_iff.1 hx).2
  rw [List.drop_eq_getElem_cons hi, e, eachW, if_pos h]
theorem each_stop {os : List OpD} {xs : List LineS} {k : Nat} {x : LineS} {out : List (List UInt8)} {seen : Nat} (hx : xs[k]? = some x) (h : (playR x.1 x.2.1 x.2.2 os).2 ≠ (0, 0, 0)) :
    eachW os (xs.drop k) out seen = (out ++ (playR x.1 x.2.1 x.2.2 os).1, x.1, (playR x.1 x.2.1 x.2.2 os).2) := by
  have hi := (List.getElem?_eq_some_iff.1 hx).1
  have e : xs[k] = x := (List.getElem?_eq_some_iff.1 hx).2
  rw [List.drop_eq_getElem_cons hi, e, eachW, if_neg h]
theorem each_end {os : List OpD} {xs : List LineS} {k : Nat} {out : List (List UInt8)} {seen : Nat} (h : xs.length ≤ k) : eachW os (xs.drop k) out seen = (out, seen, (0, 0, 0)) := by
  rw [List.drop_eq_nil_of_le h]; rfl

theorem asked_at_err {w : World} {r : Rd} {ws : List (List UInt8)} {cs : List Nat} {os : List OpD} {ec col : Int} {out : List (List UInt8)} (hv : askF ws cs os [] 0 = .error ((ec, col), out)) (h : RdAt w r 0) (hl : RdL w r ws cs) (hs : ∀ x, x ∈ ws → x.length ≤ 1099511627776) {B oo n c : Nat} (hn : n = os.length) (hn30 : n ≤ 30) (hB : B ≠ r.p) {oa : Option Addr} (hoa : 0 < n → oa = some ⟨B, oo, none⟩) (ho : OpsAt w B oo os) :
    Calls Try.prog 24 #[.pointer (some ⟨r.p, 0, none⟩), .slice oa n c] w fun e w' => e = .panicked [{ v := stopV r.ea ⟨ec, r.no, col⟩, recovered := false }] ∧ Only (· = r.p) w w' :=
  (asked_any h hl hs os B oo n c hn hn30 hB oa hoa ho).mono fun e w' ⟨h1, h2⟩ => by rw [hv] at h2; exact ⟨h2, h1⟩
theorem asked_at_nil {w : World} {r : Rd} {ws : List (List UInt8)} {cs : List Nat} {os : List OpD} {t : Nat} (hv : askF ws cs os [] 0 = .ok ([], t)) (h : RdAt w r 0) (hl : RdL w r ws cs) (hs : ∀ x, x ∈ ws → x.length ≤ 1099511627776) {B oo n c : Nat} (hn : n = os.length) (hn30 : n ≤ 30) (hB : B ≠ r.p) {oa : Option Addr} (hoa : 0 < n → oa = some ⟨B, oo, none⟩) (ho : OpsAt w B oo os) :
    Calls Try.prog 24 #[.pointer (some ⟨r.p, 0, none⟩), .slice oa n c] w fun e w' => e = .returned (.slice none 0 0) ∧ Only (· = r.p) w w' ∧ RdAt w' r t :=
  (asked_any h hl hs os B oo n c hn hn30 hB oa hoa ho).mono fun e w' ⟨h1, h2⟩ => by
    rw [hv] at h2
    obtain ⟨v, he, hr, _, _, hnil, _⟩ := h2
    exact ⟨by rw [he, hnil rfl], h1, hr⟩
theorem asked_at_some {w : World} {r : Rd} {ws : List (List UInt8)} {cs : List Nat} {os : List OpD} {t : Nat} {o : List (List UInt8)} (hv : askF ws cs os [] 0 = .ok (o, t)) (hne : 0 < o.length) (h : RdAt w r 0) (hl : RdL w r ws cs) (hs : ∀ x, x ∈ ws → x.length ≤ 1099511627776) {B oo n c : Nat} (hn : n = os.length) (hn30 : n ≤ 30) (hB : B ≠ r.p) {oa : Option Addr} (hoa : 0 < n → oa = some ⟨B, oo, none⟩) (ho : OpsAt w B oo os) :
    Calls Try.prog 24 #[.pointer (some ⟨r.p, 0, none⟩), .slice oa n c] w fun e w' => ∃ g cp, e = .returned (.slice (some ⟨g, 0, none⟩) o.length cp) ∧ Only (· = r.p) w w' ∧ RdAt w' r t ∧ o.length ≤ 30 ∧ ∀ j y, (strs o)[j]? = some y → w'.cell? ⟨g, j, none⟩ = some y :=
  (asked_any h hl hs os B oo n c hn hn30 hB oa hoa ho).mono fun e w' ⟨h1, h2⟩ => by
    rw [hv] at h2
    obtain ⟨v, he, hr, _, hrow, _, hlen⟩ := h2
    rcases ownsRow_one hrow with ⟨_, h0, _⟩ | ⟨g, cp, rfl, _, _, _, _, hc⟩
    · omega
    · exact ⟨g, cp, he, h1, hr, by omega, hc⟩

theorem askF_place {ws : List (List UInt8)} {cs : List Nat} : ∀ (os : List OpD) (out : List (List UInt8)) (t : Nat) {o : List (List UInt8)} {t' : Nat}, t ≤ ws.length → askF ws cs os out t = .ok (o, t') → t' ≤ ws.length := by
  intro os
  induction os with
  | nil => intro out t o t' ht h; cases h; exact ht
  | cons q os ih =>
    intro out t o t' ht h
    unfold askF at h
    cases hv : oneV ws cs q t with
    | error e => rw [hv] at h; cases h
    | ok p =>
      obtain ⟨x, t2⟩ := p
      rw [hv] at h
      exact ih _ _ (oneV_place hv ht).1 h

/-- what holds ahead of line k -/
def eachI (os : List OpD) (xs : List LineS) (oB lB gB base : Nat) (oa : Option Addr) (n c : Nat) (k : Nat) (w : World) : Prop :=
  Blk w oB [.slice oa n c] 47 ∧ ∃ out seen, Blk w lB [.int .i64 (seen : Nat)] 3 ∧ GotIs gB base out w ∧ out.length ≤ 30 * k ∧ eachW os xs [] 0 = eachW os (xs.drop k) out seen
/-- what holds where it ends -/
def eachD (os : List OpD) (xs : List LineS) (lB : Nat) (f : Flt) (w : World) : Prop :=
  ∃ out seen, Blk w lB [.int .i64 (seen : Nat)] 3 ∧ eachW os xs [] 0 = (out, seen, (f.code, f.line, f.col)) ∧ ¬ (f.code = 0 ∧ f.line = 0 ∧ f.col = 0)

theorem each_fin {T : Nat → Prop} {r : Rd} {xs : List LineS} {k : Nat} {ws : List (List UInt8)} {cs : List Nat} {os : List OpD} {oB lB gB base n c : Nat} {oa : Option Addr} {out o : List (List UInt8)} {seen t : Nat} {w w2 : World}
    (hx : xs[k]? = some (r.no, ws, cs)) (hv : askF ws cs os [] 0 = .ok (o, t)) (hask : eachW os xs [] 0 = eachW os (xs.drop k) out seen) (hlen : out.length ≤ 30 * k) (hol : o.length ≤ 30)
    (hT : Only T w w2) (hr : RdAt w2 r t) (hob : Blk w2 oB [.slice oa n c] 47) (hlb : Blk w2 lB [.int .i64 (r.no : Int)] 3) (hg : GotIs gB base (out ++ o) w2) :
    ByIs r ws cs T (eachI os xs oB lB gB base oa n c (k + 1)) (eachD os xs lB) w (.returned (.tuple #[])) w2 := by
  have ht := askF_place os [] 0 (Nat.zero_le _) hv
  refine ⟨hT, .inl ⟨t, rfl, hr, ?_⟩⟩
  rcases Nat.lt_or_ge t ws.length with h | h
  · left
    refine ⟨h, ?_⟩
    have hpl : playR r.no ws cs os = (o, (1, (r.no : Int), ((cs.getD t 0 : Nat) : Int))) := by unfold playR; rw [hv]; dsimp only; rw [if_pos h]
    have hst := hask.trans (each_stop hx (by show (playR r.no ws cs os).2 ≠ _; rw [hpl]; intro h; injection h with h _; cases h))
    dsimp only at hst
    rw [hpl] at hst
    exact ⟨_, _, hlb, hst, fun h => by cases h.1⟩
  · right
    have hpl : playR r.no ws cs os = (o, (0, 0, 0)) := by unfold playR; rw [hv]; dsimp only; rw [if_neg (by omega)]
    have hst := hask.trans (each_next hx (by show (playR r.no ws cs os).2 = _; rw [hpl]))
    dsimp only at hst
    rw [hpl] at hst
    exact ⟨by omega, hob, _, _, hlb, hg, by rw [List.length_append]; omega, hst⟩

set_option maxRecDepth 100000 in
set_option maxHeartbeats 8000000 in
theorem each_by (T : Nat → Prop) (r : Rd) (xs : List LineS) (k no : Nat) (ws : List (List UInt8)) (cs : List Nat) (hx : xs[k]? = some (no, ws, cs)) (hno : 1 ≤ no) (hrn : r.no = no) (hk : k ≤ 2000) (os : List OpD) (oB lB gB B oo n c base : Nat) (oa : Option Addr) (hoa : 0 < n → oa = some ⟨B, oo, none⟩) (hn : n = os.length) (hn30 : n ≤ 30) (hs : ∀ x, x ∈ ws → x.length ≤ 1099511627776) (w : World)
    (hp : T r.p) (hg : T gB) (hlT : T lB) (hgp : gB ≠ r.p) (hlp : lB ≠ r.p) (hop : oB ≠ r.p) (hbp : B ≠ r.p) (hgo : gB ≠ oB) (hgb : gB ≠ B) (hlo : lB ≠ oB) (hlb : lB ≠ B) (hlg : lB ≠ gB) (hgw : gB ≠ r.wB) (hgc : gB ≠ r.cB) (hlw : lB ≠ r.wB) (hlc : lB ≠ r.cB) (h : RdAt w r 0) (hl : RdL w r ws cs)
    (hops : OpsAt w B oo os) (hgbase : gB < base) (hlbase : lB < base) (hobase : oB < base) (hbase : base ≤ w.heap.size) (hTb : ∀ b, base ≤ b → T b) (hI : eachI os xs oB lB gB base oa n c k w) :
    Calls Try.prog 22 #[.pointer (some ⟨r.p, 0, none⟩), .pointer (some ⟨lB, 0, none⟩), .pointer (some ⟨gB, 0, none⟩), .pointer (some ⟨oB, 0, none⟩)] w
      (ByIs r ws cs T (eachI os xs oB lB gB base oa n c (k + 1)) (eachD os xs lB) w) := by
  subst hrn
  obtain ⟨hob, out, seen, hlv, ⟨v, hgv, hrow⟩, hlen, hask⟩ := hI
  have HX := hid hx
  have HNO := hid hno
  have HOA := hid hoa
  have HN := hid hn
  have HS := hid hs
  have HASK := hid hask
  have HLBB := hid hlbase
  have HLEN := hid hlen
  have HROW := hid hrow
  have H := hid h
  have HL := hid hl
  -- the world behind the first statement
  have hw1 : Only (· = lB) w (w.setCell ⟨lB, 0, none⟩ (.int .i64 (r.no : Int))) := only_at (Only.refl _ _) _ _
  have HW1 := hid hw1
  have HO1 := hid (Blk.only hob hw1 hlo.symm)
  have HG1 := hid (Blk.only hgv hw1 hlg.symm)
  have HL1 := hid (show Blk (w.setCell ⟨lB, 0, none⟩ (.int .i64 (r.no : Int))) lB [.int .i64 (r.no : Int)] 3 from Blk.set hlv 0 _)
  have HR1 := hid (show RdAt (w.setCell ⟨lB, 0, none⟩ (.int .i64 (r.no : Int))) r 0 from Blk.only h hw1 hlp.symm)
  have HLR := hid (hl.only hw1 hlw.symm hlc.symm)
  have HOP1 := hid (hops.only hw1 hlb.symm)
  have HROW1 := hid (ownsRow_setCell_below hrow (a := ⟨lB, 0, none⟩) hlbase (.int .i64 (r.no : Int)))
  have l0 := hlv.cell 0 rfl
  have lf := hlv.free
  have g0 := hgv.cell 0 rfl
  have o0 := hob.cell 0 rfl
  have HT1 : Hid (∀ {a b : World}, Only (fun k => k = r.p ∨ k = gB ∨ k = lB ∨ base ≤ k) a b → Only T a b) := @fun a b h => h.mono (fun k _ hk => by rcases hk with rfl | rfl | rfl | hk <;> first | assumption | exact hTb _ hk)
  have hz1 : (w.setCell ⟨lB, 0, none⟩ (.int .i64 (r.no : Int))).heap.size = w.heap.size := by simp [World.setCell]
  have HZ1 := hid hz1
  have HBASE := hid hbase
  have HGB := hid hgbase
  have HGF := hid (show ∀ j, (w.setCell ⟨lB, 0, none⟩ (.int .i64 (r.no : Int))).frozen? ⟨gB, j, none⟩ = false from (HG1.out : Blk _ _ _ _).free)
  have hdd : Only (fun _ : Nat => False) (w.setCell ⟨lB, 0, none⟩ (.int .i64 (r.no : Int))) (w.setCell ⟨lB, 0, none⟩ (.int .i64 (r.no : Int))).drew := (Only.refl _ _).drew
  have HLD := hid (HLR.out.only hdd (fun h => h) (fun h => h))
  have HOPD := hid (HOP1.out.only hdd (fun h => h))
  have o1 := HO1.out.cell 0 rfl
  have g1 := HG1.out.cell 0 rfl
  have lp := hid (show r.p < w.heap.size from Blk.lt h)
  clear hdd
  clear hx hno hoa hn hs hask hlen hrow h hl hob hlv hgv hops hp hg hlT hTb hw1 hz1 hbase hgbase hlbase
  cases hv : askF ws cs os [] 0 with
  | error p =>
    obtain ⟨⟨ec, col⟩, o⟩ := p
    have HV := hid hv
    have hpl := hid (show (playR r.no ws cs os) = (o, (ec, (r.no : Int), col)) by unfold playR; rw [hv])
    have HST := hid (HASK.out.trans (each_stop HX.out (by show (playR r.no ws cs os).2 ≠ _; rw [hpl.out]; intro h; injection h with _ h; injection h with h _; have := HNO.out; omega)))
    clear hv
    go_enter Try.func22, Try.ntmps22
    go_wp2_with (go_at_call 23; (with_reducible refine (line_any H.out).mono ?_); rintro e w' ⟨rfl, rfl⟩)
    go_region_dies
    all_goals
      refine (asked_at_err (w := (w.setCell ⟨lB, 0, none⟩ (.int .i64 (r.no : Int))).drew) HV.out HR1.out HLD.out HS.out HN.out hn30 hbp HOA.out HOPD.out).mono ?_
      rintro e w2 ⟨rfl, ho2⟩
      have hk2 : Only (· = r.p) (w.setCell ⟨lB, 0, none⟩ (.int .i64 (r.no : Int))) w2 := (Only.refl _ _).drew.trans ho2
      have hl2 := Blk.only HL1.out hk2 hlp
      refine ⟨rfl, HT1.out ((HW1.out.mono (fun k _ hk => .inr (.inr (.inl hk)))).trans (hk2.mono (fun k _ hk => .inl hk))), .inr ⟨ec, col, rfl, ?_⟩⟩
      have hst := HST.out
      rw [hpl.out] at hst
      exact ⟨_, _, hl2, hst, fun h => by have := HNO.out; have := h.2.1; dsimp only at this; omega⟩
  | ok p =>
    obtain ⟨o, t⟩ := p
    have HV := hid hv
    clear hv
    have keep : Hid (∀ w2, Only (· = r.p) (w.setCell ⟨lB, 0, none⟩ (.int .i64 (r.no : Int))).drew w2 → Only (· = r.p) (w.setCell ⟨lB, 0, none⟩ (.int .i64 (r.no : Int))) w2) := hid (fun w2 h => (Only.refl _ _).drew.trans h)
    cases o with
    | nil =>
      rcases row_shape HROW1.out with ⟨hu, hz⟩ | ⟨g, cp, hu, hgc⟩
      · subst hu
        clear hz
        go_enter Try.func22, Try.ntmps22
        go_wp2_with (go_at_call 23; (with_reducible refine (line_any H.out).mono ?_); rintro e w' ⟨rfl, rfl⟩)
        go_region_law ((go_simp; refine (asked_at_nil (w := (w.setCell ⟨lB, 0, none⟩ (.int .i64 (r.no : Int))).drew) HV.out HR1.out HLD.out HS.out HN.out hn30 hbp HOA.out HOPD.out).mono ?_; rintro e w2 ⟨rfl, ho2, hr2⟩; have hgv2 := Blk.only HG1.out (keep.out _ ho2) hgp; have g2 := hgv2.cell 0 rfl; have gf2 := hgv2.free))
        all_goals
          have hk2 := keep.out _ ho2
          have hrow2 := row_keep HROW1.out HR1.out (by decide) hk2
          have hT2 := (HW1.out.mono (T := fun k => k = r.p ∨ k = gB ∨ k = lB ∨ base ≤ k) (fun k _ hk => .inr (.inr (.inl hk)))).trans (hk2.mono (fun k _ hk => .inl hk))
          go_wp2_with fail
          go_end0
          refine each_fin HX.out HV.out HASK.out HLEN.out (by simp) (HT1.out (hT2.setCell (p := ⟨gB, 0, none⟩) (.inr (.inl rfl)) _)) (Blk.other hr2 hgp.symm _) (Blk.other (Blk.only HO1.out hk2 hop) hgo.symm _) (Blk.other (Blk.only HL1.out hk2 hlp) hlg _) ⟨_, hgv2.set 0 _, ?_⟩
          rw [List.append_nil]
          exact ownsRow_setCell_below hrow2 (a := ⟨gB, 0, none⟩) HGB.out _
      · subst hu
        go_enter Try.func22, Try.ntmps22
        go_wp2_with (go_at_call 23; (with_reducible refine (line_any H.out).mono ?_); rintro e w' ⟨rfl, rfl⟩)
        go_region_law ((go_simp; refine (asked_at_nil (w := (w.setCell ⟨lB, 0, none⟩ (.int .i64 (r.no : Int))).drew) HV.out HR1.out HLD.out HS.out HN.out hn30 hbp HOA.out HOPD.out).mono ?_; rintro e w2 ⟨rfl, ho2, hr2⟩; have hgv2 := Blk.only HG1.out (keep.out _ ho2) hgp; have g2 := hgv2.cell 0 rfl; have gf2 := hgv2.free))
        all_goals
          have hk2 := keep.out _ ho2
          have hrow2 := row_keep HROW1.out HR1.out (by decide) hk2
          have hT2 := (HW1.out.mono (T := fun k => k = r.p ∨ k = gB ∨ k = lB ∨ base ≤ k) (fun k _ hk => .inr (.inr (.inl hk)))).trans (hk2.mono (fun k _ hk => .inl hk))
          go_wp2_with fail
          go_end0
          refine each_fin HX.out HV.out HASK.out HLEN.out (by simp) (HT1.out (hT2.setCell (p := ⟨gB, 0, none⟩) (.inr (.inl rfl)) _)) (Blk.other hr2 hgp.symm _) (Blk.other (Blk.only HO1.out hk2 hop) hgo.symm _) (Blk.other (Blk.only HL1.out hk2 hlp) hlg _) ⟨_, hgv2.set 0 _, ?_⟩
          rw [List.append_nil]
          exact ownsRow_setCell_below hrow2 (a := ⟨gB, 0, none⟩) HGB.out _
    | cons u o =>
      generalize hO : u :: o = O at *
      have hne : 0 < O.length := by rw [← hO]; simp
      clear hO
      obtain ⟨iS, hi0, hz0, hz1, hz2⟩ := info_parts infoS
      have hi0 := hid hi0
      have hz0 := hid hz0
      have hz1 := hid hz1
      have hz2 := hid hz2
      have HNE := hid hne
      clear hne
      go_enter Try.func22, Try.ntmps22
      go_wp2_with (go_at_call 23; (with_reducible refine (line_any H.out).mono ?_); rintro e w' ⟨rfl, rfl⟩)
      go_region_law (first
        | (refine step_append_lies _ (by rfl) _ _ 39 (by rfl) base 9 iS (.string ByteArray.empty) 1 16 Try.underlying39 hi0.out hz0.out hz1.out hz2.out rfl (by decide) v out.length (strs out) (by rfl) hrow2 ⟨g', 0, none⟩ O.length cp' (strs O) (by rfl) (by simp [strs]) (by intro j y hj; rw [addr_add, Nat.zero_add]; exact hc' j y hj) (by intro y hy; unfold strs at hy; obtain ⟨q, _, rfl⟩ := List.mem_map.1 hy; rfl) HNE.out (by unfold maxLen; have := HLEN.out; omega) (by have := HLEN.out; omega) hsz2 _ rfl ?_; intro gn cap w3 hown3 hgrow hat hlt3; have hgv3 := Blk.grown hgv2 hgrow (own_ne hrow2 HGB.out); have g3 := hgv3.cell 0 rfl; have gf3 := hgv3.free)
        | (go_simp; refine (asked_at_some (w := (w.setCell ⟨lB, 0, none⟩ (.int .i64 (r.no : Int))).drew) HV.out HNE.out HR1.out HLD.out HS.out HN.out hn30 hbp HOA.out HOPD.out).mono ?_; rintro e w2 ⟨g', cp', rfl, ho2, hr2, ho30, hc'⟩; have hk2 := keep.out _ ho2; have hgv2 := Blk.only HG1.out hk2 hgp; have g2 := hgv2.cell 0 rfl; have hrow2 := row_keep HROW1.out HR1.out (by decide) hk2; have hsz2 : base ≤ w2.heap.size := Nat.le_trans HBASE.out (Nat.le_trans (Nat.le_of_eq HZ1.out.symm) hk2.size)))
      all_goals
        have hrn : Blk w2 r.p _ _ := hr2
        have hrpb : r.p < base ∨ base ≤ r.p := by omega
        have hr3 : RdAt w3 r t := Blk.grown hrn hgrow (by
          rcases row_shape hrow2 with ⟨hu, _⟩ | ⟨gg, cc', hu, _⟩
          · rw [hu]; simp [Value.ownBlock]
          · rw [hu]
            simp only [Value.ownBlock, ne_eq, Option.some.injEq]
            intro e
            rw [hu] at hrow2
            rcases hrow2.2 with ⟨h, _⟩ | ⟨g1, _, _, h, _, hh, _⟩
            · cases h
            · cases h
              rw [← e, (show w2.heap[r.p]? = _ from hrn)] at hh
              simp at hh)
        have hT3 := ((HW1.out.mono (T := fun k => k = r.p ∨ k = gB ∨ k = lB ∨ base ≤ k) (fun k _ hk => .inr (.inr (.inl hk)))).trans (hk2.mono (fun k _ hk => .inl hk))).grown hgrow (fun k hk _ => .inr (.inr (.inr (hrow2.lt k hk).1)))
        have hob3 := Blk.grown (Blk.only HO1.out hk2 hop) hgrow (own_ne hrow2 hobase)
        have hlb3 := Blk.grown (Blk.only HL1.out hk2 hlp) hgrow (own_ne hrow2 HLBB.out)
        have HOWN := hid hown3
        clear hown3
        go_wp2_with fail
        go_end0
        refine each_fin HX.out HV.out HASK.out HLEN.out ho30 (HT1.out (hT3.setCell (p := ⟨gB, 0, none⟩) (.inr (.inl rfl)) _)) (Blk.other hr3 hgp.symm _) (Blk.other hob3 hgo.symm _) (Blk.other hlb3 hlg _) ⟨_, hgv3.set 0 _, ?_⟩
        rw [strs_more, List.length_append]
        exact ownsRow_setCell_below HOWN.out (a := ⟨gB, 0, none⟩) HGB.out _

end Go.Proofs.Ytejigbhcpejijaa.Ln
