/-
  SEVERAL TEXTS, one behind the other.
-/
import Derived.Test.YtmeaajhongalaaaGreatDoorTakeS
import Derived.Test.YtmeaajhongalaaaGreatDoorTexts
import Derived.Deep.AppendLies
/-
  LAYER 7, PACKAGE index: needs in memory; how the world stands in the midst of TakeNeed.
-/
namespace Go.Proofs.YtmeaajhongalaaaGreatDoor.Ix
open Go.RowKit
open Go.Proofs.YtmeaajhongalaaaGreatDoor Go.Proofs.YtmeaajhongalaaaGreatDoor.Ln Go.Proofs.YtmeaajhongalaaaGreatDoor.Vs Go.Proofs.YtmeaajhongalaaaGreatDoor.Sp Go.Proofs.YtmeaajhongalaaaGreatDoor.Sf

/-- a need in memory: its three cells -/
def NeedV (F : Nat → Prop) (w : World) (a b c : Value) (n : NeedS) : Prop :=
  a = .string ⟨n.name.toArray⟩ ∧ (∃ rs, rngOf n.rng = some rs ∧ RngF F w b rs) ∧ StrsF F w c n.feats
theorem NeedV.kept {F : Nat → Prop} {w w' : World} {a b c : Value} {n : NeedS} (h : NeedV F w a b c n) (hk : Kept F w w') : NeedV F w' a b c n := by
  obtain ⟨h1, ⟨rs, h2, h3⟩, h4⟩ := h
  exact ⟨h1, ⟨rs, h2, h3.kept hk⟩, h4.kept hk⟩
theorem NeedV.mono {F G : Nat → Prop} {w : World} {a b c : Value} {n : NeedS} (h : NeedV F w a b c n) (hG : ∀ b, b < w.heap.size → F b → G b) : NeedV G w a b c n := by
  obtain ⟨h1, ⟨rs, h2, h3⟩, h4⟩ := h
  exact ⟨h1, ⟨rs, h2, h3.mono hG⟩, h4.mono hG⟩
theorem RngF.shape {F : Nat → Prop} {w : World} {v : Value} {rs : List (List CompT)} (h : RngF F w v rs) : ∃ a n c, v = .slice a n c := by
  obtain ⟨G, cp, vs, rfl, _⟩ := h
  exact ⟨_, _, _, rfl⟩

/-- how the world stands in the midst of TakeNeed -/
structure TnSt (w w' : World) (r : Rd) (t : Nat) (ws : Words) (cs : List Nat) (a b c : Value) : Prop where
  only : Only (· = r.p) w w'
  rd : RdAt w' r t
  rl : RdL w' r ws cs
  plt : r.p < w.heap.size
  res : Blk w' w.heap.size [.string ⟨#[]⟩, .slice none 0 0, .slice none 0 0] 64
  n : Blk w' (w.heap.size + 1) [a, b, c] 64

theorem TnSt.step {w w' w'' : World} {r : Rd} {t t' : Nat} {ws : Words} {cs : List Nat} {a b c : Value} (h : TnSt w w' r t ws cs a b c) (ho : Only (· = r.p) w' w'') (hr : RdAt w'' r t') : TnSt w w'' r t' ws cs a b c :=
  ⟨h.only.trans ho, hr, h.rl.self ho, h.plt, Ln.Blk.only h.res ho (by have := h.plt; omega), Ln.Blk.only h.n ho (by have := h.plt; omega)⟩
theorem TnSt.below {w w' w'' : World} {r : Rd} {t : Nat} {ws : Words} {cs : List Nat} {a b c : Value} (h : TnSt w w' r t ws cs a b c) (hb : Below w'.heap.size w' w'') : TnSt w w'' r t ws cs a b c :=
  h.step (Only.of_below hb) (h.rd.below hb)
theorem TnSt.alloc {w w' : World} {r : Rd} {t : Nat} {ws : Words} {cs : List Nat} {a b c : Value} (h : TnSt w w' r t ws cs a b c) (o : Obj) : TnSt w (w'.alloc o) r t ws cs a b c :=
  h.below (below_alloc (Below.refl _ _) o)
theorem RdL.set {w : World} {r : Rd} {ws : List (List UInt8)} {cs : List Nat} (h : RdL w r ws cs) {b j : Nat} (hw : r.wB ≠ b) (hc : r.cB ≠ b) (u : Value) : RdL (w.setCell ⟨b, j, none⟩ u) r ws cs :=
  h.only (S := (· = b)) (Only.setCell (S := (· = b)) (p := ⟨b, j, none⟩) (Only.refl _ _) rfl u) hw hc
/-- the need's j-th cell is written -/
theorem TnSt.set {w w' : World} {r : Rd} {t : Nat} {ws : Words} {cs : List Nat} {a b c : Value} (h : TnSt w w' r t ws cs a b c) (hw : r.wB < w.heap.size) (hc : r.cB < w.heap.size) (j : Nat) (u : Value) {a' b' c' : Value} (e : [a, b, c].set j u = [a', b', c']) : TnSt w (w'.setCell ⟨w.heap.size + 1, j, none⟩ u) r t ws cs a' b' c' :=
  ⟨only_new h.only (by omega) u, Blk.other h.rd (by have := h.plt; show r.p ≠ w.heap.size + 1; omega) u, RdL.set h.rl (by omega) (by omega) u, h.plt, h.res.other (by show w.heap.size ≠ w.heap.size + 1; omega) u, e ▸ h.n.set j u⟩
theorem TnSt.grown {w w' w'' : World} {r : Rd} {t : Nat} {ws : Words} {cs : List Nat} {a b c : Value} {row : Option Nat} (h : TnSt w w' r t ws cs a b c) (hw : r.wB < w.heap.size) (hc : r.cB < w.heap.size) (hg : w'.grownBy w'' row) (hr : ∀ k, row = some k → w.heap.size + 2 ≤ k) : TnSt w w'' r t ws cs a b c :=
  ⟨h.only.grown hg (fun k hk hl => by have := hr k hk; omega), Blk.grown h.rd hg (by intro e; have := hr _ e.symm; have := h.plt; omega),
   h.rl.only (S := fun k => some k = row) ((Only.refl _ _).grown hg (fun k hk _ => hk.symm)) (by intro e; have := hr _ e.symm; omega) (by intro e; have := hr _ e.symm; omega),
   h.plt, h.res.grown hg (by intro e; have := hr _ e.symm; omega), h.n.grown hg (by intro e; have := hr _ e.symm; omega)⟩

/-- how many words a reader has taken -/
def takenOf (p : Nat) (w : World) : Nat := match w.cell? ⟨p, 3, none⟩ with
  | some v => (intOf v).toNat
  | none => 0
theorem takenOf_at {w : World} {r : Rd} {t : Nat} (h : RdAt w r t) : takenOf r.p w = t := by
  unfold takenOf
  rw [h.cell 3 rfl]
  simp [intOf]

@[go_sem] theorem eqPN (a : Addr) (w : World) : (binOp .eql 91 (.pointer (some a)) (.pointer none)).run Tryz.prog w = .ok (.bool false) w := by kernel_rfl

/-- a need that is taken -/
def HasN (r : Rd) (t : Nat) (n : NeedS) (w : World) (e : Ending) (w' : World) : Prop :=
  ∃ b c, e = .returned (.agg #[.string ⟨n.name.toArray⟩, b, c]) ∧ Only (· = r.p) w w' ∧ RdAt w' r t ∧ NeedV (fun k => w.heap.size ≤ k) w' (.string ⟨n.name.toArray⟩) b c n
def NeedRes (r : Rd) (o : Except Err (NeedS × Nat)) (w : World) (e : Ending) (w' : World) : Prop := match o with
  | .ok (n, t) => HasN r t n w e w'
  | .error (c, col) => Gives r ⟨(c : Int), r.no, (col : Nat)⟩ w e w'

theorem infoS : (Tryz.prog.info? 9).map (fun i => (i.zero, i.size, i.bytes)) = some (some (.string ⟨#[]⟩), 1, 16) := by kernel_rfl
theorem strs_app (fs : Words) (x : List UInt8) : Ln.strs (fs ++ [x]) = Ln.strs fs ++ [.string ⟨x.toArray⟩] := by simp [Ln.strs]

theorem formsCheck : Forms 61 Nm.checkV := ⟨fun _ _ => by simp [go_sem], fun x hx w => Nm.check_any x hx w⟩
theorem formsPlain : Forms 70 Nm.plain := ⟨fun _ _ => by simp [go_sem], fun x hx w => Nm.plain_any x hx w⟩

end Go.Proofs.YtmeaajhongalaaaGreatDoor.Ix

/-
  LAYER 7, PACKAGE index: TakeNeed.
-/
namespace Go.Proofs.YtmeaajhongalaaaGreatDoor.Ix
open Go.RowKit
open Go.Proofs.YtmeaajhongalaaaGreatDoor Go.Proofs.YtmeaajhongalaaaGreatDoor.Ln Go.Proofs.YtmeaajhongalaaaGreatDoor.Vs Go.Proofs.YtmeaajhongalaaaGreatDoor.Sp Go.Proofs.YtmeaajhongalaaaGreatDoor.Sf

set_option maxRecDepth 100000 in
set_option maxHeartbeats 8000000 in
theorem takeNeed_any {w w0 : World} {r : Rd} {t : Nat} {ws : Words} {cs : List Nat} (h : RdAt w r t) (hl : RdL w r ws cs) (hs : ∀ u, u ∈ ws → u.length ≤ 1000) (hn : ws.length ≤ 1000) (hb0 : Below w0.heap.size w0 w) (hm : MaxAt w0) (hg : SignsAt w0) (hp0 : w0.heap.size ≤ r.p) (most : Int) :
    Calls Tryz.prog 33 #[.pointer (some ⟨r.p, 0, none⟩), .int .i64 most] w (NeedRes r (needP most ws cs t) w) := by
  have hs2 := hid (fun u (hu : u ∈ ws) => show u.length ≤ 140737488355328 from by have := hs u hu; omega)
  have HS := hid hs
  have hwl := hl.wl
  have hcl := hl.cl
  have hrp := h.lt
  -- the world behind the two blocks
  have E1 : (w.alloc (.cells #[.string ⟨#[]⟩, .slice none 0 0, .slice none 0 0] 64)).heap.size = w.heap.size + 1 := by simp
  have hb1 : Below w.heap.size w ((w.alloc (.cells #[.string ⟨#[]⟩, .slice none 0 0, .slice none 0 0] 64)).alloc (.cells #[.string ⟨#[]⟩, .slice none 0 0, .slice none 0 0] 64)) := below_alloc (below_alloc (Below.refl _ _) _) _
  have ST : TnSt w ((w.alloc (.cells #[.string ⟨#[]⟩, .slice none 0 0, .slice none 0 0] 64)).alloc (.cells #[.string ⟨#[]⟩, .slice none 0 0, .slice none 0 0] 64)) r t ws cs (.string ⟨#[]⟩) (.slice none 0 0) (.slice none 0 0) :=
    ⟨Only.of_below hb1, h.below hb1, hl.self (Only.of_below hb1), hrp, (Blk.new w [.string ⟨#[]⟩, .slice none 0 0, .slice none 0 0] _).alloc _, by have := Blk.new (w.alloc (.cells #[.string ⟨#[]⟩, .slice none 0 0, .slice none 0 0] 64)) [.string ⟨#[]⟩, .slice none 0 0, .slice none 0 0] 64; rw [E1] at this; exact this⟩
  have HST := hid ST
  have HB0 := hid hb0
  have HM := hid hm
  have HG := hid hg
  have HP0 := hid hp0
  have HWL := hid hwl
  have HCL := hid hcl
  have HRP := hid hrp
  clear ST hb1 E1 h hl hs hb0 hm hg hp0
  have hq : ∀ w', Only (· = r.p) w w' → Below w0.heap.size w0 w' := fun w' ho => base_only HB0.out ho HP0.out
  have HQ := hid hq
  clear hq hwl hcl hrp
  cases hnm : takeW Nm.checkV ws cs t with
  | error e =>
    obtain ⟨c, col⟩ := e
    have HR := hid (show needP most ws cs t = .error (c, col) by unfold needP; rw [hnm])
    rw [HR.out]
    have HNM := hid hnm
    clear hnm HR
    go_enter Tryz.func33, Tryz.ntmps33
    go_wp2_with fail
    generalize ((w.alloc (.cells #[.string ⟨#[]⟩, .slice none 0 0, .slice none 0 0] 64)).alloc (.cells #[.string ⟨#[]⟩, .slice none 0 0, .slice none 0 0] 64)) = W1 at HST ⊢
    refine (checked_any 61 W1).mono ?_
    rintro e w2 ⟨rfl, rfl⟩
    have HB2 := hid ((Blk.new W1 [.func (.func 61) #[] #[]] 104).cell 0 rfl)
    have S2 := hid (HST.out.alloc (.cells #[.func (.func 61) #[] #[]] 104))
    generalize W1.heap.size = B2 at HB2 ⊢
    change Hid ((W1.alloc (.cells #[.func (.func 61) #[] #[]] 104)).cell? _ = _) at HB2
    generalize W1.alloc (.cells #[.func (.func 61) #[] #[]] 104) = W2 at HB2 S2 ⊢
    go_wp2_with fail
    refine (takeS_err S2.out.rd S2.out.rl hs2.out 61 Nm.checkV formsCheck B2 HB2.out HNM.out).mono ?_
    rintro e w3 ⟨rfl, ho⟩
    exact ⟨rfl, rfl, S2.out.only.trans ho⟩
  | ok nm =>
    have HNM := hid hnm
    clear hnm
    generalize hG : needP most ws cs t = G
    replace hG := hid hG
    go_enter Tryz.func33, Tryz.ntmps33
    go_wp2_with fail
    generalize ((w.alloc (.cells #[.string ⟨#[]⟩, .slice none 0 0, .slice none 0 0] 64)).alloc (.cells #[.string ⟨#[]⟩, .slice none 0 0, .slice none 0 0] 64)) = W1 at HST ⊢
    refine (checked_any 61 W1).mono ?_
    rintro e w2 ⟨rfl, rfl⟩
    have HB2 := hid ((Blk.new W1 [.func (.func 61) #[] #[]] 104).cell 0 rfl)
    have S2 := hid (HST.out.alloc (.cells #[.func (.func 61) #[] #[]] 104))
    generalize W1.heap.size = B2 at HB2 ⊢
    change Hid ((W1.alloc (.cells #[.func (.func 61) #[] #[]] 104)).cell? _ = _) at HB2
    generalize W1.alloc (.cells #[.func (.func 61) #[] #[]] 104) = W2 at HB2 S2 ⊢
    go_wp2_with fail
    refine (takeS_ok S2.out.rd S2.out.rl hs2.out 61 Nm.checkV formsCheck B2 HB2.out HNM.out).mono ?_
    rintro e w3 ⟨rfl, ho, hr⟩
    have S3 := hid (S2.out.step ho hr)
    have n3 := S3.out.n.free
    have m3 := S3.out.n.cell 0 rfl
    have l3 := S3.out.n.lt
    clear ho hr
    go_wp2_with fail
    have S4 := hid (S3.out.set HWL.out HCL.out 0 (.string ⟨nm.toArray⟩) (a' := .string ⟨nm.toArray⟩) (b' := .slice none 0 0) (c' := .slice none 0 0) rfl)
    clear S3 S2 n3 l3 m3
    generalize w3.setCell ⟨w.heap.size + 1, 0, none⟩ (.string ⟨nm.toArray⟩) = w4 at S4 ⊢
    cases hrg : takeW isRng ws cs (t + 1) with
    | error e =>
      obtain ⟨c, col⟩ := e
      have HR := hid (show G = .error (c, col) by rw [← hG.out]; unfold needP; rw [HNM.out]; dsimp only; rw [hrg])
      refine (takeR_err S4.out.rd S4.out.rl HS.out (HQ.out _ S4.out.only) HM.out HG.out HP0.out hrg).mono ?_
      rintro e w5 ⟨rfl, ho⟩
      have key : NeedRes r G w (.panicked [{ v := stopV r.ea ⟨(c : Int), r.no, (col : Nat)⟩, recovered := false }]) w5 := by rw [HR.out]; exact ⟨rfl, S4.out.only.trans ho⟩
      exact ⟨rfl, key⟩
    | ok rg =>
      have HR0 := hid (show G = (if 0 < most then match featsC most ws cs (t + 2) [] with
        | .error e => .error e
        | .ok fs => .ok (⟨nm, rg, fs⟩, ws.length) else .ok (⟨nm, rg, []⟩, t + 2)) by rw [← hG.out]; unfold needP featsC; rw [HNM.out]; dsimp only; rw [hrg]; rfl)
      have ht2 := hid (show t + 2 ≤ ws.length by obtain ⟨h1, _⟩ := takeW_ok hrg; omega)
      refine (takeR_ok S4.out.rd S4.out.rl HS.out (HQ.out _ S4.out.only) HM.out HG.out HP0.out hrg).mono ?_
      rintro e w5 ⟨v, rs, rfl, ho, hr, hrs, hv⟩
      obtain ⟨va, vn, vc, rfl⟩ := RngF.shape hv
      have hsz4 := S4.out.n.lt
      have S5 := hid (S4.out.step ho hr)
      have HRS := hid hrs
      have HV5 := hid (RngF.mono (G := fun b => w.heap.size + 2 ≤ b ∧ b < w5.heap.size) hv (fun b hb h => ⟨by omega, hb⟩))
      have n5 := S5.out.n.free
      have m5 := S5.out.n.cell 1 rfl
      have l5 := S5.out.n.lt
      clear ho hr hrs hv hrg hsz4
      go_wp2_with fail
      have S6 := hid (S5.out.set HWL.out HCL.out 1 (.slice va vn vc) (a' := .string ⟨nm.toArray⟩) (b' := .slice va vn vc) (c' := .slice none 0 0) rfl)
      have HV6 := hid (RngF.kept HV5.out ((Kept.refl _ w5).setCell (p := ⟨w.heap.size + 1, 1, none⟩) (by show ¬ (w.heap.size + 2 ≤ w.heap.size + 1 ∧ _); omega) (.slice va vn vc)))
      have L6 := hid (show w5.heap.size ≤ (w5.setCell ⟨w.heap.size + 1, 1, none⟩ (.slice va vn vc)).heap.size by simp)
      have LW := hid (show w.heap.size + 2 ≤ w5.heap.size from l5)
      clear S5 S4 n5 l5 m5 HV5
      generalize hw6 : w5.setCell ⟨w.heap.size + 1, 1, none⟩ (.slice va vn vc) = w6 at S6 HV6 L6 ⊢
      clear hw6
      generalize w5.heap.size = L at HV6 L6 LW
      clear hG
      go_loopw [6] (fun _ wr => ∃ (t1 : Nat) (fs : Words) (a : Option Addr) (n c : Nat), Hid (t + 2 ≤ t1 ∧ t1 ≤ ws.length) ∧ Hid (TnSt w wr r t1 ws cs (.string ⟨nm.toArray⟩) (.slice va vn vc) (.slice a n c)) ∧ Hid (wr.ownsRow L 9 1 (.slice a n c) fs.length (Ln.strs fs)) ∧ Hid (L ≤ wr.heap.size) ∧ Hid (RngF (fun b => w.heap.size + 2 ≤ b ∧ b < L) wr (.slice va vn vc) rs) ∧ Hid (featsC most ws cs (t + 2) [] = featsC most ws cs t1 fs) ∧ Hid (0 < most → (fs.length : Int) ≤ most) ∧ Hid (¬ 0 < most → fs = [] ∧ t1 = t + 2) ∧ Hid (fs.length ≤ t1)) (fun _ wr => ws.length - takenOf r.p wr)
      case atStart => exact ⟨t + 2, [], none, 0, 0, hid ⟨Nat.le_refl _, ht2.out⟩, S6, hid (World.ownsRow_nil _ _ _ _), L6, HV6, hid rfl, hid (fun h => by simp; omega), hid (fun _ => ⟨rfl, rfl⟩), hid (Nat.zero_le _)⟩
      case round =>
        obtain ⟨t1, fs, fa, fn, fc, ht1, ST, OW, LL, HV, HF, HM1, HM2, HFL⟩ := hrel
        clear S6 HV6 L6
        have FIN := hid (fun (W : World) (hST : TnSt w W r t1 ws cs (.string ⟨nm.toArray⟩) (.slice va vn vc) (.slice fa fn fc)) (hOW : W.ownsRow L 9 1 (.slice fa fn fc) fs.length (Ln.strs fs)) (hHV : RngF (fun b => w.heap.size + 2 ≤ b ∧ b < L) W (.slice va vn vc) rs) =>
          show HasN r t1 ⟨nm, rg, fs⟩ w (.returned (.agg #[.string ⟨nm.toArray⟩, .slice va vn vc, .slice fa fn fc])) (((W.setCell ⟨w.heap.size, 0, none⟩ (.string ⟨nm.toArray⟩)).setCell ⟨w.heap.size, 1, none⟩ (.slice va vn vc)).setCell ⟨w.heap.size, 2, none⟩ (.slice fa fn fc)) from by
            have hp := hST.plt
            have hk : Kept (fun b => w.heap.size + 2 ≤ b) W (((W.setCell ⟨w.heap.size, 0, none⟩ (.string ⟨nm.toArray⟩)).setCell ⟨w.heap.size, 1, none⟩ (.slice va vn vc)).setCell ⟨w.heap.size, 2, none⟩ (.slice fa fn fc)) :=
              (((Kept.refl _ W).setCell (by show ¬ (w.heap.size + 2 ≤ w.heap.size); omega) _).setCell (by show ¬ (w.heap.size + 2 ≤ w.heap.size); omega) _).setCell (by show ¬ (w.heap.size + 2 ≤ w.heap.size); omega) _
            refine ⟨_, _, rfl, only_new (only_new (only_new hST.only (Nat.le_refl _) _) (Nat.le_refl _) _) (Nat.le_refl _) _, Blk.other (Blk.other (Blk.other hST.rd (by show r.p ≠ w.heap.size; omega) _) (by show r.p ≠ w.heap.size; omega) _) (by show r.p ≠ w.heap.size; omega) _, rfl, ⟨rs, HRS.out, ?_⟩, ?_⟩
            · exact RngF.mono (RngF.kept (RngF.mono hHV (G := fun b => w.heap.size + 2 ≤ b) (fun b _ h => h.1)) hk) (fun b _ h => by omega)
            · exact StrsF.mono (StrsF.kept (StrsF.mono (StrsF.of_owns hOW) (G := fun b => w.heap.size + 2 ≤ b) (fun b _ h => by have := LW.out; omega)) hk) (fun b _ h => by omega))
        have DONE : ∀ (W : World) (hST : TnSt w W r t1 ws cs (.string ⟨nm.toArray⟩) (.slice va vn vc) (.slice fa fn fc)), True := fun _ _ => trivial
        clear DONE
        by_cases hmo : 0 < most
        · have HR1 := hid (HR0.out.trans (if_pos hmo))
          by_cases hlt : t1 < ws.length
          · have hstep := hid (HF.out.trans (featsC_step hlt))
            have hT := hid (takenOf_at ST.out.rd)
            cases hp : Nm.plain ws[t1] with
            | false =>
              have HTW := hid (takeW_no (cs := cs) hlt hp)
              have HR := hid (show G = .error (1, cs.getD t1 0) by rw [HR1.out, hstep.out, if_pos hp])
              clear HR1 HR0
              clear hstep hp
              go_wp2_with fail
              refine (more_yes ST.out.rd (by rw [ST.out.rl.n]; exact hlt)).mono ?_
              rintro e w7 ⟨rfl, hd⟩
              have S7 := hid (ST.out.below hd.below)
              clear hd
              go_wp2_with fail
              refine (checked_any 70 w7).mono ?_
              rintro e w8 ⟨rfl, rfl⟩
              have HB8 := hid ((Blk.new w7 [.func (.func 70) #[] #[]] 104).cell 0 rfl)
              change Hid ((w7.alloc (.cells #[.func (.func 70) #[] #[]] 104)).cell? _ = _) at HB8
              have S8 := hid (S7.out.alloc (.cells #[.func (.func 70) #[] #[]] 104))
              generalize w7.alloc (.cells #[.func (.func 70) #[] #[]] 104) = w8 at S8 HB8 ⊢
              generalize w7.heap.size = B8 at HB8 ⊢
              go_wp2_with fail
              refine (takeS_err S8.out.rd S8.out.rl hs2.out 70 Nm.plain formsPlain B8 HB8.out HTW.out).mono ?_
              rintro e w9 ⟨rfl, ho⟩
              have key : NeedRes r G w (.panicked [{ v := stopV r.ea ⟨1, r.no, (cs.getD t1 0 : Nat)⟩, recovered := false }]) w9 := by rw [HR.out]; exact ⟨rfl, S8.out.only.trans ho⟩
              exact ⟨rfl, key⟩
            | true =>
              have HTW := hid (takeW_yes (cs := cs) hlt hp)
              rw [if_neg (by rw [hp]; simp)] at hstep
              have hwl := hid (hs2.out _ (List.getElem_mem hlt))
              have HFS := hid (show fs.length ≤ 1099511627776 by have := HFL.out; omega)
              clear hp
              generalize ws[t1] = x at *
              go_wp2_with fail
              refine (more_yes ST.out.rd (by rw [ST.out.rl.n]; exact hlt)).mono ?_
              rintro e w7 ⟨rfl, hd⟩
              have S7 := hid (ST.out.below hd.below)
              have O7 := hid (ownsRow_below OW.out hd.below)
              have V7 := hid (RngF.below HV.out hd.below)
              have L7 := hid (Nat.le_trans LL.out hd.below.size)
              clear hd
              go_wp2_with fail
              refine (checked_any 70 w7).mono ?_
              rintro e w8 ⟨rfl, rfl⟩
              have HB8 := hid ((Blk.new w7 [.func (.func 70) #[] #[]] 104).cell 0 rfl)
              change Hid ((w7.alloc (.cells #[.func (.func 70) #[] #[]] 104)).cell? _ = _) at HB8
              have b8 := hid (below_alloc (Below.refl w7.heap.size w7) (.cells #[.func (.func 70) #[] #[]] 104))
              have S8 := hid (S7.out.below b8.out)
              have O8 := hid (ownsRow_below O7.out b8.out)
              have V8 := hid (RngF.below V7.out b8.out)
              have L8 := hid (Nat.le_trans L7.out b8.out.size)
              clear S7 O7 V7 L7 b8
              generalize w7.alloc (.cells #[.func (.func 70) #[] #[]] 104) = w8 at S8 O8 V8 L8 HB8 ⊢
              generalize w7.heap.size = B8 at HB8 ⊢
              go_wp2_with fail
              refine (takeS_ok S8.out.rd S8.out.rl hs2.out 70 Nm.plain formsPlain B8 HB8.out HTW.out).mono ?_
              rintro e w9 ⟨rfl, ho, hr⟩
              have S9 := hid (S8.out.step ho hr)
              have O9 := hid (ownsRow_only O8.out ho (fun k hk _ => by have := HRP.out; have := LW.out; omega))
              have V9 := hid (RngF.kept V8.out (Kept.of_only ho (fun b _ hb => by have := HRP.out; omega)))
              have L9 := hid (Nat.le_trans L8.out ho.size)
              clear ho hr S8 O8 V8 L8 HB8 ST OW HV LL
              have n9 := S9.out.n.cell 2 rfl
              have l9 := S9.out.n.lt
              go_wp2_with fail
              refine (contains_any fs HFS.out x _ _ (rowIs_of O9.out)).mono ?_
              cases hct : fs.contains x with
              | true =>
                have HR := hid (show G = .error (3, cs.getD t1 0) by rw [HR1.out, hstep.out, if_pos hct])
                clear HR1 HR0
                clear hstep hct
                rintro e w10 ⟨rfl, rfl⟩
                go_wp2_with fail
                refine (fail_any S9.out.rd S9.out.rl hlt 3).mono ?_
                rintro e w11 ⟨rfl, ho⟩
                have key : NeedRes r G w (.panicked [{ v := stopV r.ea ⟨3, r.no, (lastC cs (t1 + 1) : Nat)⟩, recovered := false }]) w11 := by rw [HR.out]; exact ⟨rfl, S9.out.only.trans ho⟩
                exact ⟨rfl, key⟩
              | false =>
                rw [if_neg (by rw [hct]; simp)] at hstep
                clear hct
                rintro e w10 ⟨rfl, rfl⟩
                have hfn : fn = fs.length := by
                  have := O9.out.2
                  rcases this with ⟨hv, h0⟩ | ⟨g, cap, cur, hv, _⟩
                  · injection hv with _ h1 _; omega
                  · injection hv
                by_cases hq : most ≤ (fs.length : Int)
                · have HR := hid (show G = .error (2, cs.getD t1 0) by rw [HR1.out, hstep.out, if_pos hq])
                  clear HR1 HR0
                  have hqe : (fn : Int) = most := by have := HM1.out hmo; omega
                  clear hstep hq
                  go_wp2_with fail
                  refine (fail_any S9.out.rd S9.out.rl hlt 2).mono ?_
                  rintro e w11 ⟨rfl, ho⟩
                  have key : NeedRes r G w (.panicked [{ v := stopV r.ea ⟨2, r.no, (lastC cs (t1 + 1) : Nat)⟩, recovered := false }]) w11 := by rw [HR.out]; exact ⟨rfl, S9.out.only.trans ho⟩
                  exact ⟨rfl, key⟩
                · rw [if_neg hq] at hstep
                  have hqe : ¬ (fn : Int) = most := by omega
                  have hq2 := hid (show ((fs ++ [x]).length : Int) ≤ most by simp; omega)
                  obtain ⟨iC, hi, hz0, hz1, hz2⟩ := info_parts infoS
                  have hi := hid hi
                  have hz0 := hid hz0
                  have hz1 := hid hz1
                  have hz2 := hid hz2
                  have HAPP := hid (strs_app fs x)
                  have HLT := hid hlt
                  have HLN := hid (show (fs ++ [x]).length = fs.length + 1 by simp)
                  have HX2 := hid (show 0 < most from hmo)
                  have HFN := hid hfn
                  have HT9 := hid (takenOf_at S9.out.rd)
                  clear hq hlt hfn
                  generalize hfx : fs ++ [x] = fx at hstep hq2 HAPP HLN
                  replace hfx := hid hfx
                  generalize Ln.strs fs = sf at O9 HAPP
                  generalize hfl : fs.length = m at O9 HFS HLN HFN HFL
                  replace hfl := hid hfl
                  generalize (⟨x.toArray⟩ : ByteArray) = X at HAPP ⊢
                  go_wp2_with (at_builtin; refine wpList_append_lies _ rfl _ _ 62 rfl L 9 iC (.string ⟨#[]⟩) 1 16 Tryz.underlying62 hi.out hz0.out hz1.out hz2.out rfl (by decide) _ _ _ rfl (ownsRow_below O9.out (below_alloc (Below.refl _ _) _)) ⟨_, 0, none⟩ 1 1 [.string X] rfl rfl ?c1 ?c2 ?cm ?c3 ?c4 ?c5 _ rfl ?_)
                  case c1 => exact cell_one_at _ _ _ _ rfl
                  case c2 => intro u hu; simp at hu; subst hu; rfl
                  case cm => decide
                  case c3 => have := HFL.out; have := ht1.out; unfold maxLen; omega
                  case c4 => have := HFL.out; have := ht1.out; omega
                  case c5 => have := L9.out; simp; omega
                  intro g cap w12 hown12 hgrow hat hlt12
                  have A9 := hid (below_alloc (Below.refl w9.heap.size w9) (.cells #[.string X] 9))
                  have hrow : ∀ k, (Value.slice fa fn fc).ownBlock = some k → L ≤ k := fun k hk => (O9.out.lt k hk).1
                  have S12 := hid ((S9.out.below A9.out).grown HWL.out HCL.out hgrow (fun k hk => by have := hrow k hk; have := LW.out; omega))
                  have V12 := hid (RngF.kept (RngF.below V9.out A9.out) ((Kept.refl _ _).grown hgrow (fun k hk => by have := hrow k hk; omega)))
                  have L12 := hid (show L ≤ w12.heap.size from by have := L9.out; have := hgrow.size; simp at this; omega)
                  have O12 := hid hown12
                  have f12 := S12.out.n.free
                  have m12 := S12.out.n.cell 2 rfl
                  have l12 := S12.out.n.lt
                  have GL := hid (show L ≤ g from by have := (O12.out.lt g rfl).1; exact this)
                  clear hown12 hgrow hat hrow n9 l9
                  go_wp2_with fail
                  have S13 := S12.out.set HWL.out HCL.out 2 (.slice (some ⟨g, 0, none⟩) (m + 1) cap) (a' := .string ⟨nm.toArray⟩) (b' := .slice va vn vc) (c' := .slice (some ⟨g, 0, none⟩) (m + 1) cap) rfl
                  have HT13 := hid (takenOf_at S13.rd)
                  go_roundw
                  case rel =>
                    refine ⟨t1 + 1, fx, _, _, _, hid ⟨by have := ht1.out; omega, HLT.out⟩, hid S13, hid ?_, hid (by have := L12.out; simpa using this), hid (RngF.kept V12.out ((Kept.refl _ _).setCell (by show ¬ (w.heap.size + 2 ≤ w.heap.size + 1 ∧ _); omega) _)), hstep, hid (fun _ => hq2.out), hid (fun h => absurd HX2.out h), hid (by rw [HLN.out]; have := HFL.out; omega)⟩
                    rw [HLN.out, HAPP.out]
                    exact ownsRow_setCell_below O12.out (by have := LW.out; show w.heap.size + 1 < L; omega) _
                  case measure => rw [HT13.out]; have := hT.out; have := HLT.out; omega
          · have hstep := hid (HF.out.trans (featsC_end hlt))
            have HR := hid (show G = .ok (⟨nm, rg, fs⟩, ws.length) by rw [HR1.out, hstep.out])
            have hte : t1 = ws.length := by have := ht1.out; omega
            have HTE := hid hte
            clear hstep hte
            go_wp2_with fail
            refine (more_no ST.out.rd (by rw [ST.out.rl.n]; exact hlt)).mono ?_
            rintro e w7 ⟨rfl, hd⟩
            have S7 := hid (ST.out.below hd.below)
            have O7 := hid (ownsRow_below OW.out hd.below)
            have V7 := hid (RngF.below HV.out hd.below)
            have n0 := S7.out.n.cell 0 rfl
            have n1 := S7.out.n.cell 1 rfl
            have n2 := S7.out.n.cell 2 rfl
            have rf := S7.out.res.free
            have r0 := S7.out.res.cell 0 rfl
            have r1 := S7.out.res.cell 1 rfl
            have r2 := S7.out.res.cell 2 rfl
            have rl := S7.out.res.lt
            have nl := S7.out.n.lt
            clear hd
            go_wp2_with fail
            have q := three_cells S7.out.res (.string ⟨nm.toArray⟩) (.slice va vn vc) (.slice fa fn fc)
            have q0 := q.cell 0 rfl
            have q1 := q.cell 1 rfl
            have q2 := q.cell 2 rfl
            refine bodyPost_ret (v := .agg #[.string ⟨nm.toArray⟩, .slice va vn vc, .slice fa fn fc]) (by simp [results, Tryz.results33, go_sem, q0, q1, q2]) rfl ?_
            have := FIN.out w7 S7.out O7.out V7.out
            rw [HTE.out] at this
            rw [HR.out]; exact this
        · have HR := hid (HR0.out.trans (if_neg hmo))
          obtain ⟨rfl, rfl⟩ := HM2.out hmo
          have n0 := ST.out.n.cell 0 rfl
          have n1 := ST.out.n.cell 1 rfl
          have n2 := ST.out.n.cell 2 rfl
          have rf := ST.out.res.free
          have r0 := ST.out.res.cell 0 rfl
          have r1 := ST.out.res.cell 1 rfl
          have r2 := ST.out.res.cell 2 rfl
          have rl := ST.out.res.lt
          have nl := ST.out.n.lt
          go_wp2_with fail
          have q := three_cells ST.out.res (.string ⟨nm.toArray⟩) (.slice va vn vc) (.slice fa fn fc)
          have q0 := q.cell 0 rfl
          have q1 := q.cell 1 rfl
          have q2 := q.cell 2 rfl
          refine bodyPost_ret (v := .agg #[.string ⟨nm.toArray⟩, .slice va vn vc, .slice fa fn fc]) (by simp [results, Tryz.results33, go_sem, q0, q1, q2]) rfl ?_
          rw [HR.out]; exact FIN.out _ ST.out OW.out HV.out
end Go.Proofs.YtmeaajhongalaaaGreatDoor.Ix

/-
  LAYERS 7 AND 9: rows of needs in memory, as they grow.
-/
namespace Go.Proofs.YtmeaajhongalaaaGreatDoor.Ix
open Go.RowKit
open Go.Proofs.YtmeaajhongalaaaGreatDoor Go.Proofs.YtmeaajhongalaaaGreatDoor.Ln Go.Proofs.YtmeaajhongalaaaGreatDoor.Vs Go.Proofs.YtmeaajhongalaaaGreatDoor.Sp Go.Proofs.YtmeaajhongalaaaGreatDoor.Sf

/-- needs in the cells of a row -/
def NeedsF (F : Nat → Prop) (w : World) (cells : List Value) (ns : List NeedS) : Prop :=
  cells.length = ns.length * 3 ∧ ∀ i n, ns[i]? = some n → ∃ a b c, cells[i * 3]? = some a ∧ cells[i * 3 + 1]? = some b ∧ cells[i * 3 + 2]? = some c ∧ NeedV F w a b c n
theorem NeedsF.nil (F : Nat → Prop) (w : World) : NeedsF F w [] [] := ⟨rfl, fun i n h => by simp at h⟩
theorem NeedsF.kept {F : Nat → Prop} {w w' : World} {cells : List Value} {ns : List NeedS} (h : NeedsF F w cells ns) (hk : Kept F w w') : NeedsF F w' cells ns :=
  ⟨h.1, fun i n hn => by obtain ⟨a, b, c, h1, h2, h3, h4⟩ := h.2 i n hn; exact ⟨a, b, c, h1, h2, h3, h4.kept hk⟩⟩
theorem NeedsF.mono {F G : Nat → Prop} {w : World} {cells : List Value} {ns : List NeedS} (h : NeedsF F w cells ns) (hG : ∀ b, b < w.heap.size → F b → G b) : NeedsF G w cells ns :=
  ⟨h.1, fun i n hn => by obtain ⟨a, b, c, h1, h2, h3, h4⟩ := h.2 i n hn; exact ⟨a, b, c, h1, h2, h3, h4.mono hG⟩⟩
theorem NeedsF.push {F : Nat → Prop} {w : World} {cells : List Value} {ns : List NeedS} {a b c : Value} {n : NeedS} (h : NeedsF F w cells ns) (hn : NeedV F w a b c n) : NeedsF F w (cells ++ [a, b, c]) (ns ++ [n]) := by
  refine ⟨by simp [h.1]; omega, fun i m hm => ?_⟩
  by_cases hi : i < ns.length
  · rw [List.getElem?_append_left hi] at hm
    obtain ⟨a', b', c', h1, h2, h3, h4⟩ := h.2 i m hm
    have hl := h.1
    exact ⟨a', b', c', by rw [List.getElem?_append_left (by omega)]; exact h1, by rw [List.getElem?_append_left (by omega)]; exact h2, by rw [List.getElem?_append_left (by omega)]; exact h3, h4⟩
  · have hl := (List.getElem?_eq_some_iff.1 hm).1
    simp at hl
    obtain rfl : i = ns.length := by omega
    rw [List.getElem?_append_right (Nat.le_refl _), Nat.sub_self] at hm
    cases hm
    have e0 := h.1
    refine ⟨a, b, c, ?_, ?_, ?_, hn⟩
    · rw [List.getElem?_append_right (by omega), show ns.length * 3 - cells.length = 0 by omega]; rfl
    · rw [List.getElem?_append_right (by omega), show ns.length * 3 + 1 - cells.length = 1 by omega]; rfl
    · rw [List.getElem?_append_right (by omega), show ns.length * 3 + 2 - cells.length = 2 by omega]; rfl

theorem NeedV.shape {F : Nat → Prop} {w : World} {a b c : Value} {n : NeedS} (h : NeedV F w a b c n) : ∃ ba bn bc ca cn cc, b = .slice ba bn bc ∧ c = .slice ca cn cc := by
  obtain ⟨_, ⟨rs, _, hR⟩, ⟨ca, cp, hc, _⟩⟩ := h
  obtain ⟨ba, bn, bc, hb⟩ := RngF.shape hR
  exact ⟨ba, bn, bc, ca, _, cp, hb, hc⟩
/-- needs behind a field: a block that holds their slice, and the row that they lie in; what they have beside lies in F -/
structure Grow (w : World) (mB base : Nat) (T : TypeId) (F : Nat → Prop) (mv : Value) (cells : List Value) (ns : List NeedS) : Prop where
  blk : Blk w mB [mv] T
  own : w.ownsRow base 64 3 mv ns.length cells
  needs : NeedsF F w cells ns
  apart : ∀ g, mv.ownBlock = some g → ¬ F g
  mnot : ¬ F mB
  mlt : mB < base
theorem Grow.kept {w w' : World} {mB base : Nat} {T : TypeId} {F : Nat → Prop} {mv : Value} {cells : List Value} {ns : List NeedS} (h : Grow w mB base T F mv cells ns) (hk : Kept (fun b => b = mB ∨ mv.ownBlock = some b ∨ F b) w w') : Grow w' mB base T F mv cells ns :=
  ⟨hk.blk (.inl rfl) h.blk, hk.owns h.own (fun _ hb => .inr (.inl hb)), h.needs.kept (hk.mono (fun _ _ hf => .inr (.inr hf))), h.apart, h.mnot, h.mlt⟩
theorem Grow.only {w w' : World} {mB base : Nat} {T : TypeId} {F : Nat → Prop} {mv : Value} {cells : List Value} {ns : List NeedS} (h : Grow w mB base T F mv cells ns) {S : Nat → Prop} (ho : Only S w w') (h1 : ¬ S mB) (h2 : ∀ b, mv.ownBlock = some b → ¬ S b) (h3 : ∀ b, b < w.heap.size → F b → ¬ S b) : Grow w' mB base T F mv cells ns :=
  h.kept (Kept.of_only ho (fun b hb hx => by
    rcases hx with hx | hx | hx
    · rw [hx]; exact h1
    · exact h2 b hx
    · exact h3 b hb hx))
theorem Grow.below {w w' : World} {mB base : Nat} {T : TypeId} {F : Nat → Prop} {mv : Value} {cells : List Value} {ns : List NeedS} (h : Grow w mB base T F mv cells ns) (hb : Below w.heap.size w w') : Grow w' mB base T F mv cells ns := h.kept (Kept.of_below hb)
theorem infoN : (Tryz.prog.info? 64).map (fun i => (i.zero, i.size, i.bytes)) = some (some (.agg #[.string ⟨#[]⟩, .slice none 0 0, .slice none 0 0]), 3, 64) := by kernel_rfl
end Go.Proofs.YtmeaajhongalaaaGreatDoor.Ix

/-
  LAYER 9, PACKAGE manifest: takeRoot.
-/
namespace Go.Proofs.YtmeaajhongalaaaGreatDoor.Ix
open Go.RowKit
open Go.Proofs.YtmeaajhongalaaaGreatDoor Go.Proofs.YtmeaajhongalaaaGreatDoor.Ln Go.Proofs.YtmeaajhongalaaaGreatDoor.Vs Go.Proofs.YtmeaajhongalaaaGreatDoor.Sp Go.Proofs.YtmeaajhongalaaaGreatDoor.Sf

/-- what a root that is taken comes to -/
def RootOk (r : Rd) (t : Nat) (n : NeedS) (mB base : Nat) (F : Nat → Prop) (out : List NeedS) (w : World) (e : Ending) (w' : World) : Prop :=
  e = .returned (.tuple #[]) ∧ Only (fun b => b = r.p ∨ b = mB ∨ base ≤ b) w w' ∧ RdAt w' r t ∧
    ∃ mv cells F', Grow w' mB base 96 F' mv cells (out ++ [n]) ∧ (∀ b, F' b → b < w'.heap.size) ∧ (∀ b, F' b → F b ∨ w.heap.size ≤ b) ∧ w.heap.size ≤ w'.heap.size

set_option maxRecDepth 100000 in
set_option maxHeartbeats 1000000 in
theorem takeRoot_full {w : World} {r : Rd} {t : Nat} {ws : List (List UInt8)} {cs : List Nat} (h : RdAt w r t) (hl : RdL w r ws cs) (ht : t ≤ ws.length) {mB base : Nat} {F : Nat → Prop} {mv : Value} {cells : List Value} {out : List NeedS} (hG : Grow w mB base 96 F mv cells out) (h8 : out.length = 8) :
    Calls Tryz.prog 92 #[.pointer (some ⟨mB, 0, none⟩), .pointer (some ⟨r.p, 0, none⟩)] w (Gives r ⟨2, r.no, (lastC cs t : Nat)⟩ w) := by
  obtain ⟨a, c, rfl⟩ : ∃ a c, mv = .slice a out.length c := own_shape hG.own
  have c0 := hG.blk.cell 0 rfl
  rw [h8] at c0
  have H := hid h
  have HL := hid hl
  have HT := hid ht
  clear h hl ht hG h8
  go_enter Tryz.func92, Tryz.ntmps92
  go_wp2_with fail
  refine (fail_any H.out HL.out HT.out 2).mono ?_
  rintro e w1 ⟨rfl, ho⟩
  exact ⟨rfl, rfl, ho⟩

set_option maxRecDepth 100000 in
set_option maxHeartbeats 4000000 in
theorem takeRoot_err {w w0 : World} {r : Rd} {t : Nat} {ws : List (List UInt8)} {cs : List Nat} (h : RdAt w r t) (hl : RdL w r ws cs) (hs : ∀ u, u ∈ ws → u.length ≤ 1000) (hn : ws.length ≤ 1000) (hb0 : Below w0.heap.size w0 w) (hm : MaxAt w0) (hg : SignsAt w0) (hp0 : w0.heap.size ≤ r.p) {mB base : Nat} {F : Nat → Prop} {mv : Value} {cells : List Value} {out : List NeedS} (hG : Grow w mB base 96 F mv cells out) (h8 : out.length < 8) {c col : Nat} (hx : needP 4 ws cs t = .error (c, col)) :
    Calls Tryz.prog 92 #[.pointer (some ⟨mB, 0, none⟩), .pointer (some ⟨r.p, 0, none⟩)] w (Gives r ⟨(c : Int), r.no, (col : Nat)⟩ w) := by
  obtain ⟨a, c', rfl⟩ : ∃ a c, mv = .slice a out.length c := own_shape hG.own
  have c0 := hG.blk.cell 0 rfl
  have TK := hid (show Calls Tryz.prog 33 #[.pointer (some ⟨r.p, 0, none⟩), .int .i64 4] w.drew (Gives r ⟨(c : Int), r.no, (col : Nat)⟩ w.drew) from by
    have := takeNeed_any (w := w.drew) (w0 := w0) (r := r) (t := t) (ws := ws) (cs := cs) h (show RdL w.drew r ws cs from ⟨hl.n, hl.m, hl.small, hl.wp, hl.cp, hl.wl, hl.cl, hl.word, hl.col⟩) hs hn hb0.drew hm hg hp0 4
    rw [hx] at this; exact this)
  have hn8 : ¬ out.length = 8 := by omega
  clear h hl hs hn hb0 hm hg hp0 hG hx
  generalize out.length = n at *
  go_enter Tryz.func92, Tryz.ntmps92
  go_wp2_with fail
  go_region_dies
  all_goals
    refine TK.out.mono ?_
    rintro e w1 ⟨rfl, ho⟩
    exact ⟨rfl, rfl, Only.trans ((Only.refl _ _).drew) ho⟩

set_option maxRecDepth 100000 in
set_option maxHeartbeats 4000000 in
theorem takeRoot_ok {w w0 : World} {r : Rd} {t : Nat} {ws : List (List UInt8)} {cs : List Nat} (h : RdAt w r t) (hl : RdL w r ws cs) (hs : ∀ u, u ∈ ws → u.length ≤ 1000) (hn : ws.length ≤ 1000) (hb0 : Below w0.heap.size w0 w) (hm : MaxAt w0) (hg : SignsAt w0) (hp0 : w0.heap.size ≤ r.p) {mB base : Nat} {F : Nat → Prop} {mv : Value} {cells : List Value} {out : List NeedS} (hG : Grow w mB base 96 F mv cells out) (hbs : base ≤ w.heap.size) (hFl : ∀ b, F b → b < w.heap.size) (hFr : ¬ F r.p) (hmr : mB ≠ r.p) (hrr : ∀ g, mv.ownBlock = some g → g ≠ r.p) (h8 : out.length < 8) {n : NeedS} {t' : Nat} (hx : needP 4 ws cs t = .ok (n, t')) :
    Calls Tryz.prog 92 #[.pointer (some ⟨mB, 0, none⟩), .pointer (some ⟨r.p, 0, none⟩)] w (RootOk r t' n mB base F out w) := by
  obtain ⟨a, c', rfl⟩ : ∃ a c, mv = .slice a out.length c := own_shape hG.own
  have c0 := hG.blk.cell 0 rfl
  have TK := hid (show Calls Tryz.prog 33 #[.pointer (some ⟨r.p, 0, none⟩), .int .i64 4] w.drew (HasN r t' n w.drew) from by
    have := takeNeed_any (w := w.drew) (w0 := w0) (r := r) (t := t) (ws := ws) (cs := cs) h (show RdL w.drew r ws cs from ⟨hl.n, hl.m, hl.small, hl.wp, hl.cp, hl.wl, hl.cl, hl.word, hl.col⟩) hs hn hb0.drew hm hg hp0 4
    rw [hx] at this; exact this)
  unfold HasN at TK
  have hn8 : ¬ out.length = 8 := by omega
  have H8 := hid h8
  have HG := hid hG
  have HB := hid hbs
  have HFL := hid hFl
  have HFR := hid hFr
  have HMR := hid hmr
  have HRR := hid hrr
  have HRP := hid h.lt
  have HML := hid hG.blk.lt
  clear h hl hs hn hb0 hm hg hp0 hx hG hbs hFl hFr hmr hrr h8
  obtain ⟨iC, hi, hz0, hz1, hz2⟩ := info_parts infoN
  have hi := hid hi
  have hz0 := hid hz0
  have hz1 := hid hz1
  have hz2 := hid hz2
  generalize hon : out.length = m at *
  replace hon := hid hon
  have hsz := hid (show w.heap.size = w.drew.heap.size from rfl)
  have AFT := hid (fun (w1 : World) (ho : Only (· = r.p) w.drew w1) => show Grow w1 mB base 96 F (.slice a m c') cells out ∧ Only (· = r.p) w w1 ∧ w1.cell? ⟨mB, 0, none⟩ = some (.slice a m c') ∧ base ≤ w1.heap.size from by
    have ho2 : Only (· = r.p) w w1 := Only.trans ((Only.refl _ _).drew) ho
    have g := HG.out.only ho2 HMR.out HRR.out (fun b _ hb e => HFR.out (by rw [← e]; exact hb))
    exact ⟨g, ho2, g.blk.cell 0 rfl, Nat.le_trans HB.out ho2.size⟩)
  have AL := hid (fun (w1 : World) (u : List Value) (g : Grow w1 mB base 96 F (.slice a m c') cells out) => show (w1.alloc (.cells u.toArray 64)).cell? ⟨mB, 0, none⟩ = some (.slice a m c') ∧ (w1.alloc (.cells u.toArray 64)).ownsRow base 64 3 (.slice a m c') m cells from
    ⟨(g.blk.alloc _).cell 0 rfl, by have := ownsRow_below g.own (below_alloc (Below.refl w1.heap.size w1) (.cells u.toArray 64)); rw [hon.out] at this; exact this⟩)
  have GR := hid (fun (w1 w3 : World) (u : List Value) (g : Grow w1 mB base 96 F (.slice a m c') cells out) (hg : (w1.alloc (.cells u.toArray 64)).grownBy w3 (Value.slice a m c').ownBlock) => show Blk w3 mB [.slice a m c'] 96 from
    (g.blk.alloc _).grown hg (fun e => by have h1 := (g.own.lt mB e.symm).1; have h2 := g.mlt; omega))
  have FIN := hid (fun (w1 w3 : World) (ba : Option Addr) (bn bc : Nat) (ca : Option Addr) (cn cc g cap : Nat) (G1 : Grow w1 mB base 96 F (.slice a m c') cells out) (ho2 : Only (· = r.p) w w1) (hr : RdAt w1 r t') (hv : NeedV (fun k => w.drew.heap.size ≤ k) w1 (.string ⟨n.name.toArray⟩) (.slice ba bn bc) (.slice ca cn cc) n)
      (hown3 : w3.ownsRow base 64 3 (.slice (some ⟨g, 0, none⟩) (m + 1) cap) (m + 1) (cells ++ [.string ⟨n.name.toArray⟩, .slice ba bn bc, .slice ca cn cc]))
      (hgrow : (w1.alloc (.cells #[.string ⟨n.name.toArray⟩, .slice ba bn bc, .slice ca cn cc] 64)).grownBy w3 (Value.slice a m c').ownBlock) (hat : (Value.slice a m c').ownBlock = some g ∨ g = (w1.alloc (.cells #[.string ⟨n.name.toArray⟩, .slice ba bn bc, .slice ca cn cc] 64)).heap.size) =>
    show RootOk r t' n mB base F out w (.returned (.tuple #[])) (w3.setCell ⟨mB, 0, none⟩ (.slice (some ⟨g, 0, none⟩) (m + 1) cap)) from by
      have hml := HML.out
      have hrp := HRP.out
      have hz1 := ho2.size
      have hz3 := hgrow.size
      have hrow : ∀ k, (Value.slice a m c').ownBlock = some k → base ≤ k ∧ k < w.heap.size := fun k hk => HG.out.own.lt k hk
      have hmb := HG.out.mlt
      have E1 : (w1.alloc (.cells #[.string ⟨n.name.toArray⟩, .slice ba bn bc, .slice ca cn cc] 64)).heap.size = w1.heap.size + 1 := by simp
      rw [E1] at hz3 hat
      have hK : Kept (fun b => F b ∨ (w.heap.size ≤ b ∧ b < w1.heap.size)) w1 (w3.setCell ⟨mB, 0, none⟩ (.slice (some ⟨g, 0, none⟩) (m + 1) cap)) := by
        refine Kept.setCell (Kept.grown ((Kept.refl _ _).alloc _) hgrow (fun k hk hf => ?_)) (p := ⟨mB, 0, none⟩) (fun hf => ?_) _
        · rcases hf with hf | hf
          · exact HG.out.apart k hk hf
          · have := hrow k hk; omega
        · rcases hf with hf | hf
          · exact HG.out.mnot hf
          · have h2 : w.heap.size ≤ mB := hf.1
            omega
      refine ⟨rfl, ?_, ?_, .slice (some ⟨g, 0, none⟩) (m + 1) cap, cells ++ [.string ⟨n.name.toArray⟩, .slice ba bn bc, .slice ca cn cc], fun b => F b ∨ (w.heap.size ≤ b ∧ b < w1.heap.size), ⟨?_, ?_, ?_, ?_, ?_, hmb⟩, ?_, ?_, ?_⟩
      · have h1 : Only (fun b => b = r.p ∨ b = mB ∨ base ≤ b) w w3 := ((ho2.mono (fun k _ h => .inl h)).alloc _).grown hgrow (fun k hk _ => .inr (.inr (hrow k hk).1))
        exact h1.setCell (p := ⟨mB, 0, none⟩) (.inr (.inl rfl)) _
      · exact Blk.other (Blk.grown (hr.alloc _) hgrow (fun e => HRR.out _ e.symm rfl)) (a := ⟨mB, 0, none⟩) (fun e => HMR.out e.symm) _
      · exact ((G1.blk.alloc _).grown hgrow (fun e => by have h1 := (hrow mB e.symm).1; omega)).set 0 _
      · have := ownsRow_setCell_below hown3 (a := ⟨mB, 0, none⟩) (show mB < base from hmb) (.slice (some ⟨g, 0, none⟩) (m + 1) cap)
        rw [show (out ++ [n]).length = m + 1 by rw [List.length_append, hon.out]; rfl]
        exact this
      · exact ((G1.needs.mono (fun b _ hf => .inl hf)).push (hv.mono (fun b hb hf => .inr ⟨hf, hb⟩))).kept hK
      · intro k hk hf
        have hk2 : g = k := by injection hk
        subst hk2
        rcases hat with hat | hat
        · rcases hf with hf | hf
          · exact HG.out.apart g hat hf
          · have := hrow g hat; omega
        · rcases hf with hf | hf
          · have := HFL.out g hf; omega
          · omega
      · intro hf
        rcases hf with hf | hf
        · exact HG.out.mnot hf
        · omega
      · intro b hf
        have : (w3.setCell ⟨mB, 0, none⟩ (.slice (some ⟨g, 0, none⟩) (m + 1) cap)).heap.size = w3.heap.size := by simp
        rw [this]
        rcases hf with hf | hf
        · have := HFL.out b hf; omega
        · omega
      · intro b hf
        rcases hf with hf | hf
        · exact .inl hf
        · exact .inr hf.1
      · have : (w3.setCell ⟨mB, 0, none⟩ (.slice (some ⟨g, 0, none⟩) (m + 1) cap)).heap.size = w3.heap.size := by simp
        rw [this]; omega)
  go_enter Tryz.func92, Tryz.ntmps92
  go_wp2_with fail
  go_region_law (first
      | (refine step_append_lies _ rfl _ _ 46 rfl base 64 iC (.agg #[.string ⟨#[]⟩, .slice none 0 0, .slice none 0 0]) 3 64 Tryz.underlying46 hi.out hz0.out hz1.out hz2.out rfl (by decide) _ _ _ rfl (AL.out _ _ G1).2 ⟨_, 0, none⟩ 1 1 [.string ⟨n.name.toArray⟩, .slice ba bn bc, .slice ca cn cc] rfl rfl (cells_new _ [_, _, _] _ _ rfl) (by intro u hu; simp at hu; rcases hu with rfl | rfl | rfl <;> rfl) (by decide) (by have := H8.out; unfold maxLen; omega) (by have := H8.out; omega) (by have := hbs; simp; omega) _ rfl ?_; intro g cap w3 hown3 hgrow hat hlt3; have hb3 := GR.out _ _ _ G1 hgrow; have hc3 := hb3.cell 0 rfl; have hf3 := hb3.free)
      | (go_simp; (with_reducible refine TK.out.mono ?_); rintro e w1 ⟨b1, c1, rfl, ho, hr, hv⟩; obtain ⟨ba, bn, bc, ca, cn, cc, rfl, rfl⟩ := NeedV.shape hv; obtain ⟨G1, ho2, hc1, hbs⟩ := AFT.out w1 ho; have hc2 := (AL.out w1 [.string ⟨n.name.toArray⟩, .slice ba bn bc, .slice ca cn cc] G1).1))
  all_goals exact bodyPost_ret (v := .tuple #[]) (by simp [results, Tryz.results92, go_sem]) rfl (FIN.out w1 w3 ba bn bc ca cn cc g cap G1 ho2 hr hv hown3 hgrow hat)
end Go.Proofs.YtmeaajhongalaaaGreatDoor.Ix
