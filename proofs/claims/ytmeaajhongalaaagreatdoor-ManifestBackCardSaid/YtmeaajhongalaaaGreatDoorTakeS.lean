/-
  LAYER 1 at layer 7: Take of a word that is checked by a form; Take of a range.
-/
import Derived.Test.YtmeaajhongalaaaGreatDoorIB
import Derived.Test.YtmeaajhongalaaaGreatDoorNameWalks2
import Derived.Test.YtmeaajhongalaaaGreatDoorIA
import Derived.Test.YtmeaajhongalaaaGreatDoorSpecFoot
namespace Go.Proofs.YtmeaajhongalaaaGreatDoor.Ln
open Go.RowKit
open Go.Proofs.YtmeaajhongalaaaGreatDoor Go.Proofs.YtmeaajhongalaaaGreatDoor.Vs Go.Proofs.YtmeaajhongalaaaGreatDoor.Sp Go.Proofs.YtmeaajhongalaaaGreatDoor.Sf

/-- what begins with the world w0, and has its blocks still -/
theorem base_only {w0 w w' : World} {p : Nat} (h : Below w0.heap.size w0 w) (ho : Only (· = p) w w') (hp : w0.heap.size ≤ p) : Below w0.heap.size w0 w' :=
  h.trans (ho.below h.size (fun k hk e => by omega))

/-- what is written in a new block counts for nothing -/
theorem only_new {S : Nat → Prop} {w w' : World} (h : Only S w w') {b j : Nat} (hb : w.heap.size ≤ b) (v : Value) : Only S w (w'.setCell ⟨b, j, none⟩ v) :=
  ⟨h.os, h.tape, h.output, by simpa using h.size, fun k hk hs => by
    rw [Below.heap_setCell _ _ _ _ (by show k ≠ b; omega)]; exact h.block k hk hs⟩

@[go_sem] theorem eqlFSt (fn : Fn) (a b : Array Value) (w : World) : (binOp .eql 147 (.func fn a b) .nilFunc).run Tryz.prog w = .ok (.bool false) w := by kernel_rfl
@[go_sem] theorem eqlFRg (fn : Fn) (a b : Array Value) (w : World) : (binOp .eql 150 (.func fn a b) .nilFunc).run Tryz.prog w = .ok (.bool false) w := by kernel_rfl

def IsFn (K : FuncId) : Prop := ∀ (args : Array Value) (w : World), (callFunc K args).run Tryz.prog w = .ok (.enter K args) w
/-- a function of texts that says whether they are so -/
def Forms (K : FuncId) (p : List UInt8 → Bool) : Prop := IsFn K ∧ ∀ (x : List UInt8), x.length ≤ 140737488355328 → ∀ w, Calls Tryz.prog K #[.string ⟨x.toArray⟩] w (Nm.Gives (.bool (p x)) w)

theorem checked_any (K : FuncId) (w : World) :
    Calls Tryz.prog 85 #[.func (.func K) #[] #[]] w fun e w' => e = .returned (.func (.func 131) #[] #[.pointer (some ⟨w.heap.size, 0, none⟩)]) ∧ w' = w.alloc (.cells #[.func (.func K) #[] #[]] 104) := by
  have hmf : ∀ (fn : Fn) (first cap : Array Value) (w : World), (Instr.makeFunc fn first cap).run Tryz.prog w = .ok (.func fn first cap) w := fun _ _ _ _ => rfl
  go_enter Tryz.func85, Tryz.ntmps85
  go_wp2
  go_ret
  exact ⟨rfl, rfl⟩

theorem checked1_any (K : FuncId) (p : List UInt8 → Bool) (HK : Forms K p) (x : List UInt8) (hx : x.length ≤ 140737488355328) (B : Nat) (w : World) (hB : w.cell? ⟨B, 0, none⟩ = some (.func (.func K) #[] #[])) :
    Calls Tryz.prog 131 #[.string ⟨x.toArray⟩, .pointer (some ⟨B, 0, none⟩)] w fun e w' => e = .returned (.tuple #[.string ⟨x.toArray⟩, .bool (p x)]) ∧ Below w.heap.size w w' := by
  have hK := HK.1
  unfold IsFn at hK
  have HC := hid (HK.2 x hx)
  unfold Nm.Gives at HC
  generalize p x = b at HC ⊢
  clear HK hx
  generalize (⟨x.toArray⟩ : ByteArray) = X at HC ⊢
  go_enter Tryz.func131, Tryz.ntmps131
  go_wp2_with fail
  refine (HC.out _).mono ?_
  rintro e w1 ⟨rfl, hb⟩
  go_wp2
  go_ret2
  exact ⟨rfl, hb⟩

set_option maxRecDepth 100000 in
set_option maxHeartbeats 1000000 in
theorem takeS_err {w : World} {r : Rd} {t : Nat} {ws : List (List UInt8)} {cs : List Nat} (h : RdAt w r t) (hl : RdL w r ws cs) (hs : ∀ u, u ∈ ws → u.length ≤ 140737488355328) (K : FuncId) (p : List UInt8 → Bool) (HK : Forms K p) (B : Nat) (hB : w.cell? ⟨B, 0, none⟩ = some (.func (.func K) #[] #[])) {c col : Nat} (hx : Ix.takeW p ws cs t = .error (c, col)) :
    Calls Tryz.prog 84 #[.pointer (some ⟨r.p, 0, none⟩), .func (.func 131) #[] #[.pointer (some ⟨B, 0, none⟩)]] w (Gives r ⟨(c : Int), r.no, (col : Nat)⟩ w) := by
  by_cases ht : t < ws.length
  · cases hp : p ws[t] with
    | true => rw [Ix.takeW_yes ht hp] at hx; cases hx
    | false =>
      rw [Ix.takeW_no ht hp] at hx
      obtain ⟨rfl, rfl⟩ : 1 = c ∧ cs.getD t 0 = col := by injection hx with hx; injection hx with h1 h2; exact ⟨h1, h2⟩
      have hne : B ≠ r.p := by
        rintro rfl
        rw [h.cell 0 rfl] at hB; cases hB
      have H := hid h
      have HL := hid hl
      have HT := hid ht
      have W1 := hid (word_ok h hl ht)
      have HX := hid (hs _ (List.getElem_mem ht))
      have HP := hid hp
      generalize ws[t] = W at *
      have HN := hid hne
      have HBB := hid hB
      clear h hl ht hp hne hx hB hs
      go_enter Tryz.func84, Tryz.ntmps84
      go_wp2_with fail
      refine W1.out.mono ?_
      rintro e w1 ⟨rfl, ho, hr⟩
      have HO := hid ho
      have HR := hid hr
      have HB1 := hid (Only.cell ho (S := (· = r.p)) HN.out HBB.out)
      clear ho hr
      go_wp2_with fail
      refine (checked1_any K p HK W HX.out B w1 HB1.out).mono ?_
      rw [HP.out]
      rintro e w2 ⟨rfl, hb2⟩
      have HB2 := hid hb2
      clear hb2
      go_wp2_with fail
      refine (fail_any (HR.out.below HB2.out) ((HL.out.self HO.out).self (Only.of_below HB2.out)) HT.out 1).mono ?_
      rintro e w3 ⟨rfl, ho3⟩
      exact ⟨rfl, rfl, (HO.out.trans (Only.of_below HB2.out)).trans ho3⟩
  · rw [Ix.takeW_none ht] at hx
    obtain ⟨rfl, rfl⟩ : 1 = c ∧ 0 = col := by injection hx with hx; injection hx with h1 h2; exact ⟨h1, h2⟩
    have H := hid h
    have HL := hid hl
    have HT := hid ht
    clear h hl ht hx hB hs
    go_enter Tryz.func84, Tryz.ntmps84
    go_wp2_with fail
    refine (word_none H.out HL.out HT.out).mono ?_
    rintro e w1 ⟨rfl, ho⟩
    exact ⟨rfl, rfl, ho⟩

set_option maxRecDepth 100000 in
set_option maxHeartbeats 1000000 in
theorem takeS_ok {w : World} {r : Rd} {t : Nat} {ws : List (List UInt8)} {cs : List Nat} (h : RdAt w r t) (hl : RdL w r ws cs) (hs : ∀ u, u ∈ ws → u.length ≤ 140737488355328) (K : FuncId) (p : List UInt8 → Bool) (HK : Forms K p) (B : Nat) (hB : w.cell? ⟨B, 0, none⟩ = some (.func (.func K) #[] #[])) {x : List UInt8} (hx : Ix.takeW p ws cs t = .ok x) :
    Calls Tryz.prog 84 #[.pointer (some ⟨r.p, 0, none⟩), .func (.func 131) #[] #[.pointer (some ⟨B, 0, none⟩)]] w (Has r (t + 1) (.string ⟨x.toArray⟩) w) := by
  obtain ⟨ht, rfl, hp⟩ := Ix.takeW_ok hx
  have hne : B ≠ r.p := by
    rintro rfl
    rw [h.cell 0 rfl] at hB; cases hB
  have H := hid h
  have W1 := hid (word_ok h hl ht)
  have HX := hid (hs _ (List.getElem_mem ht))
  have HP := hid hp
  generalize ws[t] = W at *
  have HN := hid hne
  have HBB := hid hB
  clear h hl ht hp hne hx hB hs
  go_enter Tryz.func84, Tryz.ntmps84
  go_wp2_with fail
  refine W1.out.mono ?_
  rintro e w1 ⟨rfl, ho, hr⟩
  have HO := hid ho
  have HR := hid hr
  have HB1 := hid (Only.cell ho (S := (· = r.p)) HN.out HBB.out)
  clear ho hr
  go_wp2_with fail
  refine (checked1_any K p HK W HX.out B w1 HB1.out).mono ?_
  rw [HP.out]
  rintro e w2 ⟨rfl, hb2⟩
  go_wp2_with fail
  go_ret
  exact ⟨rfl, HO.out.trans (Only.of_below hb2), HR.out.below hb2⟩

/-- a range that is taken -/
def HasR (r : Rd) (t : Nat) (x : List UInt8) (w : World) (e : Ending) (w' : World) : Prop :=
  ∃ v rs, e = .returned (.agg #[v]) ∧ Only (· = r.p) w w' ∧ RdAt w' r t ∧ rngOf x = some rs ∧ RngF (fun b => w.heap.size ≤ b) w' v rs
theorem isRng_no {x : List UInt8} (h : Ix.isRng x = false) : rngOf x = none := by unfold Ix.isRng at h; simpa using h
theorem isRng_yes {x : List UInt8} (h : Ix.isRng x = true) : ∃ rs, rngOf x = some rs := Option.isSome_iff_exists.1 h

set_option maxRecDepth 100000 in
set_option maxHeartbeats 1000000 in
theorem takeR_err {w w0 : World} {r : Rd} {t : Nat} {ws : List (List UInt8)} {cs : List Nat} (h : RdAt w r t) (hl : RdL w r ws cs) (hs : ∀ u, u ∈ ws → u.length ≤ 1000) (hb0 : Below w0.heap.size w0 w) (hm : MaxAt w0) (hg : SignsAt w0) (hp0 : w0.heap.size ≤ r.p) {c col : Nat} (hx : Ix.takeW Ix.isRng ws cs t = .error (c, col)) :
    Calls Tryz.prog 86 #[.pointer (some ⟨r.p, 0, none⟩), .func (.func 87) #[] #[]] w (Gives r ⟨(c : Int), r.no, (col : Nat)⟩ w) := by
  have HA := h.alloc (.cells #[.slice none 0 0] 61)
  have HLA := hl.self (Only.alloc (Only.refl (· = r.p) w) (.cells #[.slice none 0 0] 61))
  by_cases ht : t < ws.length
  · cases hp : Ix.isRng ws[t] with
    | true => rw [Ix.takeW_yes ht hp] at hx; cases hx
    | false =>
      rw [Ix.takeW_no ht hp] at hx
      obtain ⟨rfl, rfl⟩ : 1 = c ∧ cs.getD t 0 = col := by injection hx with hx; injection hx with h1 h2; exact ⟨h1, h2⟩
      have HL := hid HLA
      have HT := hid ht
      have W1 := hid (word_ok HA HLA ht)
      have HX := hid (hs _ (List.getElem_mem ht))
      have HP := hid (isRng_no hp)
      generalize ws[t] = W at *
      have HPR := hid (fun w hm hg => parse_f ⟨W.toArray⟩ (by show W.toArray.size < _; have := HX.out; simp; omega) w hm hg)
      clear h hl ht hp hx hs HA HLA
      have HB0 := hid hb0
      clear hb0
      go_enter Tryz.func86, Tryz.ntmps86
      go_wp2_with fail
      refine W1.out.mono ?_
      rintro e w1 ⟨rfl, ho, hr⟩
      have HO := hid ho
      have HR := hid hr
      have HB1 := hid (base_only (below_alloc HB0.out _) ho hp0)
      clear ho hr
      go_wp2_with fail
      refine (HPR.out w1 (hm.below HB1.out) (hg.below HB1.out)).mono ?_
      rintro e w2 ⟨hb2, hcase⟩
      rcases hcase with ⟨_, rfl⟩ | ⟨rs, v, hrs, _⟩
      · have HB2 := hid hb2
        clear hb2
        go_wp2_with fail
        have hb3 : Below w2.heap.size w2 (w2.alloc (.cells #[.slice none 0 0] 61)) := below_alloc (Below.refl _ _) _
        refine (fail_any ((HR.out.below HB2.out).below hb3) (((HL.out.self HO.out).self (Only.of_below HB2.out)).self (Only.of_below hb3)) HT.out 1).mono ?_
        rintro e w3 ⟨rfl, ho3⟩
        exact ⟨rfl, rfl, ((((Only.refl _ _).alloc _).trans HO.out).trans (Only.of_below HB2.out)).trans ((Only.of_below hb3).trans ho3)⟩
      · exfalso
        have h1 : rngOf W = some rs := hrs
        rw [HP.out] at h1; cases h1
  · rw [Ix.takeW_none ht] at hx
    obtain ⟨rfl, rfl⟩ : 1 = c ∧ 0 = col := by injection hx with hx; injection hx with h1 h2; exact ⟨h1, h2⟩
    have H := hid HA
    have HL := hid HLA
    have HT := hid ht
    clear h hl ht hx hs HA HLA
    go_enter Tryz.func86, Tryz.ntmps86
    go_wp2_with fail
    refine (word_none H.out HL.out HT.out).mono ?_
    rintro e w1 ⟨rfl, ho⟩
    exact ⟨rfl, rfl, ((Only.refl _ _).alloc _).trans ho⟩

set_option maxRecDepth 100000 in
set_option maxHeartbeats 1000000 in
theorem takeR_ok {w w0 : World} {r : Rd} {t : Nat} {ws : List (List UInt8)} {cs : List Nat} (h : RdAt w r t) (hl : RdL w r ws cs) (hs : ∀ u, u ∈ ws → u.length ≤ 1000) (hb0 : Below w0.heap.size w0 w) (hm : MaxAt w0) (hg : SignsAt w0) (hp0 : w0.heap.size ≤ r.p) {x : List UInt8} (hx : Ix.takeW Ix.isRng ws cs t = .ok x) :
    Calls Tryz.prog 86 #[.pointer (some ⟨r.p, 0, none⟩), .func (.func 87) #[] #[]] w (HasR r (t + 1) x w) := by
  have HA := h.alloc (.cells #[.slice none 0 0] 61)
  have HLA := hl.self (Only.alloc (Only.refl (· = r.p) w) (.cells #[.slice none 0 0] 61))
  have HNB := Blk.new w [.slice none 0 0] 61
  have hrp := h.lt
  obtain ⟨ht, rfl, hp⟩ := Ix.takeW_ok hx
  have W1 := hid (word_ok HA HLA ht)
  have HX := hid (hs _ (List.getElem_mem ht))
  have HP := hid (isRng_yes hp)
  generalize ws[t] = W at *
  have HPR := hid (fun w hm hg => parse_f ⟨W.toArray⟩ (by show W.toArray.size < _; have := HX.out; simp; omega) w hm hg)
  have HN := hid HNB
  have HRP := hid hrp
  clear h hl ht hp hx hs HA HLA HNB hrp
  have HB0 := hid hb0
  clear hb0
  go_enter Tryz.func86, Tryz.ntmps86
  go_wp2_with fail
  refine W1.out.mono ?_
  rintro e w1 ⟨rfl, ho, hr⟩
  have HO := hid ho
  have HR := hid hr
  have HB1 := hid (base_only (below_alloc HB0.out _) ho hp0)
  have HN1 := hid (Blk.only HN.out ho (by have := HRP.out; show ¬ w.heap.size = r.p; omega))
  clear ho hr
  go_wp2_with fail
  refine (HPR.out w1 (hm.below HB1.out) (hg.below HB1.out)).mono ?_
  rintro e w2 ⟨hb2, hcase⟩
  rcases hcase with ⟨hno, _⟩ | ⟨rs, v, hrs, rfl, hv⟩
  · exfalso
    obtain ⟨rs, hrs⟩ := HP.out
    have h1 : rngOf W = none := hno
    rw [hrs] at h1; cases h1
  · obtain ⟨G, cp, vs, rfl, hv2⟩ := (id hv : RngF _ _ _ _)
    have HV := hid hv
    have HRS := hid (show rngOf W = some rs from hrs)
    have HB2 := hid hb2
    have hn2 := HN1.out.below hb2
    have n0 := hn2.cell 0 rfl
    have nf := hn2.free
    have nl := hn2.lt
    have HN2 := hid hn2
    clear hb2 hv hrs hv2 hn2
    generalize rs.length = m at *
    go_wp2_with fail
    have q0 := (HN2.out.set 0 (.slice (some ⟨G, 0, none⟩) m cp)).alloc (.cells #[.slice (some ⟨G, 0, none⟩) m cp] 61)
    have q := q0.cell 0 rfl
    have hO : Only (· = r.p) w w2 := (((Only.refl _ _).alloc _).trans HO.out).trans (Only.of_below HB2.out)
    have hszw : w.heap.size < w1.heap.size := HN1.out.lt
    refine bodyPost_ret (v := .agg #[.slice (some ⟨G, 0, none⟩) m cp]) (by simp [results, Tryz.results86, go_sem, q]) rfl ⟨_, rs, rfl, ?_, ?_, HRS.out, ?_⟩
    · exact (only_new hO (b := w.heap.size) (Nat.le_refl _) _).alloc _
    · exact (Blk.other (HR.out.below HB2.out) (a := ⟨w.heap.size, 0, none⟩) (by have := HRP.out; show r.p ≠ w.heap.size; omega) _).alloc _
    · refine RngF.mono (F := fun b => w1.heap.size ≤ b) (RngF.kept HV.out ?_) (fun b _ hb => by omega)
      exact ((Kept.refl _ _).setCell (p := ⟨w.heap.size, 0, none⟩) (by show ¬ w1.heap.size ≤ w.heap.size; omega) _).alloc _
end Go.Proofs.YtmeaajhongalaaaGreatDoor.Ln
