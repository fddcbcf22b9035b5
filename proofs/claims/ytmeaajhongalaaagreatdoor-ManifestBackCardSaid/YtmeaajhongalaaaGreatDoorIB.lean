/-
  SEVERAL TEXTS, one behind the other.
-/
import Derived.Test.YtmeaajhongalaaaGreatDoorLinesRefRead
import Derived.Laws.StructEq
import Derived.Deep.RegionHeld3
import Derived.Test.YtmeaajhongalaaaGreatDoorIA
import Derived.Test.YtmeaajhongalaaaGreatDoorLinesWalks
import Derived.Defers
import Derived.Recover
import Derived.RegionDies
import Derived.Lib.Builder
import Derived.Test.YtmeaajhongalaaaGreatDoorLinesRead
/-
  LAYER 1: the statements' own comparisons (Texts, Ints, same, fault).
-/
namespace Go.Proofs.YtmeaajhongalaaaGreatDoor.Ln
open Go.RowKit

/-- a slice that reads as those cells -/
def RowIs (w : World) (v : Value) (xs : List Value) : Prop :=
  (xs = [] ∧ ∃ a c, v = .slice a 0 c) ∨ ∃ g o c, v = .slice (some ⟨g, o, none⟩) xs.length c ∧ ∀ k x, xs[k]? = some x → w.cell? ⟨g, o + k, none⟩ = some x
theorem rowIs_of {w : World} {base : Nat} {e : TypeId} {v : Value} {n : Nat} {xs : List Value} (h : w.ownsRow base e 1 v n xs) : RowIs w v xs := by
  have hl := h.1
  rcases ownsRow_one h with ⟨rfl, rfl, rfl⟩ | ⟨g, c, rfl, _, _, _, _, hc⟩
  · exact .inl ⟨rfl, _, _, rfl⟩
  · right; exact ⟨g, 0, c, by rw [hl, Nat.mul_one], fun k x h => by rw [Nat.zero_add]; exact hc k x h⟩

theorem rowIs_new (w : World) (cs : List Value) (t : TypeId) (n : Nat) (hn : n = w.heap.size) : RowIs (w.alloc (.cells cs.toArray t)) (.slice (some ⟨n, 0, none⟩) cs.length cs.length) cs :=
  .inr ⟨n, 0, cs.length, rfl, fun k x h => by
    have := cells_new w cs t n hn k x h
    rwa [addr_add] at this⟩

theorem word_get {ws : Words} {k : Nat} (h : k < ws.length) : (strs ws)[k]? = some (.string ⟨(ws[k]).toArray⟩) := by
  simp [strs, List.getElem?_eq_getElem h]
theorem nat_get {cs : List Nat} {k : Nat} (h : k < cs.length) : (nats cs)[k]? = some (.int .i64 ((cs[k] : Nat) : Int)) := by
  simp [nats, List.getElem?_eq_getElem h]

theorem bcell {w w' : World} (h : Below w.heap.size w w') {b k : Nat} {v : Value} (hc : w.cell? ⟨b, k, none⟩ = some v) : w'.cell? ⟨b, k, none⟩ = some v := by
  rw [h.cell (p := ⟨b, k, none⟩) (World.block_lt_of_cell? w _ hc)]; exact hc

def TrueQ (w : World) (e : Ending) (w' : World) : Prop := e = .returned (.bool true) ∧ ∃ m, w' = w.drewN m

set_option maxHeartbeats 1000000 in
theorem texts_eq (ws : Words) (hl : ws.length ≤ 1099511627776) (va vb : Value) (w : World) (ha : RowIs w va (strs ws)) (hb : RowIs w vb (strs ws)) :
    Calls Tryz.prog 89 #[va, vb] w (TrueQ w) := by
  have hsl : (strs ws).length = ws.length := by simp [strs]
  by_cases h0 : ws = []
  · have e0 : strs ws = [] := by rw [h0]; rfl
    rw [e0] at ha hb
    have sh : ∀ v, RowIs w v [] → ∃ a c, v = .slice a 0 c := by
      intro v h
      rcases h with ⟨_, a, c, rfl⟩ | ⟨g, o, c, rfl, _⟩
      · exact ⟨_, _, rfl⟩
      · exact ⟨_, _, rfl⟩
    obtain ⟨a, c, rfl⟩ := sh va ha
    obtain ⟨a', c', rfl⟩ := sh vb hb
    clear ha hb sh hsl e0 h0 hl
    go_enter Tryz.func89, Tryz.ntmps89
    go_wp2
    go_rounds 1
    go_ret
    exact ⟨rfl, 0, rfl⟩
  · have hne : strs ws ≠ [] := by
      intro h; apply h0
      have := congrArg List.length h
      rw [hsl] at this
      exact List.eq_nil_of_length_eq_zero this
    rcases ha with ⟨h, _⟩ | ⟨g, o, c, hva, hca⟩
    · exact absurd h hne
    rcases hb with ⟨h, _⟩ | ⟨g', o', c', hvb, hcb⟩
    · exact absurd h hne
    rw [hsl] at hva hvb
    subst hva; subst hvb
    have HCA := hid hca
    have HCB := hid hcb
    clear hca hcb hne h0 hsl
    generalize hn : ws.length = n at *
    have HN := hid hn
    clear hn
    go_enter Tryz.func89, Tryz.ntmps89
    go_wp2_with fail
    go_loopw [5] (fun v wr => ∃ k m : Nat, k ≤ n ∧ v = .int .i64 k ∧ wr = w.drewN m) (fun v _ => n - (intOf v).toNat)
    case atStart => exact ⟨0, 0, by omega, rfl, rfl⟩
    case round =>
      obtain ⟨k, m, hk, rfl, rfl⟩ := hrel
      by_cases hlt : k < n
      · have hkw : k < ws.length := by rw [HN.out]; exact hlt
        have c1 := HCA.out k _ (word_get hkw)
        have c2 := HCB.out k _ (word_get hkw)
        go_wp2_with fail
        go_quiet (fail)
        go_wp2
        go_roundw
        case rel => exact ⟨k + 1, _, by omega, by go_num, rfl⟩
        case measure => simp [intOf]; omega
      · go_wp2_with fail
        go_ret
        exact ⟨rfl, m, rfl⟩

theorem quiet_at {f : FuncId} {args : Array Value} {w : World} {m x : Nat} (h : Calls Tryz.prog f args (w.drewN (m + x)) (TrueQ (w.drewN (m + x)))) :
    Calls Tryz.prog f args (w.drewN (m + x)) fun e w' => e = .returned (.bool true) ∧ ∃ n, w' = w.drewN (m + n) :=
  h.mono fun _ _ ⟨he, k, hk⟩ => ⟨he, x + k, by rw [hk, World.drewN_drewN, Nat.add_assoc]⟩

theorem RowsAt.drewN {w : World} {base : Nat} {ws : Words} {cs : List Nat} {wv cv : Value} (h : RowsAt w base ws cs wv cv) (n : Nat) : RowsAt (w.drewN n) base ws cs wv cv := h
theorem rowIs_drewN {w : World} {v : Value} {xs : List Value} (h : RowIs w v xs) (n : Nat) : RowIs (w.drewN n) v xs := h

/-- the shape of a row of three cells each -/
theorem own3 {w : World} {base : Nat} {e : TypeId} {v : Value} {n : Nat} {cells : List Value} (h : w.ownsRow base e 3 v n cells) :
    (v = .slice none 0 0 ∧ n = 0) ∨ ∃ g c, v = .slice (some ⟨g, 0, none⟩) n c ∧ ∀ k x, cells[k]? = some x → w.cell? ⟨g, k, none⟩ = some x := by
  rcases h.2 with ⟨hv, hn⟩ | ⟨g, cap, cur, hv, hg, hh, h1, h2, h3, h4⟩
  · exact .inl ⟨hv, hn⟩
  · right
    refine ⟨g, cap, hv, fun k x hk => ?_⟩
    have := h.cells (g := g) (by rw [hv]; rfl) k x hk
    rwa [addr_add, Nat.zero_add] at this

set_option maxRecDepth 100000 in
@[go_sem] theorem eqFault (a b c d e f : Int) (w : World) : (Op.equalIn 10000 87 (.agg #[.int .i64 a, .int .i64 b, .int .i64 c]) (.agg #[.int .i64 d, .int .i64 e, .int .i64 f])).run Tryz.prog w = .ok (a == d && b == e && c == f) w := by
  have u3 := Tryz.underlying3
  have a3 := Tryz.isAgg3
  have z3 := Tryz.sizeOf3
  have u4 := Tryz.underlying54
  have a4 := Tryz.isAgg54
  have z4 := Tryz.sizeOf54
  have hS : Tryz.prog.underlying 87 = some (.struct (Tryz.prog.fieldsOf 87)) := by kernel_rfl
  have hp : Tryz.prog.stoodInHeld 87 = false := by kernel_rfl
  have e10 : (10000 : Nat) = 9999 + 1 := by omega
  rw [e10, run_equalIn_agg w 9999 87 _ _ hS hp]
  simp only [Program.fieldsOf, Tryz.underlying87]
  go_simp
  by_cases h1 : a = d <;> by_cases h2 : b = e <;> by_cases h3 : c = f <;> simp [h1, h2, h3]

set_option maxRecDepth 100000 in
@[go_sem] theorem eqRFault (a b c d e f : Int) (w : World) : (Op.equalIn 10000 74 (.agg #[.int .i64 a, .int .i64 b, .int .i64 c]) (.agg #[.int .i64 d, .int .i64 e, .int .i64 f])).run Tryz.prog w = .ok (a == d && b == e && c == f) w := by
  have u3 := Tryz.underlying3
  have a3 := Tryz.isAgg3
  have z3 := Tryz.sizeOf3
  have hS : Tryz.prog.underlying 74 = some (.struct (Tryz.prog.fieldsOf 74)) := by kernel_rfl
  have hp : Tryz.prog.stoodInHeld 74 = false := by kernel_rfl
  have e10 : (10000 : Nat) = 9999 + 1 := by omega
  rw [e10, run_equalIn_agg w 9999 74 _ _ hS hp]
  simp only [Program.fieldsOf, Tryz.underlying74]
  go_simp
  by_cases h1 : a = d <;> by_cases h2 : b = e <;> by_cases h3 : c = f <;> simp [h1, h2, h3]

end Go.Proofs.YtmeaajhongalaaaGreatDoor.Ln

/-
  LAYER 1: the statements themselves, first part (LinesReads).
-/
namespace Go.Proofs.YtmeaajhongalaaaGreatDoor.Ln
open Go.RowKit

theorem sp_ok (l : List UInt8) : ∀ (f a : Nat) (ws : Words) (cs : List Nat) {ws' : Words} {cs' : List Nat}, sp l f a ws cs = .ok (ws', cs') → ws.length ≤ 20 → cs.length = ws.length → ws'.length ≤ 20 ∧ cs'.length = ws'.length := by
  intro f
  induction f with
  | zero => intro a ws cs ws' cs' h h1 h2; cases h; exact ⟨h1, h2⟩
  | succ f ih =>
    intro a ws cs ws' cs' h h1 h2
    unfold sp at h
    dsimp only at h
    split at h
    · cases h; exact ⟨h1, h2⟩
    · split at h
      · cases h
      · rename_i hx
        split at h
        · cases h
        · exact ih _ _ _ h (by simp; omega) (by simp [h2])

theorem rd_ok (most : Nat) : ∀ (f : Nat) (l : List UInt8) (no : Nat) (out : List LineS) {xs : List LineS} (N : Nat), rd most f l no out = .ok xs → out.length + l.length ≤ N → (∀ x, x ∈ out → x.2.1.length ≤ 20 ∧ x.2.2.length = x.2.1.length) →
    xs.length ≤ N ∧ ∀ x, x ∈ xs → x.2.1.length ≤ 20 ∧ x.2.2.length = x.2.1.length := by
  intro f
  induction f with
  | zero => intro l no out xs N h h1 h2; cases h; exact ⟨by omega, h2⟩
  | succ f ih =>
    intro l no out xs N h h1 h2
    unfold rd at h
    split at h
    · cases h; exact ⟨by omega, h2⟩
    · rename_i hn
      split at h
      · cases h
      · split at h
        · cases h
        · rename_i ws cs hl
          have ha := aft_lt (c := 10) hn
          have hw := sp_ok _ _ _ _ _ hl (by simp) rfl
          refine ih _ _ _ N h ?_ ?_
          · split
            · omega
            · simp; omega
          · intro x hx
            split at hx
            · exact h2 x hx
            · rcases List.mem_append.1 hx with h' | h'
              · exact h2 x h'
              · simp only [List.mem_singleton] at h'
                subst h'
                exact hw

def resL : RRes → List LineS
  | .ok xs => xs
  | .error _ => []
def resF : RRes → Nat × Nat × Nat
  | .ok _ => (0, 0, 0)
  | .error e => e

theorem ReadIs.shape {T : TypeId} {r : RRes} {w w' : World} {e : Ending} (h : ReadIs T r w e w') :
    Below w.heap.size w w' ∧ ∃ v, e = .returned (.tuple #[v, .agg #[.int .i64 ((resF r).1 : Int), .int .i64 ((resF r).2.1 : Int), .int .i64 ((resF r).2.2 : Int)]]) ∧ LinesV w' T w.heap.size v (resL r) := by
  obtain ⟨hb, h⟩ := h
  refine ⟨hb, ?_⟩
  cases r with
  | ok xs => exact h
  | error p => obtain ⟨c, no, col⟩ := p; exact ⟨_, h, LinesV.nil _ _ _⟩

theorem rdC_small (most : Nat) (l : List UInt8) (hs : l.length ≤ 1099511627776) :
    (resL (rdC most l 1 [])).length ≤ 1099511627777 ∧ ∀ x, x ∈ resL (rdC most l 1 []) → x.2.1.length ≤ 1099511627776 ∧ x.2.2.length ≤ 1099511627776 := by
  cases h : rdC most l 1 [] with
  | error p => exact ⟨by simp [resL], by intro x hx; cases hx⟩
  | ok xs =>
    have := rd_ok most _ _ _ _ l.length h (by simp) (by intro x hx; cases hx)
    refine ⟨by show xs.length ≤ _; omega, fun x hx => ?_⟩
    have := this.2 x hx
    omega
theorem readS_small (l : List UInt8) (hs : l.length ≤ 1099511627776) :
    (resL (readS l)).length ≤ 1099511627777 ∧ ∀ x, x ∈ resL (readS l) → x.2.1.length ≤ 1099511627776 ∧ x.2.2.length ≤ 1099511627776 := by
  unfold readS
  split
  · exact ⟨by simp [resL], by intro x hx; cases hx⟩
  · exact rdC_small _ _ hs

theorem below_trans2 {a b c : World} (k : Below b.heap.size b c) (h : Below a.heap.size a b) : Below a.heap.size a c := h.trans (k.mono h.size)

theorem keep13 {W5 b c : World} {p1 p2 p3 p4 a1 a2 a3 b1 b2 b3 : Nat} (k : Below b.heap.size b c)
    (h : Below W5.heap.size W5 b ∧ b.cell? ⟨p1, 0, none⟩ = some (.int .i64 (a1 : Int)) ∧ b.cell? ⟨p1, 1, none⟩ = some (.int .i64 (a2 : Int)) ∧ b.cell? ⟨p1, 2, none⟩ = some (.int .i64 (a3 : Int)) ∧ b.cell? ⟨p2, 0, none⟩ = some (.int .i64 (a1 : Int)) ∧ b.cell? ⟨p2, 1, none⟩ = some (.int .i64 (a2 : Int)) ∧ b.cell? ⟨p2, 2, none⟩ = some (.int .i64 (a3 : Int)) ∧ b.cell? ⟨p3, 0, none⟩ = some (.int .i64 (b1 : Int)) ∧ b.cell? ⟨p3, 1, none⟩ = some (.int .i64 (b2 : Int)) ∧ b.cell? ⟨p3, 2, none⟩ = some (.int .i64 (b3 : Int)) ∧ b.cell? ⟨p4, 0, none⟩ = some (.int .i64 (b1 : Int)) ∧ b.cell? ⟨p4, 1, none⟩ = some (.int .i64 (b2 : Int)) ∧ b.cell? ⟨p4, 2, none⟩ = some (.int .i64 (b3 : Int))) :
    Below W5.heap.size W5 c ∧ c.cell? ⟨p1, 0, none⟩ = some (.int .i64 (a1 : Int)) ∧ c.cell? ⟨p1, 1, none⟩ = some (.int .i64 (a2 : Int)) ∧ c.cell? ⟨p1, 2, none⟩ = some (.int .i64 (a3 : Int)) ∧ c.cell? ⟨p2, 0, none⟩ = some (.int .i64 (a1 : Int)) ∧ c.cell? ⟨p2, 1, none⟩ = some (.int .i64 (a2 : Int)) ∧ c.cell? ⟨p2, 2, none⟩ = some (.int .i64 (a3 : Int)) ∧ c.cell? ⟨p3, 0, none⟩ = some (.int .i64 (b1 : Int)) ∧ c.cell? ⟨p3, 1, none⟩ = some (.int .i64 (b2 : Int)) ∧ c.cell? ⟨p3, 2, none⟩ = some (.int .i64 (b3 : Int)) ∧ c.cell? ⟨p4, 0, none⟩ = some (.int .i64 (b1 : Int)) ∧ c.cell? ⟨p4, 1, none⟩ = some (.int .i64 (b2 : Int)) ∧ c.cell? ⟨p4, 2, none⟩ = some (.int .i64 (b3 : Int)) := by
  obtain ⟨h0, h1, h2, h3, h4, h5, h6, h7, h8, h9, h10, h11, h12⟩ := h
  exact ⟨below_trans h0 k, bcell k h1, bcell k h2, bcell k h3, bcell k h4, bcell k h5, bcell k h6, bcell k h7, bcell k h8, bcell k h9, bcell k h10, bcell k h11, bcell k h12⟩

end Go.Proofs.YtmeaajhongalaaaGreatDoor.Ln

/-
  LAYER 1, PLAIN MATHEMATICS: what the lines that are read look like; what errors there are.
-/
namespace Go.Proofs.YtmeaajhongalaaaGreatDoor.Ln

theorem word_short {l : List UInt8} {b t : Nat} : (word l b t).length ≤ t - b := by
  unfold word
  rw [List.length_take]; omega

theorem sp_words (l : List UInt8) : ∀ (f a : Nat) (ws : Words) (cs : List Nat) {ws' : Words} {cs' : List Nat}, sp l f a ws cs = .ok (ws', cs') → (∀ x, x ∈ ws → x.length ≤ 80) → ∀ x, x ∈ ws' → x.length ≤ 80 := by
  intro f
  induction f with
  | zero => intro a ws cs ws' cs' h h1; cases h; exact h1
  | succ f ih =>
    intro a ws cs ws' cs' h h1
    unfold sp at h
    dsimp only at h
    split at h
    · cases h; exact h1
    · split at h
      · cases h
      · rename_i hx
        split at h
        · cases h
        · refine ih _ _ _ h ?_
          intro x hx'
          rcases List.mem_append.1 hx' with h' | h'
          · exact h1 x h'
          · rw [List.mem_singleton.1 h']
            exact Nat.le_trans word_short (by omega)

/-- a line as it is read -/
def LineOk (x : LineS) : Prop := 1 ≤ x.1 ∧ x.2.1 ≠ [] ∧ x.2.1.length ≤ 20 ∧ x.2.2.length = x.2.1.length ∧ ∀ u, u ∈ x.2.1 → u.length ≤ 80

theorem rd_lines (most : Nat) : ∀ (f : Nat) (l : List UInt8) (no : Nat) (out : List LineS) {xs : List LineS}, 1 ≤ no → rd most f l no out = .ok xs → (∀ x, x ∈ out → LineOk x) → ∀ x, x ∈ xs → LineOk x := by
  intro f
  induction f with
  | zero => intro l no out xs _ h h2; cases h; exact h2
  | succ f ih =>
    intro l no out xs hno h h2
    unfold rd at h
    split at h
    · cases h; exact h2
    · split at h
      · cases h
      · split at h
        · cases h
        · rename_i ws cs hl
          have hw := sp_ok _ _ _ _ _ hl (by simp) rfl
          have hw2 := sp_words _ _ _ _ _ hl (by simp)
          refine ih _ _ _ (by omega) h ?_
          intro x hx
          split at hx
          · exact h2 x hx
          · rename_i hne
            rcases List.mem_append.1 hx with h' | h'
            · exact h2 x h'
            · simp only [List.mem_singleton] at h'
              subst h'
              exact ⟨hno, hne, hw.1, hw.2, hw2⟩

theorem rd_codes (most : Nat) : ∀ (f : Nat) (l : List UInt8) (no : Nat) (out : List LineS) {c n k : Nat}, rd most f l no out = .error (c, n, k) → c = 1 ∨ c = 2 := by
  intro f
  induction f with
  | zero => intro l no out c n k h; cases h
  | succ f ih =>
    intro l no out c n k h
    unfold rd at h
    split at h
    · cases h
    · split at h
      · cases h; exact .inr rfl
      · split at h
        · rename_i e col hl
          cases h
          have := spC_code hl
          omega
        · exact ih _ _ _ h

theorem readS_lines {l : List UInt8} {xs : List LineS} (h : readS l = .ok xs) : ∀ x, x ∈ xs → LineOk x := by
  unfold readS at h
  split at h
  · cases h
  · exact rd_lines _ _ _ _ _ (by decide) h (by intro x hx; cases hx)
theorem readS_codes {l : List UInt8} {c n k : Nat} (h : readS l = .error (c, n, k)) : c = 1 ∨ c = 2 := by
  unfold readS at h
  split at h
  · cases h; exact .inr rfl
  · exact rd_codes _ _ _ _ _ h
theorem readS_len {l : List UInt8} {xs : List LineS} (h : readS l = .ok xs) : xs.length ≤ l.length := by
  unfold readS at h
  split at h
  · cases h
  · exact (rd_ok _ _ _ _ _ l.length h (by simp) (by intro x hx; cases hx)).1

end Go.Proofs.YtmeaajhongalaaaGreatDoor.Ln

/-
  LAYER 1: may a text be a word (Word of the document), and what LinesBlanks reads.
-/
namespace Go.Proofs.YtmeaajhongalaaaGreatDoor.Ln
open Go.RowKit

def wB (c : UInt8) : Bool := okB c && (c != 35)
theorem wB_int (c : UInt8) : wB c = (decide (33 ≤ (c.toNat : Int)) && decide ((c.toNat : Int) ≤ 126) && ((c.toNat : Int) != 35)) := by
  unfold wB
  rw [okB_int]
  congr 1
  rw [Bool.eq_iff_iff]
  simp only [bne_iff_ne, ne_eq]
  constructor
  · intro h h'; apply h; apply UInt8.toNat_inj.1; show c.toNat = 35; omega
  · rintro h rfl; exact h rfl

def wordV (l : List UInt8) : Bool := decide (0 < l.length ∧ l.length ≤ 80 ∧ run wB l 0 = l.length)

end Go.Proofs.YtmeaajhongalaaaGreatDoor.Ln

/-
  LAYER 1: a word as a number: package lines' own, and the document's.
-/
namespace Go.Proofs.YtmeaajhongalaaaGreatDoor.Ln
open Go.RowKit

def dgB (c : UInt8) : Bool := decide (48 ≤ c.toNat) && decide (c.toNat ≤ 57)
def digV (l : List UInt8) : Nat := l.foldl (fun n c => 10 * n + (c.toNat - 48)) 0
def numB (l : List UInt8) : Bool := decide (1 ≤ l.length ∧ l.length ≤ 9 ∧ ¬ (1 < l.length ∧ l[0]? = some 48) ∧ run dgB l 0 = l.length)
def numN (l : List UInt8) : Nat := if numB l then digV l else 0

theorem digV_next {l : List UInt8} {k : Nat} {c : UInt8} (h : l[k]? = some c) : digV (l.take (k + 1)) = 10 * digV (l.take k) + (c.toNat - 48) := by
  unfold digV
  rw [List.take_add_one, h, List.foldl_append]; rfl
theorem digV_lt {l : List UInt8} {k : Nat} {c : UInt8} (h : l[k]? = some c) (hc : dgB c = true) (hk : digV (l.take k) < 10 ^ k) : digV (l.take (k + 1)) < 10 ^ (k + 1) := by
  rw [digV_next h, Nat.pow_succ]
  unfold dgB at hc
  simp only [Bool.and_eq_true, decide_eq_true_eq] at hc
  omega
theorem pow8 {k : Nat} (h : k ≤ 8) : 10 ^ k ≤ 100000000 := Nat.le_trans (Nat.pow_le_pow_right (by decide) h) (by decide)
theorem num_off {l : List UInt8} {k : Nat} {c : UInt8} (hr : run dgB l 0 = k + run dgB l k) (h : l[k]? = some c) (hc : dgB c = false) : numB l = false := by
  apply decide_eq_false
  rintro ⟨_, _, _, h'⟩
  rw [hr, run_no h hc] at h'
  have : k < l.length := by
    rcases Nat.lt_or_ge k l.length with h'' | h''
    · exact h''
    · rw [List.getElem?_eq_none h''] at h; cases h
  omega

theorem dgB_int (c : UInt8) : dgB c = (decide (48 ≤ (c.toNat : Int)) && decide ((c.toNat : Int) ≤ 57)) := by
  unfold dgB
  rw [Bool.eq_iff_iff]; simp; omega

def NumIs (l : List UInt8) (w : World) (e : Ending) (w' : World) : Prop := e = .returned (.tuple #[.int .i64 (numN l : Int), .bool (numB l)]) ∧ w = w'
theorem num_no {l : List UInt8} {w : World} {e : Ending} {w' : World} (h : numB l = false) (he : e = .returned (.tuple #[.int .i64 0, .bool false])) (hw : w = w') : NumIs l w e w' := by
  unfold NumIs numN; rw [h]; exact ⟨he, hw⟩

set_option maxHeartbeats 2000000 in
theorem refNumber_any (s : ByteArray) (hs : s.size ≤ maxLen) (w : World) :
    Calls Tryz.prog 138 #[.string s] w (NumIs s.data.toList w) := by
  unfold maxLen at hs
  have hsl : s.data.toList.length = s.size := by simp
  by_cases h1 : s.size < 1
  · have h1' : (s.size : Int) < 1 := by omega
    have HN := hid (show numB s.data.toList = false from decide_eq_false (by rw [hsl]; omega))
    clear hsl
    go_enter Tryz.func138, Tryz.ntmps138
    go_wp2_with fail
    refine bodyPost_ret (v := .tuple #[.int .i64 0, .bool false]) (by simp [results, Tryz.results138, go_sem]) rfl ?_
    exact num_no HN.out rfl rfl
  by_cases h9 : 9 < s.size
  · have h1' : ¬ (s.size : Int) < 1 := by omega
    have h9' : (9 : Int) < (s.size : Int) := by omega
    have HN := hid (show numB s.data.toList = false from decide_eq_false (by rw [hsl]; omega))
    clear hsl
    go_enter Tryz.func138, Tryz.ntmps138
    go_wp2_with fail
    refine bodyPost_ret (v := .tuple #[.int .i64 0, .bool false]) (by simp [results, Tryz.results138, go_sem]) rfl ?_
    exact num_no HN.out rfl rfl
  have h1' : ¬ (s.size : Int) < 1 := by omega
  have h9' : ¬ (9 : Int) < (s.size : Int) := by omega
  have hz : 0 < s.size := by omega
  have hb0 := hid (byte_at s 0 hz)
  by_cases hlead : 1 < s.size ∧ (s[0].toNat : Int) = 48
  · have g1 : (1 : Int) < (s.size : Int) := by omega
    have g2 : ((s[0].toNat : Int) == 48) = true := by rw [hlead.2]; rfl
    have HN := hid (show numB s.data.toList = false from decide_eq_false (by
      rintro ⟨_, _, h, _⟩
      apply h
      rw [hb0.out, hsl]
      refine ⟨hlead.1, ?_⟩
      congr 1
      apply UInt8.toNat_inj.1
      have := hlead.2
      show s[0].toNat = 48
      omega))
    clear hsl hlead hb0
    go_enter Tryz.func138, Tryz.ntmps138
    go_wp2_with fail
    refine bodyPost_ret (v := .tuple #[.int .i64 0, .bool false]) (by simp [results, Tryz.results138, go_sem]) rfl ?_
    exact num_no HN.out rfl rfl
  have HLEAD := hid hlead
  have HSL := hid hsl
  clear hsl hlead hb0
  have walk : (((1 : Int) < (s.size : Int)) ∧ ((s[0].toNat : Int) == 48) = false) ∨ ¬ ((1 : Int) < (s.size : Int)) := by
    by_cases h : 1 < s.size
    · left; refine ⟨by omega, ?_⟩; rw [beq_eq_false_iff_ne]; intro h'; exact HLEAD.out ⟨h, h'⟩
    · right; omega
  rcases walk with ⟨g1, g2⟩ | g1
  · go_enter Tryz.func138, Tryz.ntmps138
    go_wp2_with fail
    go_loop [4, 5] (fun v u => ∃ k : Nat, k ≤ s.size ∧ u = .int .i64 (k : Nat) ∧ v = .int .i64 (digV (s.data.toList.take k) : Nat) ∧ digV (s.data.toList.take k) < 10 ^ k ∧ run dgB s.data.toList 0 = k + run dgB s.data.toList k) (fun _ u => s.size - (intOf u).toNat)
    case atStart => exact ⟨0, by omega, rfl, rfl, by simp [digV], by simp⟩
    case round =>
      obtain ⟨k, hk, rfl, rfl, hpow, hkr⟩ := hrel
      have HP := hid hpow
      have HKR := hid hkr
      clear hpow hkr
      by_cases hlt : k < s.size
      · have hb := hid (byte_at s k hlt)
        have hi := hid (dgB_int s[k])
        have hcc : (s[k].toNat : Int) ≤ 255 := by have := s[k].toNat_lt; omega
        by_cases hd1 : (s[k].toNat : Int) < 48
        · have HN := hid (num_off HKR.out hb.out (by rw [hi.out, decide_eq_false (by omega)]; rfl))
          go_wp2_with fail
          refine bodyPost_ret (v := .tuple #[.int .i64 0, .bool false]) (by simp [results, Tryz.results138, go_sem]) rfl ?_
          exact num_no HN.out rfl rfl
        · by_cases hd2 : (57 : Int) < (s[k].toNat : Int)
          · have HN := hid (num_off HKR.out hb.out (by rw [hi.out, decide_eq_false (show ¬ (s[k].toNat : Int) ≤ 57 by omega), Bool.and_false]))
            go_wp2_with fail
            refine bodyPost_ret (v := .tuple #[.int .i64 0, .bool false]) (by simp [results, Tryz.results138, go_sem]) rfl ?_
            exact num_no HN.out rfl rfl
          · have hdg : dgB s[k] = true := by rw [hi.out, decide_eq_true (by omega), decide_eq_true (by omega)]; rfl
            have HD := hid (digV_lt hb.out hdg HP.out)
            have HX := hid (digV_next hb.out)
            have hv8 : digV (s.data.toList.take k) < 100000000 := Nat.lt_of_lt_of_le HP.out (pow8 (by omega))
            have HY := hid (run_yes hb.out hdg)
            clear hdg
            generalize hV : digV (s.data.toList.take k) = V at *
            clear hV
            go_wp2_with fail
            go_round
            case rel => exact ⟨k + 1, by omega, by go_num, by rw [HX.out]; go_num, HD.out, by rw [HKR.out, HY.out]; omega⟩
            case measure => simp [intOf]; omega
      · have hks : k = s.size := by omega
        have HN : Hid (numB s.data.toList = true) := hid (decide_eq_true (by
          rw [HSL.out]
          refine ⟨by omega, by omega, ?_, ?_⟩
          · rintro ⟨h1, h2⟩
            have hb0 := byte_at s 0 hz
            rw [hb0] at h2
            injection h2 with h2
            exact HLEAD.out ⟨h1, by rw [h2]; rfl⟩
          · have hend := run_end (p := dgB) (l := s.data.toList) (a := k) (by rw [HSL.out]; omega)
            rw [HKR.out, hend]; omega))
        have HT := hid (show s.data.toList.take k = s.data.toList from List.take_of_length_le (by rw [HSL.out]; omega))
        clear hks
        go_wp2_with fail
        refine bodyPost_ret (v := .tuple #[.int .i64 (digV (s.data.toList.take k) : Nat), .bool true]) (by simp [results, Tryz.results138, go_sem]) rfl ?_
        unfold NumIs numN
        rw [HN.out, if_pos rfl, HT.out]
        exact ⟨rfl, rfl⟩
  · go_enter Tryz.func138, Tryz.ntmps138
    go_wp2_with fail
    go_loop [4, 5] (fun v u => ∃ k : Nat, k ≤ s.size ∧ u = .int .i64 (k : Nat) ∧ v = .int .i64 (digV (s.data.toList.take k) : Nat) ∧ digV (s.data.toList.take k) < 10 ^ k ∧ run dgB s.data.toList 0 = k + run dgB s.data.toList k) (fun _ u => s.size - (intOf u).toNat)
    case atStart => exact ⟨0, by omega, rfl, rfl, by simp [digV], by simp⟩
    case round =>
      obtain ⟨k, hk, rfl, rfl, hpow, hkr⟩ := hrel
      have HP := hid hpow
      have HKR := hid hkr
      clear hpow hkr
      by_cases hlt : k < s.size
      · have hb := hid (byte_at s k hlt)
        have hi := hid (dgB_int s[k])
        have hcc : (s[k].toNat : Int) ≤ 255 := by have := s[k].toNat_lt; omega
        by_cases hd1 : (s[k].toNat : Int) < 48
        · have HN := hid (num_off HKR.out hb.out (by rw [hi.out, decide_eq_false (by omega)]; rfl))
          go_wp2_with fail
          refine bodyPost_ret (v := .tuple #[.int .i64 0, .bool false]) (by simp [results, Tryz.results138, go_sem]) rfl ?_
          exact num_no HN.out rfl rfl
        · by_cases hd2 : (57 : Int) < (s[k].toNat : Int)
          · have HN := hid (num_off HKR.out hb.out (by rw [hi.out, decide_eq_false (show ¬ (s[k].toNat : Int) ≤ 57 by omega), Bool.and_false]))
            go_wp2_with fail
            refine bodyPost_ret (v := .tuple #[.int .i64 0, .bool false]) (by simp [results, Tryz.results138, go_sem]) rfl ?_
            exact num_no HN.out rfl rfl
          · have hdg : dgB s[k] = true := by rw [hi.out, decide_eq_true (by omega), decide_eq_true (by omega)]; rfl
            have HD := hid (digV_lt hb.out hdg HP.out)
            have HX := hid (digV_next hb.out)
            have hv8 : digV (s.data.toList.take k) < 100000000 := Nat.lt_of_lt_of_le HP.out (pow8 (by omega))
            have HY := hid (run_yes hb.out hdg)
            clear hdg
            generalize hV : digV (s.data.toList.take k) = V at *
            clear hV
            go_wp2_with fail
            go_round
            case rel => exact ⟨k + 1, by omega, by go_num, by rw [HX.out]; go_num, HD.out, by rw [HKR.out, HY.out]; omega⟩
            case measure => simp [intOf]; omega
      · have hks : k = s.size := by omega
        have HN : Hid (numB s.data.toList = true) := hid (decide_eq_true (by
          rw [HSL.out]
          refine ⟨by omega, by omega, ?_, ?_⟩
          · rintro ⟨h1, h2⟩
            have hb0 := byte_at s 0 hz
            rw [hb0] at h2
            injection h2 with h2
            exact HLEAD.out ⟨h1, by rw [h2]; rfl⟩
          · have hend := run_end (p := dgB) (l := s.data.toList) (a := k) (by rw [HSL.out]; omega)
            rw [HKR.out, hend]; omega))
        have HT := hid (show s.data.toList.take k = s.data.toList from List.take_of_length_le (by rw [HSL.out]; omega))
        clear hks
        go_wp2_with fail
        refine bodyPost_ret (v := .tuple #[.int .i64 (digV (s.data.toList.take k) : Nat), .bool true]) (by simp [results, Tryz.results138, go_sem]) rfl ?_
        unfold NumIs numN
        rw [HN.out, if_pos rfl, HT.out]
        exact ⟨rfl, rfl⟩

end Go.Proofs.YtmeaajhongalaaaGreatDoor.Ln

/-
  LAYER 1: what stands where only some blocks are written, and new ones made; a reader in memory; what it gives up with.
-/
namespace Go.Proofs.YtmeaajhongalaaaGreatDoor.Ln
open Go.RowKit

/-- only blocks of S are written; new ones may have been made -/
structure Only (S : Nat → Prop) (w w' : World) : Prop where
  os : w'.os = w.os
  tape : w'.tape = w.tape
  output : w'.output = w.output
  size : w.heap.size ≤ w'.heap.size
  block : ∀ k, k < w.heap.size → ¬ S k → w'.heap[k]? = w.heap[k]?

theorem Only.refl (S : Nat → Prop) (w : World) : Only S w w := ⟨rfl, rfl, rfl, Nat.le_refl _, fun _ _ _ => rfl⟩
theorem Only.trans {S : Nat → Prop} {a b c : World} (h : Only S a b) (k : Only S b c) : Only S a c :=
  ⟨k.os.trans h.os, k.tape.trans h.tape, k.output.trans h.output, Nat.le_trans h.size k.size, fun i hi hs => (k.block i (Nat.lt_of_lt_of_le hi h.size) hs).trans (h.block i hi hs)⟩
theorem Only.mono {S T : Nat → Prop} {w w' : World} (h : Only S w w') (hT : ∀ k, k < w.heap.size → S k → T k) : Only T w w' :=
  ⟨h.os, h.tape, h.output, h.size, fun i hi hs => h.block i hi (fun hk => hs (hT i hi hk))⟩
/-- what S holds beyond the world's size counts for nothing in the world before -/
theorem Only.trans' {S T : Nat → Prop} {a b c : World} (h : Only S a b) (k : Only T b c) (hT : ∀ i, i < a.heap.size → T i → S i) : Only S a c :=
  ⟨k.os.trans h.os, k.tape.trans h.tape, k.output.trans h.output, Nat.le_trans h.size k.size, fun i hi hs => (k.block i (Nat.lt_of_lt_of_le hi h.size) (fun ht => hs (hT i hi ht))).trans (h.block i hi hs)⟩
theorem Only.of_below {S : Nat → Prop} {w w' : World} (h : Below w.heap.size w w') : Only S w w' := ⟨h.os, h.tape, h.output, h.size, fun k hk _ => h.block k hk⟩
theorem Only.below {S : Nat → Prop} {B : Nat} {w w' : World} (h : Only S w w') (hB : B ≤ w.heap.size) (hS : ∀ k, k < B → ¬ S k) : Below B w w' := ⟨h.os, h.tape, h.output, h.size, fun k hk => h.block k (Nat.lt_of_lt_of_le hk hB) (hS k hk)⟩
theorem Only.setCell {S : Nat → Prop} {w w' : World} (h : Only S w w') {p : Addr} (hp : S p.block) (u : Value) : Only S w (w'.setCell p u) :=
  h.trans ⟨rfl, rfl, rfl, by simp [World.setCell], fun k _ hs => Below.heap_setCell _ _ _ _ (fun e => hs (e ▸ hp))⟩
theorem Only.alloc {S : Nat → Prop} {w w' : World} (h : Only S w w') (o : Obj) : Only S w (w'.alloc o) :=
  h.trans ⟨rfl, rfl, rfl, by simp, fun k hk _ => Below.heap_alloc _ _ _ hk⟩
theorem Only.drew {S : Nat → Prop} {w w' : World} (h : Only S w w') : Only S w w'.drew := ⟨h.os, h.tape, h.output, h.size, h.block⟩
theorem Only.drewN {S : Nat → Prop} {w w' : World} (h : Only S w w') (n : Nat) : Only S w (w'.drewN n) := ⟨h.os, h.tape, h.output, h.size, h.block⟩
theorem Only.grown {S : Nat → Prop} {a w w' : World} {row : Option Nat} (h : Only S a w) (hg : w.grownBy w' row) (hr : ∀ k, row = some k → k < a.heap.size → S k) : Only S a w' :=
  ⟨hg.os.trans h.os, hg.tape.trans h.tape, hg.output.trans h.output, Nat.le_trans h.size hg.size, fun k hk hs => (hg.block k (Nat.lt_of_lt_of_le hk h.size) (fun e => hs (hr k e.symm hk))).trans (h.block k hk hs)⟩

theorem Only.cell {S : Nat → Prop} {w w' : World} (h : Only S w w') {b k : Nat} {v : Value} (hs : ¬ S b) (hc : w.cell? ⟨b, k, none⟩ = some v) : w'.cell? ⟨b, k, none⟩ = some v := by
  rw [World.cell?_of_block (w := w) (h.block b (World.block_lt_of_cell? w _ hc) hs)]; exact hc
theorem Blk.only {S : Nat → Prop} {w w' : World} {b : Nat} {cs : List Value} {e : TypeId} (h : Blk w b cs e) (hb : Only S w w') (hs : ¬ S b) : Blk w' b cs e := by
  unfold Blk at *
  rw [hb.block b (lt_of_block h) hs]; exact h
theorem ownsRow_only {S : Nat → Prop} {w w' : World} {base : Nat} {e : TypeId} {size : Nat} {v : Value} {n : Nat} {xs : List Value} (h : w.ownsRow base e size v n xs) (hb : Only S w w') (hs : ∀ k, base ≤ k → k < w.heap.size → ¬ S k) : w'.ownsRow base e size v n xs := by
  refine ⟨h.1, ?_⟩
  rcases h.2 with hn | ⟨g, cap, cur, rfl, hg, hh, rest⟩
  · exact .inl hn
  · have hl := (Array.getElem?_eq_some_iff.1 hh).1
    exact .inr ⟨g, cap, cur, rfl, hg, by rw [hb.block g hl (hs g hg hl)]; exact hh, rest⟩
/-- a reader in memory: its block, its line's number, where the words and the places lie, whose answer -/
structure Rd where
  p : Nat
  no : Nat
  wB : Nat
  n : Nat
  wc : Nat
  cB : Nat
  cc : Nat
  ea : Nat

def RdAt (w : World) (r : Rd) (t : Nat) : Prop :=
  Blk w r.p [.int .i64 (r.no : Int), .slice (some ⟨r.wB, 0, none⟩) r.n r.wc, .slice (some ⟨r.cB, 0, none⟩) r.n r.cc, .int .i64 (t : Int), .pointer (some ⟨r.ea, 0, none⟩)] 142

/-- the words and places of a reader's line -/
structure RdL (w : World) (r : Rd) (ws : List (List UInt8)) (cs : List Nat) : Prop where
  n : r.n = ws.length
  m : cs.length = ws.length
  small : ws.length ≤ 1099511627776
  wp : r.wB ≠ r.p
  cp : r.cB ≠ r.p
  wl : r.wB < w.heap.size
  cl : r.cB < w.heap.size
  word : ∀ (k : Nat) (h : k < ws.length), w.cell? ⟨r.wB, k, none⟩ = some (.string ⟨ws[k].toArray⟩)
  col : ∀ (k : Nat), k < cs.length → w.cell? ⟨r.cB, k, none⟩ = some (.int .i64 ((cs.getD k 0 : Nat) : Int))

theorem RdL.only {w w' : World} {r : Rd} {ws : List (List UInt8)} {cs : List Nat} (h : RdL w r ws cs) {S : Nat → Prop} (ho : Only S w w') (hw : ¬ S r.wB) (hc : ¬ S r.cB) : RdL w' r ws cs :=
  ⟨h.n, h.m, h.small, h.wp, h.cp, Nat.lt_of_lt_of_le h.wl ho.size, Nat.lt_of_lt_of_le h.cl ho.size, fun k hk => ho.cell hw (h.word k hk), fun k hk => ho.cell hc (h.col k hk)⟩
theorem RdL.self {w w' : World} {r : Rd} {ws : List (List UInt8)} {cs : List Nat} (h : RdL w r ws cs) (ho : Only (· = r.p) w w') : RdL w' r ws cs := h.only ho h.wp h.cp

structure Flt where
  code : Int
  line : Int
  col : Int

def stopV (ea : Nat) (f : Flt) : Value := .iface 139 (.agg #[.pointer (some ⟨ea, 0, none⟩), .int .i64 f.code, .int .i64 f.line, .int .i64 f.col])

/-- it gives up with that -/
def Gives (r : Rd) (f : Flt) (w : World) (e : Ending) (w' : World) : Prop := e = .panicked [{ v := stopV r.ea f, recovered := false }] ∧ Only (· = r.p) w w'
/-- it answers that, and has taken so many -/
def Has (r : Rd) (t : Nat) (v : Value) (w : World) (e : Ending) (w' : World) : Prop := e = .returned v ∧ Only (· = r.p) w w' ∧ RdAt w' r t

end Go.Proofs.YtmeaajhongalaaaGreatDoor.Ln

/-
  LAYER 1: what a reader answers, or gives up with: Line, More, fault, giveUp, Fail, Word.
-/
namespace Go.Proofs.YtmeaajhongalaaaGreatDoor.Ln
open Go.RowKit

theorem RdAt.alloc {w : World} {r : Rd} {t : Nat} (h : RdAt w r t) (o : Obj) : RdAt (w.alloc o) r t := Blk.alloc h o
theorem RdAt.drewN {w : World} {r : Rd} {t : Nat} (h : RdAt w r t) (k : Nat) : RdAt (w.drewN k) r t := h
theorem RdAt.below {w w' : World} {r : Rd} {t : Nat} (h : RdAt w r t) (hb : Below w.heap.size w w') : RdAt w' r t := Blk.below h hb
theorem RdAt.take {w : World} {r : Rd} {t : Nat} (h : RdAt w r t) : RdAt (w.setCell ⟨r.p, 3, none⟩ (.int .i64 ((t : Int) + 1))) r (t + 1) := Blk.set h 3 _

set_option maxHeartbeats 400000 in
theorem line_any {w : World} {r : Rd} {t : Nat} (h : RdAt w r t) :
    Calls Tryz.prog 83 #[.pointer (some ⟨r.p, 0, none⟩)] w fun e w' => e = .returned (.int .i64 (r.no : Int)) ∧ w = w' := by
  have c0 := h.cell 0 rfl
  clear h
  go_enter Tryz.func83, Tryz.ntmps83
  go_wp2
  go_ret
  exact ⟨rfl, rfl⟩

/-- but for draws the same world -/
def Drawn (w w' : World) : Prop := ∃ k, w' = w.drewN k
theorem Drawn.refl (w : World) : Drawn w w := ⟨0, rfl⟩
theorem Drawn.only {S : Nat → Prop} {w w' : World} (h : Drawn w w') : Only S w w' := by obtain ⟨k, rfl⟩ := h; exact (Only.refl _ _).drewN k
theorem Drawn.below {w w' : World} (h : Drawn w w') : Below w.heap.size w w' := by obtain ⟨k, rfl⟩ := h; exact below_drewN' (Below.refl _ _) k
theorem Drawn.size {w w' : World} (h : Drawn w w') : w'.heap.size = w.heap.size := by obtain ⟨k, rfl⟩ := h; rfl

set_option maxHeartbeats 400000 in
theorem more_yes {w : World} {r : Rd} {t : Nat} (h : RdAt w r t) (ht : t < r.n) :
    Calls Tryz.prog 80 #[.pointer (some ⟨r.p, 0, none⟩)] w fun e w' => e = .returned (.bool true) ∧ Drawn w w' := by
  have c1 := h.cell 1 rfl
  have c3 := h.cell 3 rfl
  clear h
  have hd : decide (t < r.n) = true := decide_eq_true ht
  go_enter Tryz.func80, Tryz.ntmps80
  go_wp2_with fail
  go_quiet (fail)
  go_wp2
  go_ret
  exact ⟨rfl, ⟨_, rfl⟩⟩
set_option maxHeartbeats 400000 in
theorem more_no {w : World} {r : Rd} {t : Nat} (h : RdAt w r t) (ht : ¬ t < r.n) :
    Calls Tryz.prog 80 #[.pointer (some ⟨r.p, 0, none⟩)] w fun e w' => e = .returned (.bool false) ∧ Drawn w w' := by
  have c1 := h.cell 1 rfl
  have c3 := h.cell 3 rfl
  clear h
  have hd : decide (t < r.n) = false := decide_eq_false ht
  go_enter Tryz.func80, Tryz.ntmps80
  go_wp2_with fail
  go_quiet (fail)
  go_wp2
  go_ret
  exact ⟨rfl, ⟨_, rfl⟩⟩

set_option maxHeartbeats 1000000 in
theorem fault_in {w : World} {r : Rd} {t : Nat} (h : RdAt w r t) (c : Int) (k : Nat) (hk : k < r.n) (x : Nat) (hx : w.cell? ⟨r.cB, k, none⟩ = some (.int .i64 (x : Int))) :
    Calls Tryz.prog 81 #[.pointer (some ⟨r.p, 0, none⟩), .int .i64 c, .int .i64 (k : Int)] w (fun e w' => e = .returned (.agg #[.int .i64 c, .int .i64 (r.no : Int), .int .i64 (x : Int)]) ∧ Below w.heap.size w w') := by
  have c2 := h.cell 2 rfl
  have hd : decide (k < r.n) = true := decide_eq_true hk
  have hp := h.lt
  have H := hid h
  have Bz := World.block_lt_of_cell? w _ hx
  clear h
  go_enter Tryz.func81, Tryz.ntmps81
  go_wp2_with (go_at_call 83; (with_reducible refine (line_any (H.out.alloc _)).mono ?_); rintro e w' ⟨rfl, rfl⟩)
  refine bodyPost_ret (v := .agg #[.int .i64 c, .int .i64 (r.no : Int), .int .i64 (x : Int)]) (by simp [results, Tryz.results81, go_sem]) rfl ⟨rfl, ?_⟩
  (repeat (first | exact Below.refl _ _ | assumption | refine below_alloc ?_ _ | refine below_drew ?_ | refine below_trans ?_ (by assumption)))

theorem fault_out {w : World} {r : Rd} {t : Nat} (h : RdAt w r t) (c : Int) :
    Calls Tryz.prog 81 #[.pointer (some ⟨r.p, 0, none⟩), .int .i64 c, .int .i64 (-1)] w (fun e w' => e = .returned (.agg #[.int .i64 c, .int .i64 (r.no : Int), .int .i64 0]) ∧ Below w.heap.size w w') := by
  have hp := h.lt
  have H := hid h
  clear h
  go_enter Tryz.func81, Tryz.ntmps81
  go_wp2_with (go_at_call 83; (with_reducible refine (line_any (H.out.alloc _)).mono ?_); rintro e w' ⟨rfl, rfl⟩)
  refine bodyPost_ret (v := .agg #[.int .i64 c, .int .i64 (r.no : Int), .int .i64 0]) (by simp [results, Tryz.results81, go_sem]) rfl ⟨rfl, ?_⟩
  (repeat (first | exact Below.refl _ _ | assumption | refine below_alloc ?_ _ | refine below_drew ?_ | refine below_trans ?_ (by assumption)))

set_option maxHeartbeats 1000000 in
theorem giveUp_any {w : World} {r : Rd} {t : Nat} (h : RdAt w r t) (c l k : Int) :
    Calls Tryz.prog 82 #[.pointer (some ⟨r.p, 0, none⟩), .agg #[.int .i64 c, .int .i64 l, .int .i64 k]] w (Gives r ⟨c, l, k⟩ w) := by
  have H := hid h
  have c4 := h.cell 4 rfl
  have hp := h.lt
  clear h
  go_enter Tryz.func82, Tryz.ntmps82
  go_wp2_with fail
  go_region_dies
  all_goals exact ⟨rfl, rfl, ((Only.refl _ _).alloc _).drew⟩

/-- where it stands that gives up behind t words -/
def lastC (cs : List Nat) (t : Nat) : Nat := if t = 0 then 0 else cs.getD (t - 1) 0

theorem Gives.more {r : Rd} {f : Flt} {w w1 : World} {e : Ending} {w' : World} (h : Gives r f w1 e w') (ho : Only (· = r.p) w w1) : Gives r f w e w' := ⟨h.1, ho.trans h.2⟩

set_option maxHeartbeats 1000000 in
theorem fail_any {w : World} {r : Rd} {t : Nat} {ws : List (List UInt8)} {cs : List Nat} (h : RdAt w r t) (hl : RdL w r ws cs) (ht : t ≤ ws.length) (c : Int) :
    Calls Tryz.prog 88 #[.pointer (some ⟨r.p, 0, none⟩), .int .i64 c] w (Gives r ⟨c, r.no, (lastC cs t : Nat)⟩ w) := by
  have H := hid h
  have HL := hid hl
  have c3 := h.cell 3 rfl
  have hp := h.lt
  have hs := hl.small
  clear h hl
  cases t with
  | zero =>
    go_enter Tryz.func88, Tryz.ntmps88
    go_wp2_with fail
    refine (fault_out H.out c).mono ?_
    rintro e w1 ⟨rfl, hb⟩
    have HB := hid hb
    clear hb
    go_wp2_with fail
    refine (giveUp_any (H.out.below HB.out) _ _ _).mono ?_
    rintro e w2 ⟨rfl, ho⟩
    exact ⟨rfl, rfl, (Only.of_below HB.out).trans ho⟩
  | succ k =>
    have hn := HL.out.n
    have hm := HL.out.m
    have hx := HL.out.col k (by omega)
    have HX := hid hx
    have hwr : IntKind.i64.wrap ((k : Int) + 1 - 1) = (k : Int) := by rw [show (k : Int) + 1 - 1 = k by omega]; exact IntWalk.i64_in _ (by omega)
    have e1 : (((k + 1 : Nat) : Int)) = (k : Int) + 1 := by omega
    rw [e1] at c3
    have HN := hid hn
    have HM := hid hm
    clear hx hn hm e1
    go_enter Tryz.func88, Tryz.ntmps88
    go_wp2_with fail
    refine (fault_in H.out c k (by have := HN.out; omega) _ HX.out).mono ?_
    rintro e w1 ⟨rfl, hb⟩
    have HB := hid hb
    clear hb
    go_wp2_with fail
    refine (giveUp_any (H.out.below HB.out) _ _ _).mono ?_
    rintro e w2 ⟨rfl, ho⟩
    exact ⟨rfl, rfl, (Only.of_below HB.out).trans ho⟩

end Go.Proofs.YtmeaajhongalaaaGreatDoor.Ln

/-
  LAYER 1: what a reader answers, or gives up with: Word, Is, Number.
-/
namespace Go.Proofs.YtmeaajhongalaaaGreatDoor.Ln
open Go.RowKit

theorem only_take {w w' : World} {r : Rd} (h : Only (· = r.p) w w') (v : Value) : Only (· = r.p) w (w'.setCell ⟨r.p, 3, none⟩ v) := h.setCell rfl v

set_option maxHeartbeats 2000000 in
theorem word_ok {w : World} {r : Rd} {t : Nat} {ws : List (List UInt8)} {cs : List Nat} (h : RdAt w r t) (hl : RdL w r ws cs) (ht : t < ws.length) :
    Calls Tryz.prog 32 #[.pointer (some ⟨r.p, 0, none⟩)] w (Has r (t + 1) (.string ⟨ws[t].toArray⟩) w) := by
  have H := hid h
  have HL := hid hl
  have hp := h.lt
  have hs := hl.small
  have hne := hl.wp
  have hn := hid hl.n
  have hx := hl.word t ht
  generalize ws[t] = W at *
  have HX := hid hx
  clear h hl hx
  have hwr : IntKind.i64.wrap ((t : Int) + 1) = (t : Int) + 1 := IntWalk.i64_in _ (by omega)
  have hwr2 : IntKind.i64.wrap (t : Int) = (t : Int) := IntWalk.i64_in _ (by omega)
  have hlt : t < r.n := by have := hn.out; omega
  go_enter Tryz.func32, Tryz.ntmps32
  go_wp2_with fail
  refine (more_yes H.out (by have := hn.out; omega)).mono ?_
  rintro e w1 ⟨rfl, hd⟩
  have hb := hd.below
  have H1 := hid (H.out.below hb)
  have c1 := H1.out.cell 1 rfl
  have c3 := H1.out.cell 3 rfl
  have cf := H1.out.free 3
  have hx := bcell hb HX.out
  have HO := hid (hd.only (S := (· = r.p)))
  clear hd hb
  go_wp2_with fail
  go_quiet (fail)
  go_wp2
  go_ret
  exact ⟨rfl, (HO.out.setCell rfl _).drewN _, (RdAt.take H1.out).drewN _⟩

set_option maxHeartbeats 1000000 in
theorem word_none {w : World} {r : Rd} {t : Nat} {ws : List (List UInt8)} {cs : List Nat} (h : RdAt w r t) (hl : RdL w r ws cs) (ht : ¬ t < ws.length) :
    Calls Tryz.prog 32 #[.pointer (some ⟨r.p, 0, none⟩)] w (Gives r ⟨1, r.no, 0⟩ w) := by
  have H := hid h
  have hn := hid hl.n
  clear hl h
  go_enter Tryz.func32, Tryz.ntmps32
  go_wp2_with fail
  refine (more_no H.out (by have := hn.out; omega)).mono ?_
  rintro e w1 ⟨rfl, hd⟩
  have HD := hid hd
  clear hd
  go_wp2_with fail
  refine (line_any (H.out.below HD.out.below)).mono ?_
  rintro e w2 ⟨rfl, rfl⟩
  go_wp2_with fail
  refine (giveUp_any (H.out.below HD.out.below) _ _ _).mono ?_
  rintro e w2 ⟨rfl, ho⟩
  exact ⟨rfl, rfl, HD.out.only.trans ho⟩

theorem quiet_drawn {f : FuncId} {args : Array Value} {w : World} {x : Nat} {v : Value} (h : Calls Tryz.prog f args (w.drewN x) fun e w' => e = .returned v ∧ Drawn (w.drewN x) w') :
    Calls Tryz.prog f args (w.drewN x) fun e w' => e = .returned v ∧ ∃ n, w' = w.drewN n :=
  h.mono fun _ _ ⟨he, k, hk⟩ => ⟨he, x + k, by rw [hk, World.drewN_drewN]⟩

set_option maxHeartbeats 1000000 in
theorem is_end {w : World} {r : Rd} {t : Nat} {ws : List (List UInt8)} {cs : List Nat} (h : RdAt w r t) (hl : RdL w r ws cs) (ht : ¬ t < ws.length) (V : List UInt8) :
    Calls Tryz.prog 173 #[.pointer (some ⟨r.p, 0, none⟩), .string ⟨V.toArray⟩] w (Has r t (.bool false) w) := by
  have H := hid h
  have hn := hid (show ¬ t < r.n by have := hl.n; omega)
  clear hl h ht
  go_enter Tryz.func173, Tryz.ntmps173
  go_wp2_with fail
  go_quiet ((go_at_call 80; exact quiet_drawn (more_no (H.out.drewN _) hn.out)))
  go_wp2
  go_ret
  exact ⟨rfl, (Only.refl _ _).drewN _, H.out.drewN _⟩

set_option maxHeartbeats 1000000 in
theorem is_yes {w : World} {r : Rd} {t : Nat} {ws : List (List UInt8)} {cs : List Nat} (h : RdAt w r t) (hl : RdL w r ws cs) (ht : t < ws.length) :
    Calls Tryz.prog 173 #[.pointer (some ⟨r.p, 0, none⟩), .string ⟨ws[t].toArray⟩] w (Has r (t + 1) (.bool true) w) := by
  have H := hid h
  have hlt : t < r.n := by have := hl.n; omega
  have hs : r.n ≤ 1099511627776 := by have := hl.n; have := hl.small; omega
  have hx := hl.word t ht
  have hne := hl.wp
  generalize ws[t] = W at *
  have c1 := h.cell 1 rfl
  have c3 := h.cell 3 rfl
  have cf := h.free 3
  have hwr : IntKind.i64.wrap ((t : Int) + 1) = (t : Int) + 1 := IntWalk.i64_in _ (by omega)
  clear hl h ht
  go_enter Tryz.func173, Tryz.ntmps173
  go_wp2_with fail
  go_quiet ((go_at_call 80; exact quiet_drawn (more_yes (H.out.drewN _) hlt)))
  go_wp2
  go_ret
  exact ⟨rfl, only_take ((Only.refl _ _).drewN _) _, RdAt.take (H.out.drewN _)⟩

set_option maxHeartbeats 1000000 in
theorem is_no {w : World} {r : Rd} {t : Nat} {ws : List (List UInt8)} {cs : List Nat} (h : RdAt w r t) (hl : RdL w r ws cs) (ht : t < ws.length) (V : List UInt8) (hV : ws[t] ≠ V) :
    Calls Tryz.prog 173 #[.pointer (some ⟨r.p, 0, none⟩), .string ⟨V.toArray⟩] w (Has r t (.bool false) w) := by
  have H := hid h
  have hlt : t < r.n := by have := hl.n; omega
  have hs : r.n ≤ 1099511627776 := by have := hl.n; have := hl.small; omega
  have hx := hl.word t ht
  have hne := hl.wp
  generalize ws[t] = W at *
  have c1 := h.cell 1 rfl
  have c3 := h.cell 3 rfl
  have hWV : (W != V) = true := bne_iff_ne.2 hV
  have hWV2 : (W == V) = false := beq_eq_false_iff_ne.2 hV
  have HV := hid hV
  clear hl h ht hV
  go_enter Tryz.func173, Tryz.ntmps173
  go_wp2_with fail
  go_quiet ((go_at_call 80; exact quiet_drawn (more_yes (H.out.drewN _) hlt)))
  go_wp2
  go_ret
  exact ⟨rfl, (Only.refl _ _).drewN _, H.out.drewN _⟩

end Go.Proofs.YtmeaajhongalaaaGreatDoor.Ln

/-
  LAYER 1: what a reader answers, or gives up with: Take at number, Number.
-/
namespace Go.Proofs.YtmeaajhongalaaaGreatDoor.Ln
open Go.RowKit

theorem small_word {ws : List (List UInt8)} {t : Nat} (h : ∀ w, w ∈ ws → w.length ≤ 1099511627776) (ht : t < ws.length) : (⟨ws[t].toArray⟩ : ByteArray).size ≤ maxLen := by
  have := h _ (List.getElem_mem ht)
  unfold maxLen
  show ws[t].toArray.size ≤ _
  simp; omega

@[go_sem] theorem eqlFI (fn : Fn) (a b : Array Value) (w : World) : (binOp .eql 160 (.func fn a b) .nilFunc).run Tryz.prog w = .ok (.bool false) w := by kernel_rfl
@[go_sem] theorem eqlFS (fn : Fn) (a b : Array Value) (w : World) : (binOp .eql 147 (.func fn a b) .nilFunc).run Tryz.prog w = .ok (.bool false) w := by kernel_rfl
@[go_sem] theorem eqlFR (fn : Fn) (a b : Array Value) (w : World) : (binOp .eql 93 (.func fn a b) .nilFunc).run Tryz.prog w = .ok (.bool false) w := by kernel_rfl

end Go.Proofs.YtmeaajhongalaaaGreatDoor.Ln

/-
  LAYER 1: what a reader answers, or gives up with: Number; Take at a text.
-/
namespace Go.Proofs.YtmeaajhongalaaaGreatDoor.Ln
open Go.RowKit

set_option maxRecDepth 100000 in
set_option maxHeartbeats 1000000 in
theorem takeStr_none {w : World} {r : Rd} {t : Nat} {ws : List (List UInt8)} {cs : List Nat} (h : RdAt w r t) (hl : RdL w r ws cs) (ht : ¬ t < ws.length) (v : Value) :
    Calls Tryz.prog 84 #[.pointer (some ⟨r.p, 0, none⟩), v] w (Gives r ⟨1, r.no, 0⟩ w) := by
  have H := hid h
  have HL := hid hl
  have HT := hid ht
  clear h hl ht
  go_enter Tryz.func84, Tryz.ntmps84
  go_wp2_with fail
  refine (word_none H.out HL.out HT.out).mono ?_
  rintro e w1 ⟨rfl, ho⟩
  exact ⟨rfl, rfl, ho⟩

end Go.Proofs.YtmeaajhongalaaaGreatDoor.Ln

/-
  LAYER 1: what Each defers: it takes what a reader of its own gave up with.
-/
namespace Go.Proofs.YtmeaajhongalaaaGreatDoor.Ln
open Go.RowKit

@[go_sem] theorem nilEq (w : World) : (binOp .eql 20 .nilIface .nilIface).run Tryz.prog w = .ok (.bool true) w := by kernel_rfl
@[go_sem] theorem someEq (t : TypeId) (v : Value) (w : World) : (binOp .eql 20 (.iface t v) .nilIface).run Tryz.prog w = .ok (.bool false) w := by kernel_rfl

@[go_sem] theorem isStop (v : Value) (w : World) : (Instr.typeAssert (.iface 139 v) 20 139 true).run Tryz.prog w = .ok (.tuple #[v, .bool true]) w := by kernel_rfl

theorem only_at {f : Nat} {w w' : World} (h : Only (· = f) w w') (o : Nat) (v : Value) : Only (· = f) w (w'.setCell ⟨f, o, none⟩ v) := h.setCell (p := ⟨f, o, none⟩) rfl v

theorem infoFault : (Tryz.prog.info? 87).isSome = true := by kernel_rfl
@[go_sem] theorem ptrNe (a : Addr) (w : World) : (binOp .neq 137 (.pointer (some a)) (.pointer (some a))).run Tryz.prog w = .ok (.bool false) w := by
  obtain ⟨j, hj⟩ := Option.isSome_iff_exists.1 infoFault
  exact Lib.run_neq_ptr_same w a Tryz.underlying137 hj

set_option maxRecDepth 100000 in
theorem catch_idle (f : Nat) (w : World) :
    CallsD Tryz.prog 79 #[.pointer (some ⟨f, 0, none⟩)] .returning w fun e u' w' => e = .returned (.tuple #[]) ∧ u' = .returning ∧ w = w' := by
  refine callsD_of_wpS Tryz.func79 rfl fun c₀ cs hu => ?_
  apply wpS_seq
  apply wpS_region
  simp [wpOpsS, go_sem, recoverD, hu, Tryz.ntmps79, Exit.thenS]
  refine wpS_of_wp ?_
  generalize hQ : (fun e a' w' => bodyPostS Tryz.prog Tryz.f79 c₀ cs _ e a' (c₀ :: cs) w') = Q
  have HQ := hid hQ
  clear hQ
  have HU := hid hu
  clear hu
  show Code.wp _ _ _ { tmps := #[.pointer (some ⟨f, 0, none⟩), undef, undef, undef, .nilIface, undef, undef, undef, undef, undef, undef, undef, undef, undef, undef, undef, undef], defers := [] } _
  go_wp2
  rw [← HQ.out]
  exact ⟨rfl, .returning, by rw [← HU.out], .tuple #[], by simp [results, Tryz.results79, go_sem], rfl, rfl, rfl⟩

set_option maxRecDepth 100000 in
theorem catch_stop (f : Nat) (c l k x y z : Int) (w : World) (hf : Blk w f [.int .i64 x, .int .i64 y, .int .i64 z] 87) :
    CallsD Tryz.prog 79 #[.pointer (some ⟨f, 0, none⟩)] (.panicking [{ v := stopV f ⟨c, l, k⟩, recovered := false }]) w fun e u' w' =>
      e = .returned (.tuple #[]) ∧ u' = .panicking [{ v := stopV f ⟨c, l, k⟩, recovered := true }] ∧ Only (· = f) w w' ∧ Blk w' f [.int .i64 c, .int .i64 l, .int .i64 k] 87 := by
  refine callsD_of_wpS Tryz.func79 rfl fun c₀ cs hu => ?_
  unfold stopV at *
  apply wpS_seq
  apply wpS_region
  simp [wpOpsS, go_sem, recoverD, hu, Tryz.ntmps79, Exit.thenS]
  refine wpS_of_wp ?_
  generalize hQ : (fun e a' w' => bodyPostS Tryz.prog Tryz.f79 c₀ cs _ e a' _ w') = Q
  have HQ := hid hQ
  clear hQ
  have HU := hid hu
  clear hu
  show Code.wp _ _ _ { tmps := #[.pointer (some ⟨f, 0, none⟩), undef, undef, undef, .iface 139 (.agg #[.pointer (some ⟨f, 0, none⟩), .int .i64 c, .int .i64 l, .int .i64 k]), undef, undef, undef, undef, undef, undef, undef, undef, undef, undef, undef, undef], defers := [] } _
  have HF := hid hf
  have f0 := hf.cell 0 rfl
  have f1 := hf.cell 1 rfl
  have f2 := hf.cell 2 rfl
  have ff := hf.free
  have hlt := hf.lt
  clear hf
  go_wp2
  rw [← HQ.out]
  have hB := ((((HF.out.set 0 (.int .i64 c)).set 1 (.int .i64 l)).set 2 (.int .i64 k)).alloc (.cells #[.pointer (some ⟨f, 0, none⟩), .int .i64 c, .int .i64 l, .int .i64 k] 139))
  have hO : Only (· = f) w ((((w.setCell ⟨f, 0, none⟩ (.int .i64 c)).setCell ⟨f, 1, none⟩ (.int .i64 l)).setCell ⟨f, 2, none⟩ (.int .i64 k)).alloc (.cells #[.pointer (some ⟨f, 0, none⟩), .int .i64 c, .int .i64 l, .int .i64 k] 139)) :=
    (only_at (only_at (only_at (Only.refl _ _) _ _) _ _) _ _).alloc _
  exact ⟨rfl, _, rfl, .tuple #[], by simp [results, Tryz.results79, go_sem], rfl, rfl, hO, hB⟩

end Go.Proofs.YtmeaajhongalaaaGreatDoor.Ln

/-
  LAYER 1: lines stay where only other blocks are written.
-/
namespace Go.Proofs.YtmeaajhongalaaaGreatDoor.Ln
open Go.RowKit

theorem RowsAt.only {S : Nat → Prop} {w w' : World} {base : Nat} {ws : Words} {cs : List Nat} {wv cv : Value} (h : RowsAt w base ws cs wv cv) (hb : Only S w w') (hs : ∀ k, base ≤ k → k < w.heap.size → ¬ S k) : RowsAt w' base ws cs wv cv :=
  ⟨ownsRow_only h.1 hb hs, ownsRow_only h.2 hb hs⟩
theorem LinesV.only {S : Nat → Prop} {w w' : World} {T base : Nat} {v : Value} {xs : List LineS} (h : LinesV w T base v xs) (hb : Only S w w') (hs : ∀ k, base ≤ k → k < w.heap.size → ¬ S k) : LinesV w' T base v xs := by
  obtain ⟨cells, h1, h2⟩ := h
  refine ⟨cells, ownsRow_only h1 hb hs, fun i x hx => ?_⟩
  obtain ⟨wv, cv, a, b, c, d⟩ := h2 i x hx
  exact ⟨wv, cv, a, b, c, d.only hb hs⟩


end Go.Proofs.YtmeaajhongalaaaGreatDoor.Ln
