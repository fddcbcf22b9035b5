/-
  LAYER 1: the statements themselves, first part (LinesReads).
-/
import Derived.Test.YtejigbhcpejijaaLinesSame
import Derived.Deep.RegionHeld3
namespace Go.Proofs.Ytejigbhcpejijaa.Ln
open Go.RowKit

theorem sp_ok (l : List UInt8) : ∀ (f a : Nat) (ws : Words) (cs : List Nat) {ws' : Words} {cs' : List Nat}, sp l f a ws cs = .ok (ws', cs') → ws.length ≤ 20 → cs.length = ws.length → ws'.length ≤ 20 ∧ cs'.length = ws'.length := by
  intro f
  induction f with
  | zero => intro a ws cs ws' cs' h h1 h2; cases h; exact ⟨h1, h2⟩
  | succ f ih =>
    intro a ws cs ws' cs' h h1 h2
    unfold sp at h
    dsimp only at h
    split at h
    · cases h; exact ⟨h1, h2⟩
    · split at h
      · cases h
      · rename_i hx
        split at h
        · cases h
        · exact ih _ _ _ h (by simp; omega) (by simp [h2])

theorem rd_ok (most : Nat) : ∀ (f : Nat) (l : List UInt8) (no : Nat) (out : List LineS) {xs : List LineS} (N : Nat), rd most f l no out = .ok xs → out.length + l.length ≤ N → (∀ x, x ∈ out → x.2.1.length ≤ 20 ∧ x.2.2.length = x.2.1.length) →
    xs.length ≤ N ∧ ∀ x, x ∈ xs → x.2.1.length ≤ 20 ∧ x.2.2.length = x.2.1.length := by
  intro f
  induction f with
  | zero => intro l no out xs N h h1 h2; cases h; exact ⟨by omega, h2⟩
  | succ f ih =>
    intro l no out xs N h h1 h2
    unfold rd at h
    split at h
    · cases h; exact ⟨by omega, h2⟩
    · rename_i hn
      split at h
      · cases h
      · split at h
        · cases h
        · rename_i ws cs hl
          have ha := aft_lt (c := 10) hn
          have hw := sp_ok _ _ _ _ _ hl (by simp) rfl
          refine ih _ _ _ N h ?_ ?_
          · split
            · omega
            · simp; omega
          · intro x hx
            split at hx
            · exact h2 x hx
            · rcases List.mem_append.1 hx with h' | h'
              · exact h2 x h'
              · simp only [List.mem_singleton] at h'
                subst h'
                exact hw

def resL : RRes → List LineS
  | .ok xs => xs
  | .error _ => []
def resF : RRes → Nat × Nat × Nat
  | .ok _ => (0, 0, 0)
  | .error e => e

theorem ReadIs.shape {T : TypeId} {r : RRes} {w w' : World} {e : Ending} (h : ReadIs T r w e w') :
    Below w.heap.size w w' ∧ ∃ v, e = .returned (.tuple #[v, .agg #[.int .i64 ((resF r).1 : Int), .int .i64 ((resF r).2.1 : Int), .int .i64 ((resF r).2.2 : Int)]]) ∧ LinesV w' T w.heap.size v (resL r) := by
  obtain ⟨hb, h⟩ := h
  refine ⟨hb, ?_⟩
  cases r with
  | ok xs => exact h
  | error p => obtain ⟨c, no, col⟩ := p; exact ⟨_, h, LinesV.nil _ _ _⟩

theorem rdC_small (most : Nat) (l : List UInt8) (hs : l.length ≤ 1099511627776) :
    (resL (rdC most l 1 [])).length ≤ 1099511627777 ∧ ∀ x, x ∈ resL (rdC most l 1 []) → x.2.1.length ≤ 1099511627776 ∧ x.2.2.length ≤ 1099511627776 := by
  cases h : rdC most l 1 [] with
  | error p => exact ⟨by simp [resL], by intro x hx; cases hx⟩
  | ok xs =>
    have := rd_ok most _ _ _ _ l.length h (by simp) (by intro x hx; cases hx)
    refine ⟨by show xs.length ≤ _; omega, fun x hx => ?_⟩
    have := this.2 x hx
    omega
theorem readS_small (l : List UInt8) (hs : l.length ≤ 1099511627776) :
    (resL (readS l)).length ≤ 1099511627777 ∧ ∀ x, x ∈ resL (readS l) → x.2.1.length ≤ 1099511627776 ∧ x.2.2.length ≤ 1099511627776 := by
  unfold readS
  split
  · exact ⟨by simp [resL], by intro x hx; cases hx⟩
  · exact rdC_small _ _ hs

theorem below_trans2 {a b c : World} (k : Below b.heap.size b c) (h : Below a.heap.size a b) : Below a.heap.size a c := h.trans (k.mono h.size)

theorem same_at {xs : List LineS} (hx : Hid (xs.length ≤ 1099511627777 ∧ ∀ x, x ∈ xs → x.2.1.length ≤ 1099511627776 ∧ x.2.2.length ≤ 1099511627776)) {va vb : Value} {base base' : Nat} {wa w : World}
    (ha : Hid (LinesV wa 44 base va xs)) (hb : Hid (LinesV wa 67 base' vb xs)) (h1 : Below wa.heap.size wa w) :
    Calls Try.prog 15 #[va, vb] w fun e w' => e = .returned (.bool true) ∧ Below w.heap.size w w' :=
  (same_eq xs hx.out.1 hx.out.2 va vb base base' w (ha.out.below h1) (hb.out.below h1)).mono fun e w' ⟨he, m, hw⟩ => ⟨he, by subst hw; exact below_drewN' (Below.refl _ _) m⟩

theorem keep13 {W5 b c : World} {p1 p2 p3 p4 a1 a2 a3 b1 b2 b3 : Nat} (k : Below b.heap.size b c)
    (h : Below W5.heap.size W5 b ∧ b.cell? ⟨p1, 0, none⟩ = some (.int .i64 (a1 : Int)) ∧ b.cell? ⟨p1, 1, none⟩ = some (.int .i64 (a2 : Int)) ∧ b.cell? ⟨p1, 2, none⟩ = some (.int .i64 (a3 : Int)) ∧ b.cell? ⟨p2, 0, none⟩ = some (.int .i64 (a1 : Int)) ∧ b.cell? ⟨p2, 1, none⟩ = some (.int .i64 (a2 : Int)) ∧ b.cell? ⟨p2, 2, none⟩ = some (.int .i64 (a3 : Int)) ∧ b.cell? ⟨p3, 0, none⟩ = some (.int .i64 (b1 : Int)) ∧ b.cell? ⟨p3, 1, none⟩ = some (.int .i64 (b2 : Int)) ∧ b.cell? ⟨p3, 2, none⟩ = some (.int .i64 (b3 : Int)) ∧ b.cell? ⟨p4, 0, none⟩ = some (.int .i64 (b1 : Int)) ∧ b.cell? ⟨p4, 1, none⟩ = some (.int .i64 (b2 : Int)) ∧ b.cell? ⟨p4, 2, none⟩ = some (.int .i64 (b3 : Int))) :
    Below W5.heap.size W5 c ∧ c.cell? ⟨p1, 0, none⟩ = some (.int .i64 (a1 : Int)) ∧ c.cell? ⟨p1, 1, none⟩ = some (.int .i64 (a2 : Int)) ∧ c.cell? ⟨p1, 2, none⟩ = some (.int .i64 (a3 : Int)) ∧ c.cell? ⟨p2, 0, none⟩ = some (.int .i64 (a1 : Int)) ∧ c.cell? ⟨p2, 1, none⟩ = some (.int .i64 (a2 : Int)) ∧ c.cell? ⟨p2, 2, none⟩ = some (.int .i64 (a3 : Int)) ∧ c.cell? ⟨p3, 0, none⟩ = some (.int .i64 (b1 : Int)) ∧ c.cell? ⟨p3, 1, none⟩ = some (.int .i64 (b2 : Int)) ∧ c.cell? ⟨p3, 2, none⟩ = some (.int .i64 (b3 : Int)) ∧ c.cell? ⟨p4, 0, none⟩ = some (.int .i64 (b1 : Int)) ∧ c.cell? ⟨p4, 1, none⟩ = some (.int .i64 (b2 : Int)) ∧ c.cell? ⟨p4, 2, none⟩ = some (.int .i64 (b3 : Int)) := by
  obtain ⟨h0, h1, h2, h3, h4, h5, h6, h7, h8, h9, h10, h11, h12⟩ := h
  exact ⟨below_trans h0 k, bcell k h1, bcell k h2, bcell k h3, bcell k h4, bcell k h5, bcell k h6, bcell k h7, bcell k h8, bcell k h9, bcell k h10, bcell k h11, bcell k h12⟩

set_option maxRecDepth 100000 in
set_option maxHeartbeats 4000000 in
theorem law_reads (l : List UInt8) (hs : l.length ≤ 1099511627776) (w : World) :
    Calls Try.prog 3 #[.string ⟨l.toArray⟩] w fun e w' => e = .returned (.bool true) ∧ Below w.heap.size w w' := by
  have HS := hid hs
  have S1 := hid (readS_small l hs)
  have S2 := hid (rdC_small l.length l hs)
  clear hs
  go_enter Try.func3, Try.ntmps3
  go_wp2_with fail
  refine (Read_any l HS.out _).mono ?_
  intro e w1 hr
  obtain ⟨hb1, v1, rfl, lv1⟩ := hr.shape
  clear hr
  have HB1 := hid hb1
  have LV1 := hid lv1
  clear hb1 lv1
  go_wp2_with fail
  refine (refRead_any l HS.out _).mono ?_
  intro e w2 hr
  obtain ⟨hb2, v2, rfl, lv2⟩ := hr.shape
  clear hr
  have HB2 := hid hb2
  have LV2 := hid lv2
  clear hb2 lv2
  go_wp2_with fail
  refine (ReadAny_any l HS.out _).mono ?_
  intro e w3 hr
  unfold readAnyS at hr
  obtain ⟨hb3, v3, rfl, lv3⟩ := hr.shape
  clear hr
  have HB3 := hid hb3
  have LV3 := hid lv3
  clear hb3 lv3
  go_wp2_with fail
  have hw : wrap64 ((l.length : Int) + 1) = ((l.length + 1 : Nat) : Int) := by have := HS.out; unfold wrap64; omega
  rw [hw]
  refine (refMost_any l HS.out (l.length + 1) (by have := HS.out; omega) _).mono ?_
  intro e w4 hr
  rw [rdC_any] at hr
  obtain ⟨hb4, v4, rfl, lv4⟩ := hr.shape
  clear hr hw
  have HB4 := hid hb4
  have LV4 := hid lv4
  clear hb4 lv4
  generalize (resF (readS l)).1 = a1 at *
  generalize (resF (readS l)).2.1 = a2 at *
  generalize (resF (readS l)).2.2 = a3 at *
  generalize (resF (rdC l.length l 1 [])).1 = b1 at *
  generalize (resF (rdC l.length l 1 [])).2.1 = b2 at *
  generalize (resF (rdC l.length l 1 [])).2.2 = b3 at *
  go_wp2_with fail
  have A1 := HB2.out
  have A2 := HB3.out
  have A3 := HB4.out
  have A4 : Below w4.heap.size w4 (w4.alloc (Obj.cells #[Value.int IntKind.i64 ↑b1, Value.int IntKind.i64 ↑b2, Value.int IntKind.i64 ↑b3] 30)) := (Below.refl _ _).alloc (Nat.le_refl _) _
  have N4 : Blk _ w4.heap.size [.int .i64 ↑b1, .int .i64 ↑b2, .int .i64 ↑b3] 30 := Blk.new w4 _ _
  have N3 : Blk _ w3.heap.size [.int .i64 ↑b1, .int .i64 ↑b2, .int .i64 ↑b3] 25 := ((Blk.new w3 _ _).below A3).below A4
  have N2 : Blk _ w2.heap.size [.int .i64 ↑a1, .int .i64 ↑a2, .int .i64 ↑a3] 30 := (((Blk.new w2 _ _).below A2).alloc _ |>.below A3).below A4
  have N1 : Blk _ w1.heap.size [.int .i64 ↑a1, .int .i64 ↑a2, .int .i64 ↑a3] 25 := (((((Blk.new w1 _ _).below A1).alloc _).below A2).alloc _ |>.below A3).below A4
  have L4 := LV4.out.below A4
  have L3 := (LV3.out.below (below_trans (below_alloc (Below.refl _ _) _) A3)).below A4
  have U3 := below_trans (below_trans (below_alloc (Below.refl w3.heap.size w3) _) A3) A4
  have U2 := below_trans (below_trans (below_alloc (Below.refl w2.heap.size w2) _) A2) U3
  have U1 := below_trans (below_trans (below_alloc (Below.refl w1.heap.size w1) _) A1) U2
  have L2 := LV2.out.below U2
  have L1 := LV1.out.below U1
  have U0 := below_trans HB1.out U1
  clear A1 A2 A3 A4 U1 U2 U3 LV1 LV2 LV3 LV4 HB1 HB2 HB3 HB4
  have HL1 := hid L1
  have HL2 := hid L2
  have HL3 := hid L3
  have HL4 := hid L4
  have HU := hid U0
  clear L1 L2 L3 L4 U0
  generalize hp1 : w1.heap.size = p1 at *
  generalize hp2 : w2.heap.size = p2 at *
  generalize hp3 : w3.heap.size = p3 at *
  generalize hp4 : w4.heap.size = p4 at *
  generalize hW5 : w4.alloc (Obj.cells #[Value.int IntKind.i64 ↑b1, Value.int IntKind.i64 ↑b2, Value.int IntKind.i64 ↑b3] 30) = W5 at *
  clear hp1 hp2 hp3 hp4 hW5
  have z10 := N1.cell 0 rfl
  have z11 := N1.cell 1 rfl
  have z12 := N1.cell 2 rfl
  have z20 := N2.cell 0 rfl
  have z21 := N2.cell 1 rfl
  have z22 := N2.cell 2 rfl
  have z30 := N3.cell 0 rfl
  have z31 := N3.cell 1 rfl
  have z32 := N3.cell 2 rfl
  have z40 := N4.cell 0 rfl
  have z41 := N4.cell 1 rfl
  have z42 := N4.cell 2 rfl
  clear N1 N2 N3 N4
  have hbr : Below W5.heap.size W5 W5 := Below.refl _ _
  have hb0 : Below W5.heap.size W5 W5.drew := hbr.drew
  go_region_held3 (fun w' => Below W5.heap.size W5 w' ∧ w'.cell? ⟨p1, 0, none⟩ = some (.int .i64 (a1 : Int)) ∧ w'.cell? ⟨p1, 1, none⟩ = some (.int .i64 (a2 : Int)) ∧ w'.cell? ⟨p1, 2, none⟩ = some (.int .i64 (a3 : Int)) ∧ w'.cell? ⟨p2, 0, none⟩ = some (.int .i64 (a1 : Int)) ∧ w'.cell? ⟨p2, 1, none⟩ = some (.int .i64 (a2 : Int)) ∧ w'.cell? ⟨p2, 2, none⟩ = some (.int .i64 (a3 : Int)) ∧ w'.cell? ⟨p3, 0, none⟩ = some (.int .i64 (b1 : Int)) ∧ w'.cell? ⟨p3, 1, none⟩ = some (.int .i64 (b2 : Int)) ∧ w'.cell? ⟨p3, 2, none⟩ = some (.int .i64 (b3 : Int)) ∧ w'.cell? ⟨p4, 0, none⟩ = some (.int .i64 (b1 : Int)) ∧ w'.cell? ⟨p4, 1, none⟩ = some (.int .i64 (b2 : Int)) ∧ w'.cell? ⟨p4, 2, none⟩ = some (.int .i64 (b3 : Int))) (first | (exact keep13 (by assumption) (by assumption)) | (exact keep13 hb0 ⟨hbr, z10, z11, z12, z20, z21, z22, z30, z31, z32, z40, z41, z42⟩))
    (first
      | (go_at_call 13; refine (readTrue_any _).mono ?_; rintro e w' ⟨rfl, hb⟩)
      | (go_at_call 14; refine (fault_any _ _ _ _).mono ?_; rintro e w' ⟨rfl, hb⟩)
      | (go_at_call 15; with_reducible refine (same_at S1 HL1 HL2 (And.left (by assumption))).mono ?_; rintro e w' ⟨rfl, hb⟩)
      | (go_at_call 15; with_reducible refine (same_at S2 HL3 HL4 (And.left (by assumption))).mono ?_; rintro e w' ⟨rfl, hb⟩))
  go_wp2_with fail
  go_ret
  exact ⟨rfl, below_trans HU.out (And.left (by assumption))⟩

end Go.Proofs.Ytejigbhcpejijaa.Ln
