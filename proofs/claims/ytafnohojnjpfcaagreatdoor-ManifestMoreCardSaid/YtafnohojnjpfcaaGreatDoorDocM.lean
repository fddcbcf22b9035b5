/-
  LAYERS 7 AND 9, the document's own: rows of needs in memory.
-/
import Derived.Test.YtafnohojnjpfcaaGreatDoorIE
import Derived.Test.YtafnohojnjpfcaaGreatDoorIF
namespace Go.Proofs.YtafnohojnjpfcaaGreatDoor.Ix
open Go.RowKit
open Go.Proofs.YtafnohojnjpfcaaGreatDoor Go.Proofs.YtafnohojnjpfcaaGreatDoor.Ln

/-- the document's need in memory: its three cells -/
def DNeedV (F : Nat → Prop) (w : World) (a b c : Value) (n : NeedS) : Prop := a = .string ⟨n.name.toArray⟩ ∧ b = .string ⟨n.rng.toArray⟩ ∧ StrsF F w c n.feats
theorem DNeedV.kept {F : Nat → Prop} {w w' : World} {a b c : Value} {n : NeedS} (h : DNeedV F w a b c n) (hk : Kept F w w') : DNeedV F w' a b c n := ⟨h.1, h.2.1, h.2.2.kept hk⟩
theorem DNeedV.mono {F G : Nat → Prop} {w : World} {a b c : Value} {n : NeedS} (h : DNeedV F w a b c n) (hG : ∀ b, b < w.heap.size → F b → G b) : DNeedV G w a b c n := ⟨h.1, h.2.1, h.2.2.mono hG⟩

/-- the document's needs in the cells of a row -/
def DNeedsF (F : Nat → Prop) (w : World) (cells : List Value) (ns : List NeedS) : Prop :=
  cells.length = ns.length * 3 ∧ ∀ i n, ns[i]? = some n → ∃ a b c, cells[i * 3]? = some a ∧ cells[i * 3 + 1]? = some b ∧ cells[i * 3 + 2]? = some c ∧ DNeedV F w a b c n
theorem DNeedsF.nil (F : Nat → Prop) (w : World) : DNeedsF F w [] [] := ⟨rfl, fun i n h => by simp at h⟩
theorem DNeedsF.kept {F : Nat → Prop} {w w' : World} {cells : List Value} {ns : List NeedS} (h : DNeedsF F w cells ns) (hk : Kept F w w') : DNeedsF F w' cells ns :=
  ⟨h.1, fun i n hn => by obtain ⟨a, b, c, h1, h2, h3, h4⟩ := h.2 i n hn; exact ⟨a, b, c, h1, h2, h3, h4.kept hk⟩⟩
theorem DNeedsF.mono {F G : Nat → Prop} {w : World} {cells : List Value} {ns : List NeedS} (h : DNeedsF F w cells ns) (hG : ∀ b, b < w.heap.size → F b → G b) : DNeedsF G w cells ns :=
  ⟨h.1, fun i n hn => by obtain ⟨a, b, c, h1, h2, h3, h4⟩ := h.2 i n hn; exact ⟨a, b, c, h1, h2, h3, h4.mono hG⟩⟩
theorem DNeedsF.push {F : Nat → Prop} {w : World} {cells : List Value} {ns : List NeedS} {a b c : Value} {n : NeedS} (h : DNeedsF F w cells ns) (hn : DNeedV F w a b c n) : DNeedsF F w (cells ++ [a, b, c]) (ns ++ [n]) := by
  refine ⟨by simp [h.1]; omega, fun i m hm => ?_⟩
  by_cases hi : i < ns.length
  · rw [List.getElem?_append_left hi] at hm
    obtain ⟨a', b', c', h1, h2, h3, h4⟩ := h.2 i m hm
    have hl := h.1
    exact ⟨a', b', c', by rw [List.getElem?_append_left (by omega)]; exact h1, by rw [List.getElem?_append_left (by omega)]; exact h2, by rw [List.getElem?_append_left (by omega)]; exact h3, h4⟩
  · have hl := (List.getElem?_eq_some_iff.1 hm).1
    simp at hl
    obtain rfl : i = ns.length := by omega
    rw [List.getElem?_append_right (Nat.le_refl _), Nat.sub_self] at hm
    cases hm
    have e0 := h.1
    refine ⟨a, b, c, ?_, ?_, ?_, hn⟩
    · rw [List.getElem?_append_right (by omega), show ns.length * 3 - cells.length = 0 by omega]; rfl
    · rw [List.getElem?_append_right (by omega), show ns.length * 3 + 1 - cells.length = 1 by omega]; rfl
    · rw [List.getElem?_append_right (by omega), show ns.length * 3 + 2 - cells.length = 2 by omega]; rfl

/-- a row of the document's needs, as it grows; what they have beside lies in F -/
structure DGrow (w : World) (base : Nat) (F : Nat → Prop) (v : Value) (cells : List Value) (ns : List NeedS) : Prop where
  own : w.ownsRow base 83 3 v ns.length cells
  needs : DNeedsF F w cells ns
  apart : ∀ g, v.ownBlock = some g → ¬ F g
theorem DGrow.below {w w' : World} {base : Nat} {F : Nat → Prop} {v : Value} {cells : List Value} {ns : List NeedS} (h : DGrow w base F v cells ns) (hb : Below w.heap.size w w') : DGrow w' base F v cells ns :=
  ⟨ownsRow_below h.own hb, h.needs.kept (Kept.of_below hb), h.apart⟩
theorem DGrow.only {w w' : World} {base : Nat} {F : Nat → Prop} {v : Value} {cells : List Value} {ns : List NeedS} (h : DGrow w base F v cells ns) {S : Nat → Prop} (ho : Only S w w') (h2 : ∀ b, v.ownBlock = some b → ¬ S b) (h3 : ∀ b, b < w.heap.size → F b → ¬ S b) : DGrow w' base F v cells ns :=
  ⟨(Kept.of_only (F := fun b => v.ownBlock = some b) ho (fun b _ hb => h2 b hb)).owns h.own (fun _ hb => hb), h.needs.kept (Kept.of_only ho h3), h.apart⟩
/-- one need more, behind a need's words -/
theorem DGrow.push {w0 w1 w3 : World} {base : Nat} {F : Nat → Prop} {a : Option Addr} {c' m : Nat} {cells : List Value} {ns : List NeedS} {x y z : Value} {n : NeedS} {g cap : Nat} {T : TypeId} (h1 : DGrow w1 base F (.slice a m c') cells ns) (hm : ns.length = m)
    (hn : DNeedV (fun k => w0.heap.size ≤ k) w1 x y z n) (hF : ∀ b, F b → b < w0.heap.size) (hz : w0.heap.size ≤ w1.heap.size) (hr : ∀ k, (Value.slice a m c').ownBlock = some k → k < w0.heap.size)
    (hown3 : w3.ownsRow base 83 3 (.slice (some ⟨g, 0, none⟩) (m + 1) cap) (m + 1) (cells ++ [x, y, z]))
    (hgrow : (w1.alloc (.cells #[x, y, z] T)).grownBy w3 (Value.slice a m c').ownBlock) (hat : (Value.slice a m c').ownBlock = some g ∨ g = w1.heap.size + 1) :
    DGrow w3 base (fun b => F b ∨ (w0.heap.size ≤ b ∧ b < w1.heap.size)) (.slice (some ⟨g, 0, none⟩) (m + 1) cap) (cells ++ [x, y, z]) (ns ++ [n]) := by
  have hK : Kept (fun b => F b ∨ (w0.heap.size ≤ b ∧ b < w1.heap.size)) w1 w3 := Kept.grown ((Kept.refl _ _).alloc _) hgrow (fun k hk hf => by
    rcases hf with hf | hf
    · exact h1.apart k hk hf
    · have := hr k hk; omega)
  refine ⟨?_, ((h1.needs.mono (fun b _ hf => .inl hf)).push (hn.mono (fun b hb hf => .inr ⟨hf, hb⟩))).kept hK, fun k hk hf => ?_⟩
  · rw [show (ns ++ [n]).length = m + 1 by rw [List.length_append, hm]; rfl]
    exact hown3
  · have hk2 : g = k := by injection hk
    subst hk2
    rcases hat with hat | hat
    · rcases hf with hf | hf
      · exact h1.apart g hat hf
      · have := hr g hat; omega
    · rcases hf with hf | hf
      · have := hF g hf; omega
      · omega

/-- the document's needs in a slice -/
def DNeedsV (w : World) (v : Value) (ns : List NeedS) : Prop :=
  ∃ a cp, v = .slice a ns.length cp ∧ (ns ≠ [] → ∃ G cells, a = some ⟨G, 0, none⟩ ∧ G < w.heap.size ∧ (∀ k x, cells[k]? = some x → w.cell? ⟨G, k, none⟩ = some x) ∧ DNeedsF (fun _ => True) w cells ns)
theorem DNeedsV.below {w w' : World} {v : Value} {ns : List NeedS} (h : DNeedsV w v ns) (hb : Below w.heap.size w w') : DNeedsV w' v ns := by
  obtain ⟨a, cp, h1, h2⟩ := h
  refine ⟨a, cp, h1, fun hne => ?_⟩
  obtain ⟨G, cells, h3, h4, h5, h6⟩ := h2 hne
  exact ⟨G, cells, h3, Nat.lt_of_lt_of_le h4 hb.size, fun k x hk => by rw [hb.cell h4]; exact h5 k x hk, h6.kept (Kept.of_below hb)⟩
theorem DGrow.v {w : World} {base : Nat} {F : Nat → Prop} {mv : Value} {cells : List Value} {ns : List NeedS} (h : DGrow w base F mv cells ns) : DNeedsV w mv ns := by
  obtain ⟨a, c, e⟩ := own_shape h.own
  refine ⟨a, c, e, fun hne => ?_⟩
  obtain ⟨g, c', h1, h2, h3, h4, h5, h6⟩ := Go.Proofs.YtafnohojnjpfcaaGreatDoor.Sp.ownsRow_any h.own (by intro e; exact hne (List.eq_nil_of_length_eq_zero e))
  rw [h1] at e
  injection e with e1 e2 e3
  exact ⟨g, cells, e1.symm, h3, h6, h.needs.mono (fun _ _ _ => trivial)⟩

/-- where the document's line ends: its state -/
def lineO (begun : Bool) (ws : Words) (cs : List Nat) (out : List NeedS) : Except Err Nat :=
  if begun then endO ws cs (sndO (needO 4 ws cs (fullO out.length 8 cs (if ws.getD 0 [] = rootW then .ok 1 else .error (1, cs.getD 0 0)))))
  else endO ws cs (if ws.getD 0 [] = manW then .ok 1 else .error (1, cs.getD 0 0))
theorem lineO_bad {begun : Bool} {ws : Words} {cs : List Nat} {out : List NeedS} {e : Err} (h : lineO begun ws cs out = .error e) (hl : out.length ≤ 8) : manLine begun ws cs out = .error e := by
  unfold lineO at h
  unfold manLine
  cases begun with
  | true =>
    rw [if_pos rfl] at h ⊢
    by_cases hr : ws.getD 0 [] = rootW
    · rw [if_pos hr] at h
      rw [if_neg (fun h => h hr)]
      by_cases h8 : out.length = 8
      · rw [show fullO out.length 8 cs (.ok 1) = .error (2, lastC cs 1) from if_pos (by omega)] at h
        rw [if_pos h8]
        cases h; rfl
      · rw [show fullO out.length 8 cs (.ok 1) = .ok 1 from if_neg (by omega)] at h
        rw [if_neg h8]
        change endO ws cs (sndO (needP 4 ws cs 1)) = _ at h
        cases hn : needP 4 ws cs 1 with
        | error e' => rw [hn] at h; cases h; rfl
        | ok p =>
          rw [hn] at h
          obtain ⟨n, t⟩ := p
          change (if t < ws.length then (Except.error (1, cs.getD t 0) : Except Err Nat) else .ok t) = _ at h
          unfold endW
          by_cases ht : t < ws.length
          · rw [if_pos ht] at h
            show (if t < ws.length then _ else _) = _
            rw [if_pos ht]; cases h; rfl
          · rw [if_neg ht] at h; cases h
    · rw [if_neg hr] at h
      rw [if_pos hr]
      cases h; rfl
  | false =>
    rw [if_neg (by simp)] at h ⊢
    by_cases hr : ws.getD 0 [] = manW
    · rw [if_pos hr] at h
      rw [if_neg (fun h => h hr)]
      change (if 1 < ws.length then (Except.error (1, cs.getD 1 0) : Except Err Nat) else .ok 1) = _ at h
      unfold endW
      by_cases ht : 1 < ws.length
      · rw [if_pos ht] at h ⊢; cases h; rfl
      · rw [if_neg ht] at h; cases h
    · rw [if_neg hr] at h
      rw [if_pos hr]
      cases h; rfl
end Go.Proofs.YtafnohojnjpfcaaGreatDoor.Ix
