/-
  SMALL GENERAL LEMMAS of this prover's own: hidden facts, endings, bytes of a slice read as a string. No program is imported.
-/
import Derived.WalkKit
import Derived.WalkLawsBesides
import Derived.WalkSpells
import Derived.Handy
import Derived.Outline
import Derived.Laws.BytesString
import Derived.ProofKit
import Derived.OpenShut
import Derived.SizedLaws
namespace Go.Proofs.Ytbiopkmnajkjpaa
open Go.RowKit

theorem hid {p : Prop} (h : p) : Hid p := h

theorem ret_tup {a b a' b' : Value} (h : a = a') (k : b = b') : Ending.returned (.tuple #[a, b]) = Ending.returned (.tuple #[a', b']) := by rw [h, k]
theorem int_eq {k : IntKind} {a b : Int} (h : a = b) : Value.int k a = Value.int k b := by rw [h]
theorem bool_eq {a b : Bool} (h : a = b) : Value.bool a = Value.bool b := by rw [h]
theorem ret_int {k : IntKind} {a b : Int} (h : a = b) : Ending.returned (.int k a) = .returned (.int k b) := by rw [h]
theorem ret_bool {a b : Bool} (h : a = b) : Ending.returned (.bool a) = .returned (.bool b) := by rw [h]
theorem ret_str {a b : List UInt8} (h : a = b) : Ending.returned (.string ⟨a.toArray⟩) = .returned (.string ⟨b.toArray⟩) := by rw [h]
theorem ret_float {a b : Nat} (h : a = b) : Ending.returned (.float .f64 a) = .returned (.float .f64 b) := by rw [h]

/-- what leaves memory as it was is quiet -/
theorem below_of {w w' : World} (h : w = w') : Below w.heap.size w w' := by subst h; exact Below.refl _ _

theorem below_trans {a b c : World} (h : Below a.heap.size a b) (k : Below b.heap.size b c) : Below a.heap.size a c := h.trans (k.mono h.size)
theorem below_alloc {a b : World} (h : Below a.heap.size a b) (o : Obj) : Below a.heap.size a (b.alloc o) := h.alloc h.size o
theorem below_drew {a b : World} (h : Below a.heap.size a b) : Below a.heap.size a b.drew := h.drew

theorem addr_add (b o j : Nat) : Addr.add ⟨b, o, none⟩ j = ⟨b, o + j, none⟩ := by
  cases j <;> simp [Addr.add]

/-- what the call owns stays owned where nothing that was there has turned -/
theorem ownsRow_below {w w' : World} {base : Nat} {e : TypeId} {size : Nat} {v : Value} {n : Nat} {xs : List Value} (h : w.ownsRow base e size v n xs) (hb : Below w.heap.size w w') : w'.ownsRow base e size v n xs := by
  refine ⟨h.1, ?_⟩
  rcases h.2 with hn | ⟨g, cap, cur, rfl, hg, hh, rest⟩
  · exact .inl hn
  · exact .inr ⟨g, cap, cur, rfl, hg, by rw [hb.block g (Array.getElem?_eq_some_iff.1 hh).1]; exact hh, rest⟩
/-- a row that the call owns, of cells of one: nil, or a block whose first cells are those -/
theorem ownsRow_one {w : World} {base : Nat} {e : TypeId} {v : Value} {n : Nat} {xs : List Value} (h : w.ownsRow base e 1 v n xs) :
    (v = .slice none 0 0 ∧ n = 0 ∧ xs = []) ∨ ∃ g c, v = .slice (some ⟨g, 0, none⟩) n c ∧ base ≤ g ∧ g < w.heap.size ∧ n ≤ c ∧ c ≤ maxLen ∧ ∀ k x, xs[k]? = some x → w.cell? ⟨g, k, none⟩ = some x := by
  have hl := h.1
  rcases h.2 with ⟨hv, hn⟩ | ⟨g, cap, cur, hv, hg, hh, h1, h2, h3, h4⟩
  · left
    refine ⟨hv, hn, ?_⟩
    subst hn
    exact List.eq_nil_of_length_eq_zero (by omega)
  · right
    refine ⟨g, cap, hv, hg, (Array.getElem?_eq_some_iff.1 hh).1, h1, h2, ?_⟩
    intro k x hk
    have := h.cells (g := g) (by rw [hv]; rfl) k x hk
    rwa [addr_add, Nat.zero_add] at this

theorem push_all (l : List UInt8) : ∀ s : ByteArray, (l.map fun (c : UInt8) => (c.toNat : Int)).foldl (fun (r : ByteArray) n => r.push (UInt8.ofNat n.toNat)) s = ⟨(s.data.toList ++ l).toArray⟩ := by
  induction l with
  | nil => intro s; simp
  | cons c l ih =>
    intro s
    rw [List.map_cons, List.foldl_cons, ih]
    congr 1
    simp [ByteArray.push]

/-- 'string(b)' of a slice of bytes that hold l -/
theorem run_bytes_string {P : Program} (w : World) (src dst e : TypeId) (b o : Nat) (l : List UInt8) (n c : Nat) (hn : n = l.length)
    (hs : P.underlying src = some (.slice e)) (he : P.underlying e = some (.int .u8)) (hd : P.underlying dst = some .string)
    (h : ∀ j v, l[j]? = some v → w.cell? ⟨b, o + j, none⟩ = some (.int .u8 (v.toNat : Int))) :
    (convert src dst (.slice (some ⟨b, o, none⟩) n c)).run P w = .ok (.string ⟨l.toArray⟩) w := by
  subst hn
  rw [run_convert_bytes_string w src dst e _ _ _ hs he hd]
  have hl := run_loadCells_list (P := P) (w := w) ⟨b, o, none⟩ ((l.map fun (c : UInt8) => (c.toNat : Int)).map (Value.int .u8)) (by
    intro j v hj
    rw [List.getElem?_map, List.getElem?_map] at hj
    cases hl : l[j]? with
    | none => rw [hl] at hj; cases hj
    | some x => rw [hl] at hj; cases hj; rw [addr_add]; exact h j x hl)
  rw [List.length_map, List.length_map] at hl
  rw [run_bytesToString w ⟨b, o, none⟩ l.length c (l.map fun (c : UInt8) => (c.toNat : Int)) hl, push_all]
  simp [ByteArray.empty, ByteArray.emptyWithCapacity]
  rfl

theorem bytes_append (a b : List UInt8) : (⟨a.toArray⟩ : ByteArray) ++ ⟨b.toArray⟩ = ⟨(a ++ b).toArray⟩ := by
  apply ByteArray.ext
  simp [ByteArray.data_append]
theorem str_append {a b c : List UInt8} (h : c = a ++ b) : Value.string ((⟨a.toArray⟩ : ByteArray) ++ ⟨b.toArray⟩) = .string ⟨c.toArray⟩ := by rw [bytes_append, h]

/-- 'string([]byte{x})' -/
theorem run_one_byte {P : Program} (w : World) (src dst e T : TypeId) (x : Int) (u : UInt8) (hx : x = (u.toNat : Int))
    (hs : P.underlying src = some (.slice e)) (he : P.underlying e = some (.int .u8)) (hd : P.underlying dst = some .string) :
    (convert src dst (.slice (some ⟨w.heap.size, 0, none⟩) 1 1)).run P (w.alloc (.cells #[.int .u8 x] T)) = .ok (.string ⟨#[u]⟩) (w.alloc (.cells #[.int .u8 x] T)) := by
  have := run_bytes_string (P := P) (w.alloc (.cells #[.int .u8 x] T)) src dst e w.heap.size 0 [u] 1 1 rfl hs he hd (by
    intro j v hj
    rw [World.cell?_alloc_at _ _ _ _ rfl]
    cases j with
    | zero => cases hj; subst hx; rfl
    | succ j => cases hj)
  exact this

section
open Go.ChangeShapes Go.WideShapes Go.ChangeAt
/-- a slice of numbers of 64 bits that came in: empty, or its cells -/
theorem open_u64s {H : Type} {enc : TypeId × Value → H} {P : Program} {W : World} {b0 : Nat} {r : Reach} {t e : TypeId} {v : Value} {d : DataW H} {ps : List MemPlace} (ht : P.underlying t = some (.slice e)) (he : P.underlying e = some (.int .u64)) (hc : P.cellsOf e = 1)
    (hval : Value.okWide P W r b0 t v) (h : DataW.Trod enc P W 0 (fun _ => true) true t v d ps) :
    ∃ a n c, v = .slice a n c ∧ (n = 0 ∨ ∃ B o, ∃ l : List Nat, a = some ⟨B, o, none⟩ ∧ n = l.length ∧ B < W.heap.size ∧ (∀ k, k < l.length → l.getD k 0 < 18446744073709551616) ∧
      (∀ k, k < l.length → W.cell? ⟨B, o + k, none⟩ = some (.int .u64 (l.getD k 0 : Nat))) ∧ ∃ es sp, d = .slice es sp ∧ n ≤ es.length + sp.length) := by
  obtain ⟨a, n, c, rfl⟩ := okWide_slice ht hval
  refine ⟨a, n, c, rfl, ?_⟩
  obtain ⟨fuel, hf⟩ := h
  rcases open_ints ht he hc hf with ⟨hcs, _⟩ | ⟨a', n', c', zs, hcs, _, hl, hm, hz, hx, hcell, hwz⟩
  · left
    simp [Value.cells] at hcs
    exact hcs.2.1
  · simp [Value.cells] at hcs
    obtain ⟨rfl, rfl, rfl⟩ := hcs
    rcases Nat.eq_zero_or_pos n with h0 | h0
    · exact .inl h0
    · right
      have hz' : zs.length = c := by simpa using hz
      obtain ⟨B, o, rfl, hcc⟩ := ints_at hcell (by omega)
      have hw : ∀ z ∈ zs, 0 ≤ z ∧ z ≤ 18446744073709551615 := fun z hz => by simpa [Lit.wf, IntKind.min, IntKind.max, IntKind.signed, IntKind.bits] using hwz z hz
      have hg : ∀ k, k < n → ((zs.take n).map Int.toNat).getD k 0 = (zs.getD k 0).toNat ∧ zs.getD k 0 ∈ zs := fun k hk => by
        have hk' : k < zs.length := by omega
        simp [List.getD, hk, List.getElem?_eq_getElem hk']
      have hlen : ((zs.take n).map Int.toNat).length = n := by simp; omega
      refine ⟨B, o, (zs.take n).map Int.toNat, rfl, hlen.symm, ?_, ?_, ?_, ?_⟩
      · have := hcc 0 (by omega)
        exact World.block_lt_of_cell? W _ this
      · intro k hk
        rw [hlen] at hk
        have := hg k hk
        have h2 := hw _ this.2
        rw [this.1]; omega
      · intro k hk
        rw [hlen] at hk
        have := hg k hk
        have h2 := hw _ this.2
        rw [hcc k (by omega), this.1]
        congr 2
        omega
      · simp only [Prod.mk.injEq] at hx
        refine ⟨_, _, hx.1, ?_⟩
        simp [lits]; omega
end

end Go.Proofs.Ytbiopkmnajkjpaa
