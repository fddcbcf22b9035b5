/-
  SMALL GENERAL LEMMAS of this prover's own: hidden facts, endings, bytes of a slice read as a string. No program is imported.
-/
import Derived.WalkKit
import Derived.WalkLawsBesides
import Derived.WalkSpells
import Derived.Handy
import Derived.Outline
import Derived.Laws.BytesString
import Derived.ProofKit
import Derived.OpenShut
import Derived.SizedLaws
import Derived.WalkSmall
import Derived.OneCell
namespace Go.Proofs.Ytopneceicamakaa
open Go.RowKit

theorem hid {p : Prop} (h : p) : Hid p := h

theorem ret_tup {a b a' b' : Value} (h : a = a') (k : b = b') : Ending.returned (.tuple #[a, b]) = Ending.returned (.tuple #[a', b']) := by rw [h, k]
theorem int_eq {k : IntKind} {a b : Int} (h : a = b) : Value.int k a = Value.int k b := by rw [h]
theorem bool_eq {a b : Bool} (h : a = b) : Value.bool a = Value.bool b := by rw [h]
theorem ret_int {k : IntKind} {a b : Int} (h : a = b) : Ending.returned (.int k a) = .returned (.int k b) := by rw [h]
theorem ret_bool {a b : Bool} (h : a = b) : Ending.returned (.bool a) = .returned (.bool b) := by rw [h]
theorem ret_str {a b : List UInt8} (h : a = b) : Ending.returned (.string ⟨a.toArray⟩) = .returned (.string ⟨b.toArray⟩) := by rw [h]
theorem ret_float {a b : Nat} (h : a = b) : Ending.returned (.float .f64 a) = .returned (.float .f64 b) := by rw [h]

/-- what leaves memory as it was is quiet -/
theorem below_of {w w' : World} (h : w = w') : Below w.heap.size w w' := by subst h; exact Below.refl _ _

theorem below_trans {a b c : World} (h : Below a.heap.size a b) (k : Below b.heap.size b c) : Below a.heap.size a c := h.trans (k.mono h.size)
theorem below_alloc {a b : World} (h : Below a.heap.size a b) (o : Obj) : Below a.heap.size a (b.alloc o) := h.alloc h.size o
theorem below_drew {a b : World} (h : Below a.heap.size a b) : Below a.heap.size a b.drew := h.drew

theorem addr_add (b o j : Nat) : Addr.add ⟨b, o, none⟩ j = ⟨b, o + j, none⟩ := by
  cases j <;> simp [Addr.add]

theorem below_drewN' {a b : World} (h : Below a.heap.size a b) (n : Nat) : Below a.heap.size a (b.drewN n) := below_drewN h n

/-- block b holds those cells, and none of them is frozen -/
def Blk (w : World) (b : Nat) (cs : List Value) (e : TypeId) : Prop := w.heap[b]? = some (.cells cs.toArray e (0, 0))
theorem Blk.lt {w : World} {b : Nat} {cs : List Value} {e : TypeId} (h : Blk w b cs e) : b < w.heap.size := lt_of_block h
theorem Blk.cell {w : World} {b : Nat} {cs : List Value} {e : TypeId} (h : Blk w b cs e) (j : Nat) {v : Value} (hj : cs[j]? = some v) : w.cell? ⟨b, j, none⟩ = some v := by
  rw [cell_of_row w b j _ e (0, 0) h]; simpa using hj
theorem Blk.free {w : World} {b : Nat} {cs : List Value} {e : TypeId} (h : Blk w b cs e) (j : Nat) : w.frozen? ⟨b, j, none⟩ = false := by
  have h' : w.heap[b]? = some (.cells cs.toArray e (0, 0)) := h
  simp [World.frozen?, h']
theorem Blk.set {w : World} {b : Nat} {cs : List Value} {e : TypeId} (h : Blk w b cs e) (j : Nat) (v : Value) : Blk (w.setCell ⟨b, j, none⟩ v) b (cs.set j v) e := by
  have hlt := h.lt
  have h1 : w.heap[b]? = some (.cells cs.toArray e (0, 0)) := h
  have h' : w.heap[b] = .cells cs.toArray e (0, 0) := by simpa [Array.getElem?_eq_getElem hlt] using h1
  show (w.heap.modify b _)[b]? = _
  rw [Array.getElem?_eq_getElem (by simpa using hlt), Array.getElem_modify_self, h']
  simp
theorem Blk.other {w : World} {b : Nat} {cs : List Value} {e : TypeId} (h : Blk w b cs e) {a : Addr} (ha : b ≠ a.block) (v : Value) : Blk (w.setCell a v) b cs e := by
  unfold Blk at *
  rw [Below.heap_setCell _ _ _ _ ha]; exact h
theorem Blk.below {w w' : World} {b : Nat} {cs : List Value} {e : TypeId} (h : Blk w b cs e) (hb : Below w.heap.size w w') : Blk w' b cs e := by
  unfold Blk at *
  rw [hb.block b (lt_of_block h)]; exact h
theorem Blk.alloc {w : World} {b : Nat} {cs : List Value} {e : TypeId} (h : Blk w b cs e) (o : Obj) : Blk (w.alloc o) b cs e := h.below ((Below.refl _ _).alloc (Nat.le_refl _) o)
theorem Blk.new (w : World) (cs : List Value) (e : TypeId) : Blk (w.alloc (.cells cs.toArray e)) w.heap.size cs e := heap_alloc_new w _
theorem Blk.grown {w w' : World} {b : Nat} {cs : List Value} {e : TypeId} {row : Option Nat} (h : Blk w b cs e) (hg : w.grownBy w' row) (hne : some b ≠ row) : Blk w' b cs e := by
  unfold Blk at *
  rw [hg.block b (lt_of_block h) hne]; exact h
/-- two rows of unlike element types lie in unlike blocks -/
theorem ownsRow_apart {w : World} {base base' : Nat} {e e' : TypeId} {size size' : Nat} {v v' : Value} {n n' : Nat} {xs xs' : List Value} (h : w.ownsRow base e size v n xs) (h' : w.ownsRow base' e' size' v' n' xs') (hne : e ≠ e') : v.ownBlock = none ∨ v.ownBlock ≠ v'.ownBlock := by
  rcases h.2 with ⟨rfl, _⟩ | ⟨g, cap, cur, rfl, _, hg, _⟩
  · exact .inl rfl
  · right
    rcases h'.2 with ⟨rfl, _⟩ | ⟨g', cap', cur', rfl, _, hg', _⟩
    · simp [Value.ownBlock]
    · simp only [Value.ownBlock, ne_eq, Option.some.injEq]
      intro e
      subst e
      rw [hg] at hg'
      simp at hg'
      exact hne hg'.2
theorem own_ne {w : World} {base : Nat} {e : TypeId} {size : Nat} {v : Value} {n : Nat} {xs : List Value} (h : w.ownsRow base e size v n xs) {b : Nat} (hb : b < base) : some b ≠ v.ownBlock := by
  intro e
  have := h.lt b e.symm
  omega
theorem own_shape {w : World} {base : Nat} {e : TypeId} {size : Nat} {v : Value} {n : Nat} {xs : List Value} (h : w.ownsRow base e size v n xs) : ∃ a c, v = .slice a n c := by
  rcases h.2 with ⟨rfl, rfl⟩ | ⟨g, c, _, rfl, _⟩
  · exact ⟨_, _, rfl⟩
  · exact ⟨_, _, rfl⟩

theorem cells_new (w : World) (cs : List Value) (t : TypeId) (n : Nat) (hn : n = w.heap.size) : ∀ j u, cs[j]? = some u → (w.alloc (.cells cs.toArray t)).cell? ((⟨n, 0, none⟩ : Addr).add j) = some u := by
  subst hn
  intro j u hj
  rw [addr_add, Nat.zero_add]
  exact (Blk.new w cs t).cell j hj
theorem cell_one_at (w : World) (x : Value) (t : TypeId) (n : Nat) (hn : n = w.heap.size) : ∀ j u, [x][j]? = some u → (w.alloc (.cells #[x] t)).cell? ((⟨n, 0, none⟩ : Addr).add j) = some u := by
  subst hn; exact cell_one_new w x t
theorem ownsRow_mono {w : World} {base base' : Nat} {e : TypeId} {size : Nat} {v : Value} {n : Nat} {xs : List Value} (h : w.ownsRow base e size v n xs) (hb : base' ≤ base) : w.ownsRow base' e size v n xs := by
  refine ⟨h.1, ?_⟩
  rcases h.2 with hn | ⟨g, cap, cur, rfl, hg, r⟩
  · exact .inl hn
  · exact .inr ⟨g, cap, cur, rfl, by omega, r⟩

/-- what the call owns stays owned where nothing that was there has turned -/
theorem ownsRow_below {w w' : World} {base : Nat} {e : TypeId} {size : Nat} {v : Value} {n : Nat} {xs : List Value} (h : w.ownsRow base e size v n xs) (hb : Below w.heap.size w w') : w'.ownsRow base e size v n xs := by
  refine ⟨h.1, ?_⟩
  rcases h.2 with hn | ⟨g, cap, cur, rfl, hg, hh, rest⟩
  · exact .inl hn
  · exact .inr ⟨g, cap, cur, rfl, hg, by rw [hb.block g (Array.getElem?_eq_some_iff.1 hh).1]; exact hh, rest⟩
/-- a row that the call owns, of cells of one: nil, or a block whose first cells are those -/
theorem ownsRow_one {w : World} {base : Nat} {e : TypeId} {v : Value} {n : Nat} {xs : List Value} (h : w.ownsRow base e 1 v n xs) :
    (v = .slice none 0 0 ∧ n = 0 ∧ xs = []) ∨ ∃ g c, v = .slice (some ⟨g, 0, none⟩) n c ∧ base ≤ g ∧ g < w.heap.size ∧ n ≤ c ∧ c ≤ maxLen ∧ ∀ k x, xs[k]? = some x → w.cell? ⟨g, k, none⟩ = some x := by
  have hl := h.1
  rcases h.2 with ⟨hv, hn⟩ | ⟨g, cap, cur, hv, hg, hh, h1, h2, h3, h4⟩
  · left
    refine ⟨hv, hn, ?_⟩
    subst hn
    exact List.eq_nil_of_length_eq_zero (by omega)
  · right
    refine ⟨g, cap, hv, hg, (Array.getElem?_eq_some_iff.1 hh).1, h1, h2, ?_⟩
    intro k x hk
    have := h.cells (g := g) (by rw [hv]; rfl) k x hk
    rwa [addr_add, Nat.zero_add] at this

theorem push_all (l : List UInt8) : ∀ s : ByteArray, (l.map fun (c : UInt8) => (c.toNat : Int)).foldl (fun (r : ByteArray) n => r.push (UInt8.ofNat n.toNat)) s = ⟨(s.data.toList ++ l).toArray⟩ := by
  induction l with
  | nil => intro s; simp
  | cons c l ih =>
    intro s
    rw [List.map_cons, List.foldl_cons, ih]
    congr 1
    simp [ByteArray.push]

/-- 'string(b)' of a slice of bytes that hold l -/
theorem run_bytes_string {P : Program} (w : World) (src dst e : TypeId) (b o : Nat) (l : List UInt8) (n c : Nat) (hn : n = l.length)
    (hs : P.underlying src = some (.slice e)) (he : P.underlying e = some (.int .u8)) (hd : P.underlying dst = some .string)
    (h : ∀ j v, l[j]? = some v → w.cell? ⟨b, o + j, none⟩ = some (.int .u8 (v.toNat : Int))) :
    (convert src dst (.slice (some ⟨b, o, none⟩) n c)).run P w = .ok (.string ⟨l.toArray⟩) w := by
  subst hn
  rw [run_convert_bytes_string w src dst e _ _ _ hs he hd]
  have hl := run_loadCells_list (P := P) (w := w) ⟨b, o, none⟩ ((l.map fun (c : UInt8) => (c.toNat : Int)).map (Value.int .u8)) (by
    intro j v hj
    rw [List.getElem?_map, List.getElem?_map] at hj
    cases hl : l[j]? with
    | none => rw [hl] at hj; cases hj
    | some x => rw [hl] at hj; cases hj; rw [addr_add]; exact h j x hl)
  rw [List.length_map, List.length_map] at hl
  rw [run_bytesToString w ⟨b, o, none⟩ l.length c (l.map fun (c : UInt8) => (c.toNat : Int)) hl, push_all]
  simp [ByteArray.empty, ByteArray.emptyWithCapacity]
  rfl

theorem bytes_append (a b : List UInt8) : (⟨a.toArray⟩ : ByteArray) ++ ⟨b.toArray⟩ = ⟨(a ++ b).toArray⟩ := by
  apply ByteArray.ext
  simp [ByteArray.data_append]
theorem str_append {a b c : List UInt8} (h : c = a ++ b) : Value.string ((⟨a.toArray⟩ : ByteArray) ++ ⟨b.toArray⟩) = .string ⟨c.toArray⟩ := by rw [bytes_append, h]

/-- 'string([]byte{x})' -/
theorem run_one_byte {P : Program} (w : World) (src dst e T : TypeId) (x : Int) (u : UInt8) (hx : x = (u.toNat : Int))
    (hs : P.underlying src = some (.slice e)) (he : P.underlying e = some (.int .u8)) (hd : P.underlying dst = some .string) :
    (convert src dst (.slice (some ⟨w.heap.size, 0, none⟩) 1 1)).run P (w.alloc (.cells #[.int .u8 x] T)) = .ok (.string ⟨#[u]⟩) (w.alloc (.cells #[.int .u8 x] T)) := by
  have := run_bytes_string (P := P) (w.alloc (.cells #[.int .u8 x] T)) src dst e w.heap.size 0 [u] 1 1 rfl hs he hd (by
    intro j v hj
    rw [World.cell?_alloc_at _ _ _ _ rfl]
    cases j with
    | zero => cases hj; subst hx; rfl
    | succ j => cases hj)
  exact this

section
open Go.ChangeShapes Go.WideShapes Go.ChangeAt
/-- a slice of numbers of 64 bits that came in: empty, or its cells -/
theorem open_u64s {H : Type} {enc : TypeId × Value → H} {P : Program} {W : World} {b0 : Nat} {r : Reach} {t e : TypeId} {v : Value} {d : DataW H} {ps : List MemPlace} (ht : P.underlying t = some (.slice e)) (he : P.underlying e = some (.int .u64)) (hc : P.cellsOf e = 1)
    (hval : Value.okWide P W r b0 t v) (h : DataW.Trod enc P W 0 (fun _ => true) true t v d ps) :
    ∃ a n c, v = .slice a n c ∧ (n = 0 ∨ ∃ B o, ∃ l : List Nat, a = some ⟨B, o, none⟩ ∧ n = l.length ∧ B < W.heap.size ∧ (∀ k, k < l.length → l.getD k 0 < 18446744073709551616) ∧
      (∀ k, k < l.length → W.cell? ⟨B, o + k, none⟩ = some (.int .u64 (l.getD k 0 : Nat))) ∧ ∃ es sp, d = .slice es sp ∧ n ≤ es.length + sp.length) := by
  obtain ⟨a, n, c, rfl⟩ := okWide_slice ht hval
  refine ⟨a, n, c, rfl, ?_⟩
  obtain ⟨fuel, hf⟩ := h
  rcases open_ints ht he hc hf with ⟨hcs, _⟩ | ⟨a', n', c', zs, hcs, _, hl, hm, hz, hx, hcell, hwz⟩
  · left
    simp [Value.cells] at hcs
    exact hcs.2.1
  · simp [Value.cells] at hcs
    obtain ⟨rfl, rfl, rfl⟩ := hcs
    rcases Nat.eq_zero_or_pos n with h0 | h0
    · exact .inl h0
    · right
      have hz' : zs.length = c := by simpa using hz
      obtain ⟨B, o, rfl, hcc⟩ := ints_at hcell (by omega)
      have hw : ∀ z ∈ zs, 0 ≤ z ∧ z ≤ 18446744073709551615 := fun z hz => by simpa [Lit.wf, IntKind.min, IntKind.max, IntKind.signed, IntKind.bits] using hwz z hz
      have hg : ∀ k, k < n → ((zs.take n).map Int.toNat).getD k 0 = (zs.getD k 0).toNat ∧ zs.getD k 0 ∈ zs := fun k hk => by
        have hk' : k < zs.length := by omega
        simp [List.getD, hk, List.getElem?_eq_getElem hk']
      have hlen : ((zs.take n).map Int.toNat).length = n := by simp; omega
      refine ⟨B, o, (zs.take n).map Int.toNat, rfl, hlen.symm, ?_, ?_, ?_, ?_⟩
      · have := hcc 0 (by omega)
        exact World.block_lt_of_cell? W _ this
      · intro k hk
        rw [hlen] at hk
        have := hg k hk
        have h2 := hw _ this.2
        rw [this.1]; omega
      · intro k hk
        rw [hlen] at hk
        have := hg k hk
        have h2 := hw _ this.2
        rw [hcc k (by omega), this.1]
        congr 2
        omega
      · simp only [Prod.mk.injEq] at hx
        refine ⟨_, _, hx.1, ?_⟩
        simp [lits]; omega
end

end Go.Proofs.Ytopneceicamakaa
