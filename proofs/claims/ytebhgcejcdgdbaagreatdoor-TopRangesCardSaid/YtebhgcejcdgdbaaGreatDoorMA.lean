/-
  SEVERAL TEXTS, one behind the other.
-/
import Derived.WalkKit
import Derived.WalkLawsBesides
import Derived.WalkSpells
import Derived.Handy
import Derived.Outline
import Derived.Laws.BytesString
import Derived.ProofKit
import Derived.OpenShut
import Derived.SizedLaws
import Derived.WalkSmall
import Derived.OneCell
import Derived.Laws.Externs
import Derived.Lib.Bytealg
import Derived.Test.YtebhgcejcdgdbaaGreatDoorRows
import Derived.Deep.QuietTactic
import Derived.BigQuiet
import Derived.Lib.Atoi
import Derived.Lib.ItoaNum
import Derived.Lib.Split
/-
  SMALL GENERAL LEMMAS of this prover's own: hidden facts, endings, bytes of a slice read as a string. No program is imported.
-/
namespace Go.Proofs.YtebhgcejcdgdbaaGreatDoor
open Go.RowKit

theorem hid {p : Prop} (h : p) : Hid p := h

theorem ret_tup {a b a' b' : Value} (h : a = a') (k : b = b') : Ending.returned (.tuple #[a, b]) = Ending.returned (.tuple #[a', b']) := by rw [h, k]
theorem int_eq {k : IntKind} {a b : Int} (h : a = b) : Value.int k a = Value.int k b := by rw [h]
theorem bool_eq {a b : Bool} (h : a = b) : Value.bool a = Value.bool b := by rw [h]
theorem ret_int {k : IntKind} {a b : Int} (h : a = b) : Ending.returned (.int k a) = .returned (.int k b) := by rw [h]
theorem ret_bool {a b : Bool} (h : a = b) : Ending.returned (.bool a) = .returned (.bool b) := by rw [h]
theorem ret_str {a b : List UInt8} (h : a = b) : Ending.returned (.string ⟨a.toArray⟩) = .returned (.string ⟨b.toArray⟩) := by rw [h]
theorem ret_float {a b : Nat} (h : a = b) : Ending.returned (.float .f64 a) = .returned (.float .f64 b) := by rw [h]

/-- what leaves memory as it was is quiet -/
theorem below_of {w w' : World} (h : w = w') : Below w.heap.size w w' := by subst h; exact Below.refl _ _

theorem below_trans {a b c : World} (h : Below a.heap.size a b) (k : Below b.heap.size b c) : Below a.heap.size a c := h.trans (k.mono h.size)
theorem below_alloc {a b : World} (h : Below a.heap.size a b) (o : Obj) : Below a.heap.size a (b.alloc o) := h.alloc h.size o
theorem below_drew {a b : World} (h : Below a.heap.size a b) : Below a.heap.size a b.drew := h.drew

theorem addr_add (b o j : Nat) : Addr.add ⟨b, o, none⟩ j = ⟨b, o + j, none⟩ := by
  cases j <;> simp [Addr.add]

theorem below_drewN' {a b : World} (h : Below a.heap.size a b) (n : Nat) : Below a.heap.size a (b.drewN n) := below_drewN h n

/-- block b holds those cells, and none of them is frozen -/
def Blk (w : World) (b : Nat) (cs : List Value) (e : TypeId) : Prop := w.heap[b]? = some (.cells cs.toArray e (0, 0))
theorem Blk.lt {w : World} {b : Nat} {cs : List Value} {e : TypeId} (h : Blk w b cs e) : b < w.heap.size := lt_of_block h
theorem Blk.cell {w : World} {b : Nat} {cs : List Value} {e : TypeId} (h : Blk w b cs e) (j : Nat) {v : Value} (hj : cs[j]? = some v) : w.cell? ⟨b, j, none⟩ = some v := by
  rw [cell_of_row w b j _ e (0, 0) h]; simpa using hj
theorem Blk.free {w : World} {b : Nat} {cs : List Value} {e : TypeId} (h : Blk w b cs e) (j : Nat) : w.frozen? ⟨b, j, none⟩ = false := by
  have h' : w.heap[b]? = some (.cells cs.toArray e (0, 0)) := h
  simp [World.frozen?, h']
theorem Blk.set {w : World} {b : Nat} {cs : List Value} {e : TypeId} (h : Blk w b cs e) (j : Nat) (v : Value) : Blk (w.setCell ⟨b, j, none⟩ v) b (cs.set j v) e := by
  have hlt := h.lt
  have h1 : w.heap[b]? = some (.cells cs.toArray e (0, 0)) := h
  have h' : w.heap[b] = .cells cs.toArray e (0, 0) := by simpa [Array.getElem?_eq_getElem hlt] using h1
  show (w.heap.modify b _)[b]? = _
  rw [Array.getElem?_eq_getElem (by simpa using hlt), Array.getElem_modify_self, h']
  simp
theorem Blk.other {w : World} {b : Nat} {cs : List Value} {e : TypeId} (h : Blk w b cs e) {a : Addr} (ha : b ≠ a.block) (v : Value) : Blk (w.setCell a v) b cs e := by
  unfold Blk at *
  rw [Below.heap_setCell _ _ _ _ ha]; exact h
theorem Blk.below {w w' : World} {b : Nat} {cs : List Value} {e : TypeId} (h : Blk w b cs e) (hb : Below w.heap.size w w') : Blk w' b cs e := by
  unfold Blk at *
  rw [hb.block b (lt_of_block h)]; exact h
theorem Blk.alloc {w : World} {b : Nat} {cs : List Value} {e : TypeId} (h : Blk w b cs e) (o : Obj) : Blk (w.alloc o) b cs e := h.below ((Below.refl _ _).alloc (Nat.le_refl _) o)
theorem Blk.new (w : World) (cs : List Value) (e : TypeId) : Blk (w.alloc (.cells cs.toArray e)) w.heap.size cs e := heap_alloc_new w _
theorem Blk.grown {w w' : World} {b : Nat} {cs : List Value} {e : TypeId} {row : Option Nat} (h : Blk w b cs e) (hg : w.grownBy w' row) (hne : some b ≠ row) : Blk w' b cs e := by
  unfold Blk at *
  rw [hg.block b (lt_of_block h) hne]; exact h
/-- two rows of unlike element types lie in unlike blocks -/
theorem ownsRow_apart {w : World} {base base' : Nat} {e e' : TypeId} {size size' : Nat} {v v' : Value} {n n' : Nat} {xs xs' : List Value} (h : w.ownsRow base e size v n xs) (h' : w.ownsRow base' e' size' v' n' xs') (hne : e ≠ e') : v.ownBlock = none ∨ v.ownBlock ≠ v'.ownBlock := by
  rcases h.2 with ⟨rfl, _⟩ | ⟨g, cap, cur, rfl, _, hg, _⟩
  · exact .inl rfl
  · right
    rcases h'.2 with ⟨rfl, _⟩ | ⟨g', cap', cur', rfl, _, hg', _⟩
    · simp [Value.ownBlock]
    · simp only [Value.ownBlock, ne_eq, Option.some.injEq]
      intro e
      subst e
      rw [hg] at hg'
      simp at hg'
      exact hne hg'.2
theorem own_ne {w : World} {base : Nat} {e : TypeId} {size : Nat} {v : Value} {n : Nat} {xs : List Value} (h : w.ownsRow base e size v n xs) {b : Nat} (hb : b < base) : some b ≠ v.ownBlock := by
  intro e
  have := h.lt b e.symm
  omega
theorem own_shape {w : World} {base : Nat} {e : TypeId} {size : Nat} {v : Value} {n : Nat} {xs : List Value} (h : w.ownsRow base e size v n xs) : ∃ a c, v = .slice a n c := by
  rcases h.2 with ⟨rfl, rfl⟩ | ⟨g, c, _, rfl, _⟩
  · exact ⟨_, _, rfl⟩
  · exact ⟨_, _, rfl⟩

theorem cells_new (w : World) (cs : List Value) (t : TypeId) (n : Nat) (hn : n = w.heap.size) : ∀ j u, cs[j]? = some u → (w.alloc (.cells cs.toArray t)).cell? ((⟨n, 0, none⟩ : Addr).add j) = some u := by
  subst hn
  intro j u hj
  rw [addr_add, Nat.zero_add]
  exact (Blk.new w cs t).cell j hj
theorem cell_one_at (w : World) (x : Value) (t : TypeId) (n : Nat) (hn : n = w.heap.size) : ∀ j u, [x][j]? = some u → (w.alloc (.cells #[x] t)).cell? ((⟨n, 0, none⟩ : Addr).add j) = some u := by
  subst hn; exact cell_one_new w x t
theorem ownsRow_mono {w : World} {base base' : Nat} {e : TypeId} {size : Nat} {v : Value} {n : Nat} {xs : List Value} (h : w.ownsRow base e size v n xs) (hb : base' ≤ base) : w.ownsRow base' e size v n xs := by
  refine ⟨h.1, ?_⟩
  rcases h.2 with hn | ⟨g, cap, cur, rfl, hg, r⟩
  · exact .inl hn
  · exact .inr ⟨g, cap, cur, rfl, by omega, r⟩

/-- what the call owns stays owned where nothing that was there has turned -/
theorem ownsRow_below {w w' : World} {base : Nat} {e : TypeId} {size : Nat} {v : Value} {n : Nat} {xs : List Value} (h : w.ownsRow base e size v n xs) (hb : Below w.heap.size w w') : w'.ownsRow base e size v n xs := by
  refine ⟨h.1, ?_⟩
  rcases h.2 with hn | ⟨g, cap, cur, rfl, hg, hh, rest⟩
  · exact .inl hn
  · exact .inr ⟨g, cap, cur, rfl, hg, by rw [hb.block g (Array.getElem?_eq_some_iff.1 hh).1]; exact hh, rest⟩
/-- a row that the call owns, of cells of one: nil, or a block whose first cells are those -/
theorem ownsRow_one {w : World} {base : Nat} {e : TypeId} {v : Value} {n : Nat} {xs : List Value} (h : w.ownsRow base e 1 v n xs) :
    (v = .slice none 0 0 ∧ n = 0 ∧ xs = []) ∨ ∃ g c, v = .slice (some ⟨g, 0, none⟩) n c ∧ base ≤ g ∧ g < w.heap.size ∧ n ≤ c ∧ c ≤ maxLen ∧ ∀ k x, xs[k]? = some x → w.cell? ⟨g, k, none⟩ = some x := by
  have hl := h.1
  rcases h.2 with ⟨hv, hn⟩ | ⟨g, cap, cur, hv, hg, hh, h1, h2, h3, h4⟩
  · left
    refine ⟨hv, hn, ?_⟩
    subst hn
    exact List.eq_nil_of_length_eq_zero (by omega)
  · right
    refine ⟨g, cap, hv, hg, (Array.getElem?_eq_some_iff.1 hh).1, h1, h2, ?_⟩
    intro k x hk
    have := h.cells (g := g) (by rw [hv]; rfl) k x hk
    rwa [addr_add, Nat.zero_add] at this

theorem push_all (l : List UInt8) : ∀ s : ByteArray, (l.map fun (c : UInt8) => (c.toNat : Int)).foldl (fun (r : ByteArray) n => r.push (UInt8.ofNat n.toNat)) s = ⟨(s.data.toList ++ l).toArray⟩ := by
  induction l with
  | nil => intro s; simp
  | cons c l ih =>
    intro s
    rw [List.map_cons, List.foldl_cons, ih]
    congr 1
    simp [ByteArray.push]

/-- 'string(b)' of a slice of bytes that hold l -/
theorem run_bytes_string {P : Program} (w : World) (src dst e : TypeId) (b o : Nat) (l : List UInt8) (n c : Nat) (hn : n = l.length)
    (hs : P.underlying src = some (.slice e)) (he : P.underlying e = some (.int .u8)) (hd : P.underlying dst = some .string)
    (h : ∀ j v, l[j]? = some v → w.cell? ⟨b, o + j, none⟩ = some (.int .u8 (v.toNat : Int))) :
    (convert src dst (.slice (some ⟨b, o, none⟩) n c)).run P w = .ok (.string ⟨l.toArray⟩) w := by
  subst hn
  rw [run_convert_bytes_string w src dst e _ _ _ hs he hd]
  have hl := run_loadCells_list (P := P) (w := w) ⟨b, o, none⟩ ((l.map fun (c : UInt8) => (c.toNat : Int)).map (Value.int .u8)) (by
    intro j v hj
    rw [List.getElem?_map, List.getElem?_map] at hj
    cases hl : l[j]? with
    | none => rw [hl] at hj; cases hj
    | some x => rw [hl] at hj; cases hj; rw [addr_add]; exact h j x hl)
  rw [List.length_map, List.length_map] at hl
  rw [run_bytesToString w ⟨b, o, none⟩ l.length c (l.map fun (c : UInt8) => (c.toNat : Int)) hl, push_all]
  simp [ByteArray.empty, ByteArray.emptyWithCapacity]
  rfl

theorem bytes_append (a b : List UInt8) : (⟨a.toArray⟩ : ByteArray) ++ ⟨b.toArray⟩ = ⟨(a ++ b).toArray⟩ := by
  apply ByteArray.ext
  simp [ByteArray.data_append]
theorem str_append {a b c : List UInt8} (h : c = a ++ b) : Value.string ((⟨a.toArray⟩ : ByteArray) ++ ⟨b.toArray⟩) = .string ⟨c.toArray⟩ := by rw [bytes_append, h]

/-- 'string([]byte{x})' -/
theorem run_one_byte {P : Program} (w : World) (src dst e T : TypeId) (x : Int) (u : UInt8) (hx : x = (u.toNat : Int))
    (hs : P.underlying src = some (.slice e)) (he : P.underlying e = some (.int .u8)) (hd : P.underlying dst = some .string) :
    (convert src dst (.slice (some ⟨w.heap.size, 0, none⟩) 1 1)).run P (w.alloc (.cells #[.int .u8 x] T)) = .ok (.string ⟨#[u]⟩) (w.alloc (.cells #[.int .u8 x] T)) := by
  have := run_bytes_string (P := P) (w.alloc (.cells #[.int .u8 x] T)) src dst e w.heap.size 0 [u] 1 1 rfl hs he hd (by
    intro j v hj
    rw [World.cell?_alloc_at _ _ _ _ rfl]
    cases j with
    | zero => cases hj; subst hx; rfl
    | succ j => cases hj)
  exact this

section
open Go.ChangeShapes Go.WideShapes Go.ChangeAt
/-- a slice of numbers of 64 bits that came in: empty, or its cells -/
theorem open_u64s {H : Type} {enc : TypeId × Value → H} {P : Program} {W : World} {b0 : Nat} {r : Reach} {t e : TypeId} {v : Value} {d : DataW H} {ps : List MemPlace} (ht : P.underlying t = some (.slice e)) (he : P.underlying e = some (.int .u64)) (hc : P.cellsOf e = 1)
    (hval : Value.okWide P W r b0 t v) (h : DataW.Trod enc P W 0 (fun _ => true) true t v d ps) :
    ∃ a n c, v = .slice a n c ∧ (n = 0 ∨ ∃ B o, ∃ l : List Nat, a = some ⟨B, o, none⟩ ∧ n = l.length ∧ B < W.heap.size ∧ (∀ k, k < l.length → l.getD k 0 < 18446744073709551616) ∧
      (∀ k, k < l.length → W.cell? ⟨B, o + k, none⟩ = some (.int .u64 (l.getD k 0 : Nat))) ∧ ∃ es sp, d = .slice es sp ∧ n ≤ es.length + sp.length) := by
  obtain ⟨a, n, c, rfl⟩ := okWide_slice ht hval
  refine ⟨a, n, c, rfl, ?_⟩
  obtain ⟨fuel, hf⟩ := h
  rcases open_ints ht he hc hf with ⟨hcs, _⟩ | ⟨a', n', c', zs, hcs, _, hl, hm, hz, hx, hcell, hwz⟩
  · left
    simp [Value.cells] at hcs
    exact hcs.2.1
  · simp [Value.cells] at hcs
    obtain ⟨rfl, rfl, rfl⟩ := hcs
    rcases Nat.eq_zero_or_pos n with h0 | h0
    · exact .inl h0
    · right
      have hz' : zs.length = c := by simpa using hz
      obtain ⟨B, o, rfl, hcc⟩ := ints_at hcell (by omega)
      have hw : ∀ z ∈ zs, 0 ≤ z ∧ z ≤ 18446744073709551615 := fun z hz => by simpa [Lit.wf, IntKind.min, IntKind.max, IntKind.signed, IntKind.bits] using hwz z hz
      have hg : ∀ k, k < n → ((zs.take n).map Int.toNat).getD k 0 = (zs.getD k 0).toNat ∧ zs.getD k 0 ∈ zs := fun k hk => by
        have hk' : k < zs.length := by omega
        simp [List.getD, hk, List.getElem?_eq_getElem hk']
      have hlen : ((zs.take n).map Int.toNat).length = n := by simp; omega
      refine ⟨B, o, (zs.take n).map Int.toNat, rfl, hlen.symm, ?_, ?_, ?_, ?_⟩
      · have := hcc 0 (by omega)
        exact World.block_lt_of_cell? W _ this
      · intro k hk
        rw [hlen] at hk
        have := hg k hk
        have h2 := hw _ this.2
        rw [this.1]; omega
      · intro k hk
        rw [hlen] at hk
        have := hg k hk
        have h2 := hw _ this.2
        rw [hcc k (by omega), this.1]
        congr 2
        omega
      · simp only [Prod.mk.injEq] at hx
        refine ⟨_, _, hx.1, ?_⟩
        simp [lits]; omega
end

end Go.Proofs.YtebhgcejcdgdbaaGreatDoor

/-
  PLAIN MATHEMATICS: how many of the bytes from a place on are so. No program is imported.
-/
namespace Go.Proofs.YtebhgcejcdgdbaaGreatDoor

/-- how many of the bytes from that place on are so -/
def run (p : UInt8 → Bool) (l : List UInt8) (a : Nat) : Nat := ((l.drop a).takeWhile p).length

theorem run_le (p : UInt8 → Bool) (l : List UInt8) (a : Nat) (h : a ≤ l.length) : a + run p l a ≤ l.length := by
  unfold run
  have := (List.takeWhile_sublist p (l := l.drop a)).length_le
  rw [List.length_drop] at this
  omega
theorem run_yes {p : UInt8 → Bool} {l : List UInt8} {a : Nat} {c : UInt8} (h : l[a]? = some c) (hp : p c = true) : run p l a = run p l (a + 1) + 1 := by
  unfold run
  have ha := (List.getElem?_eq_some_iff.1 h).1
  rw [List.drop_eq_getElem_cons ha]
  have e : l[a] = c := (List.getElem?_eq_some_iff.1 h).2
  rw [e, List.takeWhile_cons, hp]
  rfl
theorem run_no {p : UInt8 → Bool} {l : List UInt8} {a : Nat} {c : UInt8} (h : l[a]? = some c) (hp : p c = false) : run p l a = 0 := by
  unfold run
  have ha := (List.getElem?_eq_some_iff.1 h).1
  rw [List.drop_eq_getElem_cons ha]
  have e : l[a] = c := (List.getElem?_eq_some_iff.1 h).2
  rw [e, List.takeWhile_cons, hp]
  rfl
theorem run_end {p : UInt8 → Bool} {l : List UInt8} {a : Nat} (h : l.length ≤ a) : run p l a = 0 := by
  unfold run; rw [List.drop_eq_nil_of_le h]; rfl
/-- all are so just if the run from the beginning is the whole -/
theorem run_all {p : UInt8 → Bool} {l : List UInt8} : (run p l 0 = l.length) ↔ l.all p = true := by
  unfold run
  rw [List.drop_zero]
  induction l with
  | nil => simp
  | cons x l ih =>
    rw [List.takeWhile_cons, List.all_cons]
    cases p x
    · simp
    · simpa using ih
theorem run_fore (c : UInt8) (l : List UInt8) : run (· != c) l 0 = (l.takeWhile (· != c)).length := by
  unfold run; rw [List.drop_zero]

theorem byte_at (s : ByteArray) (k : Nat) (h : k < s.size) : s.data.toList[k]? = some s[k] := by
  rw [List.getElem?_eq_getElem (by simpa using h)]; rfl
theorem extract_eq (s : ByteArray) (a b : Nat) : s.extract a b = ⟨((s.data.toList.drop a).take (b - a)).toArray⟩ := by
  apply ByteArray.ext
  apply Array.toList_inj.1
  rw [Lib.extract_data]
end Go.Proofs.YtebhgcejcdgdbaaGreatDoor

/-
  THE LIBRARY's Cut AT ONE BYTE.
-/
namespace Go.Proofs.YtebhgcejcdgdbaaGreatDoor.Cb
open Go.RowKit

def fore (c : UInt8) (l : List UInt8) : List UInt8 := l.takeWhile (· != c)
def aft (c : UInt8) (l : List UInt8) : List UInt8 := (l.dropWhile (· != c)).drop 1

theorem indexByte_fore (c : UInt8) : ∀ l : List UInt8, Lib.indexByte l c = if (fore c l).length < l.length then ((fore c l).length : Int) else -1 := by
  intro l
  induction l with
  | nil => rfl
  | cons x l ih =>
    unfold Lib.indexByte
    unfold fore
    rw [List.takeWhile_cons]
    by_cases h : x = c
    · subst h; simp
    · have h' : (x == c) = false := by simpa using h
      have h'' : (x != c) = true := by simpa using h
      rw [h', h'']
      unfold fore at ih
      simp only [Bool.false_eq_true, if_false, if_true, List.length_cons]
      by_cases k : (List.takeWhile (fun x => x != c) l).length < l.length
      · rw [if_pos k] at ih
        rw [ih, if_neg (by simp), if_pos (by omega)]
        omega
      · rw [if_neg k] at ih
        rw [ih, if_pos (by simp), if_neg (by omega)]

@[go_sem] theorem run_ibs (s : ByteArray) (c : Int) (w : World) : (callFunc 113 #[.string s, .int .u8 c]).run Tryz.prog w = .ok (.value (.int .i64 (Lib.indexByte s.data.toList c.toNat.toUInt8))) w := by
  rw [run_callFunc_extern (e := Extern.BytealgIndexByte.indexByte) Tryz.func113 (by kernel_rfl) (by kernel_rfl) (by kernel_rfl) (by kernel_rfl), Lib.run_indexByteString]
  rfl

theorem indexByte_any (s : ByteArray) (c : Int) (w : World) :
    Calls Tryz.prog 93 #[.string s, .int .u8 c] w fun e w' => e = .returned (.int .i64 (Lib.indexByte s.data.toList c.toNat.toUInt8)) ∧ w = w' := by
  go_enter Tryz.func93, Tryz.ntmps93
  go_wp2
  go_ret
  exact ⟨rfl, rfl⟩

theorem index_one (s : ByteArray) (c : UInt8) (w : World) :
    Calls Tryz.prog 79 #[.string s, .string ⟨#[c]⟩] w fun e w' => e = .returned (.int .i64 (Lib.indexByte s.data.toList c)) ∧ w = w' := by
  have hz := hid (fun (h : ([c] == s.toList) = true) => by
    have h : [c] = s.toList := by simpa using h
    rw [ByteArray.toList_eq] at h
    rw [← h]; simp [Lib.indexByte] : ([c] == s.toList) = true → Lib.indexByte s.data.toList c = 0)
  cases hq : ([c] == s.toList)
  · go_enter Tryz.func79, Tryz.ntmps79
    go_wp2_with (go_at_call 93; (with_reducible refine (indexByte_any _ _ _).mono ?_); rintro e w' ⟨rfl, rfl⟩)
    go_ret
    exact ⟨ret_int (by congr 1), rfl⟩
  · have hz' := hid (hz.out hq)
    go_enter Tryz.func79, Tryz.ntmps79
    go_wp2_with (go_at_call 93; (with_reducible refine (indexByte_any _ _ _).mono ?_); rintro e w' ⟨rfl, rfl⟩)
    go_ret
    exact ⟨ret_int hz'.out.symm, rfl⟩

theorem indexByte_no {s : ByteArray} {c : UInt8} (h : ¬ (fore c s.data.toList).length < s.size) : Lib.indexByte s.data.toList c = -1 := by
  rw [indexByte_fore, if_neg (by simpa using h)]
theorem indexByte_yes {s : ByteArray} {c : UInt8} (h : (fore c s.data.toList).length < s.size) : Lib.indexByte s.data.toList c = ((fore c s.data.toList).length : Nat) := by
  rw [indexByte_fore, if_pos (by simpa using h)]
theorem fore_all {c : UInt8} {l : List UInt8} (h : ¬ (fore c l).length < l.length) : fore c l = l ∧ aft c l = [] := by
  have e := List.takeWhile_append_dropWhile (p := (· != c)) (l := l)
  have e2 := congrArg List.length e
  rw [List.length_append] at e2
  unfold fore at *
  have hd : (l.dropWhile (· != c)).length = 0 := by omega
  have hd := List.eq_nil_of_length_eq_zero hd
  rw [hd, List.append_nil] at e
  refine ⟨e, ?_⟩
  unfold aft; rw [hd]; rfl
theorem fore_take (c : UInt8) (l : List UInt8) : l.take (fore c l).length = fore c l := (List.prefix_iff_eq_take.1 (List.takeWhile_prefix _)).symm
theorem drop_while (p : UInt8 → Bool) (l : List UInt8) : l.drop (l.takeWhile p).length = l.dropWhile p := by
  induction l with
  | nil => rfl
  | cons x l ih =>
    rw [List.takeWhile_cons, List.dropWhile_cons]
    cases p x
    · rfl
    · simpa using ih
theorem aft_drop (c : UInt8) (l : List UInt8) : l.drop ((fore c l).length + 1) = aft c l := by
  unfold fore aft
  rw [← List.drop_drop, drop_while]

/-- what Cut at one byte comes to: the two parts, and whether the byte was there -/
def CutIs (c : UInt8) (l : List UInt8) (w : World) (e : Ending) (w' : World) : Prop :=
  e = .returned (.tuple #[.string ⟨(fore c l).toArray⟩, .string ⟨(aft c l).toArray⟩, .bool (decide ((fore c l).length < l.length))]) ∧ Below w.heap.size w w'
theorem str_eq {s t : ByteArray} (h : s = t) : Value.string s = .string t := by rw [h]
theorem ret_tup3 {a b c a' b' c' : Value} (h : a = a') (k : b = b') (m : c = c') : Ending.returned (.tuple #[a, b, c]) = Ending.returned (.tuple #[a', b', c']) := by rw [h, k, m]

theorem cutl_any (s : ByteArray) (hs : s.size ≤ maxLen) (c : UInt8) (w : World) :
    Calls Tryz.prog 65 #[.string s, .string ⟨#[c]⟩] w (CutIs c s.data.toList w) := by
  unfold maxLen at hs
  by_cases h : (fore c s.data.toList).length < s.size
  · have hi := indexByte_yes h
    have hd := hid (show decide ((fore c s.data.toList).length < s.data.toList.length) = true from decide_eq_true (by simpa using h))
    have H1 := hid (fore_take c s.data.toList)
    have H2 := hid (aft_drop c s.data.toList)
    have hz := hid (show s.data.toList.length = s.size by simp)
    generalize (fore c s.data.toList).length = n at h hi H1 H2
    go_enter Tryz.func65, Tryz.ntmps65
    go_wp2_with (go_at_call 79; (with_reducible refine (index_one _ _ _).mono ?_); rintro e w' ⟨rfl, rfl⟩)
    go_quiet (fail)
    go_wp2
    go_ret3
    refine ⟨ret_tup3 (str_eq ?_) (str_eq ?_) (bool_eq hd.out.symm), below_drewN' (Below.refl _ _) _⟩
    · rw [← H1.out, extract_eq]; simp
    · rw [← H2.out, extract_eq, List.take_of_length_le]; simp
  · have hi := indexByte_no h
    have hd := hid (show decide ((fore c s.data.toList).length < s.data.toList.length) = false from decide_eq_false (by simpa using h))
    have H := hid (fore_all (c := c) (l := s.data.toList) (by simpa using h))
    go_enter Tryz.func65, Tryz.ntmps65
    go_wp2_with (go_at_call 79; (with_reducible refine (index_one _ _ _).mono ?_); rintro e w' ⟨rfl, rfl⟩)
    go_ret3
    refine ⟨ret_tup3 (str_eq ?_) (str_eq ?_) (bool_eq hd.out.symm), Below.refl _ _⟩
    · rw [H.out.1]
    · rw [H.out.2]

theorem cut_any (s : ByteArray) (hs : s.size ≤ maxLen) (c : UInt8) (w : World) :
    Calls Tryz.prog 42 #[.string s, .string ⟨#[c]⟩] w (CutIs c s.data.toList w) := by
  have h := hid (cutl_any s hs c w)
  clear hs
  go_enter Tryz.func42, Tryz.ntmps42
  go_wp2_with fail
  refine h.out.mono ?_
  rintro e w' ⟨rfl, hb⟩
  go_wp2_with fail
  go_ret3
  exact ⟨rfl, hb⟩

end Go.Proofs.YtebhgcejcdgdbaaGreatDoor.Cb

/-
  PLAIN MATHEMATICS: a text as a number, a number's decimal digits. No program is imported.
-/
namespace Go.Proofs.YtebhgcejcdgdbaaGreatDoor.Nu
open Go.Proofs.YtebhgcejcdgdbaaGreatDoor

def dgB (c : UInt8) : Bool := decide (48 ≤ c.toNat) && decide (c.toNat ≤ 57)
def digV (l : List UInt8) : Nat := l.foldl (fun n c => 10 * n + (c.toNat - 48)) 0
def numB (l : List UInt8) : Bool := decide (1 ≤ l.length ∧ l.length ≤ 9 ∧ ¬ (1 < l.length ∧ l[0]? = some 48) ∧ run dgB l 0 = l.length)
def numN (l : List UInt8) : Nat := if numB l then digV l else 0

theorem digV_next {l : List UInt8} {k : Nat} {c : UInt8} (h : l[k]? = some c) : digV (l.take (k + 1)) = 10 * digV (l.take k) + (c.toNat - 48) := by
  unfold digV
  rw [List.take_add_one, h, List.foldl_append]; rfl
theorem digV_lt {l : List UInt8} {k : Nat} {c : UInt8} (h : l[k]? = some c) (hc : dgB c = true) (hk : digV (l.take k) < 10 ^ k) : digV (l.take (k + 1)) < 10 ^ (k + 1) := by
  rw [digV_next h, Nat.pow_succ]
  unfold dgB at hc
  simp only [Bool.and_eq_true, decide_eq_true_eq] at hc
  omega
theorem pow8 {k : Nat} (h : k ≤ 8) : 10 ^ k ≤ 100000000 := Nat.le_trans (Nat.pow_le_pow_right (by decide) h) (by decide)
theorem num_off {l : List UInt8} {k : Nat} {c : UInt8} (hr : run dgB l 0 = k + run dgB l k) (h : l[k]? = some c) (hc : dgB c = false) : numB l = false := by
  apply decide_eq_false
  rintro ⟨_, _, _, h'⟩
  rw [hr, run_no h hc] at h'
  have : k < l.length := by
    rcases Nat.lt_or_ge k l.length with h'' | h''
    · exact h''
    · rw [List.getElem?_eq_none h''] at h; cases h
  omega

theorem dgB_int (c : UInt8) : dgB c = (decide (48 ≤ (c.toNat : Int)) && decide ((c.toNat : Int) ≤ 57)) := by
  unfold dgB
  rw [Bool.eq_iff_iff]; simp; omega

def chr (d : Nat) : UInt8 := UInt8.ofNat (48 + d % 10)
def decS (n : Nat) : List UInt8 := if n < 10 then [chr n] else decS (n / 10) ++ [chr n]
decreasing_by omega

theorem decS_small {n : Nat} (h : n < 10) : decS n = [chr n] := by rw [decS]; simp [h]
theorem decS_big {n : Nat} (h : ¬ n < 10) : decS n = decS (n / 10) ++ [chr n] := by rw [decS]; simp [h]

theorem chr_dig {c : UInt8} {a : Nat} (h : dgB c = true) : chr (10 * a + (c.toNat - 48)) = c := by
  unfold dgB at h
  simp only [Bool.and_eq_true, decide_eq_true_eq] at h
  unfold chr
  apply UInt8.toNat_inj.1
  rw [UInt8.toNat_ofNat']
  have := c.toNat_lt
  omega

theorem digV_snoc (l : List UInt8) (c : UInt8) : digV (l ++ [c]) = 10 * digV l + (c.toNat - 48) := by
  unfold digV; rw [List.foldl_append]; rfl
theorem dig_fold (l : List UInt8) : ∀ a : Nat, a ≤ l.foldl (fun n c => 10 * n + (c.toNat - 48)) a := by
  induction l with
  | nil => intro a; exact Nat.le_refl _
  | cons c l ih => intro a; rw [List.foldl_cons]; exact Nat.le_trans (show a ≤ 10 * a + (c.toNat - 48) by omega) (ih _)

theorem digV_pos {c : UInt8} {l : List UInt8} (hc : dgB c = true) (h : c ≠ 48) : 1 ≤ digV (c :: l) := by
  unfold dgB at hc
  simp only [Bool.and_eq_true, decide_eq_true_eq] at hc
  have h0 : c.toNat ≠ 48 := fun e => h (UInt8.toNat_inj.1 e)
  have := dig_fold l (10 * 0 + (c.toNat - 48))
  unfold digV
  rw [List.foldl_cons]
  omega

theorem decS_digits : ∀ (n : Nat) (l : List UInt8), l.length = n → l ≠ [] → (∀ c, c ∈ l → dgB c = true) → (l.length = 1 ∨ l.head? ≠ some 48) → decS (digV l) = l := by
  intro n
  induction n with
  | zero => intro l h1 h2; exact absurd (List.eq_nil_of_length_eq_zero h1) h2
  | succ n ih =>
    intro l h1 h2 h3 h4
    obtain ⟨v, c, rfl⟩ : ∃ v c, l = v ++ [c] := ⟨l.dropLast, l.getLast h2, (List.dropLast_concat_getLast h2).symm⟩
    have hc := h3 c (by simp)
    rw [digV_snoc]
    by_cases hv : v = []
    · subst hv
      have e : digV [] = 0 := rfl
      rw [e]
      have hc' := hc
      unfold dgB at hc'
      simp only [Bool.and_eq_true, decide_eq_true_eq] at hc'
      rw [decS_small (by omega), chr_dig hc]; rfl
    · have hvl : v.length = n := by simpa using h1
      have hhead : (v ++ [c]).head? = v.head? := by
        cases v with
        | nil => exact absurd rfl hv
        | cons a v => rfl
      have hn48 : v.head? ≠ some 48 := by
        rcases h4 with h | h
        · rw [List.length_append, List.length_singleton] at h
          exact absurd (List.eq_nil_of_length_eq_zero (by omega)) hv
        · rwa [hhead] at h
      have hpos : 1 ≤ digV v := by
        cases v with
        | nil => exact absurd rfl hv
        | cons a v =>
          refine digV_pos (h3 a (by simp)) ?_
          rintro rfl
          exact hn48 rfl
      have hc' := hc
      unfold dgB at hc'
      simp only [Bool.and_eq_true, decide_eq_true_eq] at hc'
      rw [decS_big (by omega), chr_dig hc, show (10 * digV v + (c.toNat - 48)) / 10 = digV v by omega, ih v hvl hv (fun c hc => h3 c (by simp [hc])) (.inr hn48)]

theorem run_all' {p : UInt8 → Bool} {l : List UInt8} (h : run p l 0 = l.length) : ∀ c, c ∈ l → p c = true := fun c hc => List.all_eq_true.1 (run_all.1 h) c hc

theorem numN_dec {l : List UInt8} (h : numB l = true) : decS (numN l) = l := by
  have hh := h
  obtain ⟨h1, h2, h3, h4⟩ := of_decide_eq_true hh
  unfold numN
  rw [h, if_pos rfl]
  refine decS_digits _ l rfl (List.length_pos_iff.1 h1) (run_all' h4) ?_
  by_cases h5 : l.length = 1
  · exact .inl h5
  · right
    intro h6
    apply h3
    refine ⟨by omega, ?_⟩
    rw [← List.head?_eq_getElem?]; exact h6
theorem numN_lt {l : List UInt8} (h : numB l = true) : numN l < 1000000000 := by
  obtain ⟨h1, h2, h3, h4⟩ := of_decide_eq_true h
  unfold numN
  rw [h, if_pos rfl]
  have key : ∀ k, k ≤ l.length → digV (l.take k) < 10 ^ k := by
    intro k
    induction k with
    | zero => intro _; simp [digV]
    | succ k ih =>
      intro hk
      have hk' : k < l.length := by omega
      exact digV_lt (List.getElem?_eq_getElem hk') (run_all' h4 _ (List.getElem_mem hk')) (ih (by omega))
  have := key l.length (Nat.le_refl _)
  rw [List.take_of_length_le (Nat.le_refl _)] at this
  exact Nat.lt_of_lt_of_le this (Nat.le_trans (Nat.pow_le_pow_right (by decide) h2) (by decide))

/-- the loop's view: what is still to be written ahead of what is -/
theorem dec_step {n : Nat} (h : ¬ n < 10) (s : List UInt8) : decS n ++ s = decS (n / 10) ++ (chr n :: s) := by rw [decS_big h]; simp

theorem chr_int (n : Nat) : (48 + ((n : Int) % 10)) = ((chr n).toNat : Int) := by
  unfold chr
  rw [UInt8.toNat_ofNat']
  have : n % 10 < 10 := Nat.mod_lt _ (by decide)
  omega
theorem dec_len : ∀ (k n : Nat), n ≤ k → (decS n).length ≤ n + 1 := by
  intro k
  induction k with
  | zero => intro n h; rw [decS_small (by omega)]; simp
  | succ k ih =>
    intro n h
    by_cases hn : n < 10
    · rw [decS_small hn]; simp
    · rw [decS_big hn, List.length_append, List.length_singleton]
      have := ih (n / 10) (by omega)
      omega


theorem dec_same (u : Nat) : Lib.decDigits u = decS u := by
  induction u using Nat.strongRecOn with
  | _ u ih =>
    rw [Lib.decDigits]
    by_cases h : u < 10
    · rw [dif_pos h, decS_small h]; unfold chr; rw [Nat.mod_eq_of_lt h]
    · rw [dif_neg h, decS_big h, ih (u / 10) (by omega)]; rfl
theorem itoa_same (u : Nat) : Lib.itoa (u : Int) = decS u := by
  unfold Lib.itoa; rw [if_neg (by omega), Int.toNat_natCast, dec_same]

theorem dig_decFrom : ∀ (l : List UInt8) (a : Nat), (∀ c, c ∈ l → dgB c = true) → Lib.decFrom a l = some (l.foldl (fun n c => 10 * n + (c.toNat - 48)) a) := by
  intro l
  induction l with
  | nil => intro a _; rfl
  | cons c l ih =>
    intro a h
    have hc := h c (by simp)
    unfold dgB at hc
    simp only [Bool.and_eq_true, decide_eq_true_eq] at hc
    unfold Lib.decFrom Lib.digitVal
    rw [if_pos hc]
    simp only [List.foldl_cons]
    rw [ih _ (fun c' h' => h c' (by simp [h'])), Nat.mul_comm a 10]
theorem atoi_dig {l : List UInt8} (h0 : l ≠ []) (h : ∀ c, c ∈ l → dgB c = true) : Lib.atoi l = some (digV l : Int) := by
  cases l with
  | nil => exact absurd rfl h0
  | cons b r =>
    have hb := h b (by simp)
    unfold dgB at hb
    simp only [Bool.and_eq_true, decide_eq_true_eq] at hb
    have h1 : (b == 45) = false := by rw [beq_eq_false_iff_ne]; rintro rfl; simp at hb
    have h2 : (b == 43) = false := by rw [beq_eq_false_iff_ne]; rintro rfl; simp at hb
    show (if b == 45 then _ else if b == 43 then _ else _) = _
    rw [h1, h2]
    simp only [Bool.false_eq_true, if_false]
    unfold Lib.decNat
    rw [if_neg (by simp), dig_decFrom _ 0 h]
    rfl

theorem decS_len : ∀ (k n : Nat), n < 10 ^ (k + 1) → (decS n).length ≤ k + 1 := by
  intro k
  induction k with
  | zero => intro n h; rw [decS_small (by omega)]; simp
  | succ k ih =>
    intro n h
    by_cases hn : n < 10
    · rw [decS_small hn]; simp
    · rw [decS_big hn, List.length_append, List.length_singleton]
      rw [Nat.pow_succ] at h
      have := ih (n / 10) (by omega)
      omega
theorem chr_ok (n : Nat) : dgB (chr n) = true := by
  unfold dgB chr
  rw [UInt8.toNat_ofNat']
  have : n % 10 < 10 := Nat.mod_lt _ (by decide)
  simp only [Bool.and_eq_true, decide_eq_true_eq]
  omega
theorem decS_all : ∀ (k n : Nat), n < 10 ^ (k + 1) → ∀ c, c ∈ decS n → dgB c = true := by
  intro k
  induction k with
  | zero => intro n h c hc; rw [decS_small (by omega)] at hc; simp at hc; subst hc; exact chr_ok n
  | succ k ih =>
    intro n h c hc
    by_cases hn : n < 10
    · rw [decS_small hn] at hc; simp at hc; subst hc; exact chr_ok n
    · rw [decS_big hn, List.mem_append] at hc
      rw [Nat.pow_succ] at h
      rcases hc with hc | hc
      · exact ih _ (by omega) c hc
      · simp at hc; subst hc; exact chr_ok n
theorem decS_head : ∀ (k n : Nat), n < 10 ^ (k + 1) → 10 ≤ n → (decS n).head? ≠ some 48 := by
  intro k
  induction k with
  | zero => intro n h h'; omega
  | succ k ih =>
    intro n h h'
    rw [decS_big (by omega)]
    rw [Nat.pow_succ] at h
    by_cases hn : n / 10 < 10
    · rw [decS_small hn]
      intro hx
      simp only [List.singleton_append, List.head?_cons, Option.some.injEq] at hx
      unfold chr at hx
      have := congrArg UInt8.toNat hx
      rw [UInt8.toNat_ofNat'] at this
      have e : (48 : UInt8).toNat = 48 := rfl
      omega
    · have := ih (n / 10) (by omega) (by omega)
      intro hx
      apply this
      have hne : decS (n / 10) ≠ [] := by rw [decS_big (by omega)]; simp
      cases hd : decS (n / 10) with
      | nil => exact absurd hd hne
      | cons x xs => rw [hd] at hx; exact hx
theorem decS_digV : ∀ (k n : Nat), n < 10 ^ (k + 1) → digV (decS n) = n := by
  intro k
  induction k with
  | zero =>
    intro n h
    have h : n < 10 := by omega
    rw [decS_small h]
    unfold digV chr
    simp only [List.foldl_cons, List.foldl_nil]
    rw [UInt8.toNat_ofNat']; omega
  | succ k ih =>
    intro n h
    by_cases hn : n < 10
    · rw [decS_small hn]
      unfold digV chr
      simp only [List.foldl_cons, List.foldl_nil]
      rw [UInt8.toNat_ofNat']; omega
    · rw [decS_big hn, digV_snoc]
      rw [Nat.pow_succ] at h
      rw [ih _ (by omega)]
      unfold chr
      rw [UInt8.toNat_ofNat']; omega
theorem decS_ne (n : Nat) : decS n ≠ [] := by
  by_cases h : n < 10
  · rw [decS_small h]; simp
  · rw [decS_big h]; simp
/-- a number of at most six digits is what its digits say -/
theorem num_of_dec {n : Nat} (h : n < 1000000) : numB (decS n) = true ∧ (decS n).length ≤ 6 ∧ numN (decS n) = n := by
  have h6 : n < 10 ^ (5 + 1) := by simpa using h
  have hl := decS_len 5 n h6
  have ha := decS_all 5 n h6
  have hb : numB (decS n) = true := by
    apply decide_eq_true
    refine ⟨List.length_pos_iff.2 (decS_ne n), by omega, ?_, run_all.2 (List.all_eq_true.2 ha)⟩
    rintro ⟨h1, h2⟩
    by_cases hn : n < 10
    · rw [decS_small hn] at h1; simp at h1
    · rw [← List.head?_eq_getElem?] at h2
      exact decS_head 5 n h6 (by omega) h2
  refine ⟨hb, hl, ?_⟩
  unfold numN
  rw [hb, if_pos rfl, decS_digV 5 n h6]
/-- digits without a 0 ahead: of two the longer one is the greater one; of as many the first that differs decides -/
theorem numB_iff {l : List UInt8} : numB l = true ↔ 1 ≤ l.length ∧ l.length ≤ 9 ∧ ¬ (1 < l.length ∧ l[0]? = some 48) ∧ l.all dgB = true := by
  unfold numB
  rw [decide_eq_true_iff, run_all]
end Go.Proofs.YtebhgcejcdgdbaaGreatDoor.Nu

/-
  LAYER 3, PLAIN MATHEMATICS: texts cut at each such byte, versions' texts. No program is imported.
-/
namespace Go.Proofs.YtebhgcejcdgdbaaGreatDoor.Vs
open Go.Proofs.YtebhgcejcdgdbaaGreatDoor Go.Proofs.YtebhgcejcdgdbaaGreatDoor.Nu

def fore (c : UInt8) (l : List UInt8) : List UInt8 := l.takeWhile (· != c)
def aft (c : UInt8) (l : List UInt8) : List UInt8 := (l.dropWhile (· != c)).drop 1

/-- a text, cut at each such byte -/
def cutA (c : UInt8) (done : List (List UInt8)) (cur : List UInt8) : List UInt8 → List (List UInt8)
  | [] => done ++ [cur]
  | x :: l => if x == c then cutA c (done ++ [cur]) [] l else cutA c done (cur ++ [x]) l
def cutl (c : UInt8) (l : List UInt8) : List (List UInt8) := cutA c [] [] l

theorem cutA_done (c : UInt8) : ∀ (l cur : List UInt8) (done : List (List UInt8)), cutA c done cur l = done ++ cutA c [] cur l := by
  intro l
  induction l with
  | nil => intro cur done; simp [cutA]
  | cons x l ih =>
    intro cur done
    unfold cutA
    by_cases h : (x == c) = true
    · rw [if_pos h, if_pos h, ih [] (done ++ [cur]), ih [] ([] ++ [cur])]; simp
    · rw [if_neg h, if_neg h, ih _ done]
theorem cutA_no (c : UInt8) : ∀ (l cur : List UInt8), c ∉ l → cutA c [] cur l = [cur ++ l] := by
  intro l
  induction l with
  | nil => intro cur _; simp [cutA]
  | cons x l ih =>
    intro cur h
    unfold cutA
    rw [if_neg (by simp; rintro rfl; exact h (by simp)), ih _ (fun h' => h (by simp [h']))]; simp
theorem cutA_hit (c : UInt8) : ∀ (a cur r : List UInt8), c ∉ a → cutA c [] cur (a ++ c :: r) = (cur ++ a) :: cutl c r := by
  intro a
  induction a with
  | nil => intro cur r _; rw [List.nil_append, cutA, if_pos (by simp), cutA_done]; simp [cutl]
  | cons x a ih =>
    intro cur r h
    rw [List.cons_append, cutA, if_neg (by simp; rintro rfl; exact h (by simp)), ih _ _ (fun h' => h (by simp [h']))]; simp
theorem cutl_no {c : UInt8} {l : List UInt8} (h : c ∉ l) : cutl c l = [l] := by unfold cutl; rw [cutA_no c l [] h]; rfl
theorem cutl_hit {c : UInt8} {a r : List UInt8} (h : c ∉ a) : cutl c (a ++ c :: r) = a :: cutl c r := by
  rw [show cutl c (a ++ c :: r) = cutA c [] [] (a ++ c :: r) from rfl, cutA_hit c a [] r h]; rfl

/-- the pieces with that byte between -/
def joinl (c : UInt8) : List (List UInt8) → List UInt8
  | [] => []
  | [p] => p
  | p :: q :: ps => p ++ c :: joinl c (q :: ps)
theorem splits {c : UInt8} : ∀ (l : List UInt8), c ∈ l → ∃ a r, l = a ++ c :: r ∧ c ∉ a := by
  intro l
  induction l with
  | nil => intro h; simp at h
  | cons x l ih =>
    intro h
    by_cases hx : x = c
    · subst hx; exact ⟨[], l, rfl, by simp⟩
    · have h' : c ∈ l := by rcases List.mem_cons.1 h with h | h; exact absurd h.symm hx; exact h
      obtain ⟨a, r, rfl, ha⟩ := ih h'
      exact ⟨x :: a, r, rfl, by simp [ha]; exact fun e => hx e.symm⟩
theorem cutl_ne (c : UInt8) (l : List UInt8) : cutl c l ≠ [] := by
  by_cases h : c ∈ l
  · obtain ⟨a, r, rfl, ha⟩ := splits l h; rw [cutl_hit ha]; simp
  · rw [cutl_no h]; simp
theorem joinl_cons {c : UInt8} {p : List UInt8} {ps : List (List UInt8)} (h : ps ≠ []) : joinl c (p :: ps) = p ++ c :: joinl c ps := by
  cases ps with
  | nil => exact absurd rfl h
  | cons q ps => rfl
theorem join_cut (c : UInt8) : ∀ (n : Nat) (l : List UInt8), l.length ≤ n → joinl c (cutl c l) = l := by
  intro n
  induction n with
  | zero => intro l h; obtain rfl := List.eq_nil_of_length_eq_zero (Nat.le_zero.1 h); rfl
  | succ n ih =>
    intro l hl
    by_cases h : c ∈ l
    · obtain ⟨a, r, rfl, ha⟩ := splits l h
      rw [cutl_hit ha, joinl_cons (cutl_ne c r), ih r (by simp at hl; omega)]
    · rw [cutl_no h]; rfl
theorem join_cutl (c : UInt8) (l : List UInt8) : joinl c (cutl c l) = l := join_cut c l.length l (Nat.le_refl _)
theorem cutl_mem (c : UInt8) : ∀ (n : Nat) (l : List UInt8), l.length ≤ n → ∀ p, p ∈ cutl c l → c ∉ p ∧ p.length ≤ l.length := by
  intro n
  induction n with
  | zero =>
    intro l h p hp; obtain rfl := List.eq_nil_of_length_eq_zero (Nat.le_zero.1 h)
    rw [cutl_no (by simp)] at hp; simp at hp; subst hp; simp
  | succ n ih =>
    intro l hl p hp
    by_cases h : c ∈ l
    · obtain ⟨a, r, rfl, ha⟩ := splits l h
      rw [cutl_hit ha] at hp
      rcases List.mem_cons.1 hp with rfl | hp
      · exact ⟨ha, by simp⟩
      · have := ih r (by simp at hl; omega) p hp
        exact ⟨this.1, by simp; omega⟩
    · rw [cutl_no h] at hp; simp at hp; subst hp; exact ⟨h, Nat.le_refl _⟩
theorem cutl_join {c : UInt8} : ∀ {ps : List (List UInt8)}, ps ≠ [] → (∀ p, p ∈ ps → c ∉ p) → cutl c (joinl c ps) = ps := by
  intro ps
  induction ps with
  | nil => intro h; exact absurd rfl h
  | cons p ps ih =>
    intro _ h
    by_cases hp : ps = []
    · subst hp; exact cutl_no (h p (by simp))
    · rw [joinl_cons hp, cutl_hit (h p (by simp)), ih hp (fun q hq => h q (by simp [hq]))]
theorem cutl_len (c : UInt8) : ∀ (n : Nat) (l : List UInt8), l.length ≤ n → (cutl c l).length ≤ l.length + 1 := by
  intro n
  induction n with
  | zero => intro l h; obtain rfl := List.eq_nil_of_length_eq_zero (Nat.le_zero.1 h); rw [cutl_no (by simp)]; simp
  | succ n ih =>
    intro l hl
    by_cases h : c ∈ l
    · obtain ⟨a, r, rfl, ha⟩ := splits l h
      rw [cutl_hit ha, List.length_cons]
      have := ih r (by simp at hl; omega)
      simp; omega
    · rw [cutl_no h]; simp

/-! the library's cut, so many times at most -/
theorem index_no {c : UInt8} : ∀ {l : List UInt8}, c ∉ l → Lib.index l [c] = -1 := by
  intro l
  induction l with
  | nil => intro _; rfl
  | cons x l ih =>
    intro h
    have hx : ([c] : List UInt8).isPrefixOf (x :: l) = false := by
      simp [List.isPrefixOf]; intro e; exact absurd (by simp [e]) h
    unfold Lib.index
    rw [hx, ih (fun h' => h (by simp [h']))]; rfl
theorem index_hit {c : UInt8} : ∀ {a r : List UInt8}, c ∉ a → Lib.index (a ++ c :: r) [c] = a.length := by
  intro a
  induction a with
  | nil => intro r _; simp [Lib.index, List.isPrefixOf]
  | cons x a ih =>
    intro r h
    have hx : ([c] : List UInt8).isPrefixOf (x :: (a ++ c :: r)) = false := by
      simp [List.isPrefixOf]; intro e; exact absurd (by simp [e]) h
    rw [List.cons_append]
    unfold Lib.index
    rw [hx, ih (fun h' => h (by simp [h']))]
    have : ((a.length : Int) == -1) = false := by rw [beq_eq_false_iff_ne]; omega
    simp [this]
theorem splitK_cut (c : UInt8) : ∀ (k : Nat) (l : List UInt8), ((cutl c l).length ≤ k + 1 → Lib.splitK [c] 0 k l = cutl c l) ∧ (k + 1 < (cutl c l).length → (Lib.splitK [c] 0 k l).length = k + 1) := by
  intro k
  induction k with
  | zero =>
    intro l
    refine ⟨fun h => ?_, fun h => rfl⟩
    by_cases hc : c ∈ l
    · obtain ⟨a, r, rfl, ha⟩ := splits l hc
      rw [cutl_hit ha, List.length_cons] at h
      exact absurd (List.eq_nil_of_length_eq_zero (by omega)) (cutl_ne c r)
    · rw [cutl_no hc]; rfl
  | succ k ih =>
    intro l
    by_cases hc : c ∈ l
    · obtain ⟨a, r, rfl, ha⟩ := splits l hc
      have e : Lib.splitK [c] 0 (k + 1) (a ++ c :: r) = a :: Lib.splitK [c] 0 k r := by
        unfold Lib.splitK
        rw [index_hit ha]
        have h1 : ((a.length : Int) == -1) = false := by rw [beq_eq_false_iff_ne]; omega
        rw [h1]
        simp only [Bool.false_eq_true, if_false, Int.toNat_natCast, Nat.add_zero, List.length_singleton]
        rw [List.take_left', show (a ++ c :: r).drop (a.length + 1) = r by rw [← List.drop_drop, List.drop_left]; rfl]
        cases k <;> rfl
        rfl
      rw [cutl_hit ha, e, List.length_cons, List.length_cons]
      obtain ⟨i1, i2⟩ := ih r
      exact ⟨fun h => by rw [i1 (by omega)], fun h => by rw [i2 (by omega)]⟩
    · have e : Lib.splitK [c] 0 (k + 1) l = [l] := by
        unfold Lib.splitK; rw [index_no hc]; rfl
      rw [cutl_no hc, e]
      exact ⟨fun _ => rfl, fun h => by simp at h⟩
/-- at most n pieces, of a text's bytes -/
theorem splitN_cut (c : UInt8) (n : Nat) (hn : 1 ≤ n) (s : ByteArray) :
    ((cutl c s.data.toList).length ≤ n → Lib.splitB ⟨#[c]⟩ 0 (min n (s.size + 1) - 1) s = (cutl c s.data.toList).map fun p => ⟨p.toArray⟩) ∧
    (n < (cutl c s.data.toList).length → (Lib.splitB ⟨#[c]⟩ 0 (min n (s.size + 1) - 1) s).length = n) := by
  have hd := Lib.splitB_data ⟨#[c]⟩ 0 (min n (s.size + 1) - 1) s
  have hl := cutl_len c _ s.data.toList (Nat.le_refl _)
  have hs : s.data.toList.length = s.size := by simp
  obtain ⟨h1, h2⟩ := splitK_cut c (min n (s.size + 1) - 1) s.data.toList
  have hcc : (⟨#[c]⟩ : ByteArray).data.toList = [c] := rfl
  rw [hcc] at hd
  constructor
  · intro h
    rw [h1 (by omega)] at hd
    rw [← hd, List.map_map]
    rw [List.map_congr_left (g := id) (fun x _ => by apply ByteArray.ext; simp)]
    simp
  · intro h
    have := congrArg List.length hd
    rw [List.length_map, h2 (by omega)] at this
    rw [this]; omega
end Go.Proofs.YtebhgcejcdgdbaaGreatDoor.Vs

/-
  LAYER 3, PLAIN MATHEMATICS: what a version's text is; versions in their order. No program is imported.
-/
namespace Go.Proofs.YtebhgcejcdgdbaaGreatDoor.Vs
open Go.Proofs.YtebhgcejcdgdbaaGreatDoor Go.Proofs.YtebhgcejcdgdbaaGreatDoor.Nu

def pB (c : UInt8) : Bool := dgB c || (decide (97 ≤ c.toNat) && decide (c.toNat ≤ 122)) || (c == 45)
/-- does a 0 stand ahead of other digits? -/
def padB (l : List UInt8) : Bool := decide (1 < l.length ∧ l[0]? = some 48)
def partV (l : List UInt8) : Bool := decide (1 ≤ l.length ∧ l.length ≤ 8) && l.all pB && !(l.all dgB && padB l)
def preV (l : List UInt8) : Bool := decide ((cutl 46 l).length ≤ 4) && (cutl 46 l).all partV
def numV (l : List UInt8) : Bool := numB l && decide (l.length ≤ 6)
def numsV (l : List UInt8) : Bool := decide ((cutl 46 l).length = 3) && (cutl 46 l).all numV
def hasPre (l : List UInt8) : Bool := decide ((fore 45 l).length < l.length)
def verV (l : List UInt8) : Bool := numsV (fore 45 l) && (!hasPre l || preV (aft 45 l))
def nth (l : List UInt8) (i : Nat) : Nat := numN ((cutl 46 (fore 45 l)).getD i [])

def textN (a b c : Nat) : List UInt8 := decS a ++ 46 :: (decS b ++ 46 :: decS c)
def textV (a b c : Nat) (pre : List UInt8) : List UInt8 := textN a b c ++ (if pre = [] then [] else 45 :: pre)

theorem fore_self {c : UInt8} : ∀ {l : List UInt8}, c ∉ l → fore c l = l := by
  intro l
  induction l with
  | nil => intro _; rfl
  | cons x l ih =>
    intro h
    have hx : (x != c) = true := by simp; intro e; exact h (by simp [e])
    unfold fore at *
    rw [List.takeWhile_cons, hx, if_pos rfl, ih (fun k => h (List.mem_cons_of_mem _ k))]
theorem fore_cut {c : UInt8} : ∀ {l r : List UInt8}, c ∉ l → fore c (l ++ c :: r) = l ∧ aft c (l ++ c :: r) = r := by
  intro l
  induction l with
  | nil => intro r _; exact ⟨by simp [fore], by simp [aft]⟩
  | cons x l ih =>
    intro r h
    have hx : (x != c) = true := by simp; intro e; exact h (by simp [e])
    have := ih (r := r) (fun k => h (List.mem_cons_of_mem _ k))
    unfold fore aft at *
    rw [List.cons_append, List.takeWhile_cons, List.dropWhile_cons, hx]
    exact ⟨by rw [if_pos rfl, this.1], this.2⟩
theorem aft_no {c : UInt8} : ∀ {l : List UInt8}, c ∉ l → aft c l = [] := by
  intro l
  induction l with
  | nil => intro _; rfl
  | cons x l ih =>
    intro h
    have hx : (x != c) = true := by simp; intro e; exact h (by simp [e])
    unfold aft at *
    rw [List.dropWhile_cons, hx, if_pos rfl, ih (fun k => h (List.mem_cons_of_mem _ k))]

theorem preV_ne {l : List UInt8} (h : preV l = true) : l ≠ [] := by
  rintro rfl
  unfold preV at h
  rw [cutl_no (by simp)] at h
  simp [partV] at h

/-- a text without or with that byte -/
theorem hasPre_cases (l : List UInt8) : (45 ∉ l ∧ hasPre l = false ∧ fore 45 l = l ∧ aft 45 l = []) ∨ (hasPre l = true ∧ 45 ∉ fore 45 l ∧ l = fore 45 l ++ 45 :: aft 45 l) := by
  by_cases h : 45 ∈ l
  · obtain ⟨a, r, rfl, ha⟩ := splits l h
    have := fore_cut (r := r) ha
    right
    unfold hasPre
    rw [this.1, this.2]
    exact ⟨decide_eq_true (by simp), ha, rfl⟩
  · left
    have := fore_self h
    unfold hasPre
    exact ⟨h, decide_eq_false (by rw [this]; omega), this, aft_no h⟩

/-- three numbers -/
theorem nums_three {l : List UInt8} (h : numsV l = true) : ∃ a b c, cutl 46 l = [a, b, c] ∧ numV a = true ∧ numV b = true ∧ numV c = true := by
  unfold numsV at h
  simp only [Bool.and_eq_true, decide_eq_true_eq] at h
  obtain ⟨h1, h2⟩ := h
  match hc : cutl 46 l, h1, h2 with
  | [a, b, c], _, h2 =>
    simp at h2
    exact ⟨a, b, c, rfl, h2.1, h2.2.1, h2.2.2⟩

theorem numV_of {l : List UInt8} (h : numV l = true) : numB l = true ∧ l.length ≤ 6 := by
  unfold numV at h; simpa using h
theorem numN_six {l : List UInt8} (h : numV l = true) : numN l < 1000000 := by
  obtain ⟨h1, h2⟩ := numV_of h
  obtain ⟨_, _, _, h4⟩ := of_decide_eq_true h1
  have key : ∀ k, k ≤ l.length → digV (l.take k) < 10 ^ k := by
    intro k
    induction k with
    | zero => intro _; simp [digV]
    | succ k ih =>
      intro hk
      have hk' : k < l.length := by omega
      exact digV_lt (List.getElem?_eq_getElem hk') (run_all' h4 _ (List.getElem_mem hk')) (ih (by omega))
  have := key l.length (Nat.le_refl _)
  rw [List.take_of_length_le (Nat.le_refl _)] at this
  unfold numN
  rw [h1, if_pos rfl]
  exact Nat.lt_of_lt_of_le this (Nat.le_trans (Nat.pow_le_pow_right (by decide) h2) (by decide))

/-- a version's text is the text of what it is parsed as -/
theorem text_of {l : List UInt8} (h : verV l = true) : textV (nth l 0) (nth l 1) (nth l 2) (aft 45 l) = l ∧ nth l 0 < 1000000 ∧ nth l 1 < 1000000 ∧ nth l 2 < 1000000 ∧ (aft 45 l = [] ∨ preV (aft 45 l) = true) ∧ (hasPre l = decide (aft 45 l ≠ [])) := by
  unfold verV at h
  simp only [Bool.and_eq_true] at h
  obtain ⟨h1, h2⟩ := h
  obtain ⟨a, b, c, hc, ha, hb, hcc⟩ := nums_three h1
  have hn : textN (nth l 0) (nth l 1) (nth l 2) = fore 45 l := by
    have := join_cutl 46 (fore 45 l)
    rw [hc] at this
    unfold textN nth
    rw [hc]
    show decS (numN a) ++ 46 :: (decS (numN b) ++ 46 :: decS (numN c)) = _
    rw [numN_dec (numV_of ha).1, numN_dec (numV_of hb).1, numN_dec (numV_of hcc).1]
    exact this
  have e0 : nth l 0 = numN a := by unfold nth; rw [hc]; rfl
  have e1 : nth l 1 = numN b := by unfold nth; rw [hc]; rfl
  have e2 : nth l 2 = numN c := by unfold nth; rw [hc]; rfl
  refine ⟨?_, by rw [e0]; exact numN_six ha, by rw [e1]; exact numN_six hb, by rw [e2]; exact numN_six hcc, ?_, ?_⟩
  · unfold textV
    rw [hn]
    rcases hasPre_cases l with ⟨_, p1, p2, p3⟩ | ⟨p1, p2, p3⟩
    · rw [p3, if_pos rfl, List.append_nil, p2]
    · rw [p1] at h2
      rw [if_neg (preV_ne (by simpa using h2))]
      exact p3.symm
  · rcases hasPre_cases l with ⟨_, p1, p2, p3⟩ | ⟨p1, p2, p3⟩
    · exact .inl p3
    · rw [p1] at h2; exact .inr (by simpa using h2)
  · rcases hasPre_cases l with ⟨_, p1, p2, p3⟩ | ⟨p1, p2, p3⟩
    · rw [p1, p3]; rfl
    · rw [p1] at h2 ⊢
      exact (decide_eq_true (preV_ne (by simpa using h2))).symm

theorem dec_no (n : Nat) (h : n < 1000000) (c : UInt8) (hc : dgB c = false) : c ∉ decS n := fun h' => by
  have := decS_all 5 n (by simpa using h) c h'
  rw [hc] at this; cases this
/-- three numbers and what may stand behind them are a version's text, and it says these -/
theorem of_text {a b c : Nat} {pre : List UInt8} (ha : a < 1000000) (hb : b < 1000000) (hc : c < 1000000) :
    verV (textV a b c pre) = decide (pre = [] ∨ preV pre = true) ∧ nth (textV a b c pre) 0 = a ∧ nth (textV a b c pre) 1 = b ∧ nth (textV a b c pre) 2 = c ∧ aft 45 (textV a b c pre) = pre := by
  have n45 : (45 : UInt8) ∉ textN a b c := by
    unfold textN
    simp only [List.mem_append, List.mem_cons, not_or]
    exact ⟨dec_no a ha 45 rfl, by decide, dec_no b hb 45 rfl, by decide, dec_no c hc 45 rfl⟩
  have hcut : cutl 46 (textN a b c) = [decS a, decS b, decS c] := by
    unfold textN
    rw [cutl_hit (dec_no a ha 46 rfl), cutl_hit (dec_no b hb 46 rfl), cutl_no (dec_no c hc 46 rfl)]
  have vN : ∀ n, n < 1000000 → numV (decS n) = true := fun n h => by
    obtain ⟨h1, h2, _⟩ := num_of_dec h
    unfold numV; rw [h1, decide_eq_true h2]; rfl
  have hnums : numsV (textN a b c) = true := by
    unfold numsV; rw [hcut]; simp [vN a ha, vN b hb, vN c hc]
  have hf : fore 45 (textV a b c pre) = textN a b c ∧ aft 45 (textV a b c pre) = pre ∧ hasPre (textV a b c pre) = decide (pre ≠ []) := by
    unfold textV hasPre
    by_cases hp : pre = []
    · subst hp
      rw [if_pos rfl, List.append_nil, fore_self n45]
      exact ⟨rfl, aft_no n45, by simp⟩
    · rw [if_neg hp]
      have := fore_cut (r := pre) n45
      exact ⟨this.1, this.2, by rw [this.1, decide_eq_true hp]; exact decide_eq_true (by simp)⟩
  refine ⟨?_, ?_, ?_, ?_, hf.2.1⟩
  · unfold verV
    rw [hf.1, hf.2.1, hf.2.2, hnums]
    by_cases hp : pre = []
    · subst hp; simp
    · simp [hp]
  all_goals unfold nth; rw [hf.1, hcut]
  · exact (num_of_dec ha).2.2
  · exact (num_of_dec hb).2.2
  · exact (num_of_dec hc).2.2

/-! the order -/
structure Cmp {α : Type} (on : α → Prop) (f : α → α → Int) : Prop where
  vals : ∀ x y, f x y = -1 ∨ f x y = 0 ∨ f x y = 1
  anti : ∀ x y, f y x = - f x y
  eq : ∀ x y, on x → on y → f x y = 0 → x = y
  trans : ∀ x y z, on x → on y → on z → f x y ≤ 0 → f y z ≤ 0 → f x z ≤ 0

theorem Cmp.self {α : Type} {on : α → Prop} {f : α → α → Int} (h : Cmp on f) (x : α) : f x x = 0 := by
  have := h.anti x x; omega
theorem Cmp.lt_le {α : Type} {on : α → Prop} {f : α → α → Int} (h : Cmp on f) {x y z : α} (hx : on x) (hy : on y) (hz : on z) (h1 : f x y < 0) (h2 : f y z ≤ 0) : f x z < 0 := by
  have t := h.trans x y z hx hy hz (by omega) h2
  rcases h.vals x z with e | e | e
  · omega
  · obtain rfl := h.eq x z hx hz e
    have := h.anti x y
    omega
  · omega
theorem Cmp.le_lt {α : Type} {on : α → Prop} {f : α → α → Int} (h : Cmp on f) {x y z : α} (hx : on x) (hy : on y) (hz : on z) (h1 : f x y ≤ 0) (h2 : f y z < 0) : f x z < 0 := by
  have t := h.trans x y z hx hy hz h1 (by omega)
  rcases h.vals x z with e | e | e
  · omega
  · obtain rfl := h.eq x z hx hz e
    have := h.anti x y
    omega
  · omega

def ci (a b : Nat) : Int := if a < b then -1 else if b < a then 1 else 0
theorem ci_cmp : Cmp (fun _ => True) ci where
  vals x y := by unfold ci; split; simp; split <;> simp
  anti x y := by unfold ci; split <;> split <;> (try split) <;> omega
  eq x y _ _ h := by unfold ci at h; split at h; omega; split at h; omega; omega
  trans x y z _ _ _ h1 h2 := by
    unfold ci at *
    split at h1 <;> split at h2 <;> split <;> (try split) <;> (try split at h1) <;> (try split at h2) <;> omega

def cmpL {α : Type} (f : α → α → Int) : List α → List α → Int
  | [], [] => 0
  | [], _ :: _ => -1
  | _ :: _, [] => 1
  | x :: xs, y :: ys => if f x y = 0 then cmpL f xs ys else f x y

theorem cmpL_cmp {α : Type} {on : α → Prop} {f : α → α → Int} (h : Cmp on f) : Cmp (fun l => ∀ x, x ∈ l → on x) (cmpL f) where
  vals x := by
    induction x with
    | nil => intro y; cases y <;> simp [cmpL]
    | cons a x ih =>
      intro y
      cases y with
      | nil => simp [cmpL]
      | cons b y =>
        unfold cmpL; split
        · exact ih y
        · exact h.vals a b
  anti x := by
    induction x with
    | nil => intro y; cases y <;> simp [cmpL]
    | cons a x ih =>
      intro y
      cases y with
      | nil => simp [cmpL]
      | cons b y =>
        unfold cmpL
        have := h.anti a b
        by_cases e : f a b = 0
        · rw [if_pos e, if_pos (by omega), ih y]
        · rw [if_neg e, if_neg (by omega), this]
  eq x := by
    induction x with
    | nil => intro y _ _ h'; cases y with
      | nil => rfl
      | cons b y => simp [cmpL] at h'
    | cons a x ih =>
      intro y hx hy h'
      cases y with
      | nil => simp [cmpL] at h'
      | cons b y =>
        unfold cmpL at h'
        by_cases e : f a b = 0
        · rw [if_pos e] at h'
          rw [h.eq a b (hx a (by simp)) (hy b (by simp)) e, ih y (fun c hc => hx c (by simp [hc])) (fun c hc => hy c (by simp [hc])) h']
        · rw [if_neg e] at h'; exact absurd h' e
  trans x := by
    induction x with
    | nil => intro y z _ _ _ h1 h2; cases z <;> simp [cmpL]
    | cons a x ih =>
      intro y z hx hy hz h1 h2
      cases y with
      | nil => simp [cmpL] at h1
      | cons b y =>
        cases z with
        | nil => simp [cmpL] at h2
        | cons c z =>
          have ha := hx a (by simp); have hb := hy b (by simp); have hc := hz c (by simp)
          unfold cmpL at h1 h2 ⊢
          by_cases e1 : f a b = 0
          · rw [if_pos e1] at h1
            obtain rfl := h.eq a b ha hb e1
            by_cases e2 : f a c = 0
            · rw [if_pos e2] at h2 ⊢
              exact ih y z (fun d hd => hx d (by simp [hd])) (fun d hd => hy d (by simp [hd])) (fun d hd => hz d (by simp [hd])) h1 h2
            · rw [if_neg e2] at h2 ⊢; exact h2
          · rw [if_neg e1] at h1
            have l1 : f a b < 0 := by omega
            have l2 : f b c ≤ 0 := by
              by_cases e2 : f b c = 0
              · omega
              · rw [if_neg e2] at h2; exact h2
            have l3 := h.lt_le ha hb hc l1 l2
            rw [if_neg (by omega)]; omega

theorem cmpL_app {α : Type} {f : α → α → Int} (hs : ∀ x, f x x = 0) : ∀ (l : List α) (x : α), cmpL f l (l ++ [x]) = -1 := by
  intro l
  induction l with
  | nil => intro x; rfl
  | cons a l ih => intro x; rw [List.cons_append]; unfold cmpL; rw [if_pos (hs a), ih]

/-- bytes, one by one -/
theorem bytes_cmp : Cmp (fun _ => True) Lib.compareBytes where
  vals x := by
    induction x with
    | nil => intro y; cases y <;> simp [Lib.compareBytes]
    | cons a x ih => intro y; cases y with
      | nil => simp [Lib.compareBytes]
      | cons b y => unfold Lib.compareBytes; split; simp; split; simp; exact ih y
  anti x := by
    induction x with
    | nil => intro y; cases y <;> simp [Lib.compareBytes]
    | cons a x ih => intro y; cases y with
      | nil => simp [Lib.compareBytes]
      | cons b y =>
        unfold Lib.compareBytes
        by_cases h1 : a < b
        · rw [if_pos h1, if_neg (by intro h; exact absurd (UInt8.lt_trans h1 h) (UInt8.lt_irrefl a)), if_pos h1]; rfl
        · rw [if_neg h1]
          by_cases h2 : b < a
          · rw [if_pos h2, if_neg h1, if_pos h2]
          · rw [if_neg h2, if_neg h1, if_neg h2, ih y]
  eq x := by
    induction x with
    | nil => intro y _ _ h; cases y with
      | nil => rfl
      | cons b y => simp [Lib.compareBytes] at h
    | cons a x ih => intro y _ _ h; cases y with
      | nil => simp [Lib.compareBytes] at h
      | cons b y =>
        unfold Lib.compareBytes at h
        split at h
        · simp at h
        · split at h
          · simp at h
          · rename_i h1 h2
            obtain rfl : a = b := by
              apply UInt8.toNat_inj.1
              rw [UInt8.lt_iff_toNat_lt] at h1 h2; omega
            rw [ih y trivial trivial h]
  trans x := by
    induction x with
    | nil => intro y z _ _ _ _ _; cases z <;> simp [Lib.compareBytes]
    | cons a x ih => intro y z _ _ _ h1 h2; cases y with
      | nil => simp [Lib.compareBytes] at h1
      | cons b y => cases z with
        | nil => simp [Lib.compareBytes] at h2
        | cons c z =>
          unfold Lib.compareBytes at h1 h2 ⊢
          simp only [UInt8.lt_iff_toNat_lt] at h1 h2 ⊢
          by_cases e1 : a.toNat < b.toNat
          · by_cases e2 : b.toNat < c.toNat
            · rw [if_pos (by omega)]; decide
            · rw [if_neg e2] at h2
              by_cases e3 : c.toNat < b.toNat
              · rw [if_pos e3] at h2; simp at h2
              · rw [if_pos (by omega)]; decide
          · rw [if_neg e1] at h1
            by_cases e3 : b.toNat < a.toNat
            · rw [if_pos e3] at h1; simp at h1
            · rw [if_neg e3] at h1
              by_cases e2 : b.toNat < c.toNat
              · rw [if_pos (by omega)]; decide
              · rw [if_neg e2] at h2
                by_cases e4 : c.toNat < b.toNat
                · rw [if_pos e4] at h2; simp at h2
                · rw [if_neg e4] at h2
                  rw [if_neg (by omega), if_neg (by omega)]
                  exact ih y z trivial trivial trivial h1 h2

/-- two parts -/
def cmpP (p q : List UInt8) : Int :=
  if p.all dgB = true then (if q.all dgB = true then (if p.length = q.length then Lib.compareBytes p q else ci p.length q.length) else -1) else if q.all dgB = true then 1 else Lib.compareBytes p q
theorem cmpP_cmp : Cmp (fun _ => True) cmpP where
  vals x y := by
    unfold cmpP
    split <;> split <;> (try split) <;> first | exact bytes_cmp.vals _ _ | exact ci_cmp.vals _ _ | simp
  anti x y := by
    unfold cmpP
    have hb := bytes_cmp.anti x y
    have hi := ci_cmp.anti x.length y.length
    by_cases h1 : x.all dgB = true <;> by_cases h2 : y.all dgB = true <;> by_cases h3 : x.length = y.length <;> simp [h1, h2, h3, hb, hi, Ne.symm (a := x.length) (b := y.length)]
  eq x y _ _ h := by
    unfold cmpP at h
    split at h
    · split at h
      · split at h
        · exact bytes_cmp.eq x y trivial trivial h
        · rename_i h3; exact absurd (ci_cmp.eq _ _ trivial trivial h) h3
      · simp at h
    · split at h
      · simp at h
      · exact bytes_cmp.eq x y trivial trivial h
  trans x y z _ _ _ h1 h2 := by
    unfold cmpP at *
    by_cases x1 : x.all dgB = true
    · rw [if_pos x1] at h1 ⊢
      by_cases z1 : z.all dgB = true
      · rw [if_pos z1]
        by_cases y1 : y.all dgB = true
        · rw [if_pos y1] at h1
          rw [if_pos y1, if_pos z1] at h2
          by_cases e1 : x.length = y.length
          · rw [if_pos e1] at h1
            by_cases e2 : y.length = z.length
            · rw [if_pos e2] at h2
              rw [if_pos (by omega)]
              exact bytes_cmp.trans x y z trivial trivial trivial h1 h2
            · rw [if_neg e2] at h2
              rw [if_neg (by omega), e1]; exact h2
          · rw [if_neg e1] at h1
            by_cases e2 : y.length = z.length
            · rw [if_neg (by omega), ← e2]; exact h1
            · rw [if_neg e2] at h2
              have l1 : x.length < y.length := by unfold ci at h1; split at h1; assumption; split at h1; omega; omega
              have l2 : y.length < z.length := by unfold ci at h2; split at h2; assumption; split at h2; omega; omega
              rw [if_neg (by omega)]
              unfold ci; rw [if_pos (by omega)]; decide
        · rw [if_neg y1, if_pos z1] at h2; simp at h2
      · rw [if_neg z1]; decide
    · rw [if_neg x1] at h1 ⊢
      by_cases y1 : y.all dgB = true
      · rw [if_pos y1] at h1; simp at h1
      · rw [if_neg y1] at h1
        rw [if_neg y1] at h2
        by_cases z1 : z.all dgB = true
        · rw [if_pos z1] at h2; simp at h2
        · rw [if_neg z1] at h2 ⊢
          exact bytes_cmp.trans x y z trivial trivial trivial h1 h2

/-- of versions: the three numbers, and what stands behind -/
def cmpB (p q : List UInt8) : Int := if p = q then 0 else if p = [] then 1 else if q = [] then -1 else cmpL cmpP (cutl 46 p) (cutl 46 q)
def cmpV (l m : List Nat) (p q : List UInt8) : Int := if l = m then cmpB p q else cmpL ci l m
theorem cutl_inj {c : UInt8} {p q : List UInt8} (h : cutl c p = cutl c q) : p = q := by
  rw [← join_cutl c p, h, join_cutl]
theorem cmpB_cmp : Cmp (fun _ => True) cmpB where
  vals x y := by
    unfold cmpB
    split <;> (try split) <;> (try split) <;> first | exact (cmpL_cmp cmpP_cmp).vals _ _ | simp
  anti x y := by
    unfold cmpB
    have h := (cmpL_cmp cmpP_cmp).anti (cutl 46 x) (cutl 46 y)
    by_cases e : x = y
    · subst e; simp
    · by_cases e1 : x = []
      · subst e1; simp [Ne.symm e, e]
      · by_cases e2 : y = []
        · subst e2; simp [Ne.symm e, e]
        · simp [e, Ne.symm e, e1, e2, h]
  eq x y _ _ h := by
    unfold cmpB at h
    split at h
    · assumption
    · split at h
      · simp at h
      · split at h
        · simp at h
        · exact cutl_inj ((cmpL_cmp cmpP_cmp).eq _ _ (fun _ _ => trivial) (fun _ _ => trivial) h)
  trans x y z _ _ _ h1 h2 := by
    unfold cmpB at *
    by_cases e1 : x = y
    · subst e1; exact h2
    · by_cases e2 : y = z
      · subst e2; exact h1
      · rw [if_neg e1] at h1
        rw [if_neg e2] at h2
        by_cases e3 : x = z
        · rw [if_pos e3]; decide
        · rw [if_neg e3]
          by_cases x0 : x = []
          · rw [if_pos x0] at h1; simp at h1
          · rw [if_neg x0] at h1 ⊢
            by_cases z0 : z = []
            · rw [if_pos z0]; decide
            · rw [if_neg z0] at h2 ⊢
              by_cases y0 : y = []
              · rw [if_pos y0] at h2; simp at h2
              · rw [if_neg y0] at h1 h2
                exact (cmpL_cmp cmpP_cmp).trans _ _ _ (fun _ _ => trivial) (fun _ _ => trivial) (fun _ _ => trivial) h1 h2
end Go.Proofs.YtebhgcejcdgdbaaGreatDoor.Vs

/-
  LAYER 3, PLAIN MATHEMATICS: versions stand in one row; a release above what has parts behind the same numbers; one part more is higher. No program is imported.
-/
namespace Go.Proofs.YtebhgcejcdgdbaaGreatDoor.Vs
open Go.Proofs.YtebhgcejcdgdbaaGreatDoor Go.Proofs.YtebhgcejcdgdbaaGreatDoor.Nu

theorem cmpV_cmp : Cmp (fun _ => True) (fun (x y : List Nat × List UInt8) => cmpV x.1 y.1 x.2 y.2) where
  vals x y := by
    unfold cmpV
    split
    · exact cmpB_cmp.vals _ _
    · exact (cmpL_cmp ci_cmp).vals _ _
  anti x y := by
    unfold cmpV
    have h1 := cmpB_cmp.anti x.2 y.2
    have h2 := (cmpL_cmp ci_cmp).anti x.1 y.1
    by_cases h : x.1 = y.1
    · rw [if_pos h, if_pos h.symm, h1]
    · rw [if_neg h, if_neg (Ne.symm h), h2]
  eq x y _ _ h := by
    unfold cmpV at h
    split at h
    · rename_i h'
      exact Prod.ext h' (cmpB_cmp.eq _ _ trivial trivial h)
    · rename_i h'
      exact absurd ((cmpL_cmp ci_cmp).eq _ _ (fun _ _ => trivial) (fun _ _ => trivial) h) h'
  trans x y z _ _ _ h1 h2 := by
    unfold cmpV at *
    have L := cmpL_cmp ci_cmp
    by_cases e1 : x.1 = y.1
    · rw [if_pos e1] at h1
      by_cases e2 : y.1 = z.1
      · rw [if_pos e2] at h2
        rw [if_pos (e1.trans e2)]
        exact cmpB_cmp.trans _ _ _ trivial trivial trivial h1 h2
      · rw [if_neg e2] at h2
        rw [if_neg (by rw [e1]; exact e2), e1]; exact h2
    · rw [if_neg e1] at h1
      have l1 : cmpL ci x.1 y.1 < 0 := by
        rcases L.vals x.1 y.1 with e | e | e
        · omega
        · exact absurd (L.eq _ _ (fun _ _ => trivial) (fun _ _ => trivial) e) e1
        · omega
      have l2 : cmpL ci y.1 z.1 ≤ 0 := by
        by_cases e2 : y.1 = z.1
        · rw [e2, L.self]; omega
        · rw [if_neg e2] at h2; exact h2
      have l3 := L.lt_le (fun _ _ => trivial) (fun _ _ => trivial) (fun _ _ => trivial) l1 l2
      by_cases e3 : x.1 = z.1
      · rw [e3, L.self] at l3; omega
      · rw [if_neg e3]; omega

/-- a release stands above what has something behind the same numbers -/
theorem cmpB_rel {p : List UInt8} (h : p ≠ []) : cmpB p [] = -1 := by
  unfold cmpB; rw [if_neg h, if_neg h, if_pos rfl]
theorem cutl_snoc {c : UInt8} (q : List UInt8) (hq : c ∉ q) : ∀ (n : Nat) (l : List UInt8), l.length ≤ n → cutl c (l ++ c :: q) = cutl c l ++ [q] := by
  intro n
  induction n with
  | zero => intro l h; obtain rfl := List.eq_nil_of_length_eq_zero (Nat.le_zero.1 h); rw [List.nil_append, show c :: q = [] ++ c :: q from rfl, cutl_hit (by simp), cutl_no hq, cutl_no (by simp)]; rfl
  | succ n ih =>
    intro l hl
    by_cases h : c ∈ l
    · obtain ⟨a, r, rfl, ha⟩ := splits l h
      rw [List.append_assoc, List.cons_append, cutl_hit ha, ih r (by simp at hl; omega), cutl_hit ha]; rfl
    · rw [cutl_hit h, cutl_no h, cutl_no hq]; rfl
/-- one part more is higher -/
theorem cmpB_more {p q : List UInt8} (h : p ≠ []) (hq : (46 : UInt8) ∉ q) : cmpB p (p ++ 46 :: q) = -1 := by
  unfold cmpB
  have hne : p ≠ p ++ 46 :: q := by intro e; have := congrArg List.length e; simp at this
  rw [if_neg hne, if_neg h, if_neg (by simp), cutl_snoc q hq _ p (Nat.le_refl _)]
  exact cmpL_app cmpP_cmp.self _ _
end Go.Proofs.YtebhgcejcdgdbaaGreatDoor.Vs

/-
  LAYER 4, PLAIN MATHEMATICS: what a range's text is parsed as; which versions a range has. No program is imported.
-/
namespace Go.Proofs.YtebhgcejcdgdbaaGreatDoor.Sp
open Go.Proofs.YtebhgcejcdgdbaaGreatDoor Go.Proofs.YtebhgcejcdgdbaaGreatDoor.Nu Go.Proofs.YtebhgcejcdgdbaaGreatDoor.Vs

structure CompT where
  op : Nat
  a : Nat
  b : Nat
  c : Nat
  p : List UInt8

def sgn : Nat → List UInt8
  | 0 => [61]
  | 1 => [33, 61]
  | 2 => [60]
  | 3 => [60, 61]
  | 4 => [62]
  | 5 => [62, 61]
  | 6 => [126]
  | 7 => [94]
  | _ => [42]
def hit (l : List UInt8) (op : Nat) : Bool := (sgn op).isPrefixOf l && verV (l.drop (sgn op).length)
def ofV (op : Nat) (t : List UInt8) : CompT := ⟨op, nth t 0, nth t 1, nth t 2, aft 45 t⟩
def anyC : CompT := ⟨8, 0, 0, 0, []⟩
/-- the first sign from that one on that leaves a version's text -/
def firstHit (l : List UInt8) : Nat → Nat → Option CompT
  | 0, _ => none
  | n + 1, k => if hit l k then some (ofV k (l.drop (sgn k).length)) else firstHit l n (k + 1)
def compOf (l : List UInt8) : Option CompT := if l = [42] then some anyC else firstHit l 8 0

/-- all of them, if all are -/
def allOf {α β : Type} (f : α → Option β) : List α → Option (List β)
  | [] => some []
  | x :: xs => match f x with
    | none => none
    | some y => match allOf f xs with
      | none => none
      | some ys => some (y :: ys)
def altOf (l : List UInt8) : Option (List CompT) := if (cutl 44 l).length ≤ 4 then allOf compOf (cutl 44 l) else none
def rngOf (l : List UInt8) : Option (List (List CompT)) := if l.length ≤ 80 ∧ (cutl 124 l).length ≤ 4 then allOf altOf (cutl 124 l) else none

theorem allOf_step {α β : Type} {f : α → Option β} {l : List α} {k : Nat} {x : α} (h : l[k]? = some x) : allOf f (l.drop k) = match f x with
    | none => none
    | some y => match allOf f (l.drop (k + 1)) with
      | none => none
      | some ys => some (y :: ys) := by
  have hk := (List.getElem?_eq_some_iff.1 h).1
  have e : l[k] = x := (List.getElem?_eq_some_iff.1 h).2
  rw [List.drop_eq_getElem_cons hk, e]; rfl
theorem allOf_app {α β : Type} {f : α → Option β} : ∀ l m : List α, allOf f (l ++ m) = match allOf f l with
    | none => none
    | some xs => match allOf f m with
      | none => none
      | some ys => some (xs ++ ys) := by
  intro l
  induction l with
  | nil => intro m; rw [List.nil_append]; simp only [allOf]; cases allOf f m <;> rfl
  | cons x l ih =>
    intro m
    rw [List.cons_append]
    simp only [allOf, ih m]
    cases f x with
    | none => rfl
    | some y => cases allOf f l with
      | none => rfl
      | some ys => cases allOf f m <;> rfl
theorem allOf_len {α β : Type} {f : α → Option β} : ∀ {l : List α} {ys : List β}, allOf f l = some ys → ys.length = l.length := by
  intro l
  induction l with
  | nil => intro ys h; simp only [allOf, Option.some.injEq] at h; subst h; rfl
  | cons x l ih =>
    intro ys h
    simp only [allOf] at h
    cases hx : f x with
    | none => rw [hx] at h; cases h
    | some y =>
      cases hl : allOf f l with
      | none => rw [hx, hl] at h; cases h
      | some zs =>
        rw [hx, hl] at h
        simp only [Option.some.injEq] at h
        subst h
        simp [ih hl]
theorem allOf_all {α β : Type} {f : α → Option β} {P : α → β → Prop} (hf : ∀ x y, f x = some y → P x y) : ∀ {l : List α} {ys : List β}, allOf f l = some ys → ∀ y, y ∈ ys → ∃ x, x ∈ l ∧ P x y := by
  intro l
  induction l with
  | nil => intro ys h y hy; simp only [allOf, Option.some.injEq] at h; subst h; simp at hy
  | cons x l ih =>
    intro ys h y hy
    simp only [allOf] at h
    cases hx : f x with
    | none => rw [hx] at h; cases h
    | some z =>
      cases hl : allOf f l with
      | none => rw [hx, hl] at h; cases h
      | some zs =>
        rw [hx, hl] at h
        simp only [Option.some.injEq] at h
        subst h
        rcases List.mem_cons.1 hy with rfl | hy
        · exact ⟨x, by simp, hf _ _ hx⟩
        · obtain ⟨x', h1, h2⟩ := ih hl y hy
          exact ⟨x', by simp [h1], h2⟩
theorem allOf_map {α β : Type} {f : α → Option β} {g : β → α} (hf : ∀ x y, f x = some y → g y = x) : ∀ {l : List α} {ys : List β}, allOf f l = some ys → ys.map g = l := by
  intro l
  induction l with
  | nil => intro ys h; simp only [allOf, Option.some.injEq] at h; subst h; rfl
  | cons x l ih =>
    intro ys h
    simp only [allOf] at h
    cases hx : f x with
    | none => rw [hx] at h; cases h
    | some z =>
      cases hl : allOf f l with
      | none => rw [hx, hl] at h; cases h
      | some zs =>
        rw [hx, hl] at h
        simp only [Option.some.injEq] at h
        subst h
        rw [List.map_cons, ih hl, hf _ _ hx]

/-! texts -/
def compText (c : CompT) : List UInt8 := sgn c.op ++ (if c.op = 8 then [] else textV c.a c.b c.c c.p)
def altText (cs : List CompT) : List UInt8 := joinl 44 (cs.map compText)
def rngText (rs : List (List CompT)) : List UInt8 := joinl 124 (rs.map altText)
/-- may it be a comparison? -/
def OkC (c : CompT) : Prop := (c.op < 8 ∧ c.a < 1000000 ∧ c.b < 1000000 ∧ c.c < 1000000 ∧ (c.p = [] ∨ preV c.p = true)) ∨ c = anyC
def OkR (rs : List (List CompT)) : Prop := 1 ≤ rs.length ∧ rs.length ≤ 4 ∧ (∀ cs, cs ∈ rs → 1 ≤ cs.length ∧ cs.length ≤ 4 ∧ ∀ c, c ∈ cs → OkC c) ∧ (rngText rs).length ≤ 80

theorem firstHit_some {l : List UInt8} : ∀ {n k : Nat} {c : CompT}, firstHit l n k = some c → ∃ j, k ≤ j ∧ j < k + n ∧ hit l j = true ∧ c = ofV j (l.drop (sgn j).length) := by
  intro n
  induction n with
  | zero => intro k c h; simp [firstHit] at h
  | succ n ih =>
    intro k c h
    unfold firstHit at h
    by_cases hh : hit l k = true
    · rw [if_pos hh] at h
      simp only [Option.some.injEq] at h
      exact ⟨k, Nat.le_refl _, by omega, hh, h.symm⟩
    · rw [if_neg hh] at h
      obtain ⟨j, h1, h2, h3, h4⟩ := ih h
      exact ⟨j, by omega, by omega, h3, h4⟩
theorem compOf_ok {l : List UInt8} {c : CompT} (h : compOf l = some c) : compText c = l ∧ OkC c := by
  unfold compOf at h
  by_cases h0 : l = [42]
  · rw [if_pos h0] at h
    simp only [Option.some.injEq] at h
    subst h
    exact ⟨by rw [h0]; rfl, .inr rfl⟩
  · rw [if_neg h0] at h
    obtain ⟨j, _, h2, h3, rfl⟩ := firstHit_some h
    unfold hit at h3
    simp only [Bool.and_eq_true] at h3
    obtain ⟨t1, t2, t3, t4, t5, _⟩ := text_of h3.2
    have hp := List.isPrefixOf_iff_prefix.1 h3.1
    refine ⟨?_, .inl ⟨by show j < 8; omega, t2, t3, t4, t5⟩⟩
    unfold compText ofV
    rw [if_neg (by show ¬ j = 8; omega), t1]
    exact List.prefix_iff_eq_append.1 hp
theorem altOf_ok {l : List UInt8} {cs : List CompT} (h : altOf l = some cs) : altText cs = l ∧ 1 ≤ cs.length ∧ cs.length ≤ 4 ∧ ∀ c, c ∈ cs → OkC c := by
  unfold altOf at h
  by_cases h4 : (cutl 44 l).length ≤ 4
  · rw [if_pos h4] at h
    have h1 := allOf_len h
    have h2 := List.length_pos_iff.2 (cutl_ne 44 l)
    refine ⟨?_, by omega, by omega, fun c hc => ?_⟩
    · unfold altText
      rw [allOf_map (fun x y hxy => (compOf_ok hxy).1) h, join_cutl]
    · obtain ⟨x, _, hx⟩ := allOf_all (P := fun _ c => OkC c) (fun x y hxy => (compOf_ok hxy).2) h c hc
      exact hx
  · rw [if_neg h4] at h; cases h
theorem rngOf_ok {l : List UInt8} {rs : List (List CompT)} (h : rngOf l = some rs) : rngText rs = l ∧ OkR rs := by
  unfold rngOf at h
  by_cases h4 : l.length ≤ 80 ∧ (cutl 124 l).length ≤ 4
  · rw [if_pos h4] at h
    have h1 := allOf_len h
    have h2 := List.length_pos_iff.2 (cutl_ne 124 l)
    have ht : rngText rs = l := by
      unfold rngText
      rw [allOf_map (fun x y hxy => (altOf_ok hxy).1) h, join_cutl]
    refine ⟨ht, by omega, by omega, fun cs hc => ?_, by rw [ht]; exact h4.1⟩
    obtain ⟨x, _, hx⟩ := allOf_all (P := fun _ cs => 1 ≤ cs.length ∧ cs.length ≤ 4 ∧ ∀ c, c ∈ cs → OkC c) (fun x y hxy => (altOf_ok hxy).2) h cs hc
    exact hx
  · rw [if_neg h4] at h; cases h

/-! what a range has -/
def okOp (op : Nat) (k : Int) : Bool :=
  match op with
  | 0 => k == 0
  | 1 => k != 0
  | 2 => decide (k < 0)
  | 3 => decide (k ≤ 0)
  | 4 => decide (0 < k)
  | _ => decide (0 ≤ k)
/-- the lowest release above all versions that have the same numbers up to a place -/
def nextL (a b c : Nat) (place : Nat) : List Nat := match place with
  | 0 => [a + 1, 0, 0]
  | 1 => [a, b + 1, 0]
  | _ => [a, b, c + 1]
def keptP (a b : Nat) : Nat := if a ≠ 0 then 0 else if b ≠ 0 then 1 else 2
def compHas (c : CompT) (x y z : Nat) (p : List UInt8) : Bool :=
  if c.op = 8 then true
  else okOp c.op (cmpV [x, y, z] [c.a, c.b, c.c] p c.p) &&
    (if c.op = 6 then decide (cmpV [x, y, z] (nextL c.a c.b c.c 1) p [] < 0) else if c.op = 7 then decide (cmpV [x, y, z] (nextL c.a c.b c.c (keptP c.a c.b)) p [] < 0) else true)
def opens (c : CompT) (x y z : Nat) : Bool := decide (c.p ≠ []) && decide ([c.a, c.b, c.c] = [x, y, z])
def altHas (cs : List CompT) (x y z : Nat) (p : List UInt8) : Bool := cs.all (fun c => compHas c x y z p) && (decide (p = []) || cs.any (fun c => opens c x y z))
def rngHas (rs : List (List CompT)) (x y z : Nat) (p : List UInt8) : Bool := rs.any (fun cs => altHas cs x y z p)

/-! texts one behind the other -/
theorem cutl_app {c : UInt8} (q : List UInt8) : ∀ (n : Nat) (l : List UInt8), l.length ≤ n → cutl c (l ++ c :: q) = cutl c l ++ cutl c q := by
  intro n
  induction n with
  | zero => intro l h; obtain rfl := List.eq_nil_of_length_eq_zero (Nat.le_zero.1 h); rw [List.nil_append, show c :: q = [] ++ c :: q from rfl, cutl_hit (by simp), cutl_no (l := []) (by simp)]; rfl
  | succ n ih =>
    intro l hl
    by_cases h : c ∈ l
    · obtain ⟨a, r, rfl, ha⟩ := splits l h
      rw [List.append_assoc, List.cons_append, cutl_hit ha, ih r (by simp at hl; omega), cutl_hit ha]; rfl
    · rw [cutl_hit h, cutl_no h]; rfl
theorem rngOf_join {s t : List UInt8} (hl : s.length + t.length ≤ 79) (hc : (cutl 124 s).length + (cutl 124 t).length ≤ 4) : rngOf (s ++ 124 :: t) = match rngOf s with
    | none => none
    | some xs => match rngOf t with
      | none => none
      | some ys => some (xs ++ ys) := by
  unfold rngOf
  rw [cutl_app t _ s (Nat.le_refl _)]
  rw [if_pos ⟨by simp; omega, by simp; omega⟩, if_pos ⟨by omega, by omega⟩, if_pos ⟨by omega, by omega⟩]
  rw [allOf_app]
  cases allOf altOf (cutl 124 s) with
  | none => rfl
  | some xs => cases allOf altOf (cutl 124 t) <;> rfl
theorem rngHas_app (xs ys : List (List CompT)) (x y z : Nat) (p : List UInt8) : rngHas (xs ++ ys) x y z p = (rngHas xs x y z p || rngHas ys x y z p) := by
  unfold rngHas; rw [List.any_append]
theorem altHas_app (xs ys : List CompT) (x y z : Nat) : altHas (xs ++ ys) x y z [] = (altHas xs x y z [] && altHas ys x y z []) := by
  unfold altHas; rw [List.all_append]; simp
end Go.Proofs.YtebhgcejcdgdbaaGreatDoor.Sp

/-
  PLAIN MATHEMATICS: of two numbers without a 0 ahead the longer is the greater; of as many digits the first that differs decides. No program is imported.
-/
namespace Go.Proofs.YtebhgcejcdgdbaaGreatDoor.Vs
open Go.Proofs.YtebhgcejcdgdbaaGreatDoor Go.Proofs.YtebhgcejcdgdbaaGreatDoor.Nu

def fd (a : Nat) (l : List UInt8) : Nat := l.foldl (fun n c => 10 * n + (c.toNat - 48)) a
theorem dg_of {c : UInt8} (h : dgB c = true) : 48 ≤ c.toNat ∧ c.toNat ≤ 57 := by
  unfold dgB at h; simpa using h
theorem fd_lt : ∀ (p q : List UInt8) (a b : Nat), p.all dgB = true → q.all dgB = true → p.length = q.length → a < b → fd a p < fd b q := by
  intro p
  induction p with
  | nil => intro q a b _ _ hl h; obtain rfl := List.eq_nil_of_length_eq_zero hl.symm; exact h
  | cons c p ih =>
    intro q a b hp hq hl h
    cases q with
    | nil => simp at hl
    | cons d q =>
      rw [List.all_cons, Bool.and_eq_true] at hp hq
      have h1 := dg_of hp.1
      have h2 := dg_of hq.1
      exact ih q (10 * a + (c.toNat - 48)) (10 * b + (d.toNat - 48)) hp.2 hq.2 (by simpa using hl) (by omega)
theorem fd_cmp : ∀ (p q : List UInt8) (a : Nat), p.all dgB = true → q.all dgB = true → p.length = q.length → ci (fd a p) (fd a q) = Lib.compareBytes p q := by
  intro p
  induction p with
  | nil => intro q a _ _ hl; obtain rfl := List.eq_nil_of_length_eq_zero hl.symm; simp [ci, Lib.compareBytes]
  | cons c p ih =>
    intro q a hp hq hl
    cases q with
    | nil => simp at hl
    | cons d q =>
      rw [List.all_cons, Bool.and_eq_true] at hp hq
      have h1 := dg_of hp.1
      have h2 := dg_of hq.1
      have hl' : p.length = q.length := by simpa using hl
      unfold Lib.compareBytes
      simp only [UInt8.lt_iff_toNat_lt]
      show ci (fd (10 * a + (c.toNat - 48)) p) (fd (10 * a + (d.toNat - 48)) q) = _
      by_cases e1 : c.toNat < d.toNat
      · rw [if_pos e1]
        have := fd_lt p q (10 * a + (c.toNat - 48)) (10 * a + (d.toNat - 48)) hp.2 hq.2 hl' (by omega)
        unfold ci; rw [if_pos this]
      · rw [if_neg e1]
        by_cases e2 : d.toNat < c.toNat
        · rw [if_pos e2]
          have := fd_lt q p (10 * a + (d.toNat - 48)) (10 * a + (c.toNat - 48)) hq.2 hp.2 hl'.symm (by omega)
          unfold ci; rw [if_neg (by omega), if_pos this]
        · rw [if_neg e2]
          obtain rfl : c = d := UInt8.toNat_inj.1 (by omega)
          exact ih q _ hp.2 hq.2 hl'
theorem fd_hi : ∀ (p : List UInt8) (a : Nat), p.all dgB = true → fd a p < (a + 1) * 10 ^ p.length := by
  intro p
  induction p with
  | nil => intro a _; simp [fd]
  | cons c p ih =>
    intro a hp
    rw [List.all_cons, Bool.and_eq_true] at hp
    have h1 := dg_of hp.1
    have := ih (10 * a + (c.toNat - 48)) hp.2
    rw [List.length_cons, Nat.pow_succ]
    have e : (10 * a + (c.toNat - 48) + 1) * 10 ^ p.length ≤ (a + 1) * (10 ^ p.length * 10) := by
      rw [Nat.mul_comm (10 ^ p.length) 10, ← Nat.mul_assoc]
      exact Nat.mul_le_mul_right _ (by omega)
    exact Nat.lt_of_lt_of_le this e
theorem fd_lo : ∀ (p : List UInt8) (a : Nat), a * 10 ^ p.length ≤ fd a p := by
  intro p
  induction p with
  | nil => intro a; simp [fd]
  | cons c p ih =>
    intro a
    have := ih (10 * a + (c.toNat - 48))
    rw [List.length_cons, Nat.pow_succ]
    have e : a * (10 ^ p.length * 10) ≤ (10 * a + (c.toNat - 48)) * 10 ^ p.length := by
      rw [Nat.mul_comm (10 ^ p.length) 10, ← Nat.mul_assoc]
      exact Nat.mul_le_mul_right _ (by omega)
    exact Nat.le_trans e this
theorem digV_less {p q : List UInt8} (hp : p.all dgB = true) (hq : q.all dgB = true) (hn : padB q = false) (h1 : 1 ≤ p.length) (hl : p.length < q.length) : digV p < digV q := by
  have h := fd_hi p 0 hp
  cases q with
  | nil => simp at hl
  | cons d q =>
    rw [List.all_cons, Bool.and_eq_true] at hq
    have hd := dg_of hq.1
    have h48 : d.toNat ≠ 48 := by
      intro e
      unfold padB at hn
      have := of_decide_eq_false hn
      apply this
      refine ⟨by omega, ?_⟩
      rw [List.getElem?_cons_zero]
      congr 1
      exact UInt8.toNat_inj.1 e
    have lo := fd_lo q (10 * 0 + (d.toNat - 48))
    have e : digV (d :: q) = fd (10 * 0 + (d.toNat - 48)) q := rfl
    have e' : digV p = fd 0 p := rfl
    rw [e, e']
    have hpow : 10 ^ p.length ≤ 10 ^ q.length := Nat.pow_le_pow_right (by decide) (by simp at hl; omega)
    have : 1 * 10 ^ q.length ≤ (10 * 0 + (d.toNat - 48)) * 10 ^ q.length := Nat.mul_le_mul_right _ (by omega)
    rw [Nat.zero_add, Nat.one_mul] at h
    rw [Nat.one_mul] at this
    omega
theorem partV_num {p : List UInt8} (h : partV p = true) (hd : p.all dgB = true) : numB p = true ∧ padB p = false ∧ 1 ≤ p.length := by
  unfold partV at h
  rw [hd] at h
  simp only [Bool.and_eq_true, decide_eq_true_eq, Bool.not_eq_true', Bool.true_and] at h
  obtain ⟨⟨⟨h1, h2⟩, _⟩, h3⟩ := h
  refine ⟨numB_iff.2 ⟨h1, by omega, ?_, hd⟩, h3, h1⟩
  exact of_decide_eq_false h3
theorem num_cmp {p q : List UInt8} (hp : partV p = true) (hq : partV q = true) (dp : p.all dgB = true) (dq : q.all dgB = true) : ci (numN p) (numN q) = cmpP p q := by
  obtain ⟨p1, p2, p3⟩ := partV_num hp dp
  obtain ⟨q1, q2, q3⟩ := partV_num hq dq
  unfold numN cmpP
  rw [p1, q1, if_pos rfl, if_pos rfl, if_pos dp, if_pos dq]
  by_cases e : p.length = q.length
  · rw [if_pos e]; exact fd_cmp p q 0 dp dq e
  · rw [if_neg e]
    rcases Nat.lt_or_gt_of_ne e with h | h
    · have := digV_less dp dq q2 p3 h
      unfold ci; rw [if_pos this, if_pos h]
    · have := digV_less dq dp p2 q3 h
      unfold ci; rw [if_neg (by omega), if_pos this, if_neg (by omega), if_pos h]
end Go.Proofs.YtebhgcejcdgdbaaGreatDoor.Vs

/-
  LAYER 4, PLAIN MATHEMATICS: a sign ahead of a version's text is a range of one comparison.
-/
namespace Go.Proofs.YtebhgcejcdgdbaaGreatDoor.Sp
open Go.Proofs.YtebhgcejcdgdbaaGreatDoor Go.Proofs.YtebhgcejcdgdbaaGreatDoor.Nu Go.Proofs.YtebhgcejcdgdbaaGreatDoor.Vs

theorem mem_cutl {c x : UInt8} (hx : x ≠ c) : ∀ (n : Nat) (l : List UInt8), l.length ≤ n → x ∈ l → ∃ p, p ∈ cutl c l ∧ x ∈ p := by
  intro n
  induction n with
  | zero => intro l h hm; obtain rfl := List.eq_nil_of_length_eq_zero (Nat.le_zero.1 h); simp at hm
  | succ n ih =>
    intro l hl hm
    by_cases h : c ∈ l
    · obtain ⟨a, r, rfl, ha⟩ := splits l h
      rw [cutl_hit ha]
      rcases List.mem_append.1 hm with h1 | h1
      · exact ⟨a, by simp, h1⟩
      · rcases List.mem_cons.1 h1 with h2 | h2
        · exact absurd h2 hx
        · obtain ⟨p, h3, h4⟩ := ih r (by simp at hl; omega) h2
          exact ⟨p, by simp [h3], h4⟩
    · rw [cutl_no h]; exact ⟨l, by simp, hm⟩
theorem pre_no {p : List UInt8} (h : p = [] ∨ preV p = true) {x : UInt8} (hx : pB x = false) (h46 : x ≠ 46) : x ∉ p := by
  rcases h with rfl | h
  · simp
  · intro hm
    obtain ⟨q, h1, h2⟩ := mem_cutl h46 _ p (Nat.le_refl _) hm
    unfold preV at h
    simp only [Bool.and_eq_true] at h
    have h3 := List.all_eq_true.1 h.2 q h1
    unfold partV at h3
    simp only [Bool.and_eq_true] at h3
    have := List.all_eq_true.1 h3.1.2 x h2
    rw [hx] at this; cases this
/-- no such byte stands in a version's text -/
theorem ver_no {l : List UInt8} (h : verV l = true) {x : UInt8} (hx : pB x = false) (h46 : x ≠ 46) (h45 : x ≠ 45) : x ∉ l := by
  obtain ⟨t1, t2, t3, t4, t5, _⟩ := text_of h
  have hd : dgB x = false := by
    unfold pB at hx
    simp only [Bool.or_eq_false_iff] at hx
    exact hx.1.1
  rw [← t1]
  unfold textV textN
  intro hm
  have n0 := dec_no _ t2 x hd
  have n1 := dec_no _ t3 x hd
  have n2 := dec_no _ t4 x hd
  have n3 := pre_no t5 hx h46
  rcases List.mem_append.1 hm with hm | hm
  · rcases List.mem_append.1 hm with hm | hm
    · exact n0 hm
    · rcases List.mem_cons.1 hm with hm | hm
      · exact h46 hm
      · rcases List.mem_append.1 hm with hm | hm
        · exact n1 hm
        · rcases List.mem_cons.1 hm with hm | hm
          · exact h46 hm
          · exact n2 hm
  · split at hm
    · simp at hm
    · rcases List.mem_cons.1 hm with hm | hm
      · exact h45 hm
      · exact n3 hm
theorem numB_head {l : List UInt8} (h : numB l = true) : ∃ d r, l = d :: r ∧ dgB d = true := by
  obtain ⟨a, _, _, d⟩ := numB_iff.1 h
  cases l with
  | nil => simp at a
  | cons c r => exact ⟨c, r, rfl, List.all_eq_true.1 d c (by simp)⟩
/-- a version's text begins with a digit -/
theorem ver_head {l : List UInt8} (h : verV l = true) : ∃ d r, l = d :: r ∧ dgB d = true := by
  unfold verV at h
  simp only [Bool.and_eq_true] at h
  obtain ⟨a, b, c, hc, ha, _, _⟩ := nums_three h.1
  obtain ⟨d, r, rfl, hd⟩ := numB_head (numV_of ha).1
  have hj := join_cutl 46 (fore 45 l)
  rw [hc] at hj
  have h1 : fore 45 l = d :: (r ++ 46 :: joinl 46 [b, c]) := hj.symm
  cases l with
  | nil => simp [fore] at h1
  | cons x l =>
    unfold fore at h1
    rw [List.takeWhile_cons] at h1
    split at h1
    · injection h1 with e _
      exact ⟨x, l, rfl, by rw [e]; exact hd⟩
    · cases h1
theorem ver_not {c : UInt8} {l : List UInt8} (h : dgB c = false) : verV (c :: l) = false := by
  rw [← Bool.not_eq_true]
  intro hv
  obtain ⟨d, r, e, hd⟩ := ver_head hv
  injection e with e1 _
  rw [e1, hd] at h; cases h

/-- the six signs of the law, in its order -/
def opI : Nat → Nat
  | 0 => 0
  | 1 => 1
  | 2 => 2
  | 3 => 5
  | 4 => 4
  | _ => 3
theorem dg_ne {d : UInt8} (h : dgB d = true) : (61 : UInt8) ≠ d ∧ (33 : UInt8) ≠ d ∧ (60 : UInt8) ≠ d ∧ (62 : UInt8) ≠ d ∧ (126 : UInt8) ≠ d ∧ (94 : UInt8) ≠ d := by
  refine ⟨?_, ?_, ?_, ?_, ?_, ?_⟩ <;> (rintro rfl; simp [dgB] at h)
theorem compOf_sign {l : List UInt8} (hv : verV l = true) : ∀ i, i < 6 → compOf (sgn (opI i) ++ l) = some (ofV (opI i) l) := by
  obtain ⟨d, r, rfl, hd⟩ := ver_head hv
  have v61 : verV (61 :: d :: r) = false := ver_not (by decide)
  intro i hi
  have ways : i = 0 ∨ i = 1 ∨ i = 2 ∨ i = 3 ∨ i = 4 ∨ i = 5 := by omega
  rcases ways with rfl | rfl | rfl | rfl | rfl | rfl <;> simp [compOf, opI, sgn, firstHit, hit, List.isPrefixOf, hv, v61]
theorem rngOf_sign {l : List UInt8} (hv : verV l = true) (hl : l.length ≤ 70) {i : Nat} (hi : i < 6) : rngOf (sgn (opI i) ++ l) = some [[ofV (opI i) l]] := by
  have hs : (124 : UInt8) ∉ sgn (opI i) ∧ (44 : UInt8) ∉ sgn (opI i) ∧ (sgn (opI i)).length ≤ 2 := by
    have ways : i = 0 ∨ i = 1 ∨ i = 2 ∨ i = 3 ∨ i = 4 ∨ i = 5 := by omega
    rcases ways with rfl | rfl | rfl | rfl | rfl | rfl <;> decide
  have h1 : (124 : UInt8) ∉ sgn (opI i) ++ l := by
    intro h
    rcases List.mem_append.1 h with h | h
    · exact hs.1 h
    · exact ver_no hv (by decide) (by decide) (by decide) h
  have h2 : (44 : UInt8) ∉ sgn (opI i) ++ l := by
    intro h
    rcases List.mem_append.1 h with h | h
    · exact hs.2.1 h
    · exact ver_no hv (by decide) (by decide) (by decide) h
  have ha : altOf (sgn (opI i) ++ l) = some [ofV (opI i) l] := by
    unfold altOf
    rw [cutl_no h2, if_pos (by simp)]
    simp only [allOf, compOf_sign hv i hi]
  unfold rngOf
  rw [cutl_no h1, if_pos ⟨by rw [List.length_append]; have := hs.2.2; omega, by simp⟩]
  simp only [allOf, ha]
theorem rngHas_sign {l : List UInt8} {i : Nat} (hi : i < 6) (x y z : Nat) : rngHas [[ofV (opI i) l]] x y z [] = okOp (opI i) (cmpV [x, y, z] [nth l 0, nth l 1, nth l 2] [] (aft 45 l)) := by
  have ways : i = 0 ∨ i = 1 ∨ i = 2 ∨ i = 3 ∨ i = 4 ∨ i = 5 := by omega
  rcases ways with rfl | rfl | rfl | rfl | rfl | rfl <;> simp [rngHas, altHas, compHas, ofV, opI]
end Go.Proofs.YtebhgcejcdgdbaaGreatDoor.Sp

/-
  LAYER 4, PLAIN MATHEMATICS: a comparison's sign is all that stands ahead of its first digit.
-/
namespace Go.Proofs.YtebhgcejcdgdbaaGreatDoor.Sp
open Go.Proofs.YtebhgcejcdgdbaaGreatDoor Go.Proofs.YtebhgcejcdgdbaaGreatDoor.Nu Go.Proofs.YtebhgcejcdgdbaaGreatDoor.Vs

/-- how many bytes ahead of the first digit -/
def noDig (c : UInt8) : Bool := !dgB c
def lead (l : List UInt8) : Nat := run noDig l 0
theorem lead_le (l : List UInt8) : lead l ≤ l.length := by
  have := run_le noDig l 0 (Nat.zero_le _)
  unfold lead; omega
theorem lead_app : ∀ (s : List UInt8) {t : List UInt8}, s.all noDig = true → (∃ d r, t = d :: r ∧ dgB d = true) → lead (s ++ t) = s.length := by
  intro s t hs ht
  obtain ⟨d, r, rfl, hd⟩ := ht
  unfold lead run
  rw [List.drop_zero]
  have : (s ++ d :: r).takeWhile noDig = s := by
    rw [List.takeWhile_append_of_pos (fun x hx => List.all_eq_true.1 hs x hx), List.takeWhile_cons_of_neg (by unfold noDig; rw [hd]; decide), List.append_nil]
  rw [this]
theorem sgn_all {k : Nat} (h : k < 8) : (sgn k).all noDig = true := by
  have ways : k = 0 ∨ k = 1 ∨ k = 2 ∨ k = 3 ∨ k = 4 ∨ k = 5 ∨ k = 6 ∨ k = 7 := by omega
  rcases ways with rfl | rfl | rfl | rfl | rfl | rfl | rfl | rfl <;> rfl
theorem sgn_inj {k j : Nat} (h : k < 8) (hj : j < 8) (e : sgn k = sgn j) : k = j := by
  have ways : k = 0 ∨ k = 1 ∨ k = 2 ∨ k = 3 ∨ k = 4 ∨ k = 5 ∨ k = 6 ∨ k = 7 := by omega
  have ways' : j = 0 ∨ j = 1 ∨ j = 2 ∨ j = 3 ∨ j = 4 ∨ j = 5 ∨ j = 6 ∨ j = 7 := by omega
  rcases ways with rfl | rfl | rfl | rfl | rfl | rfl | rfl | rfl <;> rcases ways' with rfl | rfl | rfl | rfl | rfl | rfl | rfl | rfl <;> first | rfl | (exact absurd e (by decide))
theorem hit_lead {l : List UInt8} {k : Nat} (hk : k < 8) (h : hit l k = true) : l.take (lead l) = sgn k ∧ (sgn k).length = lead l := by
  unfold hit at h
  simp only [Bool.and_eq_true] at h
  have hp := List.prefix_iff_eq_append.1 (List.isPrefixOf_iff_prefix.1 h.1)
  have hl := lead_app (sgn k) (sgn_all hk) (ver_head h.2)
  rw [hp] at hl
  refine ⟨?_, hl.symm⟩
  rw [hl]
  conv => lhs; rw [← hp]
  exact List.take_left
theorem hit_is {l : List UInt8} {k : Nat} (h : l.take (lead l) = sgn k) : hit l k = verV (l.drop (lead l)) ∧ (sgn k).length = lead l := by
  have hl : (sgn k).length = lead l := by rw [← h, List.length_take]; have := lead_le l; omega
  refine ⟨?_, hl⟩
  unfold hit
  rw [hl, ← h, List.isPrefixOf_iff_prefix.2 (List.take_prefix _ _)]
  rfl
theorem firstHit_off {l : List UInt8} : ∀ (n k : Nat), (∀ j, k ≤ j → j < k + n → hit l j = false) → firstHit l n k = none := by
  intro n
  induction n with
  | zero => intro k _; rfl
  | succ n ih =>
    intro k h
    unfold firstHit
    rw [if_neg (by rw [h k (Nat.le_refl _) (by omega)]; decide)]
    exact ih (k + 1) (fun j h1 h2 => h j (by omega) (by omega))
theorem firstHit_on {l : List UInt8} {j : Nat} (hj : hit l j = true) : ∀ (n k : Nat), k ≤ j → j < k + n → (∀ i, k ≤ i → i < j → hit l i = false) → firstHit l n k = some (ofV j (l.drop (sgn j).length)) := by
  intro n
  induction n with
  | zero => intro k h1 h2 _; omega
  | succ n ih =>
    intro k h1 h2 h
    unfold firstHit
    by_cases e : k = j
    · subst e; rw [if_pos hj]
    · rw [if_neg (by rw [h k (Nat.le_refl _) (by omega)]; decide)]
      exact ih (k + 1) (by omega) (by omega) (fun i h3 h4 => h i (by omega) h4)
/-- where the sign is the k-th one: what the rest is -/
theorem one_hit {l : List UInt8} {k : Nat} (hk : k < 8) (h0 : l ≠ [42]) (h : l.take (lead l) = sgn k) : compOf l = if verV (l.drop (lead l)) then some (ofV k (l.drop (lead l))) else none := by
  obtain ⟨h1, h2⟩ := hit_is h
  unfold compOf
  rw [if_neg h0]
  cases hv : verV (l.drop (lead l))
  · rw [hv] at h1
    rw [if_neg (by decide)]
    refine firstHit_off 8 0 fun j _ hj => ?_
    cases hh : hit l j
    · rfl
    · have := (hit_lead (by omega) hh).1
      rw [h] at this
      have := sgn_inj hk (by omega) this
      subst this
      rw [h1] at hh; cases hh
  · rw [hv] at h1
    rw [if_pos rfl, firstHit_on h1 8 0 (Nat.zero_le _) (by omega) fun i _ hi => ?_, h2]
    cases hh : hit l i
    · rfl
    · have := (hit_lead (by omega) hh).1
      rw [h] at this
      have := sgn_inj hk (by omega) this
      omega
theorem one_none {l : List UInt8} (h0 : l ≠ [42]) (h : ∀ k, k < 8 → l.take (lead l) ≠ sgn k) : compOf l = none := by
  unfold compOf
  rw [if_neg h0]
  refine firstHit_off 8 0 fun j _ hj => ?_
  cases hh : hit l j
  · rfl
  · exact absurd (hit_lead (by omega) hh).1 (h j (by omega))
end Go.Proofs.YtebhgcejcdgdbaaGreatDoor.Sp
