/-
  SEVERAL TEXTS, one behind the other.
-/
import Derived.WalkKit
import Derived.WalkLawsBesides
import Derived.WalkSpells
import Derived.Handy
import Derived.Outline
import Derived.Laws.BytesString
import Derived.ProofKit
import Derived.OpenShut
import Derived.SizedLaws
import Derived.WalkSmall
import Derived.OneCell
import Derived.Laws.Externs
import Derived.Lib.Bytealg
import Derived.Test.YtmeaajhongalaaaGreatDoorRows
import Derived.Deep.QuietTactic
import Derived.BigQuiet
import Derived.Lib.Atoi
import Derived.Lib.ItoaNum
import Derived.Lib.Split
/-
  SMALL GENERAL LEMMAS of this prover's own: hidden facts, endings, bytes of a slice read as a string. No program is imported.
-/
namespace Go.Proofs.YtmeaajhongalaaaGreatDoor
open Go.RowKit

theorem hid {p : Prop} (h : p) : Hid p := h

theorem ret_tup {a b a' b' : Value} (h : a = a') (k : b = b') : Ending.returned (.tuple #[a, b]) = Ending.returned (.tuple #[a', b']) := by rw [h, k]
theorem int_eq {k : IntKind} {a b : Int} (h : a = b) : Value.int k a = Value.int k b := by rw [h]
theorem bool_eq {a b : Bool} (h : a = b) : Value.bool a = Value.bool b := by rw [h]
theorem ret_int {k : IntKind} {a b : Int} (h : a = b) : Ending.returned (.int k a) = .returned (.int k b) := by rw [h]
theorem ret_bool {a b : Bool} (h : a = b) : Ending.returned (.bool a) = .returned (.bool b) := by rw [h]
theorem ret_str {a b : List UInt8} (h : a = b) : Ending.returned (.string ⟨a.toArray⟩) = .returned (.string ⟨b.toArray⟩) := by rw [h]
theorem ret_float {a b : Nat} (h : a = b) : Ending.returned (.float .f64 a) = .returned (.float .f64 b) := by rw [h]

/-- what leaves memory as it was is quiet -/
theorem below_of {w w' : World} (h : w = w') : Below w.heap.size w w' := by subst h; exact Below.refl _ _

theorem below_trans {a b c : World} (h : Below a.heap.size a b) (k : Below b.heap.size b c) : Below a.heap.size a c := h.trans (k.mono h.size)
theorem below_alloc {a b : World} (h : Below a.heap.size a b) (o : Obj) : Below a.heap.size a (b.alloc o) := h.alloc h.size o
theorem below_drew {a b : World} (h : Below a.heap.size a b) : Below a.heap.size a b.drew := h.drew

theorem addr_add (b o j : Nat) : Addr.add ⟨b, o, none⟩ j = ⟨b, o + j, none⟩ := by
  cases j <;> simp [Addr.add]

theorem below_drewN' {a b : World} (h : Below a.heap.size a b) (n : Nat) : Below a.heap.size a (b.drewN n) := below_drewN h n

/-- block b holds those cells, and none of them is frozen -/
def Blk (w : World) (b : Nat) (cs : List Value) (e : TypeId) : Prop := w.heap[b]? = some (.cells cs.toArray e (0, 0))
theorem Blk.lt {w : World} {b : Nat} {cs : List Value} {e : TypeId} (h : Blk w b cs e) : b < w.heap.size := lt_of_block h
theorem Blk.cell {w : World} {b : Nat} {cs : List Value} {e : TypeId} (h : Blk w b cs e) (j : Nat) {v : Value} (hj : cs[j]? = some v) : w.cell? ⟨b, j, none⟩ = some v := by
  rw [cell_of_row w b j _ e (0, 0) h]; simpa using hj
theorem Blk.free {w : World} {b : Nat} {cs : List Value} {e : TypeId} (h : Blk w b cs e) (j : Nat) : w.frozen? ⟨b, j, none⟩ = false := by
  have h' : w.heap[b]? = some (.cells cs.toArray e (0, 0)) := h
  simp [World.frozen?, h']
theorem Blk.set {w : World} {b : Nat} {cs : List Value} {e : TypeId} (h : Blk w b cs e) (j : Nat) (v : Value) : Blk (w.setCell ⟨b, j, none⟩ v) b (cs.set j v) e := by
  have hlt := h.lt
  have h1 : w.heap[b]? = some (.cells cs.toArray e (0, 0)) := h
  have h' : w.heap[b] = .cells cs.toArray e (0, 0) := by simpa [Array.getElem?_eq_getElem hlt] using h1
  show (w.heap.modify b _)[b]? = _
  rw [Array.getElem?_eq_getElem (by simpa using hlt), Array.getElem_modify_self, h']
  simp
theorem Blk.other {w : World} {b : Nat} {cs : List Value} {e : TypeId} (h : Blk w b cs e) {a : Addr} (ha : b ≠ a.block) (v : Value) : Blk (w.setCell a v) b cs e := by
  unfold Blk at *
  rw [Below.heap_setCell _ _ _ _ ha]; exact h
theorem Blk.below {w w' : World} {b : Nat} {cs : List Value} {e : TypeId} (h : Blk w b cs e) (hb : Below w.heap.size w w') : Blk w' b cs e := by
  unfold Blk at *
  rw [hb.block b (lt_of_block h)]; exact h
theorem Blk.alloc {w : World} {b : Nat} {cs : List Value} {e : TypeId} (h : Blk w b cs e) (o : Obj) : Blk (w.alloc o) b cs e := h.below ((Below.refl _ _).alloc (Nat.le_refl _) o)
theorem Blk.new (w : World) (cs : List Value) (e : TypeId) : Blk (w.alloc (.cells cs.toArray e)) w.heap.size cs e := heap_alloc_new w _
theorem Blk.grown {w w' : World} {b : Nat} {cs : List Value} {e : TypeId} {row : Option Nat} (h : Blk w b cs e) (hg : w.grownBy w' row) (hne : some b ≠ row) : Blk w' b cs e := by
  unfold Blk at *
  rw [hg.block b (lt_of_block h) hne]; exact h
/-- two rows of unlike element types lie in unlike blocks -/
theorem ownsRow_apart {w : World} {base base' : Nat} {e e' : TypeId} {size size' : Nat} {v v' : Value} {n n' : Nat} {xs xs' : List Value} (h : w.ownsRow base e size v n xs) (h' : w.ownsRow base' e' size' v' n' xs') (hne : e ≠ e') : v.ownBlock = none ∨ v.ownBlock ≠ v'.ownBlock := by
  rcases h.2 with ⟨rfl, _⟩ | ⟨g, cap, cur, rfl, _, hg, _⟩
  · exact .inl rfl
  · right
    rcases h'.2 with ⟨rfl, _⟩ | ⟨g', cap', cur', rfl, _, hg', _⟩
    · simp [Value.ownBlock]
    · simp only [Value.ownBlock, ne_eq, Option.some.injEq]
      intro e
      subst e
      rw [hg] at hg'
      simp at hg'
      exact hne hg'.2
theorem own_ne {w : World} {base : Nat} {e : TypeId} {size : Nat} {v : Value} {n : Nat} {xs : List Value} (h : w.ownsRow base e size v n xs) {b : Nat} (hb : b < base) : some b ≠ v.ownBlock := by
  intro e
  have := h.lt b e.symm
  omega
theorem own_shape {w : World} {base : Nat} {e : TypeId} {size : Nat} {v : Value} {n : Nat} {xs : List Value} (h : w.ownsRow base e size v n xs) : ∃ a c, v = .slice a n c := by
  rcases h.2 with ⟨rfl, rfl⟩ | ⟨g, c, _, rfl, _⟩
  · exact ⟨_, _, rfl⟩
  · exact ⟨_, _, rfl⟩

theorem cells_new (w : World) (cs : List Value) (t : TypeId) (n : Nat) (hn : n = w.heap.size) : ∀ j u, cs[j]? = some u → (w.alloc (.cells cs.toArray t)).cell? ((⟨n, 0, none⟩ : Addr).add j) = some u := by
  subst hn
  intro j u hj
  rw [addr_add, Nat.zero_add]
  exact (Blk.new w cs t).cell j hj
theorem cell_one_at (w : World) (x : Value) (t : TypeId) (n : Nat) (hn : n = w.heap.size) : ∀ j u, [x][j]? = some u → (w.alloc (.cells #[x] t)).cell? ((⟨n, 0, none⟩ : Addr).add j) = some u := by
  subst hn; exact cell_one_new w x t
theorem ownsRow_mono {w : World} {base base' : Nat} {e : TypeId} {size : Nat} {v : Value} {n : Nat} {xs : List Value} (h : w.ownsRow base e size v n xs) (hb : base' ≤ base) : w.ownsRow base' e size v n xs := by
  refine ⟨h.1, ?_⟩
  rcases h.2 with hn | ⟨g, cap, cur, rfl, hg, r⟩
  · exact .inl hn
  · exact .inr ⟨g, cap, cur, rfl, by omega, r⟩

/-- what the call owns stays owned where nothing that was there has turned -/
theorem ownsRow_below {w w' : World} {base : Nat} {e : TypeId} {size : Nat} {v : Value} {n : Nat} {xs : List Value} (h : w.ownsRow base e size v n xs) (hb : Below w.heap.size w w') : w'.ownsRow base e size v n xs := by
  refine ⟨h.1, ?_⟩
  rcases h.2 with hn | ⟨g, cap, cur, rfl, hg, hh, rest⟩
  · exact .inl hn
  · exact .inr ⟨g, cap, cur, rfl, hg, by rw [hb.block g (Array.getElem?_eq_some_iff.1 hh).1]; exact hh, rest⟩
/-- a row that the call owns, of cells of one: nil, or a block whose first cells are those -/
theorem ownsRow_one {w : World} {base : Nat} {e : TypeId} {v : Value} {n : Nat} {xs : List Value} (h : w.ownsRow base e 1 v n xs) :
    (v = .slice none 0 0 ∧ n = 0 ∧ xs = []) ∨ ∃ g c, v = .slice (some ⟨g, 0, none⟩) n c ∧ base ≤ g ∧ g < w.heap.size ∧ n ≤ c ∧ c ≤ maxLen ∧ ∀ k x, xs[k]? = some x → w.cell? ⟨g, k, none⟩ = some x := by
  have hl := h.1
  rcases h.2 with ⟨hv, hn⟩ | ⟨g, cap, cur, hv, hg, hh, h1, h2, h3, h4⟩
  · left
    refine ⟨hv, hn, ?_⟩
    subst hn
    exact List.eq_nil_of_length_eq_zero (by omega)
  · right
    refine ⟨g, cap, hv, hg, (Array.getElem?_eq_some_iff.1 hh).1, h1, h2, ?_⟩
    intro k x hk
    have := h.cells (g := g) (by rw [hv]; rfl) k x hk
    rwa [addr_add, Nat.zero_add] at this

theorem push_all (l : List UInt8) : ∀ s : ByteArray, (l.map fun (c : UInt8) => (c.toNat : Int)).foldl (fun (r : ByteArray) n => r.push (UInt8.ofNat n.toNat)) s = ⟨(s.data.toList ++ l).toArray⟩ := by
  induction l with
  | nil => intro s; simp
  | cons c l ih =>
    intro s
    rw [List.map_cons, List.foldl_cons, ih]
    congr 1
    simp [ByteArray.push]

/-- 'string(b)' of a slice of bytes that hold l -/
theorem run_bytes_string {P : Program} (w : World) (src dst e : TypeId) (b o : Nat) (l : List UInt8) (n c : Nat) (hn : n = l.length)
    (hs : P.underlying src = some (.slice e)) (he : P.underlying e = some (.int .u8)) (hd : P.underlying dst = some .string)
    (h : ∀ j v, l[j]? = some v → w.cell? ⟨b, o + j, none⟩ = some (.int .u8 (v.toNat : Int))) :
    (convert src dst (.slice (some ⟨b, o, none⟩) n c)).run P w = .ok (.string ⟨l.toArray⟩) w := by
  subst hn
  rw [run_convert_bytes_string w src dst e _ _ _ hs he hd]
  have hl := run_loadCells_list (P := P) (w := w) ⟨b, o, none⟩ ((l.map fun (c : UInt8) => (c.toNat : Int)).map (Value.int .u8)) (by
    intro j v hj
    rw [List.getElem?_map, List.getElem?_map] at hj
    cases hl : l[j]? with
    | none => rw [hl] at hj; cases hj
    | some x => rw [hl] at hj; cases hj; rw [addr_add]; exact h j x hl)
  rw [List.length_map, List.length_map] at hl
  rw [run_bytesToString w ⟨b, o, none⟩ l.length c (l.map fun (c : UInt8) => (c.toNat : Int)) hl, push_all]
  simp [ByteArray.empty, ByteArray.emptyWithCapacity]
  rfl

theorem bytes_append (a b : List UInt8) : (⟨a.toArray⟩ : ByteArray) ++ ⟨b.toArray⟩ = ⟨(a ++ b).toArray⟩ := by
  apply ByteArray.ext
  simp [ByteArray.data_append]
theorem str_append {a b c : List UInt8} (h : c = a ++ b) : Value.string ((⟨a.toArray⟩ : ByteArray) ++ ⟨b.toArray⟩) = .string ⟨c.toArray⟩ := by rw [bytes_append, h]

/-- 'string([]byte{x})' -/
theorem run_one_byte {P : Program} (w : World) (src dst e T : TypeId) (x : Int) (u : UInt8) (hx : x = (u.toNat : Int))
    (hs : P.underlying src = some (.slice e)) (he : P.underlying e = some (.int .u8)) (hd : P.underlying dst = some .string) :
    (convert src dst (.slice (some ⟨w.heap.size, 0, none⟩) 1 1)).run P (w.alloc (.cells #[.int .u8 x] T)) = .ok (.string ⟨#[u]⟩) (w.alloc (.cells #[.int .u8 x] T)) := by
  have := run_bytes_string (P := P) (w.alloc (.cells #[.int .u8 x] T)) src dst e w.heap.size 0 [u] 1 1 rfl hs he hd (by
    intro j v hj
    rw [World.cell?_alloc_at _ _ _ _ rfl]
    cases j with
    | zero => cases hj; subst hx; rfl
    | succ j => cases hj)
  exact this

section
open Go.ChangeShapes Go.WideShapes Go.ChangeAt
/-- a slice of numbers of 64 bits that came in: empty, or its cells -/
theorem open_u64s {H : Type} {enc : TypeId × Value → H} {P : Program} {W : World} {b0 : Nat} {r : Reach} {t e : TypeId} {v : Value} {d : DataW H} {ps : List MemPlace} (ht : P.underlying t = some (.slice e)) (he : P.underlying e = some (.int .u64)) (hc : P.cellsOf e = 1)
    (hval : Value.okWide P W r b0 t v) (h : DataW.Trod enc P W 0 (fun _ => true) true t v d ps) :
    ∃ a n c, v = .slice a n c ∧ (n = 0 ∨ ∃ B o, ∃ l : List Nat, a = some ⟨B, o, none⟩ ∧ n = l.length ∧ B < W.heap.size ∧ (∀ k, k < l.length → l.getD k 0 < 18446744073709551616) ∧
      (∀ k, k < l.length → W.cell? ⟨B, o + k, none⟩ = some (.int .u64 (l.getD k 0 : Nat))) ∧ ∃ es sp, d = .slice es sp ∧ n ≤ es.length + sp.length) := by
  obtain ⟨a, n, c, rfl⟩ := okWide_slice ht hval
  refine ⟨a, n, c, rfl, ?_⟩
  obtain ⟨fuel, hf⟩ := h
  rcases open_ints ht he hc hf with ⟨hcs, _⟩ | ⟨a', n', c', zs, hcs, _, hl, hm, hz, hx, hcell, hwz⟩
  · left
    simp [Value.cells] at hcs
    exact hcs.2.1
  · simp [Value.cells] at hcs
    obtain ⟨rfl, rfl, rfl⟩ := hcs
    rcases Nat.eq_zero_or_pos n with h0 | h0
    · exact .inl h0
    · right
      have hz' : zs.length = c := by simpa using hz
      obtain ⟨B, o, rfl, hcc⟩ := ints_at hcell (by omega)
      have hw : ∀ z ∈ zs, 0 ≤ z ∧ z ≤ 18446744073709551615 := fun z hz => by simpa [Lit.wf, IntKind.min, IntKind.max, IntKind.signed, IntKind.bits] using hwz z hz
      have hg : ∀ k, k < n → ((zs.take n).map Int.toNat).getD k 0 = (zs.getD k 0).toNat ∧ zs.getD k 0 ∈ zs := fun k hk => by
        have hk' : k < zs.length := by omega
        simp [List.getD, hk, List.getElem?_eq_getElem hk']
      have hlen : ((zs.take n).map Int.toNat).length = n := by simp; omega
      refine ⟨B, o, (zs.take n).map Int.toNat, rfl, hlen.symm, ?_, ?_, ?_, ?_⟩
      · have := hcc 0 (by omega)
        exact World.block_lt_of_cell? W _ this
      · intro k hk
        rw [hlen] at hk
        have := hg k hk
        have h2 := hw _ this.2
        rw [this.1]; omega
      · intro k hk
        rw [hlen] at hk
        have := hg k hk
        have h2 := hw _ this.2
        rw [hcc k (by omega), this.1]
        congr 2
        omega
      · simp only [Prod.mk.injEq] at hx
        refine ⟨_, _, hx.1, ?_⟩
        simp [lits]; omega
end

end Go.Proofs.YtmeaajhongalaaaGreatDoor

/-
  PLAIN MATHEMATICS: how many of the bytes from a place on are so. No program is imported.
-/
namespace Go.Proofs.YtmeaajhongalaaaGreatDoor

/-- how many of the bytes from that place on are so -/
def run (p : UInt8 → Bool) (l : List UInt8) (a : Nat) : Nat := ((l.drop a).takeWhile p).length

theorem run_le (p : UInt8 → Bool) (l : List UInt8) (a : Nat) (h : a ≤ l.length) : a + run p l a ≤ l.length := by
  unfold run
  have := (List.takeWhile_sublist p (l := l.drop a)).length_le
  rw [List.length_drop] at this
  omega
theorem run_yes {p : UInt8 → Bool} {l : List UInt8} {a : Nat} {c : UInt8} (h : l[a]? = some c) (hp : p c = true) : run p l a = run p l (a + 1) + 1 := by
  unfold run
  have ha := (List.getElem?_eq_some_iff.1 h).1
  rw [List.drop_eq_getElem_cons ha]
  have e : l[a] = c := (List.getElem?_eq_some_iff.1 h).2
  rw [e, List.takeWhile_cons, hp]
  rfl
theorem run_no {p : UInt8 → Bool} {l : List UInt8} {a : Nat} {c : UInt8} (h : l[a]? = some c) (hp : p c = false) : run p l a = 0 := by
  unfold run
  have ha := (List.getElem?_eq_some_iff.1 h).1
  rw [List.drop_eq_getElem_cons ha]
  have e : l[a] = c := (List.getElem?_eq_some_iff.1 h).2
  rw [e, List.takeWhile_cons, hp]
  rfl
theorem run_end {p : UInt8 → Bool} {l : List UInt8} {a : Nat} (h : l.length ≤ a) : run p l a = 0 := by
  unfold run; rw [List.drop_eq_nil_of_le h]; rfl
/-- all are so just if the run from the beginning is the whole -/
theorem run_all {p : UInt8 → Bool} {l : List UInt8} : (run p l 0 = l.length) ↔ l.all p = true := by
  unfold run
  rw [List.drop_zero]
  induction l with
  | nil => simp
  | cons x l ih =>
    rw [List.takeWhile_cons, List.all_cons]
    cases p x
    · simp
    · simpa using ih
theorem run_fore (c : UInt8) (l : List UInt8) : run (· != c) l 0 = (l.takeWhile (· != c)).length := by
  unfold run; rw [List.drop_zero]

theorem byte_at (s : ByteArray) (k : Nat) (h : k < s.size) : s.data.toList[k]? = some s[k] := by
  rw [List.getElem?_eq_getElem (by simpa using h)]; rfl
theorem extract_eq (s : ByteArray) (a b : Nat) : s.extract a b = ⟨((s.data.toList.drop a).take (b - a)).toArray⟩ := by
  apply ByteArray.ext
  apply Array.toList_inj.1
  rw [Lib.extract_data]
end Go.Proofs.YtmeaajhongalaaaGreatDoor

/-
  THE LIBRARY's Cut AT ONE BYTE.
-/
namespace Go.Proofs.YtmeaajhongalaaaGreatDoor.Cb
open Go.RowKit

def fore (c : UInt8) (l : List UInt8) : List UInt8 := l.takeWhile (· != c)
def aft (c : UInt8) (l : List UInt8) : List UInt8 := (l.dropWhile (· != c)).drop 1

theorem indexByte_fore (c : UInt8) : ∀ l : List UInt8, Lib.indexByte l c = if (fore c l).length < l.length then ((fore c l).length : Int) else -1 := by
  intro l
  induction l with
  | nil => rfl
  | cons x l ih =>
    unfold Lib.indexByte
    unfold fore
    rw [List.takeWhile_cons]
    by_cases h : x = c
    · subst h; simp
    · have h' : (x == c) = false := by simpa using h
      have h'' : (x != c) = true := by simpa using h
      rw [h', h'']
      unfold fore at ih
      simp only [Bool.false_eq_true, if_false, if_true, List.length_cons]
      by_cases k : (List.takeWhile (fun x => x != c) l).length < l.length
      · rw [if_pos k] at ih
        rw [ih, if_neg (by simp), if_pos (by omega)]
        omega
      · rw [if_neg k] at ih
        rw [ih, if_pos (by simp), if_neg (by omega)]

@[go_sem] theorem run_ibs (s : ByteArray) (c : Int) (w : World) : (callFunc 230 #[.string s, .int .u8 c]).run Tryz.prog w = .ok (.value (.int .i64 (Lib.indexByte s.data.toList c.toNat.toUInt8))) w := by
  rw [run_callFunc_extern (e := Extern.BytealgIndexByte.indexByte) Tryz.func230 (by kernel_rfl) (by kernel_rfl) (by kernel_rfl) (by kernel_rfl), Lib.run_indexByteString]
  rfl

theorem indexByte_any (s : ByteArray) (c : Int) (w : World) :
    Calls Tryz.prog 216 #[.string s, .int .u8 c] w fun e w' => e = .returned (.int .i64 (Lib.indexByte s.data.toList c.toNat.toUInt8)) ∧ w = w' := by
  go_enter Tryz.func216, Tryz.ntmps216
  go_wp2
  go_ret
  exact ⟨rfl, rfl⟩

theorem index_one (s : ByteArray) (c : UInt8) (w : World) :
    Calls Tryz.prog 195 #[.string s, .string ⟨#[c]⟩] w fun e w' => e = .returned (.int .i64 (Lib.indexByte s.data.toList c)) ∧ w = w' := by
  have hz := hid (fun (h : ([c] == s.toList) = true) => by
    have h : [c] = s.toList := by simpa using h
    rw [ByteArray.toList_eq] at h
    rw [← h]; simp [Lib.indexByte] : ([c] == s.toList) = true → Lib.indexByte s.data.toList c = 0)
  cases hq : ([c] == s.toList)
  · go_enter Tryz.func195, Tryz.ntmps195
    go_wp2_with (go_at_call 216; (with_reducible refine (indexByte_any _ _ _).mono ?_); rintro e w' ⟨rfl, rfl⟩)
    go_ret
    exact ⟨ret_int (by congr 1), rfl⟩
  · have hz' := hid (hz.out hq)
    go_enter Tryz.func195, Tryz.ntmps195
    go_wp2_with (go_at_call 216; (with_reducible refine (indexByte_any _ _ _).mono ?_); rintro e w' ⟨rfl, rfl⟩)
    go_ret
    exact ⟨ret_int hz'.out.symm, rfl⟩

theorem indexByte_no {s : ByteArray} {c : UInt8} (h : ¬ (fore c s.data.toList).length < s.size) : Lib.indexByte s.data.toList c = -1 := by
  rw [indexByte_fore, if_neg (by simpa using h)]
theorem indexByte_yes {s : ByteArray} {c : UInt8} (h : (fore c s.data.toList).length < s.size) : Lib.indexByte s.data.toList c = ((fore c s.data.toList).length : Nat) := by
  rw [indexByte_fore, if_pos (by simpa using h)]
theorem fore_all {c : UInt8} {l : List UInt8} (h : ¬ (fore c l).length < l.length) : fore c l = l ∧ aft c l = [] := by
  have e := List.takeWhile_append_dropWhile (p := (· != c)) (l := l)
  have e2 := congrArg List.length e
  rw [List.length_append] at e2
  unfold fore at *
  have hd : (l.dropWhile (· != c)).length = 0 := by omega
  have hd := List.eq_nil_of_length_eq_zero hd
  rw [hd, List.append_nil] at e
  refine ⟨e, ?_⟩
  unfold aft; rw [hd]; rfl
theorem fore_take (c : UInt8) (l : List UInt8) : l.take (fore c l).length = fore c l := (List.prefix_iff_eq_take.1 (List.takeWhile_prefix _)).symm
theorem drop_while (p : UInt8 → Bool) (l : List UInt8) : l.drop (l.takeWhile p).length = l.dropWhile p := by
  induction l with
  | nil => rfl
  | cons x l ih =>
    rw [List.takeWhile_cons, List.dropWhile_cons]
    cases p x
    · rfl
    · simpa using ih
theorem aft_drop (c : UInt8) (l : List UInt8) : l.drop ((fore c l).length + 1) = aft c l := by
  unfold fore aft
  rw [← List.drop_drop, drop_while]

/-- what Cut at one byte comes to: the two parts, and whether the byte was there -/
def CutIs (c : UInt8) (l : List UInt8) (w : World) (e : Ending) (w' : World) : Prop :=
  e = .returned (.tuple #[.string ⟨(fore c l).toArray⟩, .string ⟨(aft c l).toArray⟩, .bool (decide ((fore c l).length < l.length))]) ∧ Below w.heap.size w w'
theorem str_eq {s t : ByteArray} (h : s = t) : Value.string s = .string t := by rw [h]
theorem ret_tup3 {a b c a' b' c' : Value} (h : a = a') (k : b = b') (m : c = c') : Ending.returned (.tuple #[a, b, c]) = Ending.returned (.tuple #[a', b', c']) := by rw [h, k, m]

theorem cutl_any (s : ByteArray) (hs : s.size ≤ maxLen) (c : UInt8) (w : World) :
    Calls Tryz.prog 161 #[.string s, .string ⟨#[c]⟩] w (CutIs c s.data.toList w) := by
  unfold maxLen at hs
  by_cases h : (fore c s.data.toList).length < s.size
  · have hi := indexByte_yes h
    have hd := hid (show decide ((fore c s.data.toList).length < s.data.toList.length) = true from decide_eq_true (by simpa using h))
    have H1 := hid (fore_take c s.data.toList)
    have H2 := hid (aft_drop c s.data.toList)
    have hz := hid (show s.data.toList.length = s.size by simp)
    generalize (fore c s.data.toList).length = n at h hi H1 H2
    go_enter Tryz.func161, Tryz.ntmps161
    go_wp2_with (go_at_call 195; (with_reducible refine (index_one _ _ _).mono ?_); rintro e w' ⟨rfl, rfl⟩)
    go_quiet (fail)
    go_wp2
    go_ret3
    refine ⟨ret_tup3 (str_eq ?_) (str_eq ?_) (bool_eq hd.out.symm), below_drewN' (Below.refl _ _) _⟩
    · rw [← H1.out, extract_eq]; simp
    · rw [← H2.out, extract_eq, List.take_of_length_le]; simp
  · have hi := indexByte_no h
    have hd := hid (show decide ((fore c s.data.toList).length < s.data.toList.length) = false from decide_eq_false (by simpa using h))
    have H := hid (fore_all (c := c) (l := s.data.toList) (by simpa using h))
    go_enter Tryz.func161, Tryz.ntmps161
    go_wp2_with (go_at_call 195; (with_reducible refine (index_one _ _ _).mono ?_); rintro e w' ⟨rfl, rfl⟩)
    go_ret3
    refine ⟨ret_tup3 (str_eq ?_) (str_eq ?_) (bool_eq hd.out.symm), Below.refl _ _⟩
    · rw [H.out.1]
    · rw [H.out.2]

theorem cut_any (s : ByteArray) (hs : s.size ≤ maxLen) (c : UInt8) (w : World) :
    Calls Tryz.prog 129 #[.string s, .string ⟨#[c]⟩] w (CutIs c s.data.toList w) := by
  have h := hid (cutl_any s hs c w)
  clear hs
  go_enter Tryz.func129, Tryz.ntmps129
  go_wp2_with fail
  refine h.out.mono ?_
  rintro e w' ⟨rfl, hb⟩
  go_wp2_with fail
  go_ret3
  exact ⟨rfl, hb⟩

end Go.Proofs.YtmeaajhongalaaaGreatDoor.Cb

/-
  PLAIN MATHEMATICS: a text as a number, a number's decimal digits. No program is imported.
-/
namespace Go.Proofs.YtmeaajhongalaaaGreatDoor.Nu
open Go.Proofs.YtmeaajhongalaaaGreatDoor

def dgB (c : UInt8) : Bool := decide (48 ≤ c.toNat) && decide (c.toNat ≤ 57)
def digV (l : List UInt8) : Nat := l.foldl (fun n c => 10 * n + (c.toNat - 48)) 0
def numB (l : List UInt8) : Bool := decide (1 ≤ l.length ∧ l.length ≤ 9 ∧ ¬ (1 < l.length ∧ l[0]? = some 48) ∧ run dgB l 0 = l.length)
def numN (l : List UInt8) : Nat := if numB l then digV l else 0

theorem digV_next {l : List UInt8} {k : Nat} {c : UInt8} (h : l[k]? = some c) : digV (l.take (k + 1)) = 10 * digV (l.take k) + (c.toNat - 48) := by
  unfold digV
  rw [List.take_add_one, h, List.foldl_append]; rfl
theorem digV_lt {l : List UInt8} {k : Nat} {c : UInt8} (h : l[k]? = some c) (hc : dgB c = true) (hk : digV (l.take k) < 10 ^ k) : digV (l.take (k + 1)) < 10 ^ (k + 1) := by
  rw [digV_next h, Nat.pow_succ]
  unfold dgB at hc
  simp only [Bool.and_eq_true, decide_eq_true_eq] at hc
  omega
theorem pow8 {k : Nat} (h : k ≤ 8) : 10 ^ k ≤ 100000000 := Nat.le_trans (Nat.pow_le_pow_right (by decide) h) (by decide)
theorem num_off {l : List UInt8} {k : Nat} {c : UInt8} (hr : run dgB l 0 = k + run dgB l k) (h : l[k]? = some c) (hc : dgB c = false) : numB l = false := by
  apply decide_eq_false
  rintro ⟨_, _, _, h'⟩
  rw [hr, run_no h hc] at h'
  have : k < l.length := by
    rcases Nat.lt_or_ge k l.length with h'' | h''
    · exact h''
    · rw [List.getElem?_eq_none h''] at h; cases h
  omega

theorem dgB_int (c : UInt8) : dgB c = (decide (48 ≤ (c.toNat : Int)) && decide ((c.toNat : Int) ≤ 57)) := by
  unfold dgB
  rw [Bool.eq_iff_iff]; simp; omega

def chr (d : Nat) : UInt8 := UInt8.ofNat (48 + d % 10)
def decS (n : Nat) : List UInt8 := if n < 10 then [chr n] else decS (n / 10) ++ [chr n]
decreasing_by omega

theorem decS_small {n : Nat} (h : n < 10) : decS n = [chr n] := by rw [decS]; simp [h]
theorem decS_big {n : Nat} (h : ¬ n < 10) : decS n = decS (n / 10) ++ [chr n] := by rw [decS]; simp [h]

theorem chr_dig {c : UInt8} {a : Nat} (h : dgB c = true) : chr (10 * a + (c.toNat - 48)) = c := by
  unfold dgB at h
  simp only [Bool.and_eq_true, decide_eq_true_eq] at h
  unfold chr
  apply UInt8.toNat_inj.1
  rw [UInt8.toNat_ofNat']
  have := c.toNat_lt
  omega

theorem digV_snoc (l : List UInt8) (c : UInt8) : digV (l ++ [c]) = 10 * digV l + (c.toNat - 48) := by
  unfold digV; rw [List.foldl_append]; rfl
theorem dig_fold (l : List UInt8) : ∀ a : Nat, a ≤ l.foldl (fun n c => 10 * n + (c.toNat - 48)) a := by
  induction l with
  | nil => intro a; exact Nat.le_refl _
  | cons c l ih => intro a; rw [List.foldl_cons]; exact Nat.le_trans (show a ≤ 10 * a + (c.toNat - 48) by omega) (ih _)

theorem digV_pos {c : UInt8} {l : List UInt8} (hc : dgB c = true) (h : c ≠ 48) : 1 ≤ digV (c :: l) := by
  unfold dgB at hc
  simp only [Bool.and_eq_true, decide_eq_true_eq] at hc
  have h0 : c.toNat ≠ 48 := fun e => h (UInt8.toNat_inj.1 e)
  have := dig_fold l (10 * 0 + (c.toNat - 48))
  unfold digV
  rw [List.foldl_cons]
  omega

theorem decS_digits : ∀ (n : Nat) (l : List UInt8), l.length = n → l ≠ [] → (∀ c, c ∈ l → dgB c = true) → (l.length = 1 ∨ l.head? ≠ some 48) → decS (digV l) = l := by
  intro n
  induction n with
  | zero => intro l h1 h2; exact absurd (List.eq_nil_of_length_eq_zero h1) h2
  | succ n ih =>
    intro l h1 h2 h3 h4
    obtain ⟨v, c, rfl⟩ : ∃ v c, l = v ++ [c] := ⟨l.dropLast, l.getLast h2, (List.dropLast_concat_getLast h2).symm⟩
    have hc := h3 c (by simp)
    rw [digV_snoc]
    by_cases hv : v = []
    · subst hv
      have e : digV [] = 0 := rfl
      rw [e]
      have hc' := hc
      unfold dgB at hc'
      simp only [Bool.and_eq_true, decide_eq_true_eq] at hc'
      rw [decS_small (by omega), chr_dig hc]; rfl
    · have hvl : v.length = n := by simpa using h1
      have hhead : (v ++ [c]).head? = v.head? := by
        cases v with
        | nil => exact absurd rfl hv
        | cons a v => rfl
      have hn48 : v.head? ≠ some 48 := by
        rcases h4 with h | h
        · rw [List.length_append, List.length_singleton] at h
          exact absurd (List.eq_nil_of_length_eq_zero (by omega)) hv
        · rwa [hhead] at h
      have hpos : 1 ≤ digV v := by
        cases v with
        | nil => exact absurd rfl hv
        | cons a v =>
          refine digV_pos (h3 a (by simp)) ?_
          rintro rfl
          exact hn48 rfl
      have hc' := hc
      unfold dgB at hc'
      simp only [Bool.and_eq_true, decide_eq_true_eq] at hc'
      rw [decS_big (by omega), chr_dig hc, show (10 * digV v + (c.toNat - 48)) / 10 = digV v by omega, ih v hvl hv (fun c hc => h3 c (by simp [hc])) (.inr hn48)]

theorem run_all' {p : UInt8 → Bool} {l : List UInt8} (h : run p l 0 = l.length) : ∀ c, c ∈ l → p c = true := fun c hc => List.all_eq_true.1 (run_all.1 h) c hc

theorem numN_dec {l : List UInt8} (h : numB l = true) : decS (numN l) = l := by
  have hh := h
  obtain ⟨h1, h2, h3, h4⟩ := of_decide_eq_true hh
  unfold numN
  rw [h, if_pos rfl]
  refine decS_digits _ l rfl (List.length_pos_iff.1 h1) (run_all' h4) ?_
  by_cases h5 : l.length = 1
  · exact .inl h5
  · right
    intro h6
    apply h3
    refine ⟨by omega, ?_⟩
    rw [← List.head?_eq_getElem?]; exact h6
theorem numN_lt {l : List UInt8} (h : numB l = true) : numN l < 1000000000 := by
  obtain ⟨h1, h2, h3, h4⟩ := of_decide_eq_true h
  unfold numN
  rw [h, if_pos rfl]
  have key : ∀ k, k ≤ l.length → digV (l.take k) < 10 ^ k := by
    intro k
    induction k with
    | zero => intro _; simp [digV]
    | succ k ih =>
      intro hk
      have hk' : k < l.length := by omega
      exact digV_lt (List.getElem?_eq_getElem hk') (run_all' h4 _ (List.getElem_mem hk')) (ih (by omega))
  have := key l.length (Nat.le_refl _)
  rw [List.take_of_length_le (Nat.le_refl _)] at this
  exact Nat.lt_of_lt_of_le this (Nat.le_trans (Nat.pow_le_pow_right (by decide) h2) (by decide))

/-- the loop's view: what is still to be written ahead of what is -/
theorem dec_step {n : Nat} (h : ¬ n < 10) (s : List UInt8) : decS n ++ s = decS (n / 10) ++ (chr n :: s) := by rw [decS_big h]; simp

theorem chr_int (n : Nat) : (48 + ((n : Int) % 10)) = ((chr n).toNat : Int) := by
  unfold chr
  rw [UInt8.toNat_ofNat']
  have : n % 10 < 10 := Nat.mod_lt _ (by decide)
  omega
theorem dec_len : ∀ (k n : Nat), n ≤ k → (decS n).length ≤ n + 1 := by
  intro k
  induction k with
  | zero => intro n h; rw [decS_small (by omega)]; simp
  | succ k ih =>
    intro n h
    by_cases hn : n < 10
    · rw [decS_small hn]; simp
    · rw [decS_big hn, List.length_append, List.length_singleton]
      have := ih (n / 10) (by omega)
      omega


theorem dec_same (u : Nat) : Lib.decDigits u = decS u := by
  induction u using Nat.strongRecOn with
  | _ u ih =>
    rw [Lib.decDigits]
    by_cases h : u < 10
    · rw [dif_pos h, decS_small h]; unfold chr; rw [Nat.mod_eq_of_lt h]
    · rw [dif_neg h, decS_big h, ih (u / 10) (by omega)]; rfl
theorem itoa_same (u : Nat) : Lib.itoa (u : Int) = decS u := by
  unfold Lib.itoa; rw [if_neg (by omega), Int.toNat_natCast, dec_same]

theorem dig_decFrom : ∀ (l : List UInt8) (a : Nat), (∀ c, c ∈ l → dgB c = true) → Lib.decFrom a l = some (l.foldl (fun n c => 10 * n + (c.toNat - 48)) a) := by
  intro l
  induction l with
  | nil => intro a _; rfl
  | cons c l ih =>
    intro a h
    have hc := h c (by simp)
    unfold dgB at hc
    simp only [Bool.and_eq_true, decide_eq_true_eq] at hc
    unfold Lib.decFrom Lib.digitVal
    rw [if_pos hc]
    simp only [List.foldl_cons]
    rw [ih _ (fun c' h' => h c' (by simp [h'])), Nat.mul_comm a 10]
theorem atoi_dig {l : List UInt8} (h0 : l ≠ []) (h : ∀ c, c ∈ l → dgB c = true) : Lib.atoi l = some (digV l : Int) := by
  cases l with
  | nil => exact absurd rfl h0
  | cons b r =>
    have hb := h b (by simp)
    unfold dgB at hb
    simp only [Bool.and_eq_true, decide_eq_true_eq] at hb
    have h1 : (b == 45) = false := by rw [beq_eq_false_iff_ne]; rintro rfl; simp at hb
    have h2 : (b == 43) = false := by rw [beq_eq_false_iff_ne]; rintro rfl; simp at hb
    show (if b == 45 then _ else if b == 43 then _ else _) = _
    rw [h1, h2]
    simp only [Bool.false_eq_true, if_false]
    unfold Lib.decNat
    rw [if_neg (by simp), dig_decFrom _ 0 h]
    rfl

theorem decS_len : ∀ (k n : Nat), n < 10 ^ (k + 1) → (decS n).length ≤ k + 1 := by
  intro k
  induction k with
  | zero => intro n h; rw [decS_small (by omega)]; simp
  | succ k ih =>
    intro n h
    by_cases hn : n < 10
    · rw [decS_small hn]; simp
    · rw [decS_big hn, List.length_append, List.length_singleton]
      rw [Nat.pow_succ] at h
      have := ih (n / 10) (by omega)
      omega
theorem chr_ok (n : Nat) : dgB (chr n) = true := by
  unfold dgB chr
  rw [UInt8.toNat_ofNat']
  have : n % 10 < 10 := Nat.mod_lt _ (by decide)
  simp only [Bool.and_eq_true, decide_eq_true_eq]
  omega
theorem decS_all : ∀ (k n : Nat), n < 10 ^ (k + 1) → ∀ c, c ∈ decS n → dgB c = true := by
  intro k
  induction k with
  | zero => intro n h c hc; rw [decS_small (by omega)] at hc; simp at hc; subst hc; exact chr_ok n
  | succ k ih =>
    intro n h c hc
    by_cases hn : n < 10
    · rw [decS_small hn] at hc; simp at hc; subst hc; exact chr_ok n
    · rw [decS_big hn, List.mem_append] at hc
      rw [Nat.pow_succ] at h
      rcases hc with hc | hc
      · exact ih _ (by omega) c hc
      · simp at hc; subst hc; exact chr_ok n
theorem decS_head : ∀ (k n : Nat), n < 10 ^ (k + 1) → 10 ≤ n → (decS n).head? ≠ some 48 := by
  intro k
  induction k with
  | zero => intro n h h'; omega
  | succ k ih =>
    intro n h h'
    rw [decS_big (by omega)]
    rw [Nat.pow_succ] at h
    by_cases hn : n / 10 < 10
    · rw [decS_small hn]
      intro hx
      simp only [List.singleton_append, List.head?_cons, Option.some.injEq] at hx
      unfold chr at hx
      have := congrArg UInt8.toNat hx
      rw [UInt8.toNat_ofNat'] at this
      have e : (48 : UInt8).toNat = 48 := rfl
      omega
    · have := ih (n / 10) (by omega) (by omega)
      intro hx
      apply this
      have hne : decS (n / 10) ≠ [] := by rw [decS_big (by omega)]; simp
      cases hd : decS (n / 10) with
      | nil => exact absurd hd hne
      | cons x xs => rw [hd] at hx; exact hx
theorem decS_digV : ∀ (k n : Nat), n < 10 ^ (k + 1) → digV (decS n) = n := by
  intro k
  induction k with
  | zero =>
    intro n h
    have h : n < 10 := by omega
    rw [decS_small h]
    unfold digV chr
    simp only [List.foldl_cons, List.foldl_nil]
    rw [UInt8.toNat_ofNat']; omega
  | succ k ih =>
    intro n h
    by_cases hn : n < 10
    · rw [decS_small hn]
      unfold digV chr
      simp only [List.foldl_cons, List.foldl_nil]
      rw [UInt8.toNat_ofNat']; omega
    · rw [decS_big hn, digV_snoc]
      rw [Nat.pow_succ] at h
      rw [ih _ (by omega)]
      unfold chr
      rw [UInt8.toNat_ofNat']; omega
theorem decS_ne (n : Nat) : decS n ≠ [] := by
  by_cases h : n < 10
  · rw [decS_small h]; simp
  · rw [decS_big h]; simp
/-- a number of at most six digits is what its digits say -/
theorem num_of_dec {n : Nat} (h : n < 1000000) : numB (decS n) = true ∧ (decS n).length ≤ 6 ∧ numN (decS n) = n := by
  have h6 : n < 10 ^ (5 + 1) := by simpa using h
  have hl := decS_len 5 n h6
  have ha := decS_all 5 n h6
  have hb : numB (decS n) = true := by
    apply decide_eq_true
    refine ⟨List.length_pos_iff.2 (decS_ne n), by omega, ?_, run_all.2 (List.all_eq_true.2 ha)⟩
    rintro ⟨h1, h2⟩
    by_cases hn : n < 10
    · rw [decS_small hn] at h1; simp at h1
    · rw [← List.head?_eq_getElem?] at h2
      exact decS_head 5 n h6 (by omega) h2
  refine ⟨hb, hl, ?_⟩
  unfold numN
  rw [hb, if_pos rfl, decS_digV 5 n h6]
/-- digits without a 0 ahead: of two the longer one is the greater one; of as many the first that differs decides -/
theorem numB_iff {l : List UInt8} : numB l = true ↔ 1 ≤ l.length ∧ l.length ≤ 9 ∧ ¬ (1 < l.length ∧ l[0]? = some 48) ∧ l.all dgB = true := by
  unfold numB
  rw [decide_eq_true_iff, run_all]
end Go.Proofs.YtmeaajhongalaaaGreatDoor.Nu

/-
  LAYER 3, PLAIN MATHEMATICS: texts cut at each such byte, versions' texts. No program is imported.
-/
namespace Go.Proofs.YtmeaajhongalaaaGreatDoor.Vs
open Go.Proofs.YtmeaajhongalaaaGreatDoor Go.Proofs.YtmeaajhongalaaaGreatDoor.Nu

def fore (c : UInt8) (l : List UInt8) : List UInt8 := l.takeWhile (· != c)
def aft (c : UInt8) (l : List UInt8) : List UInt8 := (l.dropWhile (· != c)).drop 1

/-- a text, cut at each such byte -/
def cutA (c : UInt8) (done : List (List UInt8)) (cur : List UInt8) : List UInt8 → List (List UInt8)
  | [] => done ++ [cur]
  | x :: l => if x == c then cutA c (done ++ [cur]) [] l else cutA c done (cur ++ [x]) l
def cutl (c : UInt8) (l : List UInt8) : List (List UInt8) := cutA c [] [] l

theorem cutA_done (c : UInt8) : ∀ (l cur : List UInt8) (done : List (List UInt8)), cutA c done cur l = done ++ cutA c [] cur l := by
  intro l
  induction l with
  | nil => intro cur done; simp [cutA]
  | cons x l ih =>
    intro cur done
    unfold cutA
    by_cases h : (x == c) = true
    · rw [if_pos h, if_pos h, ih [] (done ++ [cur]), ih [] ([] ++ [cur])]; simp
    · rw [if_neg h, if_neg h, ih _ done]
theorem cutA_no (c : UInt8) : ∀ (l cur : List UInt8), c ∉ l → cutA c [] cur l = [cur ++ l] := by
  intro l
  induction l with
  | nil => intro cur _; simp [cutA]
  | cons x l ih =>
    intro cur h
    unfold cutA
    rw [if_neg (by simp; rintro rfl; exact h (by simp)), ih _ (fun h' => h (by simp [h']))]; simp
theorem cutA_hit (c : UInt8) : ∀ (a cur r : List UInt8), c ∉ a → cutA c [] cur (a ++ c :: r) = (cur ++ a) :: cutl c r := by
  intro a
  induction a with
  | nil => intro cur r _; rw [List.nil_append, cutA, if_pos (by simp), cutA_done]; simp [cutl]
  | cons x a ih =>
    intro cur r h
    rw [List.cons_append, cutA, if_neg (by simp; rintro rfl; exact h (by simp)), ih _ _ (fun h' => h (by simp [h']))]; simp
theorem cutl_no {c : UInt8} {l : List UInt8} (h : c ∉ l) : cutl c l = [l] := by unfold cutl; rw [cutA_no c l [] h]; rfl
theorem cutl_hit {c : UInt8} {a r : List UInt8} (h : c ∉ a) : cutl c (a ++ c :: r) = a :: cutl c r := by
  rw [show cutl c (a ++ c :: r) = cutA c [] [] (a ++ c :: r) from rfl, cutA_hit c a [] r h]; rfl

/-- the pieces with that byte between -/
def joinl (c : UInt8) : List (List UInt8) → List UInt8
  | [] => []
  | [p] => p
  | p :: q :: ps => p ++ c :: joinl c (q :: ps)
theorem splits {c : UInt8} : ∀ (l : List UInt8), c ∈ l → ∃ a r, l = a ++ c :: r ∧ c ∉ a := by
  intro l
  induction l with
  | nil => intro h; simp at h
  | cons x l ih =>
    intro h
    by_cases hx : x = c
    · subst hx; exact ⟨[], l, rfl, by simp⟩
    · have h' : c ∈ l := by rcases List.mem_cons.1 h with h | h; exact absurd h.symm hx; exact h
      obtain ⟨a, r, rfl, ha⟩ := ih h'
      exact ⟨x :: a, r, rfl, by simp [ha]; exact fun e => hx e.symm⟩
theorem cutl_ne (c : UInt8) (l : List UInt8) : cutl c l ≠ [] := by
  by_cases h : c ∈ l
  · obtain ⟨a, r, rfl, ha⟩ := splits l h; rw [cutl_hit ha]; simp
  · rw [cutl_no h]; simp
theorem joinl_cons {c : UInt8} {p : List UInt8} {ps : List (List UInt8)} (h : ps ≠ []) : joinl c (p :: ps) = p ++ c :: joinl c ps := by
  cases ps with
  | nil => exact absurd rfl h
  | cons q ps => rfl
theorem join_cut (c : UInt8) : ∀ (n : Nat) (l : List UInt8), l.length ≤ n → joinl c (cutl c l) = l := by
  intro n
  induction n with
  | zero => intro l h; obtain rfl := List.eq_nil_of_length_eq_zero (Nat.le_zero.1 h); rfl
  | succ n ih =>
    intro l hl
    by_cases h : c ∈ l
    · obtain ⟨a, r, rfl, ha⟩ := splits l h
      rw [cutl_hit ha, joinl_cons (cutl_ne c r), ih r (by simp at hl; omega)]
    · rw [cutl_no h]; rfl
theorem join_cutl (c : UInt8) (l : List UInt8) : joinl c (cutl c l) = l := join_cut c l.length l (Nat.le_refl _)
theorem cutl_mem (c : UInt8) : ∀ (n : Nat) (l : List UInt8), l.length ≤ n → ∀ p, p ∈ cutl c l → c ∉ p ∧ p.length ≤ l.length := by
  intro n
  induction n with
  | zero =>
    intro l h p hp; obtain rfl := List.eq_nil_of_length_eq_zero (Nat.le_zero.1 h)
    rw [cutl_no (by simp)] at hp; simp at hp; subst hp; simp
  | succ n ih =>
    intro l hl p hp
    by_cases h : c ∈ l
    · obtain ⟨a, r, rfl, ha⟩ := splits l h
      rw [cutl_hit ha] at hp
      rcases List.mem_cons.1 hp with rfl | hp
      · exact ⟨ha, by simp⟩
      · have := ih r (by simp at hl; omega) p hp
        exact ⟨this.1, by simp; omega⟩
    · rw [cutl_no h] at hp; simp at hp; subst hp; exact ⟨h, Nat.le_refl _⟩
theorem cutl_join {c : UInt8} : ∀ {ps : List (List UInt8)}, ps ≠ [] → (∀ p, p ∈ ps → c ∉ p) → cutl c (joinl c ps) = ps := by
  intro ps
  induction ps with
  | nil => intro h; exact absurd rfl h
  | cons p ps ih =>
    intro _ h
    by_cases hp : ps = []
    · subst hp; exact cutl_no (h p (by simp))
    · rw [joinl_cons hp, cutl_hit (h p (by simp)), ih hp (fun q hq => h q (by simp [hq]))]
theorem cutl_len (c : UInt8) : ∀ (n : Nat) (l : List UInt8), l.length ≤ n → (cutl c l).length ≤ l.length + 1 := by
  intro n
  induction n with
  | zero => intro l h; obtain rfl := List.eq_nil_of_length_eq_zero (Nat.le_zero.1 h); rw [cutl_no (by simp)]; simp
  | succ n ih =>
    intro l hl
    by_cases h : c ∈ l
    · obtain ⟨a, r, rfl, ha⟩ := splits l h
      rw [cutl_hit ha, List.length_cons]
      have := ih r (by simp at hl; omega)
      simp; omega
    · rw [cutl_no h]; simp

/-! the library's cut, so many times at most -/
theorem index_no {c : UInt8} : ∀ {l : List UInt8}, c ∉ l → Lib.index l [c] = -1 := by
  intro l
  induction l with
  | nil => intro _; rfl
  | cons x l ih =>
    intro h
    have hx : ([c] : List UInt8).isPrefixOf (x :: l) = false := by
      simp [List.isPrefixOf]; intro e; exact absurd (by simp [e]) h
    unfold Lib.index
    rw [hx, ih (fun h' => h (by simp [h']))]; rfl
theorem index_hit {c : UInt8} : ∀ {a r : List UInt8}, c ∉ a → Lib.index (a ++ c :: r) [c] = a.length := by
  intro a
  induction a with
  | nil => intro r _; simp [Lib.index, List.isPrefixOf]
  | cons x a ih =>
    intro r h
    have hx : ([c] : List UInt8).isPrefixOf (x :: (a ++ c :: r)) = false := by
      simp [List.isPrefixOf]; intro e; exact absurd (by simp [e]) h
    rw [List.cons_append]
    unfold Lib.index
    rw [hx, ih (fun h' => h (by simp [h']))]
    have : ((a.length : Int) == -1) = false := by rw [beq_eq_false_iff_ne]; omega
    simp [this]
theorem splitK_cut (c : UInt8) : ∀ (k : Nat) (l : List UInt8), ((cutl c l).length ≤ k + 1 → Lib.splitK [c] 0 k l = cutl c l) ∧ (k + 1 < (cutl c l).length → (Lib.splitK [c] 0 k l).length = k + 1) := by
  intro k
  induction k with
  | zero =>
    intro l
    refine ⟨fun h => ?_, fun h => rfl⟩
    by_cases hc : c ∈ l
    · obtain ⟨a, r, rfl, ha⟩ := splits l hc
      rw [cutl_hit ha, List.length_cons] at h
      exact absurd (List.eq_nil_of_length_eq_zero (by omega)) (cutl_ne c r)
    · rw [cutl_no hc]; rfl
  | succ k ih =>
    intro l
    by_cases hc : c ∈ l
    · obtain ⟨a, r, rfl, ha⟩ := splits l hc
      have e : Lib.splitK [c] 0 (k + 1) (a ++ c :: r) = a :: Lib.splitK [c] 0 k r := by
        unfold Lib.splitK
        rw [index_hit ha]
        have h1 : ((a.length : Int) == -1) = false := by rw [beq_eq_false_iff_ne]; omega
        rw [h1]
        simp only [Bool.false_eq_true, if_false, Int.toNat_natCast, Nat.add_zero, List.length_singleton]
        rw [List.take_left', show (a ++ c :: r).drop (a.length + 1) = r by rw [← List.drop_drop, List.drop_left]; rfl]
        cases k <;> rfl
        rfl
      rw [cutl_hit ha, e, List.length_cons, List.length_cons]
      obtain ⟨i1, i2⟩ := ih r
      exact ⟨fun h => by rw [i1 (by omega)], fun h => by rw [i2 (by omega)]⟩
    · have e : Lib.splitK [c] 0 (k + 1) l = [l] := by
        unfold Lib.splitK; rw [index_no hc]; rfl
      rw [cutl_no hc, e]
      exact ⟨fun _ => rfl, fun h => by simp at h⟩
/-- at most n pieces, of a text's bytes -/
theorem splitN_cut (c : UInt8) (n : Nat) (hn : 1 ≤ n) (s : ByteArray) :
    ((cutl c s.data.toList).length ≤ n → Lib.splitB ⟨#[c]⟩ 0 (min n (s.size + 1) - 1) s = (cutl c s.data.toList).map fun p => ⟨p.toArray⟩) ∧
    (n < (cutl c s.data.toList).length → (Lib.splitB ⟨#[c]⟩ 0 (min n (s.size + 1) - 1) s).length = n) := by
  have hd := Lib.splitB_data ⟨#[c]⟩ 0 (min n (s.size + 1) - 1) s
  have hl := cutl_len c _ s.data.toList (Nat.le_refl _)
  have hs : s.data.toList.length = s.size := by simp
  obtain ⟨h1, h2⟩ := splitK_cut c (min n (s.size + 1) - 1) s.data.toList
  have hcc : (⟨#[c]⟩ : ByteArray).data.toList = [c] := rfl
  rw [hcc] at hd
  constructor
  · intro h
    rw [h1 (by omega)] at hd
    rw [← hd, List.map_map]
    rw [List.map_congr_left (g := id) (fun x _ => by apply ByteArray.ext; simp)]
    simp
  · intro h
    have := congrArg List.length hd
    rw [List.length_map, h2 (by omega)] at this
    rw [this]; omega
end Go.Proofs.YtmeaajhongalaaaGreatDoor.Vs

/-
  LAYER 3, PLAIN MATHEMATICS: what a version's text is; versions in their order. No program is imported.
-/
namespace Go.Proofs.YtmeaajhongalaaaGreatDoor.Vs
open Go.Proofs.YtmeaajhongalaaaGreatDoor Go.Proofs.YtmeaajhongalaaaGreatDoor.Nu

def pB (c : UInt8) : Bool := dgB c || (decide (97 ≤ c.toNat) && decide (c.toNat ≤ 122)) || (c == 45)
/-- does a 0 stand ahead of other digits? -/
def padB (l : List UInt8) : Bool := decide (1 < l.length ∧ l[0]? = some 48)
def partV (l : List UInt8) : Bool := decide (1 ≤ l.length ∧ l.length ≤ 8) && l.all pB && !(l.all dgB && padB l)
def preV (l : List UInt8) : Bool := decide ((cutl 46 l).length ≤ 4) && (cutl 46 l).all partV
def numV (l : List UInt8) : Bool := numB l && decide (l.length ≤ 6)
def numsV (l : List UInt8) : Bool := decide ((cutl 46 l).length = 3) && (cutl 46 l).all numV
def hasPre (l : List UInt8) : Bool := decide ((fore 45 l).length < l.length)
def verV (l : List UInt8) : Bool := numsV (fore 45 l) && (!hasPre l || preV (aft 45 l))
def nth (l : List UInt8) (i : Nat) : Nat := numN ((cutl 46 (fore 45 l)).getD i [])

def textN (a b c : Nat) : List UInt8 := decS a ++ 46 :: (decS b ++ 46 :: decS c)
def textV (a b c : Nat) (pre : List UInt8) : List UInt8 := textN a b c ++ (if pre = [] then [] else 45 :: pre)

theorem fore_self {c : UInt8} : ∀ {l : List UInt8}, c ∉ l → fore c l = l := by
  intro l
  induction l with
  | nil => intro _; rfl
  | cons x l ih =>
    intro h
    have hx : (x != c) = true := by simp; intro e; exact h (by simp [e])
    unfold fore at *
    rw [List.takeWhile_cons, hx, if_pos rfl, ih (fun k => h (List.mem_cons_of_mem _ k))]
theorem fore_cut {c : UInt8} : ∀ {l r : List UInt8}, c ∉ l → fore c (l ++ c :: r) = l ∧ aft c (l ++ c :: r) = r := by
  intro l
  induction l with
  | nil => intro r _; exact ⟨by simp [fore], by simp [aft]⟩
  | cons x l ih =>
    intro r h
    have hx : (x != c) = true := by simp; intro e; exact h (by simp [e])
    have := ih (r := r) (fun k => h (List.mem_cons_of_mem _ k))
    unfold fore aft at *
    rw [List.cons_append, List.takeWhile_cons, List.dropWhile_cons, hx]
    exact ⟨by rw [if_pos rfl, this.1], this.2⟩
theorem aft_no {c : UInt8} : ∀ {l : List UInt8}, c ∉ l → aft c l = [] := by
  intro l
  induction l with
  | nil => intro _; rfl
  | cons x l ih =>
    intro h
    have hx : (x != c) = true := by simp; intro e; exact h (by simp [e])
    unfold aft at *
    rw [List.dropWhile_cons, hx, if_pos rfl, ih (fun k => h (List.mem_cons_of_mem _ k))]

theorem preV_ne {l : List UInt8} (h : preV l = true) : l ≠ [] := by
  rintro rfl
  unfold preV at h
  rw [cutl_no (by simp)] at h
  simp [partV] at h

/-- a text without or with that byte -/
theorem hasPre_cases (l : List UInt8) : (45 ∉ l ∧ hasPre l = false ∧ fore 45 l = l ∧ aft 45 l = []) ∨ (hasPre l = true ∧ 45 ∉ fore 45 l ∧ l = fore 45 l ++ 45 :: aft 45 l) := by
  by_cases h : 45 ∈ l
  · obtain ⟨a, r, rfl, ha⟩ := splits l h
    have := fore_cut (r := r) ha
    right
    unfold hasPre
    rw [this.1, this.2]
    exact ⟨decide_eq_true (by simp), ha, rfl⟩
  · left
    have := fore_self h
    unfold hasPre
    exact ⟨h, decide_eq_false (by rw [this]; omega), this, aft_no h⟩

/-- three numbers -/
theorem nums_three {l : List UInt8} (h : numsV l = true) : ∃ a b c, cutl 46 l = [a, b, c] ∧ numV a = true ∧ numV b = true ∧ numV c = true := by
  unfold numsV at h
  simp only [Bool.and_eq_true, decide_eq_true_eq] at h
  obtain ⟨h1, h2⟩ := h
  match hc : cutl 46 l, h1, h2 with
  | [a, b, c], _, h2 =>
    simp at h2
    exact ⟨a, b, c, rfl, h2.1, h2.2.1, h2.2.2⟩

theorem numV_of {l : List UInt8} (h : numV l = true) : numB l = true ∧ l.length ≤ 6 := by
  unfold numV at h; simpa using h
theorem numN_six {l : List UInt8} (h : numV l = true) : numN l < 1000000 := by
  obtain ⟨h1, h2⟩ := numV_of h
  obtain ⟨_, _, _, h4⟩ := of_decide_eq_true h1
  have key : ∀ k, k ≤ l.length → digV (l.take k) < 10 ^ k := by
    intro k
    induction k with
    | zero => intro _; simp [digV]
    | succ k ih =>
      intro hk
      have hk' : k < l.length := by omega
      exact digV_lt (List.getElem?_eq_getElem hk') (run_all' h4 _ (List.getElem_mem hk')) (ih (by omega))
  have := key l.length (Nat.le_refl _)
  rw [List.take_of_length_le (Nat.le_refl _)] at this
  unfold numN
  rw [h1, if_pos rfl]
  exact Nat.lt_of_lt_of_le this (Nat.le_trans (Nat.pow_le_pow_right (by decide) h2) (by decide))

/-- a version's text is the text of what it is parsed as -/
theorem text_of {l : List UInt8} (h : verV l = true) : textV (nth l 0) (nth l 1) (nth l 2) (aft 45 l) = l ∧ nth l 0 < 1000000 ∧ nth l 1 < 1000000 ∧ nth l 2 < 1000000 ∧ (aft 45 l = [] ∨ preV (aft 45 l) = true) ∧ (hasPre l = decide (aft 45 l ≠ [])) := by
  unfold verV at h
  simp only [Bool.and_eq_true] at h
  obtain ⟨h1, h2⟩ := h
  obtain ⟨a, b, c, hc, ha, hb, hcc⟩ := nums_three h1
  have hn : textN (nth l 0) (nth l 1) (nth l 2) = fore 45 l := by
    have := join_cutl 46 (fore 45 l)
    rw [hc] at this
    unfold textN nth
    rw [hc]
    show decS (numN a) ++ 46 :: (decS (numN b) ++ 46 :: decS (numN c)) = _
    rw [numN_dec (numV_of ha).1, numN_dec (numV_of hb).1, numN_dec (numV_of hcc).1]
    exact this
  have e0 : nth l 0 = numN a := by unfold nth; rw [hc]; rfl
  have e1 : nth l 1 = numN b := by unfold nth; rw [hc]; rfl
  have e2 : nth l 2 = numN c := by unfold nth; rw [hc]; rfl
  refine ⟨?_, by rw [e0]; exact numN_six ha, by rw [e1]; exact numN_six hb, by rw [e2]; exact numN_six hcc, ?_, ?_⟩
  · unfold textV
    rw [hn]
    rcases hasPre_cases l with ⟨_, p1, p2, p3⟩ | ⟨p1, p2, p3⟩
    · rw [p3, if_pos rfl, List.append_nil, p2]
    · rw [p1] at h2
      rw [if_neg (preV_ne (by simpa using h2))]
      exact p3.symm
  · rcases hasPre_cases l with ⟨_, p1, p2, p3⟩ | ⟨p1, p2, p3⟩
    · exact .inl p3
    · rw [p1] at h2; exact .inr (by simpa using h2)
  · rcases hasPre_cases l with ⟨_, p1, p2, p3⟩ | ⟨p1, p2, p3⟩
    · rw [p1, p3]; rfl
    · rw [p1] at h2 ⊢
      exact (decide_eq_true (preV_ne (by simpa using h2))).symm

theorem dec_no (n : Nat) (h : n < 1000000) (c : UInt8) (hc : dgB c = false) : c ∉ decS n := fun h' => by
  have := decS_all 5 n (by simpa using h) c h'
  rw [hc] at this; cases this
/-- three numbers and what may stand behind them are a version's text, and it says these -/
theorem of_text {a b c : Nat} {pre : List UInt8} (ha : a < 1000000) (hb : b < 1000000) (hc : c < 1000000) :
    verV (textV a b c pre) = decide (pre = [] ∨ preV pre = true) ∧ nth (textV a b c pre) 0 = a ∧ nth (textV a b c pre) 1 = b ∧ nth (textV a b c pre) 2 = c ∧ aft 45 (textV a b c pre) = pre := by
  have n45 : (45 : UInt8) ∉ textN a b c := by
    unfold textN
    simp only [List.mem_append, List.mem_cons, not_or]
    exact ⟨dec_no a ha 45 rfl, by decide, dec_no b hb 45 rfl, by decide, dec_no c hc 45 rfl⟩
  have hcut : cutl 46 (textN a b c) = [decS a, decS b, decS c] := by
    unfold textN
    rw [cutl_hit (dec_no a ha 46 rfl), cutl_hit (dec_no b hb 46 rfl), cutl_no (dec_no c hc 46 rfl)]
  have vN : ∀ n, n < 1000000 → numV (decS n) = true := fun n h => by
    obtain ⟨h1, h2, _⟩ := num_of_dec h
    unfold numV; rw [h1, decide_eq_true h2]; rfl
  have hnums : numsV (textN a b c) = true := by
    unfold numsV; rw [hcut]; simp [vN a ha, vN b hb, vN c hc]
  have hf : fore 45 (textV a b c pre) = textN a b c ∧ aft 45 (textV a b c pre) = pre ∧ hasPre (textV a b c pre) = decide (pre ≠ []) := by
    unfold textV hasPre
    by_cases hp : pre = []
    · subst hp
      rw [if_pos rfl, List.append_nil, fore_self n45]
      exact ⟨rfl, aft_no n45, by simp⟩
    · rw [if_neg hp]
      have := fore_cut (r := pre) n45
      exact ⟨this.1, this.2, by rw [this.1, decide_eq_true hp]; exact decide_eq_true (by simp)⟩
  refine ⟨?_, ?_, ?_, ?_, hf.2.1⟩
  · unfold verV
    rw [hf.1, hf.2.1, hf.2.2, hnums]
    by_cases hp : pre = []
    · subst hp; simp
    · simp [hp]
  all_goals unfold nth; rw [hf.1, hcut]
  · exact (num_of_dec ha).2.2
  · exact (num_of_dec hb).2.2
  · exact (num_of_dec hc).2.2

/-! the order -/
structure Cmp {α : Type} (on : α → Prop) (f : α → α → Int) : Prop where
  vals : ∀ x y, f x y = -1 ∨ f x y = 0 ∨ f x y = 1
  anti : ∀ x y, f y x = - f x y
  eq : ∀ x y, on x → on y → f x y = 0 → x = y
  trans : ∀ x y z, on x → on y → on z → f x y ≤ 0 → f y z ≤ 0 → f x z ≤ 0

theorem Cmp.self {α : Type} {on : α → Prop} {f : α → α → Int} (h : Cmp on f) (x : α) : f x x = 0 := by
  have := h.anti x x; omega
theorem Cmp.lt_le {α : Type} {on : α → Prop} {f : α → α → Int} (h : Cmp on f) {x y z : α} (hx : on x) (hy : on y) (hz : on z) (h1 : f x y < 0) (h2 : f y z ≤ 0) : f x z < 0 := by
  have t := h.trans x y z hx hy hz (by omega) h2
  rcases h.vals x z with e | e | e
  · omega
  · obtain rfl := h.eq x z hx hz e
    have := h.anti x y
    omega
  · omega
theorem Cmp.le_lt {α : Type} {on : α → Prop} {f : α → α → Int} (h : Cmp on f) {x y z : α} (hx : on x) (hy : on y) (hz : on z) (h1 : f x y ≤ 0) (h2 : f y z < 0) : f x z < 0 := by
  have t := h.trans x y z hx hy hz h1 (by omega)
  rcases h.vals x z with e | e | e
  · omega
  · obtain rfl := h.eq x z hx hz e
    have := h.anti x y
    omega
  · omega

def ci (a b : Nat) : Int := if a < b then -1 else if b < a then 1 else 0
theorem ci_cmp : Cmp (fun _ => True) ci where
  vals x y := by unfold ci; split; simp; split <;> simp
  anti x y := by unfold ci; split <;> split <;> (try split) <;> omega
  eq x y _ _ h := by unfold ci at h; split at h; omega; split at h; omega; omega
  trans x y z _ _ _ h1 h2 := by
    unfold ci at *
    split at h1 <;> split at h2 <;> split <;> (try split) <;> (try split at h1) <;> (try split at h2) <;> omega

def cmpL {α : Type} (f : α → α → Int) : List α → List α → Int
  | [], [] => 0
  | [], _ :: _ => -1
  | _ :: _, [] => 1
  | x :: xs, y :: ys => if f x y = 0 then cmpL f xs ys else f x y

theorem cmpL_cmp {α : Type} {on : α → Prop} {f : α → α → Int} (h : Cmp on f) : Cmp (fun l => ∀ x, x ∈ l → on x) (cmpL f) where
  vals x := by
    induction x with
    | nil => intro y; cases y <;> simp [cmpL]
    | cons a x ih =>
      intro y
      cases y with
      | nil => simp [cmpL]
      | cons b y =>
        unfold cmpL; split
        · exact ih y
        · exact h.vals a b
  anti x := by
    induction x with
    | nil => intro y; cases y <;> simp [cmpL]
    | cons a x ih =>
      intro y
      cases y with
      | nil => simp [cmpL]
      | cons b y =>
        unfold cmpL
        have := h.anti a b
        by_cases e : f a b = 0
        · rw [if_pos e, if_pos (by omega), ih y]
        · rw [if_neg e, if_neg (by omega), this]
  eq x := by
    induction x with
    | nil => intro y _ _ h'; cases y with
      | nil => rfl
      | cons b y => simp [cmpL] at h'
    | cons a x ih =>
      intro y hx hy h'
      cases y with
      | nil => simp [cmpL] at h'
      | cons b y =>
        unfold cmpL at h'
        by_cases e : f a b = 0
        · rw [if_pos e] at h'
          rw [h.eq a b (hx a (by simp)) (hy b (by simp)) e, ih y (fun c hc => hx c (by simp [hc])) (fun c hc => hy c (by simp [hc])) h']
        · rw [if_neg e] at h'; exact absurd h' e
  trans x := by
    induction x with
    | nil => intro y z _ _ _ h1 h2; cases z <;> simp [cmpL]
    | cons a x ih =>
      intro y z hx hy hz h1 h2
      cases y with
      | nil => simp [cmpL] at h1
      | cons b y =>
        cases z with
        | nil => simp [cmpL] at h2
        | cons c z =>
          have ha := hx a (by simp); have hb := hy b (by simp); have hc := hz c (by simp)
          unfold cmpL at h1 h2 ⊢
          by_cases e1 : f a b = 0
          · rw [if_pos e1] at h1
            obtain rfl := h.eq a b ha hb e1
            by_cases e2 : f a c = 0
            · rw [if_pos e2] at h2 ⊢
              exact ih y z (fun d hd => hx d (by simp [hd])) (fun d hd => hy d (by simp [hd])) (fun d hd => hz d (by simp [hd])) h1 h2
            · rw [if_neg e2] at h2 ⊢; exact h2
          · rw [if_neg e1] at h1
            have l1 : f a b < 0 := by omega
            have l2 : f b c ≤ 0 := by
              by_cases e2 : f b c = 0
              · omega
              · rw [if_neg e2] at h2; exact h2
            have l3 := h.lt_le ha hb hc l1 l2
            rw [if_neg (by omega)]; omega

theorem cmpL_app {α : Type} {f : α → α → Int} (hs : ∀ x, f x x = 0) : ∀ (l : List α) (x : α), cmpL f l (l ++ [x]) = -1 := by
  intro l
  induction l with
  | nil => intro x; rfl
  | cons a l ih => intro x; rw [List.cons_append]; unfold cmpL; rw [if_pos (hs a), ih]

/-- bytes, one by one -/
theorem bytes_cmp : Cmp (fun _ => True) Lib.compareBytes where
  vals x := by
    induction x with
    | nil => intro y; cases y <;> simp [Lib.compareBytes]
    | cons a x ih => intro y; cases y with
      | nil => simp [Lib.compareBytes]
      | cons b y => unfold Lib.compareBytes; split; simp; split; simp; exact ih y
  anti x := by
    induction x with
    | nil => intro y; cases y <;> simp [Lib.compareBytes]
    | cons a x ih => intro y; cases y with
      | nil => simp [Lib.compareBytes]
      | cons b y =>
        unfold Lib.compareBytes
        by_cases h1 : a < b
        · rw [if_pos h1, if_neg (by intro h; exact absurd (UInt8.lt_trans h1 h) (UInt8.lt_irrefl a)), if_pos h1]; rfl
        · rw [if_neg h1]
          by_cases h2 : b < a
          · rw [if_pos h2, if_neg h1, if_pos h2]
          · rw [if_neg h2, if_neg h1, if_neg h2, ih y]
  eq x := by
    induction x with
    | nil => intro y _ _ h; cases y with
      | nil => rfl
      | cons b y => simp [Lib.compareBytes] at h
    | cons a x ih => intro y _ _ h; cases y with
      | nil => simp [Lib.compareBytes] at h
      | cons b y =>
        unfold Lib.compareBytes at h
        split at h
        · simp at h
        · split at h
          · simp at h
          · rename_i h1 h2
            obtain rfl : a = b := by
              apply UInt8.toNat_inj.1
              rw [UInt8.lt_iff_toNat_lt] at h1 h2; omega
            rw [ih y trivial trivial h]
  trans x := by
    induction x with
    | nil => intro y z _ _ _ _ _; cases z <;> simp [Lib.compareBytes]
    | cons a x ih => intro y z _ _ _ h1 h2; cases y with
      | nil => simp [Lib.compareBytes] at h1
      | cons b y => cases z with
        | nil => simp [Lib.compareBytes] at h2
        | cons c z =>
          unfold Lib.compareBytes at h1 h2 ⊢
          simp only [UInt8.lt_iff_toNat_lt] at h1 h2 ⊢
          by_cases e1 : a.toNat < b.toNat
          · by_cases e2 : b.toNat < c.toNat
            · rw [if_pos (by omega)]; decide
            · rw [if_neg e2] at h2
              by_cases e3 : c.toNat < b.toNat
              · rw [if_pos e3] at h2; simp at h2
              · rw [if_pos (by omega)]; decide
          · rw [if_neg e1] at h1
            by_cases e3 : b.toNat < a.toNat
            · rw [if_pos e3] at h1; simp at h1
            · rw [if_neg e3] at h1
              by_cases e2 : b.toNat < c.toNat
              · rw [if_pos (by omega)]; decide
              · rw [if_neg e2] at h2
                by_cases e4 : c.toNat < b.toNat
                · rw [if_pos e4] at h2; simp at h2
                · rw [if_neg e4] at h2
                  rw [if_neg (by omega), if_neg (by omega)]
                  exact ih y z trivial trivial trivial h1 h2

/-- two parts -/
def cmpP (p q : List UInt8) : Int :=
  if p.all dgB = true then (if q.all dgB = true then (if p.length = q.length then Lib.compareBytes p q else ci p.length q.length) else -1) else if q.all dgB = true then 1 else Lib.compareBytes p q
theorem cmpP_cmp : Cmp (fun _ => True) cmpP where
  vals x y := by
    unfold cmpP
    split <;> split <;> (try split) <;> first | exact bytes_cmp.vals _ _ | exact ci_cmp.vals _ _ | simp
  anti x y := by
    unfold cmpP
    have hb := bytes_cmp.anti x y
    have hi := ci_cmp.anti x.length y.length
    by_cases h1 : x.all dgB = true <;> by_cases h2 : y.all dgB = true <;> by_cases h3 : x.length = y.length <;> simp [h1, h2, h3, hb, hi, Ne.symm (a := x.length) (b := y.length)]
  eq x y _ _ h := by
    unfold cmpP at h
    split at h
    · split at h
      · split at h
        · exact bytes_cmp.eq x y trivial trivial h
        · rename_i h3; exact absurd (ci_cmp.eq _ _ trivial trivial h) h3
      · simp at h
    · split at h
      · simp at h
      · exact bytes_cmp.eq x y trivial trivial h
  trans x y z _ _ _ h1 h2 := by
    unfold cmpP at *
    by_cases x1 : x.all dgB = true
    · rw [if_pos x1] at h1 ⊢
      by_cases z1 : z.all dgB = true
      · rw [if_pos z1]
        by_cases y1 : y.all dgB = true
        · rw [if_pos y1] at h1
          rw [if_pos y1, if_pos z1] at h2
          by_cases e1 : x.length = y.length
          · rw [if_pos e1] at h1
            by_cases e2 : y.length = z.length
            · rw [if_pos e2] at h2
              rw [if_pos (by omega)]
              exact bytes_cmp.trans x y z trivial trivial trivial h1 h2
            · rw [if_neg e2] at h2
              rw [if_neg (by omega), e1]; exact h2
          · rw [if_neg e1] at h1
            by_cases e2 : y.length = z.length
            · rw [if_neg (by omega), ← e2]; exact h1
            · rw [if_neg e2] at h2
              have l1 : x.length < y.length := by unfold ci at h1; split at h1; assumption; split at h1; omega; omega
              have l2 : y.length < z.length := by unfold ci at h2; split at h2; assumption; split at h2; omega; omega
              rw [if_neg (by omega)]
              unfold ci; rw [if_pos (by omega)]; decide
        · rw [if_neg y1, if_pos z1] at h2; simp at h2
      · rw [if_neg z1]; decide
    · rw [if_neg x1] at h1 ⊢
      by_cases y1 : y.all dgB = true
      · rw [if_pos y1] at h1; simp at h1
      · rw [if_neg y1] at h1
        rw [if_neg y1] at h2
        by_cases z1 : z.all dgB = true
        · rw [if_pos z1] at h2; simp at h2
        · rw [if_neg z1] at h2 ⊢
          exact bytes_cmp.trans x y z trivial trivial trivial h1 h2

/-- of versions: the three numbers, and what stands behind -/
def cmpB (p q : List UInt8) : Int := if p = q then 0 else if p = [] then 1 else if q = [] then -1 else cmpL cmpP (cutl 46 p) (cutl 46 q)
def cmpV (l m : List Nat) (p q : List UInt8) : Int := if l = m then cmpB p q else cmpL ci l m
theorem cutl_inj {c : UInt8} {p q : List UInt8} (h : cutl c p = cutl c q) : p = q := by
  rw [← join_cutl c p, h, join_cutl]
theorem cmpB_cmp : Cmp (fun _ => True) cmpB where
  vals x y := by
    unfold cmpB
    split <;> (try split) <;> (try split) <;> first | exact (cmpL_cmp cmpP_cmp).vals _ _ | simp
  anti x y := by
    unfold cmpB
    have h := (cmpL_cmp cmpP_cmp).anti (cutl 46 x) (cutl 46 y)
    by_cases e : x = y
    · subst e; simp
    · by_cases e1 : x = []
      · subst e1; simp [Ne.symm e, e]
      · by_cases e2 : y = []
        · subst e2; simp [Ne.symm e, e]
        · simp [e, Ne.symm e, e1, e2, h]
  eq x y _ _ h := by
    unfold cmpB at h
    split at h
    · assumption
    · split at h
      · simp at h
      · split at h
        · simp at h
        · exact cutl_inj ((cmpL_cmp cmpP_cmp).eq _ _ (fun _ _ => trivial) (fun _ _ => trivial) h)
  trans x y z _ _ _ h1 h2 := by
    unfold cmpB at *
    by_cases e1 : x = y
    · subst e1; exact h2
    · by_cases e2 : y = z
      · subst e2; exact h1
      · rw [if_neg e1] at h1
        rw [if_neg e2] at h2
        by_cases e3 : x = z
        · rw [if_pos e3]; decide
        · rw [if_neg e3]
          by_cases x0 : x = []
          · rw [if_pos x0] at h1; simp at h1
          · rw [if_neg x0] at h1 ⊢
            by_cases z0 : z = []
            · rw [if_pos z0]; decide
            · rw [if_neg z0] at h2 ⊢
              by_cases y0 : y = []
              · rw [if_pos y0] at h2; simp at h2
              · rw [if_neg y0] at h1 h2
                exact (cmpL_cmp cmpP_cmp).trans _ _ _ (fun _ _ => trivial) (fun _ _ => trivial) (fun _ _ => trivial) h1 h2
end Go.Proofs.YtmeaajhongalaaaGreatDoor.Vs

/-
  LAYER 3, PLAIN MATHEMATICS: versions stand in one row; a release above what has parts behind the same numbers; one part more is higher. No program is imported.
-/
namespace Go.Proofs.YtmeaajhongalaaaGreatDoor.Vs
open Go.Proofs.YtmeaajhongalaaaGreatDoor Go.Proofs.YtmeaajhongalaaaGreatDoor.Nu

theorem cmpV_cmp : Cmp (fun _ => True) (fun (x y : List Nat × List UInt8) => cmpV x.1 y.1 x.2 y.2) where
  vals x y := by
    unfold cmpV
    split
    · exact cmpB_cmp.vals _ _
    · exact (cmpL_cmp ci_cmp).vals _ _
  anti x y := by
    unfold cmpV
    have h1 := cmpB_cmp.anti x.2 y.2
    have h2 := (cmpL_cmp ci_cmp).anti x.1 y.1
    by_cases h : x.1 = y.1
    · rw [if_pos h, if_pos h.symm, h1]
    · rw [if_neg h, if_neg (Ne.symm h), h2]
  eq x y _ _ h := by
    unfold cmpV at h
    split at h
    · rename_i h'
      exact Prod.ext h' (cmpB_cmp.eq _ _ trivial trivial h)
    · rename_i h'
      exact absurd ((cmpL_cmp ci_cmp).eq _ _ (fun _ _ => trivial) (fun _ _ => trivial) h) h'
  trans x y z _ _ _ h1 h2 := by
    unfold cmpV at *
    have L := cmpL_cmp ci_cmp
    by_cases e1 : x.1 = y.1
    · rw [if_pos e1] at h1
      by_cases e2 : y.1 = z.1
      · rw [if_pos e2] at h2
        rw [if_pos (e1.trans e2)]
        exact cmpB_cmp.trans _ _ _ trivial trivial trivial h1 h2
      · rw [if_neg e2] at h2
        rw [if_neg (by rw [e1]; exact e2), e1]; exact h2
    · rw [if_neg e1] at h1
      have l1 : cmpL ci x.1 y.1 < 0 := by
        rcases L.vals x.1 y.1 with e | e | e
        · omega
        · exact absurd (L.eq _ _ (fun _ _ => trivial) (fun _ _ => trivial) e) e1
        · omega
      have l2 : cmpL ci y.1 z.1 ≤ 0 := by
        by_cases e2 : y.1 = z.1
        · rw [e2, L.self]; omega
        · rw [if_neg e2] at h2; exact h2
      have l3 := L.lt_le (fun _ _ => trivial) (fun _ _ => trivial) (fun _ _ => trivial) l1 l2
      by_cases e3 : x.1 = z.1
      · rw [e3, L.self] at l3; omega
      · rw [if_neg e3]; omega

/-- a release stands above what has something behind the same numbers -/
theorem cmpB_rel {p : List UInt8} (h : p ≠ []) : cmpB p [] = -1 := by
  unfold cmpB; rw [if_neg h, if_neg h, if_pos rfl]
theorem cutl_snoc {c : UInt8} (q : List UInt8) (hq : c ∉ q) : ∀ (n : Nat) (l : List UInt8), l.length ≤ n → cutl c (l ++ c :: q) = cutl c l ++ [q] := by
  intro n
  induction n with
  | zero => intro l h; obtain rfl := List.eq_nil_of_length_eq_zero (Nat.le_zero.1 h); rw [List.nil_append, show c :: q = [] ++ c :: q from rfl, cutl_hit (by simp), cutl_no hq, cutl_no (by simp)]; rfl
  | succ n ih =>
    intro l hl
    by_cases h : c ∈ l
    · obtain ⟨a, r, rfl, ha⟩ := splits l h
      rw [List.append_assoc, List.cons_append, cutl_hit ha, ih r (by simp at hl; omega), cutl_hit ha]; rfl
    · rw [cutl_hit h, cutl_no h, cutl_no hq]; rfl
/-- one part more is higher -/
theorem cmpB_more {p q : List UInt8} (h : p ≠ []) (hq : (46 : UInt8) ∉ q) : cmpB p (p ++ 46 :: q) = -1 := by
  unfold cmpB
  have hne : p ≠ p ++ 46 :: q := by intro e; have := congrArg List.length e; simp at this
  rw [if_neg hne, if_neg h, if_neg (by simp), cutl_snoc q hq _ p (Nat.le_refl _)]
  exact cmpL_app cmpP_cmp.self _ _
end Go.Proofs.YtmeaajhongalaaaGreatDoor.Vs

/-
  LAYER 4, PLAIN MATHEMATICS: what a range's text is parsed as; which versions a range has. No program is imported.
-/
namespace Go.Proofs.YtmeaajhongalaaaGreatDoor.Sp
open Go.Proofs.YtmeaajhongalaaaGreatDoor Go.Proofs.YtmeaajhongalaaaGreatDoor.Nu Go.Proofs.YtmeaajhongalaaaGreatDoor.Vs

structure CompT where
  op : Nat
  a : Nat
  b : Nat
  c : Nat
  p : List UInt8

def sgn : Nat → List UInt8
  | 0 => [61]
  | 1 => [33, 61]
  | 2 => [60]
  | 3 => [60, 61]
  | 4 => [62]
  | 5 => [62, 61]
  | 6 => [126]
  | 7 => [94]
  | _ => [42]
def hit (l : List UInt8) (op : Nat) : Bool := (sgn op).isPrefixOf l && verV (l.drop (sgn op).length)
def ofV (op : Nat) (t : List UInt8) : CompT := ⟨op, nth t 0, nth t 1, nth t 2, aft 45 t⟩
def anyC : CompT := ⟨8, 0, 0, 0, []⟩
/-- the first sign from that one on that leaves a version's text -/
def firstHit (l : List UInt8) : Nat → Nat → Option CompT
  | 0, _ => none
  | n + 1, k => if hit l k then some (ofV k (l.drop (sgn k).length)) else firstHit l n (k + 1)
def compOf (l : List UInt8) : Option CompT := if l = [42] then some anyC else firstHit l 8 0

/-- all of them, if all are -/
def allOf {α β : Type} (f : α → Option β) : List α → Option (List β)
  | [] => some []
  | x :: xs => match f x with
    | none => none
    | some y => match allOf f xs with
      | none => none
      | some ys => some (y :: ys)
def altOf (l : List UInt8) : Option (List CompT) := if (cutl 44 l).length ≤ 4 then allOf compOf (cutl 44 l) else none
def rngOf (l : List UInt8) : Option (List (List CompT)) := if l.length ≤ 80 ∧ (cutl 124 l).length ≤ 4 then allOf altOf (cutl 124 l) else none

theorem allOf_step {α β : Type} {f : α → Option β} {l : List α} {k : Nat} {x : α} (h : l[k]? = some x) : allOf f (l.drop k) = match f x with
    | none => none
    | some y => match allOf f (l.drop (k + 1)) with
      | none => none
      | some ys => some (y :: ys) := by
  have hk := (List.getElem?_eq_some_iff.1 h).1
  have e : l[k] = x := (List.getElem?_eq_some_iff.1 h).2
  rw [List.drop_eq_getElem_cons hk, e]; rfl
theorem allOf_app {α β : Type} {f : α → Option β} : ∀ l m : List α, allOf f (l ++ m) = match allOf f l with
    | none => none
    | some xs => match allOf f m with
      | none => none
      | some ys => some (xs ++ ys) := by
  intro l
  induction l with
  | nil => intro m; rw [List.nil_append]; simp only [allOf]; cases allOf f m <;> rfl
  | cons x l ih =>
    intro m
    rw [List.cons_append]
    simp only [allOf, ih m]
    cases f x with
    | none => rfl
    | some y => cases allOf f l with
      | none => rfl
      | some ys => cases allOf f m <;> rfl
theorem allOf_len {α β : Type} {f : α → Option β} : ∀ {l : List α} {ys : List β}, allOf f l = some ys → ys.length = l.length := by
  intro l
  induction l with
  | nil => intro ys h; simp only [allOf, Option.some.injEq] at h; subst h; rfl
  | cons x l ih =>
    intro ys h
    simp only [allOf] at h
    cases hx : f x with
    | none => rw [hx] at h; cases h
    | some y =>
      cases hl : allOf f l with
      | none => rw [hx, hl] at h; cases h
      | some zs =>
        rw [hx, hl] at h
        simp only [Option.some.injEq] at h
        subst h
        simp [ih hl]
theorem allOf_all {α β : Type} {f : α → Option β} {P : α → β → Prop} (hf : ∀ x y, f x = some y → P x y) : ∀ {l : List α} {ys : List β}, allOf f l = some ys → ∀ y, y ∈ ys → ∃ x, x ∈ l ∧ P x y := by
  intro l
  induction l with
  | nil => intro ys h y hy; simp only [allOf, Option.some.injEq] at h; subst h; simp at hy
  | cons x l ih =>
    intro ys h y hy
    simp only [allOf] at h
    cases hx : f x with
    | none => rw [hx] at h; cases h
    | some z =>
      cases hl : allOf f l with
      | none => rw [hx, hl] at h; cases h
      | some zs =>
        rw [hx, hl] at h
        simp only [Option.some.injEq] at h
        subst h
        rcases List.mem_cons.1 hy with rfl | hy
        · exact ⟨x, by simp, hf _ _ hx⟩
        · obtain ⟨x', h1, h2⟩ := ih hl y hy
          exact ⟨x', by simp [h1], h2⟩
theorem allOf_map {α β : Type} {f : α → Option β} {g : β → α} (hf : ∀ x y, f x = some y → g y = x) : ∀ {l : List α} {ys : List β}, allOf f l = some ys → ys.map g = l := by
  intro l
  induction l with
  | nil => intro ys h; simp only [allOf, Option.some.injEq] at h; subst h; rfl
  | cons x l ih =>
    intro ys h
    simp only [allOf] at h
    cases hx : f x with
    | none => rw [hx] at h; cases h
    | some z =>
      cases hl : allOf f l with
      | none => rw [hx, hl] at h; cases h
      | some zs =>
        rw [hx, hl] at h
        simp only [Option.some.injEq] at h
        subst h
        rw [List.map_cons, ih hl, hf _ _ hx]

/-! texts -/
def compText (c : CompT) : List UInt8 := sgn c.op ++ (if c.op = 8 then [] else textV c.a c.b c.c c.p)
def altText (cs : List CompT) : List UInt8 := joinl 44 (cs.map compText)
def rngText (rs : List (List CompT)) : List UInt8 := joinl 124 (rs.map altText)
/-- may it be a comparison? -/
def OkC (c : CompT) : Prop := (c.op < 8 ∧ c.a < 1000000 ∧ c.b < 1000000 ∧ c.c < 1000000 ∧ (c.p = [] ∨ preV c.p = true)) ∨ c = anyC
def OkR (rs : List (List CompT)) : Prop := 1 ≤ rs.length ∧ rs.length ≤ 4 ∧ (∀ cs, cs ∈ rs → 1 ≤ cs.length ∧ cs.length ≤ 4 ∧ ∀ c, c ∈ cs → OkC c) ∧ (rngText rs).length ≤ 80

theorem firstHit_some {l : List UInt8} : ∀ {n k : Nat} {c : CompT}, firstHit l n k = some c → ∃ j, k ≤ j ∧ j < k + n ∧ hit l j = true ∧ c = ofV j (l.drop (sgn j).length) := by
  intro n
  induction n with
  | zero => intro k c h; simp [firstHit] at h
  | succ n ih =>
    intro k c h
    unfold firstHit at h
    by_cases hh : hit l k = true
    · rw [if_pos hh] at h
      simp only [Option.some.injEq] at h
      exact ⟨k, Nat.le_refl _, by omega, hh, h.symm⟩
    · rw [if_neg hh] at h
      obtain ⟨j, h1, h2, h3, h4⟩ := ih h
      exact ⟨j, by omega, by omega, h3, h4⟩
theorem compOf_ok {l : List UInt8} {c : CompT} (h : compOf l = some c) : compText c = l ∧ OkC c := by
  unfold compOf at h
  by_cases h0 : l = [42]
  · rw [if_pos h0] at h
    simp only [Option.some.injEq] at h
    subst h
    exact ⟨by rw [h0]; rfl, .inr rfl⟩
  · rw [if_neg h0] at h
    obtain ⟨j, _, h2, h3, rfl⟩ := firstHit_some h
    unfold hit at h3
    simp only [Bool.and_eq_true] at h3
    obtain ⟨t1, t2, t3, t4, t5, _⟩ := text_of h3.2
    have hp := List.isPrefixOf_iff_prefix.1 h3.1
    refine ⟨?_, .inl ⟨by show j < 8; omega, t2, t3, t4, t5⟩⟩
    unfold compText ofV
    rw [if_neg (by show ¬ j = 8; omega), t1]
    exact List.prefix_iff_eq_append.1 hp
theorem altOf_ok {l : List UInt8} {cs : List CompT} (h : altOf l = some cs) : altText cs = l ∧ 1 ≤ cs.length ∧ cs.length ≤ 4 ∧ ∀ c, c ∈ cs → OkC c := by
  unfold altOf at h
  by_cases h4 : (cutl 44 l).length ≤ 4
  · rw [if_pos h4] at h
    have h1 := allOf_len h
    have h2 := List.length_pos_iff.2 (cutl_ne 44 l)
    refine ⟨?_, by omega, by omega, fun c hc => ?_⟩
    · unfold altText
      rw [allOf_map (fun x y hxy => (compOf_ok hxy).1) h, join_cutl]
    · obtain ⟨x, _, hx⟩ := allOf_all (P := fun _ c => OkC c) (fun x y hxy => (compOf_ok hxy).2) h c hc
      exact hx
  · rw [if_neg h4] at h; cases h
theorem rngOf_ok {l : List UInt8} {rs : List (List CompT)} (h : rngOf l = some rs) : rngText rs = l ∧ OkR rs := by
  unfold rngOf at h
  by_cases h4 : l.length ≤ 80 ∧ (cutl 124 l).length ≤ 4
  · rw [if_pos h4] at h
    have h1 := allOf_len h
    have h2 := List.length_pos_iff.2 (cutl_ne 124 l)
    have ht : rngText rs = l := by
      unfold rngText
      rw [allOf_map (fun x y hxy => (altOf_ok hxy).1) h, join_cutl]
    refine ⟨ht, by omega, by omega, fun cs hc => ?_, by rw [ht]; exact h4.1⟩
    obtain ⟨x, _, hx⟩ := allOf_all (P := fun _ cs => 1 ≤ cs.length ∧ cs.length ≤ 4 ∧ ∀ c, c ∈ cs → OkC c) (fun x y hxy => (altOf_ok hxy).2) h cs hc
    exact hx
  · rw [if_neg h4] at h; cases h

/-! what a range has -/
def okOp (op : Nat) (k : Int) : Bool :=
  match op with
  | 0 => k == 0
  | 1 => k != 0
  | 2 => decide (k < 0)
  | 3 => decide (k ≤ 0)
  | 4 => decide (0 < k)
  | _ => decide (0 ≤ k)
/-- the lowest release above all versions that have the same numbers up to a place -/
def nextL (a b c : Nat) (place : Nat) : List Nat := match place with
  | 0 => [a + 1, 0, 0]
  | 1 => [a, b + 1, 0]
  | _ => [a, b, c + 1]
def keptP (a b : Nat) : Nat := if a ≠ 0 then 0 else if b ≠ 0 then 1 else 2
def compHas (c : CompT) (x y z : Nat) (p : List UInt8) : Bool :=
  if c.op = 8 then true
  else okOp c.op (cmpV [x, y, z] [c.a, c.b, c.c] p c.p) &&
    (if c.op = 6 then decide (cmpV [x, y, z] (nextL c.a c.b c.c 1) p [] < 0) else if c.op = 7 then decide (cmpV [x, y, z] (nextL c.a c.b c.c (keptP c.a c.b)) p [] < 0) else true)
def opens (c : CompT) (x y z : Nat) : Bool := decide (c.p ≠ []) && decide ([c.a, c.b, c.c] = [x, y, z])
def altHas (cs : List CompT) (x y z : Nat) (p : List UInt8) : Bool := cs.all (fun c => compHas c x y z p) && (decide (p = []) || cs.any (fun c => opens c x y z))
def rngHas (rs : List (List CompT)) (x y z : Nat) (p : List UInt8) : Bool := rs.any (fun cs => altHas cs x y z p)

/-! texts one behind the other -/
theorem cutl_app {c : UInt8} (q : List UInt8) : ∀ (n : Nat) (l : List UInt8), l.length ≤ n → cutl c (l ++ c :: q) = cutl c l ++ cutl c q := by
  intro n
  induction n with
  | zero => intro l h; obtain rfl := List.eq_nil_of_length_eq_zero (Nat.le_zero.1 h); rw [List.nil_append, show c :: q = [] ++ c :: q from rfl, cutl_hit (by simp), cutl_no (l := []) (by simp)]; rfl
  | succ n ih =>
    intro l hl
    by_cases h : c ∈ l
    · obtain ⟨a, r, rfl, ha⟩ := splits l h
      rw [List.append_assoc, List.cons_append, cutl_hit ha, ih r (by simp at hl; omega), cutl_hit ha]; rfl
    · rw [cutl_hit h, cutl_no h]; rfl
theorem rngOf_join {s t : List UInt8} (hl : s.length + t.length ≤ 79) (hc : (cutl 124 s).length + (cutl 124 t).length ≤ 4) : rngOf (s ++ 124 :: t) = match rngOf s with
    | none => none
    | some xs => match rngOf t with
      | none => none
      | some ys => some (xs ++ ys) := by
  unfold rngOf
  rw [cutl_app t _ s (Nat.le_refl _)]
  rw [if_pos ⟨by simp; omega, by simp; omega⟩, if_pos ⟨by omega, by omega⟩, if_pos ⟨by omega, by omega⟩]
  rw [allOf_app]
  cases allOf altOf (cutl 124 s) with
  | none => rfl
  | some xs => cases allOf altOf (cutl 124 t) <;> rfl
theorem rngHas_app (xs ys : List (List CompT)) (x y z : Nat) (p : List UInt8) : rngHas (xs ++ ys) x y z p = (rngHas xs x y z p || rngHas ys x y z p) := by
  unfold rngHas; rw [List.any_append]
theorem altHas_app (xs ys : List CompT) (x y z : Nat) : altHas (xs ++ ys) x y z [] = (altHas xs x y z [] && altHas ys x y z []) := by
  unfold altHas; rw [List.all_append]; simp
end Go.Proofs.YtmeaajhongalaaaGreatDoor.Sp

/-
  PLAIN MATHEMATICS: of two numbers without a 0 ahead the longer is the greater; of as many digits the first that differs decides. No program is imported.
-/
namespace Go.Proofs.YtmeaajhongalaaaGreatDoor.Vs
open Go.Proofs.YtmeaajhongalaaaGreatDoor Go.Proofs.YtmeaajhongalaaaGreatDoor.Nu

def fd (a : Nat) (l : List UInt8) : Nat := l.foldl (fun n c => 10 * n + (c.toNat - 48)) a
theorem dg_of {c : UInt8} (h : dgB c = true) : 48 ≤ c.toNat ∧ c.toNat ≤ 57 := by
  unfold dgB at h; simpa using h
theorem fd_lt : ∀ (p q : List UInt8) (a b : Nat), p.all dgB = true → q.all dgB = true → p.length = q.length → a < b → fd a p < fd b q := by
  intro p
  induction p with
  | nil => intro q a b _ _ hl h; obtain rfl := List.eq_nil_of_length_eq_zero hl.symm; exact h
  | cons c p ih =>
    intro q a b hp hq hl h
    cases q with
    | nil => simp at hl
    | cons d q =>
      rw [List.all_cons, Bool.and_eq_true] at hp hq
      have h1 := dg_of hp.1
      have h2 := dg_of hq.1
      exact ih q (10 * a + (c.toNat - 48)) (10 * b + (d.toNat - 48)) hp.2 hq.2 (by simpa using hl) (by omega)
theorem fd_cmp : ∀ (p q : List UInt8) (a : Nat), p.all dgB = true → q.all dgB = true → p.length = q.length → ci (fd a p) (fd a q) = Lib.compareBytes p q := by
  intro p
  induction p with
  | nil => intro q a _ _ hl; obtain rfl := List.eq_nil_of_length_eq_zero hl.symm; simp [ci, Lib.compareBytes]
  | cons c p ih =>
    intro q a hp hq hl
    cases q with
    | nil => simp at hl
    | cons d q =>
      rw [List.all_cons, Bool.and_eq_true] at hp hq
      have h1 := dg_of hp.1
      have h2 := dg_of hq.1
      have hl' : p.length = q.length := by simpa using hl
      unfold Lib.compareBytes
      simp only [UInt8.lt_iff_toNat_lt]
      show ci (fd (10 * a + (c.toNat - 48)) p) (fd (10 * a + (d.toNat - 48)) q) = _
      by_cases e1 : c.toNat < d.toNat
      · rw [if_pos e1]
        have := fd_lt p q (10 * a + (c.toNat - 48)) (10 * a + (d.toNat - 48)) hp.2 hq.2 hl' (by omega)
        unfold ci; rw [if_pos this]
      · rw [if_neg e1]
        by_cases e2 : d.toNat < c.toNat
        · rw [if_pos e2]
          have := fd_lt q p (10 * a + (d.toNat - 48)) (10 * a + (c.toNat - 48)) hq.2 hp.2 hl'.symm (by omega)
          unfold ci; rw [if_neg (by omega), if_pos this]
        · rw [if_neg e2]
          obtain rfl : c = d := UInt8.toNat_inj.1 (by omega)
          exact ih q _ hp.2 hq.2 hl'
theorem fd_hi : ∀ (p : List UInt8) (a : Nat), p.all dgB = true → fd a p < (a + 1) * 10 ^ p.length := by
  intro p
  induction p with
  | nil => intro a _; simp [fd]
  | cons c p ih =>
    intro a hp
    rw [List.all_cons, Bool.and_eq_true] at hp
    have h1 := dg_of hp.1
    have := ih (10 * a + (c.toNat - 48)) hp.2
    rw [List.length_cons, Nat.pow_succ]
    have e : (10 * a + (c.toNat - 48) + 1) * 10 ^ p.length ≤ (a + 1) * (10 ^ p.length * 10) := by
      rw [Nat.mul_comm (10 ^ p.length) 10, ← Nat.mul_assoc]
      exact Nat.mul_le_mul_right _ (by omega)
    exact Nat.lt_of_lt_of_le this e
theorem fd_lo : ∀ (p : List UInt8) (a : Nat), a * 10 ^ p.length ≤ fd a p := by
  intro p
  induction p with
  | nil => intro a; simp [fd]
  | cons c p ih =>
    intro a
    have := ih (10 * a + (c.toNat - 48))
    rw [List.length_cons, Nat.pow_succ]
    have e : a * (10 ^ p.length * 10) ≤ (10 * a + (c.toNat - 48)) * 10 ^ p.length := by
      rw [Nat.mul_comm (10 ^ p.length) 10, ← Nat.mul_assoc]
      exact Nat.mul_le_mul_right _ (by omega)
    exact Nat.le_trans e this
theorem digV_less {p q : List UInt8} (hp : p.all dgB = true) (hq : q.all dgB = true) (hn : padB q = false) (h1 : 1 ≤ p.length) (hl : p.length < q.length) : digV p < digV q := by
  have h := fd_hi p 0 hp
  cases q with
  | nil => simp at hl
  | cons d q =>
    rw [List.all_cons, Bool.and_eq_true] at hq
    have hd := dg_of hq.1
    have h48 : d.toNat ≠ 48 := by
      intro e
      unfold padB at hn
      have := of_decide_eq_false hn
      apply this
      refine ⟨by omega, ?_⟩
      rw [List.getElem?_cons_zero]
      congr 1
      exact UInt8.toNat_inj.1 e
    have lo := fd_lo q (10 * 0 + (d.toNat - 48))
    have e : digV (d :: q) = fd (10 * 0 + (d.toNat - 48)) q := rfl
    have e' : digV p = fd 0 p := rfl
    rw [e, e']
    have hpow : 10 ^ p.length ≤ 10 ^ q.length := Nat.pow_le_pow_right (by decide) (by simp at hl; omega)
    have : 1 * 10 ^ q.length ≤ (10 * 0 + (d.toNat - 48)) * 10 ^ q.length := Nat.mul_le_mul_right _ (by omega)
    rw [Nat.zero_add, Nat.one_mul] at h
    rw [Nat.one_mul] at this
    omega
theorem partV_num {p : List UInt8} (h : partV p = true) (hd : p.all dgB = true) : numB p = true ∧ padB p = false ∧ 1 ≤ p.length := by
  unfold partV at h
  rw [hd] at h
  simp only [Bool.and_eq_true, decide_eq_true_eq, Bool.not_eq_true', Bool.true_and] at h
  obtain ⟨⟨⟨h1, h2⟩, _⟩, h3⟩ := h
  refine ⟨numB_iff.2 ⟨h1, by omega, ?_, hd⟩, h3, h1⟩
  exact of_decide_eq_false h3
theorem num_cmp {p q : List UInt8} (hp : partV p = true) (hq : partV q = true) (dp : p.all dgB = true) (dq : q.all dgB = true) : ci (numN p) (numN q) = cmpP p q := by
  obtain ⟨p1, p2, p3⟩ := partV_num hp dp
  obtain ⟨q1, q2, q3⟩ := partV_num hq dq
  unfold numN cmpP
  rw [p1, q1, if_pos rfl, if_pos rfl, if_pos dp, if_pos dq]
  by_cases e : p.length = q.length
  · rw [if_pos e]; exact fd_cmp p q 0 dp dq e
  · rw [if_neg e]
    rcases Nat.lt_or_gt_of_ne e with h | h
    · have := digV_less dp dq q2 p3 h
      unfold ci; rw [if_pos this, if_pos h]
    · have := digV_less dq dp p2 q3 h
      unfold ci; rw [if_neg (by omega), if_pos this, if_neg (by omega), if_pos h]
end Go.Proofs.YtmeaajhongalaaaGreatDoor.Vs

/-
  LAYER 1, PLAIN MATHEMATICS: what the lines and words of a text are. No program is imported.
-/
namespace Go.Proofs.YtmeaajhongalaaaGreatDoor.Ln

def isBl (c : UInt8) : Bool := c == 32 || c == 9
def okB (c : UInt8) : Bool := decide (33 ≤ c.toNat) && decide (c.toNat ≤ 126)
/-- how many of the bytes from that place on are so -/
def run (p : UInt8 → Bool) (l : List UInt8) (a : Nat) : Nat := ((l.drop a).takeWhile p).length

theorem run_le (p : UInt8 → Bool) (l : List UInt8) (a : Nat) (h : a ≤ l.length) : a + run p l a ≤ l.length := by
  unfold run
  have := (List.takeWhile_sublist p (l := l.drop a)).length_le
  rw [List.length_drop] at this
  omega
theorem run_yes {p : UInt8 → Bool} {l : List UInt8} {a : Nat} {c : UInt8} (h : l[a]? = some c) (hp : p c = true) : run p l a = run p l (a + 1) + 1 := by
  unfold run
  have ha := (List.getElem?_eq_some_iff.1 h).1
  rw [List.drop_eq_getElem_cons ha]
  have e : l[a] = c := (List.getElem?_eq_some_iff.1 h).2
  rw [e, List.takeWhile_cons, hp]
  rfl
theorem run_no {p : UInt8 → Bool} {l : List UInt8} {a : Nat} {c : UInt8} (h : l[a]? = some c) (hp : p c = false) : run p l a = 0 := by
  unfold run
  have ha := (List.getElem?_eq_some_iff.1 h).1
  rw [List.drop_eq_getElem_cons ha]
  have e : l[a] = c := (List.getElem?_eq_some_iff.1 h).2
  rw [e, List.takeWhile_cons, hp]
  rfl
theorem run_end {p : UInt8 → Bool} {l : List UInt8} {a : Nat} (h : l.length ≤ a) : run p l a = 0 := by
  unfold run; rw [List.drop_eq_nil_of_le h]; rfl
/-- behind the run stands one that isn't so, or nothing -/
theorem run_stop {p : UInt8 → Bool} {l : List UInt8} : ∀ {a : Nat}, ∀ {c}, l[a + run p l a]? = some c → p c = false := by
  intro a c h
  unfold run at h
  rw [← List.getElem?_drop] at h
  generalize l.drop a = m at h
  induction m with
  | nil => cases h
  | cons x m ih =>
    rw [List.takeWhile_cons] at h
    cases hx : p x
    · rw [hx] at h
      simp at h
      rw [← h]; exact hx
    · rw [hx] at h
      simp at h
      exact ih h
theorem run_mem {p : UInt8 → Bool} {l : List UInt8} : ∀ {a i : Nat}, i < run p l a → ∃ c, l[a + i]? = some c ∧ p c = true := by
  intro a i h
  unfold run at h
  rw [← List.getElem?_drop]
  generalize l.drop a = m at h
  induction m generalizing i with
  | nil => cases h
  | cons x m ih =>
    rw [List.takeWhile_cons] at h
    cases hx : p x
    · rw [hx] at h
      simp at h
    · rw [hx] at h
      simp at h
      cases i with
      | zero => exact ⟨x, rfl, hx⟩
      | succ i => exact ih (by omega)
theorem run_add {p : UInt8 → Bool} {l : List UInt8} {a : Nat} : ∀ {i : Nat}, i ≤ run p l a → run p l a = i + run p l (a + i) := by
  intro i
  induction i with
  | zero => intro _; simp
  | succ i ih =>
    intro h
    have := ih (by omega)
    obtain ⟨c, hc, hp⟩ := run_mem (p := p) (l := l) (a := a) (i := i) (by omega)
    rw [run_yes hc hp] at this
    rw [show a + (i + 1) = a + i + 1 from by omega]
    omega

abbrev Words := List (List UInt8)
abbrev SRes := Except (Nat × Nat) (Words × List Nat)

def word (l : List UInt8) (b t : Nat) : List UInt8 := (l.drop b).take (t - b)
theorem word_len {l : List UInt8} {b t : Nat} (h : b ≤ t) (h' : t ≤ l.length) : (word l b t).length = t - b := by
  unfold word; rw [List.length_take, List.length_drop]; omega

/-- a line's words from a place on, behind those that are told already: or an error, and the byte -/
def sp (l : List UInt8) : Nat → Nat → Words → List Nat → SRes
  | 0, _, ws, cs => .ok (ws, cs)
  | f + 1, a, ws, cs =>
    let b := a + run isBl l a
    let t := b + run (fun c => !isBl c) l b
    if l.length ≤ b then .ok (ws, cs)
    else if 20 ≤ ws.length ∨ 80 < t - b then .error (2, b + 1)
    else if run okB (word l b t) 0 < t - b then .error (1, b + run okB (word l b t) 0 + 1)
    else sp l f t (ws ++ [word l b t]) (cs ++ [b + 1])

theorem tok_pos {l : List UInt8} {a : Nat} (h : a + run isBl l a < l.length) : 0 < run (fun c => !isBl c) l (a + run isBl l a) := by
  have e : l[a + run isBl l a]? = some l[a + run isBl l a] := List.getElem?_eq_getElem h
  have := run_stop (p := isBl) e
  rw [run_yes (p := fun c => !isBl c) e (by simp [this])]
  omega

theorem sp_fuel (l : List UInt8) : ∀ (f g a : Nat) (ws : Words) (cs : List Nat), l.length + 1 - a ≤ f → l.length + 1 - a ≤ g → a ≤ l.length → sp l f a ws cs = sp l g a ws cs := by
  intro f
  induction f with
  | zero => intro g a ws cs h _ h'; omega
  | succ f ih =>
    intro g a ws cs h1 h2 h3
    cases g with
    | zero => omega
    | succ g =>
      unfold sp
      dsimp only
      split
      · rfl
      · rename_i hb
        split
        · rfl
        · split
          · rfl
          · have hp := tok_pos (l := l) (a := a) (by omega)
            have hl := run_le (fun c => !isBl c) l (a + run isBl l a) (by omega)
            exact ih g _ _ _ (by omega) (by omega) hl

/-- from a place on, with as much fuel as it needs -/
def spC (l : List UInt8) (a : Nat) (ws : Words) (cs : List Nat) : SRes := sp l (l.length + 1 - a) a ws cs

theorem spC_eq (l : List UInt8) (a : Nat) (ws : Words) (cs : List Nat) (h : a ≤ l.length) :
    spC l a ws cs =
      (let b := a + run isBl l a
       let t := b + run (fun c => !isBl c) l b
       if l.length ≤ b then .ok (ws, cs)
       else if 20 ≤ ws.length ∨ 80 < t - b then .error (2, b + 1)
       else if run okB (word l b t) 0 < t - b then .error (1, b + run okB (word l b t) 0 + 1)
       else spC l t (ws ++ [word l b t]) (cs ++ [b + 1])) := by
  unfold spC
  rw [show l.length + 1 - a = (l.length - a) + 1 from by omega]
  conv => lhs; unfold sp
  dsimp only
  split
  · rfl
  · split
    · rfl
    · split
      · rfl
      · have hp := tok_pos (l := l) (a := a) (by omega)
        have hl := run_le (fun c => !isBl c) l (a + run isBl l a) (by omega)
        exact sp_fuel l _ _ _ _ _ (by omega) (by omega) hl

/-- at a blank the next place serves as well -/
theorem spC_blank (l : List UInt8) (a : Nat) (ws : Words) (cs : List Nat) {c : UInt8} (hc : l[a]? = some c) (hb : isBl c = true) : spC l a ws cs = spC l (a + 1) ws cs := by
  have ha := (List.getElem?_eq_some_iff.1 hc).1
  rw [spC_eq l a _ _ (by omega), spC_eq l (a + 1) _ _ (by omega)]
  have := run_yes (p := isBl) hc hb
  have e : a + run isBl l a = a + 1 + run isBl l (a + 1) := by omega
  simp only [e]

theorem spC_end {l : List UInt8} {a : Nat} {ws : Words} {cs : List Nat} (h : a ≤ l.length) (hb : l.length ≤ a + run isBl l a) : spC l a ws cs = .ok (ws, cs) := by
  rw [spC_eq l a _ _ h]; dsimp only; rw [if_pos hb]
theorem spC_bound {l : List UInt8} {a b t : Nat} {ws : Words} {cs : List Nat} (h : a ≤ l.length) (eb : b = a + run isBl l a) (et : t = b + run (fun c => !isBl c) l b) (hb : b < l.length) (hx : 20 ≤ ws.length ∨ 80 < t - b) :
    spC l a ws cs = .error (2, b + 1) := by
  subst eb; subst et
  rw [spC_eq l a _ _ h]; dsimp only; rw [if_neg (by omega), if_pos hx]
theorem spC_odd {l : List UInt8} {a b t : Nat} {ws : Words} {cs : List Nat} (h : a ≤ l.length) (eb : b = a + run isBl l a) (et : t = b + run (fun c => !isBl c) l b) (hb : b < l.length) (hx : ¬ (20 ≤ ws.length ∨ 80 < t - b)) (hy : run okB (word l b t) 0 < t - b) :
    spC l a ws cs = .error (1, b + run okB (word l b t) 0 + 1) := by
  subst eb; subst et
  rw [spC_eq l a _ _ h]; dsimp only; rw [if_neg (by omega), if_neg hx, if_pos hy]
theorem spC_word {l : List UInt8} {a b t : Nat} {ws : Words} {cs : List Nat} (h : a ≤ l.length) (eb : b = a + run isBl l a) (et : t = b + run (fun c => !isBl c) l b) (hb : b < l.length) (hx : ¬ (20 ≤ ws.length ∨ 80 < t - b)) (hy : ¬ run okB (word l b t) 0 < t - b) :
    spC l a ws cs = spC l t (ws ++ [word l b t]) (cs ++ [b + 1]) := by
  subst eb; subst et
  rw [spC_eq l a _ _ h]; dsimp only; rw [if_neg (by omega), if_neg hx, if_neg hy]

theorem sp_code (l : List UInt8) : ∀ (f a : Nat) (ws : Words) (cs : List Nat) {e col : Nat}, sp l f a ws cs = .error (e, col) → e = 1 ∨ e = 2 := by
  intro f
  induction f with
  | zero => intro a ws cs e col h; cases h
  | succ f ih =>
    intro a ws cs e col h
    unfold sp at h
    dsimp only at h
    split at h
    · cases h
    · split at h
      · cases h; exact .inr rfl
      · split at h
        · cases h; exact .inl rfl
        · exact ih _ _ _ h
theorem spC_code {l : List UInt8} {a : Nat} {ws : Words} {cs : List Nat} {e col : Nat} (h : spC l a ws cs = .error (e, col)) : e = 1 ∨ e = 2 := sp_code l _ _ _ _ h

/-- what stands ahead of the first such byte; what stands behind it -/
def fore (c : UInt8) (l : List UInt8) : List UInt8 := l.takeWhile (· != c)
def aft (c : UInt8) (l : List UInt8) : List UInt8 := (l.dropWhile (· != c)).drop 1
theorem aft_lt {c : UInt8} {l : List UInt8} (h : l ≠ []) : (aft c l).length < l.length := by
  unfold aft
  have h1 : (l.dropWhile (· != c)).length ≤ l.length := by
    have := congrArg List.length (List.takeWhile_append_dropWhile (p := (· != c)) (l := l))
    rw [List.length_append] at this; omega
  have h2 : 0 < l.length := List.length_pos_iff.2 h
  rw [List.length_drop]; omega

abbrev LineS := Nat × Words × List Nat
abbrev RRes := Except (Nat × Nat × Nat) (List LineS)

def lineOf (l : List UInt8) : SRes := spC (fore 35 l) 0 [] []

/-- a text's lines from its rest on, behind those that are told already -/
def rd (most : Nat) : Nat → List UInt8 → Nat → List LineS → RRes
  | 0, _, _, out => .ok out
  | f + 1, l, no, out =>
    if l = [] then .ok out
    else if most < no then .error (2, no, 0)
    else match lineOf (fore 10 l) with
      | .error (e, col) => .error (e, no, col)
      | .ok (ws, cs) => rd most f (aft 10 l) (no + 1) (if ws = [] then out else out ++ [(no, ws, cs)])

theorem rd_fuel (most : Nat) : ∀ (f g : Nat) (l : List UInt8) (no : Nat) (out : List LineS), l.length < f → l.length < g → rd most f l no out = rd most g l no out := by
  intro f
  induction f with
  | zero => intro g l no out h; omega
  | succ f ih =>
    intro g l no out h1 h2
    cases g with
    | zero => omega
    | succ g =>
      unfold rd
      split
      · rfl
      · rename_i hn
        split
        · rfl
        · split
          · rfl
          · have := aft_lt (c := 10) hn
            exact ih g _ _ _ (by omega) (by omega)
def rdC (most : Nat) (l : List UInt8) (no : Nat) (out : List LineS) : RRes := rd most (l.length + 1) l no out
theorem rdC_nil (most no : Nat) (out : List LineS) : rdC most [] no out = .ok out := rfl
theorem rdC_most {most no : Nat} {l : List UInt8} {out : List LineS} (h : l ≠ []) (hm : most < no) : rdC most l no out = .error (2, no, 0) := by
  unfold rdC rd; rw [if_neg h, if_pos hm]
theorem rdC_err {most no : Nat} {l : List UInt8} {out : List LineS} {e col : Nat} (h : l ≠ []) (hm : ¬ most < no) (hl : lineOf (fore 10 l) = .error (e, col)) : rdC most l no out = .error (e, no, col) := by
  unfold rdC rd; rw [if_neg h, if_neg hm, hl]
theorem rdC_ok {most no : Nat} {l : List UInt8} {out : List LineS} {ws : Words} {cs : List Nat} (h : l ≠ []) (hm : ¬ most < no) (hl : lineOf (fore 10 l) = .ok (ws, cs)) :
    rdC most l no out = rdC most (aft 10 l) (no + 1) (if ws = [] then out else out ++ [(no, ws, cs)]) := by
  unfold rdC
  conv => lhs; unfold rd
  rw [if_neg h, if_neg hm, hl]
  have := aft_lt (c := 10) h
  exact rd_fuel most _ _ _ _ _ (by omega) (by omega)

theorem rd_most (m n : Nat) : ∀ (f : Nat) (l : List UInt8) (no : Nat) (out : List LineS), no + l.length ≤ m + 1 → no + l.length ≤ n + 1 → rd m f l no out = rd n f l no out := by
  intro f
  induction f with
  | zero => intro l no out _ _; rfl
  | succ f ih =>
    intro l no out h1 h2
    unfold rd
    split
    · rfl
    · rename_i hn
      have hp := List.length_pos_iff.2 hn
      rw [if_neg (by omega), if_neg (by omega)]
      split
      · rfl
      · have := aft_lt (c := 10) hn
        exact ih _ _ _ (by omega) (by omega)
theorem rdC_any (l : List UInt8) : rdC (l.length + 1) l 1 [] = rdC l.length l 1 [] := rd_most _ _ _ _ _ _ (by omega) (by omega)

/-- Read -/
def readS (l : List UInt8) : RRes := if 20000 < l.length then .error (2, 0, 0) else rdC 800 l 1 []
def readAnyS (l : List UInt8) : RRes := rdC l.length l 1 []

end Go.Proofs.YtmeaajhongalaaaGreatDoor.Ln

/-
  LAYER 5, PLAIN MATHEMATICS: names, patterns, what fits and how much that says. No program is imported.
-/
namespace Go.Proofs.YtmeaajhongalaaaGreatDoor.Nm

/-- what stands ahead of the first such byte; what stands behind it -/
def fore (c : UInt8) (l : List UInt8) : List UInt8 := l.takeWhile (· != c)
def aft (c : UInt8) (l : List UInt8) : List UInt8 := (l.dropWhile (· != c)).drop 1

theorem fore_self {c : UInt8} : ∀ {l : List UInt8}, c ∉ l → fore c l = l := by
  intro l
  induction l with
  | nil => intro _; rfl
  | cons x l ih =>
    intro h
    have hx : (x != c) = true := by simp; intro e; exact h (by simp [e])
    unfold fore at *
    rw [List.takeWhile_cons, hx, if_pos rfl, ih (fun k => h (List.mem_cons_of_mem _ k))]
theorem fore_cut {c : UInt8} : ∀ {l r : List UInt8}, c ∉ l → fore c (l ++ c :: r) = l ∧ aft c (l ++ c :: r) = r := by
  intro l
  induction l with
  | nil => intro r _; exact ⟨by simp [fore], by simp [aft]⟩
  | cons x l ih =>
    intro r h
    have hx : (x != c) = true := by simp; intro e; exact h (by simp [e])
    have := ih (r := r) (fun k => h (List.mem_cons_of_mem _ k))
    unfold fore aft at *
    rw [List.cons_append, List.takeWhile_cons, List.dropWhile_cons, hx]
    exact ⟨by rw [if_pos rfl, this.1], this.2⟩
theorem fore_no (c : UInt8) (l : List UInt8) : c ∉ fore c l := by
  induction l with
  | nil => simp [fore]
  | cons x l ih =>
    unfold fore at *
    rw [List.takeWhile_cons]
    by_cases h : (x != c) = true
    · rw [h, if_pos rfl, List.mem_cons, not_or]
      exact ⟨by simp at h; exact fun e => h e.symm, ih⟩
    · rw [if_neg h]; simp
theorem fore_split {c : UInt8} : ∀ {l : List UInt8}, (fore c l).length < l.length → l = fore c l ++ c :: aft c l := by
  intro l
  induction l with
  | nil => intro h; simp at h
  | cons x l ih =>
    intro h
    by_cases hx : x = c
    · subst hx; simp [fore, aft]
    · have hx' : (x != c) = true := by simpa using hx
      have e1 : fore c (x :: l) = x :: fore c l := by unfold fore; rw [List.takeWhile_cons, hx', if_pos rfl]
      have e2 : aft c (x :: l) = aft c l := by unfold aft; rw [List.dropWhile_cons, hx', if_pos rfl]
      rw [e1, List.length_cons, List.length_cons] at h
      rw [e1, e2, List.cons_append, ← ih (by omega)]
theorem fore_le (c : UInt8) (l : List UInt8) : (fore c l).length ≤ l.length := (List.takeWhile_sublist _).length_le

def isL (c : UInt8) : Bool := decide (97 ≤ c.toNat) && decide (c.toNat ≤ 122)
def okN (c : UInt8) : Bool := isL c || (decide (48 ≤ c.toNat) && decide (c.toNat ≤ 57)) || (c == 45)
def headL (l : List UInt8) : Bool := match l with | [] => true | c :: _ => isL c
/-- all bytes of names, no more than twenty, the first one a letter -/
def letters (l : List UInt8) : Bool := decide (l.length ≤ 20) && headL l && l.all okN
def lastIs (c : UInt8) (l : List UInt8) : Bool := l.getLast? == some c
def plain (l : List UInt8) : Bool := !l.isEmpty && letters l && !lastIs 45 l
/-- begins it with @, and is there a stroke? -/
def scp (l : List UInt8) : Bool := (l.head? == some 64) && decide ((fore 47 l).length < l.length)
def scopeV (l : List UInt8) : List UInt8 := if scp l then (fore 47 l).drop 1 else []
def restV (l : List UInt8) : List UInt8 := if scp l then aft 47 l else l
def checkV (l : List UInt8) : Bool := if scp l then plain ((fore 47 l).drop 1) && plain (aft 47 l) else plain l
def star (l : List UInt8) : Bool := lastIs 42 l
def openG (l : List UInt8) : Bool := if scp l then plain ((fore 47 l).drop 1) && letters (aft 47 l) else letters l
def globV (l : List UInt8) : Bool := if star l then openG l.dropLast else checkV l
def matchV (g s : List UInt8) : Bool := globV g && checkV s && (if star g then g.dropLast.isPrefixOf s else g == s)
def weightV (g : List UInt8) : Int := if globV g then (if star g then 2 * ((g.length : Int) - 1) else 2 * (g.length : Int) + 1) else -1

/-- which of the first k patterns fits and says most: its place, or -1 -/
def longV (s : List UInt8) (gs : List (List UInt8)) : Nat → Int
  | 0 => -1
  | k + 1 => let at' := longV s gs k
    if matchV (gs.getD k []) s && (decide (at' < 0) || decide (weightV (gs.getD k []) > weightV (gs.getD at'.toNat []))) then (k : Int) else at'

theorem longV_lt (s : List UInt8) (gs : List (List UInt8)) : ∀ k, -1 ≤ longV s gs k ∧ longV s gs k < k := by
  intro k
  induction k with
  | zero => simp [longV]
  | succ k ih =>
    unfold longV
    dsimp only
    split <;> omega
theorem longV_fits (s : List UInt8) (gs : List (List UInt8)) : ∀ k, 0 ≤ longV s gs k → matchV (gs.getD (longV s gs k).toNat []) s = true := by
  intro k
  induction k with
  | zero => simp [longV]
  | succ k ih =>
    unfold longV
    dsimp only
    split
    · rename_i h
      intro _
      simp only [Bool.and_eq_true] at h
      simpa using h.1
    · exact ih

theorem letters_nil : letters [] = true := rfl
theorem head64_plain {l : List UInt8} (h : l.head? = some 64) : letters l = false := by
  cases l with
  | nil => cases h
  | cons x l =>
    cases h
    simp [letters, headL, isL]
theorem plain_letters {l : List UInt8} (h : plain l = true) : letters l = true := by
  unfold plain at h
  simp only [Bool.and_eq_true] at h
  exact h.1.2
theorem plain_ne {l : List UInt8} (h : plain l = true) : l ≠ [] := by
  rintro rfl; simp [plain] at h
theorem plain_of {l : List UInt8} (h : letters l = false) : plain l = false := by
  unfold plain; rw [h]; simp
theorem letters_all {l : List UInt8} (h : letters l = true) : ∀ c, c ∈ l → okN c = true := by
  unfold letters at h
  simp only [Bool.and_eq_true] at h
  exact List.all_eq_true.1 h.2
theorem letters_len {l : List UInt8} (h : letters l = true) : l.length ≤ 20 := by
  unfold letters at h
  simp only [Bool.and_eq_true, decide_eq_true_eq] at h
  exact h.1.1
theorem okN_ne {c d : UInt8} (h : okN c = true) (hd : okN d = false) : c ≠ d := by
  rintro rfl; rw [h] at hd; cases hd

theorem getLast_split {l : List UInt8} {c : UInt8} (h : lastIs c l = true) : l = l.dropLast ++ [c] := by
  unfold lastIs at h
  have h : l.getLast? = some c := by simpa using h
  obtain ⟨ys, rfl⟩ := List.getLast?_eq_some_iff.1 h
  simp
theorem lastIs_append (l : List UInt8) (c d : UInt8) : lastIs c (l ++ [d]) = (d == c) := by
  unfold lastIs; simp
theorem lastIs_mem {l : List UInt8} {c : UInt8} (h : lastIs c l = true) : c ∈ l := by
  rw [getLast_split h]; simp

/-- a pattern without a star that a name fits is that name -/
theorem star_check {s : List UInt8} (h : checkV s = true) : star s = false := by
  cases hs : star s
  · rfl
  · exfalso
    unfold checkV at h
    have hm := getLast_split hs
    split at h
    · rename_i hsc
      simp only [Bool.and_eq_true] at h
      have hsc' := hsc
      unfold scp at hsc'
      simp only [Bool.and_eq_true, decide_eq_true_eq] at hsc'
      have he := fore_split hsc'.2
      have hl : lastIs 42 (aft 47 s) = true := by
        have hne := plain_ne h.2
        unfold star lastIs at hs
        rw [he] at hs
        unfold lastIs
        cases ha : aft 47 s with
        | nil => exact absurd ha hne
        | cons x t => rw [ha] at hs; simpa using hs
      have := letters_all (plain_letters h.2) 42 (lastIs_mem hl)
      exact absurd this (by decide)
    · have := letters_all (plain_letters h) 42 (lastIs_mem hs)
      exact absurd this (by decide)
theorem match_self {s : List UInt8} (h : checkV s = true) : matchV s s = true := by
  unfold matchV globV
  rw [star_check h]; simp [h]
theorem match_all {s : List UInt8} (h : checkV s = true) : matchV [42] s = true := by
  unfold matchV
  rw [h]
  have h1 : globV [42] = true := by decide
  have h2 : star [42] = true := by decide
  rw [h1, h2]; rfl
theorem match_front {s : List UInt8} (h : checkV s = true) (n : Nat) : matchV (s.take n ++ [42]) s = globV (s.take n ++ [42]) := by
  unfold matchV
  have h2 : star (s.take n ++ [42]) = true := by unfold star; rw [lastIs_append]; rfl
  rw [h, h2, if_pos rfl, Bool.and_true, List.dropLast_concat]
  rw [show (s.take n).isPrefixOf s = true from List.isPrefixOf_iff_prefix.2 (List.take_prefix n s), Bool.and_true]

theorem scp_split {s : List UInt8} (h : scp s = true) : s = 64 :: ((fore 47 s).drop 1 ++ 47 :: aft 47 s) ∧ 47 ∉ (fore 47 s).drop 1 ∧ 64 :: (fore 47 s).drop 1 = fore 47 s := by
  unfold scp at h
  simp only [Bool.and_eq_true, decide_eq_true_eq] at h
  have he := fore_split h.2
  have hn := fore_no 47 s
  cases hf : fore 47 s with
  | nil =>
    rw [hf, List.nil_append] at he
    rw [he] at h; simp at h
  | cons x t =>
    rw [hf] at he hn
    have : x = 64 := by
      rw [he] at h; simpa using h.1
    subst this
    refine ⟨?_, ?_, rfl⟩
    · simpa using he
    · simp; intro hm; exact hn (List.mem_cons_of_mem _ hm)

/-- a scoped name fits all of its scope -/
theorem match_scope {s : List UInt8} (h : checkV s = true) (hs : scp s = true) : matchV (64 :: (scopeV s ++ [47, 42])) s = true := by
  obtain ⟨h1, h2, h3⟩ := scp_split hs
  have hc := h
  unfold checkV at hc
  rw [if_pos hs, Bool.and_eq_true] at hc
  unfold scopeV
  rw [if_pos hs]
  generalize hA : (fore 47 s).drop 1 = A at *
  have hstar : star (64 :: (A ++ [47, 42])) = true := by
    rw [show (64 :: (A ++ [47, 42]) : List UInt8) = (64 :: (A ++ [47])) ++ [42] from by simp]
    unfold star; rw [lastIs_append]; rfl
  have hdl : (64 :: (A ++ [47, 42]) : List UInt8).dropLast = 64 :: (A ++ [47]) := by
    rw [show (64 :: (A ++ [47, 42]) : List UInt8) = (64 :: (A ++ [47])) ++ [42] from by simp, List.dropLast_concat]
  have hA' : (47 : UInt8) ∉ (64 :: A : List UInt8) := by
    simp [h2]
  have hcut := fore_cut (c := 47) (l := 64 :: A) (r := []) hA'
  have hsc : scp (64 :: (A ++ [47])) = true := by
    unfold scp
    rw [show (64 :: (A ++ [47]) : List UInt8) = (64 :: A) ++ 47 :: [] from rfl, hcut.1]
    simp
  have hog : openG (64 :: (A ++ [47])) = true := by
    unfold openG
    rw [if_pos hsc, show (64 :: (A ++ [47]) : List UInt8) = (64 :: A) ++ 47 :: [] from rfl, hcut.1, hcut.2]
    simp [hc.1, letters_nil]
  have hpre : (64 :: (A ++ [47]) : List UInt8).isPrefixOf s = true := by
    apply List.isPrefixOf_iff_prefix.2
    rw [h1]
    exact ⟨aft 47 s, by simp⟩
  unfold matchV
  rw [h, hstar, if_pos rfl, hdl, hpre]
  unfold globV
  rw [hstar, if_pos rfl, hdl, hog]; rfl

theorem weight_rank {g h s : List UInt8} (hg : matchV g s = true) (hh : matchV h s = true) (hne : g ≠ h) : weightV g ≠ weightV h := by
  unfold matchV at hg hh
  simp only [Bool.and_eq_true] at hg hh
  obtain ⟨⟨a1, a2⟩, a3⟩ := hg
  obtain ⟨⟨b1, _⟩, b3⟩ := hh
  unfold weightV
  rw [if_pos a1, if_pos b1]
  cases sg : star g <;> cases sh : star h
  · rw [sg] at a3; rw [sh] at b3
    have e1 : g = s := by simpa using a3
    have e2 : h = s := by simpa using b3
    exact absurd (e1.trans e2.symm) hne
  · simp only [Bool.false_eq_true, if_false, if_true]; omega
  · simp only [Bool.false_eq_true, if_false, if_true]; omega
  · rw [sg, if_pos rfl] at a3; rw [sh, if_pos rfl] at b3
    simp only [if_true]
    intro hw
    apply hne
    have p1 := List.prefix_iff_eq_take.1 (List.isPrefixOf_iff_prefix.1 a3)
    have p2 := List.prefix_iff_eq_take.1 (List.isPrefixOf_iff_prefix.1 b3)
    have l1 : g.length ≠ 0 := by intro e; have := List.eq_nil_of_length_eq_zero e; subst this; simp [star, lastIs] at sg
    have l2 : h.length ≠ 0 := by intro e; have := List.eq_nil_of_length_eq_zero e; subst this; simp [star, lastIs] at sh
    have hl : g.dropLast.length = h.dropLast.length := by simp; omega
    rw [getLast_split sg, getLast_split sh, p1, p2, hl]

theorem check_len {s : List UInt8} (h : checkV s = true) : s.length ≤ 42 := by
  unfold checkV at h
  split at h
  · rename_i hs
    obtain ⟨h1, _, _⟩ := scp_split hs
    rw [Bool.and_eq_true] at h
    have e := congrArg List.length h1
    have p := letters_len (plain_letters h.1)
    have q := letters_len (plain_letters h.2)
    rw [List.length_cons, List.length_append, List.length_cons] at e
    omega
  · have := letters_len (plain_letters h); omega
theorem glob_len {s : List UInt8} (h : globV s = true) : s.length ≤ 43 := by
  unfold globV at h
  split at h
  · rename_i hst
    have e := congrArg List.length (getLast_split hst)
    rw [List.length_append] at e
    unfold openG at h
    split at h
    · rename_i hs
      obtain ⟨h1, _, _⟩ := scp_split hs
      rw [Bool.and_eq_true] at h
      have e2 := congrArg List.length h1
      have p := letters_len (plain_letters h.1)
      have q := letters_len h.2
      rw [List.length_cons, List.length_append, List.length_cons] at e2
      simp only [List.length_cons, List.length_nil] at e; omega
    · have := letters_len h; simp only [List.length_cons, List.length_nil] at e; omega
  · have := check_len h; omega
theorem weight_pos {g : List UInt8} (h : globV g = true) : 0 ≤ weightV g := by
  unfold weightV
  rw [if_pos h]
  split
  · rename_i hs
    have e := congrArg List.length (getLast_split hs)
    rw [List.length_append] at e
    simp at e; omega
  · omega
theorem weight_max (g : List UInt8) : weightV g ≤ 87 := by
  unfold weightV
  split
  · rename_i h
    have := glob_len h
    split <;> omega
  · omega

end Go.Proofs.YtmeaajhongalaaaGreatDoor.Nm

/-
  LAYER 7, PLAIN MATHEMATICS: a need's words; a manifest's lines.
-/
namespace Go.Proofs.YtmeaajhongalaaaGreatDoor.Ix
open Go.Proofs.YtmeaajhongalaaaGreatDoor

abbrev Words := List (List UInt8)
structure NeedS where
  name : List UInt8
  rng : List UInt8
  feats : Words

def isRng (l : List UInt8) : Bool := (Sp.rngOf l).isSome

/-- what is wrong: a code, and at which byte of the line -/
abbrev Err := Nat × Nat

/-- the next word, of a kind: it, or what is wrong -/
def takeW (p : List UInt8 → Bool) (ws : Words) (cs : List Nat) (t : Nat) : Except Err (List UInt8) :=
  match ws[t]? with
  | none => .error (1, 0)
  | some w => if p w then .ok w else .error (1, cs.getD t 0)

/-- features, from a word on, behind those that are told already -/
def featsP (most : Int) (ws : Words) (cs : List Nat) : Nat → Nat → Words → Except Err Words
  | 0, _, fs => .ok fs
  | f + 1, t, fs => match ws[t]? with
    | none => .ok fs
    | some w =>
      if Nm.plain w = false then .error (1, cs.getD t 0)
      else if fs.contains w = true then .error (3, cs.getD t 0)
      else if most ≤ (fs.length : Int) then .error (2, cs.getD t 0)
      else featsP most ws cs f (t + 1) (fs ++ [w])

/-- a need's words from one on: the need, and the word behind it -/
def needP (most : Int) (ws : Words) (cs : List Nat) (t : Nat) : Except Err (NeedS × Nat) :=
  match takeW Nm.checkV ws cs t with
  | .error e => .error e
  | .ok nm => match takeW isRng ws cs (t + 1) with
    | .error e => .error e
    | .ok rg =>
      if 0 < most then match featsP most ws cs (ws.length - (t + 2)) (t + 2) [] with
        | .error e => .error e
        | .ok fs => .ok (⟨nm, rg, fs⟩, ws.length)
      else .ok (⟨nm, rg, []⟩, t + 2)

/-- nothing may be left -/
def endW {α : Type} (ws : Words) (cs : List Nat) (t : Nat) (x : α) : Except Err α :=
  if t < ws.length then .error (1, cs.getD t 0) else .ok x

theorem takeW_none {p : List UInt8 → Bool} {ws : Words} {cs : List Nat} {t : Nat} (h : ¬ t < ws.length) : takeW p ws cs t = .error (1, 0) := by
  unfold takeW; rw [List.getElem?_eq_none (by omega)]
theorem takeW_yes {p : List UInt8 → Bool} {ws : Words} {cs : List Nat} {t : Nat} (h : t < ws.length) (hp : p ws[t] = true) : takeW p ws cs t = .ok ws[t] := by
  unfold takeW; rw [List.getElem?_eq_getElem h]; simp [hp]
theorem takeW_no {p : List UInt8 → Bool} {ws : Words} {cs : List Nat} {t : Nat} (h : t < ws.length) (hp : p ws[t] = false) : takeW p ws cs t = .error (1, cs.getD t 0) := by
  unfold takeW; rw [List.getElem?_eq_getElem h]; simp [hp]
theorem takeW_ok {p : List UInt8 → Bool} {ws : Words} {cs : List Nat} {t : Nat} {w : List UInt8} (h : takeW p ws cs t = .ok w) : ∃ hl : t < ws.length, ws[t] = w ∧ p w = true := by
  by_cases hl : t < ws.length
  · refine ⟨hl, ?_⟩
    cases hp : p ws[t] with
    | true => rw [takeW_yes hl hp] at h; cases h; exact ⟨rfl, hp⟩
    | false => rw [takeW_no hl hp] at h; cases h
  · rw [takeW_none hl] at h; cases h

/-- the features from a word on, with as much fuel as they need -/
def featsC (most : Int) (ws : Words) (cs : List Nat) (t : Nat) (fs : Words) : Except Err Words := featsP most ws cs (ws.length - t) t fs
theorem featsC_end {most : Int} {ws : Words} {cs : List Nat} {t : Nat} {fs : Words} (h : ¬ t < ws.length) : featsC most ws cs t fs = .ok fs := by
  unfold featsC; rw [show ws.length - t = 0 by omega]; rfl
theorem featsC_step {most : Int} {ws : Words} {cs : List Nat} {t : Nat} {fs : Words} (h : t < ws.length) :
    featsC most ws cs t fs = (if Nm.plain ws[t] = false then .error (1, cs.getD t 0) else if fs.contains ws[t] = true then .error (3, cs.getD t 0) else if most ≤ (fs.length : Int) then .error (2, cs.getD t 0) else featsC most ws cs (t + 1) (fs ++ [ws[t]])) := by
  unfold featsC
  rw [show ws.length - t = (ws.length - (t + 1)) + 1 by omega]
  conv => lhs; unfold featsP
  rw [List.getElem?_eq_getElem h]

/-- what a manifest's lines begin with -/
def manW : List UInt8 := [109, 97, 110, 105, 102, 101, 115, 116]
def rootW : List UInt8 := [114, 111, 111, 116]
/-- a manifest's line: the roots then -/
def manLine (begun : Bool) (ws : Words) (cs : List Nat) (out : List NeedS) : Except Err (List NeedS) :=
  if begun then
    (if ws.getD 0 [] ≠ rootW then .error (1, cs.getD 0 0)
     else if out.length = 8 then .error (2, cs.getD 0 0)
     else match needP 4 ws cs 1 with
      | .error e => .error e
      | .ok (n, t) => endW ws cs t (out ++ [n]))
  else (if ws.getD 0 [] ≠ manW then .error (1, cs.getD 0 0) else endW ws cs 1 out)
def manGo : List Ln.LineS → Bool → List NeedS → Except (Nat × Nat × Nat) (List NeedS)
  | [], _, out => .ok out
  | (no, ws, cs) :: xs, begun, out => match manLine begun ws cs out with
    | .error (c, col) => .error (c, no, col)
    | .ok out' => manGo xs true out'
def manL (xs : List Ln.LineS) : Except (Nat × Nat × Nat) (List NeedS) := if xs = [] then .error (1, 0, 0) else manGo xs false []
/-- the manifest with a text -/
def manP (l : List UInt8) : Except (Nat × Nat × Nat) (List NeedS) := match Ln.readS l with
  | .error e => .error e
  | .ok xs => manL xs
theorem manGo_step {xs : List Ln.LineS} {k : Nat} {no : Nat} {ws : Words} {cs : List Nat} (h : xs[k]? = some (no, ws, cs)) (b : Bool) (out : List NeedS) :
    manGo (xs.drop k) b out = (match manLine b ws cs out with
      | .error (c, col) => .error (c, no, col)
      | .ok out' => manGo (xs.drop (k + 1)) true out') := by
  obtain ⟨hl, he⟩ := List.getElem?_eq_some_iff.1 h
  rw [List.drop_eq_getElem_cons hl, he]
  rfl
end Go.Proofs.YtmeaajhongalaaaGreatDoor.Ix

/-
  LAYER 1: what a line of words comes to that is laid out of gaps and words; a text of such lines. No program is imported.
-/
namespace Go.Proofs.YtmeaajhongalaaaGreatDoor.Ln

theorem okB_bl {c : UInt8} (h : okB c = true) : isBl c = false := by
  unfold okB at h
  unfold isBl
  simp only [Bool.and_eq_true, decide_eq_true_eq] at h
  rw [Bool.or_eq_false_iff, beq_eq_false_iff_ne, beq_eq_false_iff_ne]
  constructor
  · rintro rfl; exact absurd h.1 (by decide)
  · rintro rfl; exact absurd h.1 (by decide)

/-- a gap and a word -/
abbrev Piece := List UInt8 × List UInt8
def Piece.ok (p : Piece) : Prop := (∀ c, c ∈ p.1 → isBl c = true) ∧ p.2 ≠ [] ∧ p.2.length ≤ 80 ∧ ∀ c, c ∈ p.2 → okB c = true
def txt (ps : List Piece) : List UInt8 := ps.flatMap fun p => p.1 ++ p.2
def colsOf : Nat → List Piece → List Nat
  | _, [] => []
  | a, p :: ps => (a + p.1.length + 1) :: colsOf (a + p.1.length + p.2.length) ps

theorem colsOf_len : ∀ (ps : List Piece) (a : Nat), (colsOf a ps).length = ps.length := by
  intro ps
  induction ps with
  | nil => intro a; rfl
  | cons p ps ih => intro a; simp [colsOf, ih]

theorem takeWhile_app {p : UInt8 → Bool} : ∀ (g r : List UInt8), (∀ c, c ∈ g → p c = true) → (∀ c, r.head? = some c → p c = false) → (g ++ r).takeWhile p = g := by
  intro g
  induction g with
  | nil =>
    intro r _ hr
    cases r with
    | nil => rfl
    | cons c r => simp [hr c rfl]
  | cons c g ih =>
    intro r hg hr
    simp [hg c (by simp), ih r (fun c h => hg c (by simp [h])) hr]

theorem drop_add_app {l g r : List UInt8} {a : Nat} (h : l.drop a = g ++ r) : l.drop (a + g.length) = r := by
  rw [← List.drop_drop, h]; simp

theorem txt_head {ps : List Piece} (hne : ∀ p, ps.head? = some p → p.1 ≠ []) (hok : ∀ p, p ∈ ps → Piece.ok p) {tail : List UInt8} (ht : ∀ c, c ∈ tail → isBl c = true) :
    ∀ c, (txt ps ++ tail).head? = some c → isBl c = true := by
  intro c hc
  cases ps with
  | nil =>
    cases tail with
    | nil => cases hc
    | cons d tail => simp [txt] at hc; subst hc; exact ht _ (by simp)
  | cons p ps =>
    obtain ⟨g, w⟩ := p
    cases g with
    | nil => exact absurd rfl (hne _ rfl)
    | cons d g =>
      simp [txt] at hc
      subst hc
      exact (hok (d :: g, w) (by simp)).1 d (by simp)

theorem spC_pieces {tail : List UInt8} (ht : ∀ c, c ∈ tail → isBl c = true) : ∀ (ps : List Piece) (l : List UInt8) (a : Nat) (ws : Words) (cs : List Nat), a ≤ l.length → l.drop a = txt ps ++ tail →
    (∀ p, p ∈ ps → Piece.ok p) → (∀ p, p ∈ ps.tail → p.1 ≠ []) → ws.length + ps.length ≤ 20 → spC l a ws cs = .ok (ws ++ ps.map (·.2), cs ++ colsOf a ps) := by
  intro ps
  induction ps with
  | nil =>
    intro l a ws cs ha hd _ _ _
    simp only [txt, List.flatMap_nil, List.nil_append] at hd
    have hr : run isBl l a = tail.length := by
      unfold run
      rw [hd]
      have := takeWhile_app (p := isBl) tail [] ht (by intro c h; cases h)
      simp only [List.append_nil] at this
      rw [this]
    have hl : tail.length = l.length - a := by rw [← hd, List.length_drop]
    rw [spC_end ha (by omega)]
    simp [colsOf]
  | cons p ps ih =>
    intro l a ws cs ha hd hok hg hn
    obtain ⟨g, w⟩ := p
    obtain ⟨h1, h2, h3, h4⟩ := hok (g, w) (by simp)
    dsimp only at h1 h2 h3 h4
    have hd' : l.drop a = g ++ (w ++ (txt ps ++ tail)) := by rw [hd]; simp [txt]
    have hlen : l.length - a = g.length + (w.length + (txt ps ++ tail).length) := by rw [← List.length_drop, hd', List.length_append, List.length_append]
    have hw0 : 0 < w.length := List.length_pos_iff.2 h2
    have hb0 : run isBl l a = g.length := by
      unfold run
      rw [hd', takeWhile_app g _ h1]
      intro c hc
      cases w with
      | nil => exact absurd rfl h2
      | cons d w => simp at hc; subst hc; exact okB_bl (h4 _ (by simp))
    have hdb := drop_add_app hd'
    have ht0 : run (fun c => !isBl c) l (a + g.length) = w.length := by
      unfold run
      rw [hdb, takeWhile_app w _ (fun c hc => by rw [okB_bl (h4 c hc)]; rfl)]
      intro c hc
      rw [txt_head (fun p hp => hg p (by cases ps with | nil => cases hp | cons q ps => simp at hp; subst hp; simp)) (fun p hp => hok p (by simp [hp])) ht c hc]; rfl
    have hword : word l (a + g.length) (a + g.length + w.length) = w := by
      unfold word
      rw [hdb]
      simp
    have hrun : run okB w 0 = w.length := by
      unfold run
      have := takeWhile_app (p := okB) w [] h4 (by intro c h; cases h)
      simp only [List.append_nil] at this
      simp [this]
    rw [spC_word (b := a + g.length) (t := a + g.length + w.length) ha (by rw [hb0]) (by rw [ht0]) (by omega) (by simp only [List.length_cons] at hn; omega) (by rw [hword, hrun]; omega), hword]
    rw [ih l (a + g.length + w.length) _ _ (by omega) (drop_add_app hdb) (fun p hp => hok p (by simp [hp])) (fun p hp => hg p (by cases ps with | nil => cases hp | cons q ps => simp at hp ⊢; exact .inr hp)) (by simp at hn ⊢; omega)]
    simp [colsOf]

theorem txt_no {c : UInt8} (hb : isBl c = false) {ps : List Piece} (hok : ∀ p, p ∈ ps → Piece.ok p) (hw : ∀ p, p ∈ ps → c ∉ p.2) : c ∉ txt ps := by
  intro h
  unfold txt at h
  rw [List.mem_flatMap] at h
  obtain ⟨p, hp, hc⟩ := h
  rcases List.mem_append.1 hc with h' | h'
  · rw [(hok p hp).1 c h'] at hb; cases hb
  · exact hw p hp h'

theorem fore_cut {c : UInt8} {l r : List UInt8} (h : c ∉ l) : fore c (l ++ c :: r) = l := by
  unfold fore
  refine takeWhile_app l _ (fun d hd => ?_) (fun d hd => ?_)
  · simp only [bne_iff_ne, ne_eq]; rintro rfl; exact h hd
  · simp at hd; subst hd; simp
theorem fore_none {c : UInt8} {l : List UInt8} (h : c ∉ l) : fore c l = l := by
  unfold fore
  have := takeWhile_app (p := (· != c)) l [] (fun d hd => by simp only [bne_iff_ne, ne_eq]; rintro rfl; exact h hd) (by intro c h; cases h)
  simpa using this
theorem aft_cut {c : UInt8} : ∀ {l r : List UInt8}, c ∉ l → aft c (l ++ c :: r) = r := by
  intro l
  induction l with
  | nil => intro r _; simp [aft]
  | cons d l ih =>
    intro r h
    have hd : (d != c) = true := by simp only [bne_iff_ne, ne_eq]; rintro rfl; exact h (by simp)
    have := ih (r := r) (fun h' => h (by simp [h']))
    unfold aft at *
    simp [hd, this]

end Go.Proofs.YtmeaajhongalaaaGreatDoor.Ln
