/-
  LAYER 3, PACKAGE version: what stands between points; what may stand behind a version's numbers.
-/
import Derived.Test.YtmeaajhongalaaaGreatDoorVersionWalks
namespace Go.Proofs.YtmeaajhongalaaaGreatDoor.Vs
open Go.RowKit
open Go.Proofs.YtmeaajhongalaaaGreatDoor Go.Proofs.YtmeaajhongalaaaGreatDoor.Nu

/-- a slice of texts: its cells -/
def CellsAt (w : World) (B o : Nat) (gs : List (List UInt8)) : Prop := B < w.heap.size ∧ ∀ k, k < gs.length → w.cell? ⟨B, o + k, none⟩ = some (.string ⟨(gs.getD k []).toArray⟩)
theorem CellsAt.below {w w' : World} {B o : Nat} {gs : List (List UInt8)} (h : CellsAt w B o gs) (hb : Below w.heap.size w w') : CellsAt w' B o gs :=
  ⟨Nat.lt_of_lt_of_le h.1 hb.size, fun k hk => by rw [hb.cell h.1]; exact h.2 k hk⟩
/-- the library's number of bytes up to which it looks for texts in another way: some number -/
def MaxAt (w : World) : Prop := ∃ m : Int, 1 < w.heap.size ∧ w.cell? ⟨1, 0, none⟩ = some (.int .i64 m)
theorem MaxAt.below {w w' : World} (h : MaxAt w) (hb : Below w.heap.size w w') : MaxAt w' := by
  obtain ⟨m, h1, h2⟩ := h
  exact ⟨m, Nat.lt_of_lt_of_le h1 hb.size, by rw [hb.cell h1]; exact h2⟩

/-- what a text is cut into, n pieces at most -/
def Cuts (n : Nat) (l : List UInt8) (gs : List (List UInt8)) : Prop := ((cutl 46 l).length ≤ n → gs = cutl 46 l) ∧ (n < (cutl 46 l).length → gs.length = n) ∧ gs.length ≤ n
def SplitIs (n : Nat) (l : List UInt8) (w : World) (e : Ending) (w' : World) : Prop :=
  ∃ gs c B, w.heap.size ≤ B ∧ Cuts n l gs ∧ gs.length ≤ c ∧ c ≤ n ∧ e = .returned (.slice (some ⟨B, 0, none⟩) gs.length c) ∧ Below w.heap.size w w' ∧ CellsAt w' B 0 gs

theorem info9 : (Tryz.prog.info? (Tryz.lays147_ren.t 9)).map (fun i => (i.zero, i.size, i.bytes)) = some (some (.string ByteArray.empty), 1, 16) := by kernel_rfl

theorem splitN_any (s : ByteArray) (hs : s.size < 4294967281) (n : Nat) (hn : 1 ≤ n) (hn9 : n ≤ 100) (w : World) (hm : MaxAt w) :
    Calls Tryz.prog 144 #[.string s, .string ⟨#[46]⟩, .int .i64 n] w (SplitIs n s.data.toList w) := by
  obtain ⟨m, _, hm⟩ := hm
  obtain ⟨h1, h2⟩ := splitN_cut 46 n hn s
  have hle := Lib.splitB_length_le ⟨#[46]⟩ 0 (min n (s.size + 1) - 1) s
  refine (Any.strings_SplitN Tryz.lays147 info9 s ⟨#[46]⟩ n m w hs hm (by decide) hn (by omega)).mono ?_
  rintro e w' ⟨rfl, rfl⟩
  generalize hP : Lib.splitB ⟨#[46]⟩ 0 (min n (s.size + 1) - 1) s = P at h1 h2 hle ⊢
  have hc : 1 ≤ (cutl 46 s.data.toList).length := List.length_pos_iff.2 (cutl_ne _ _)
  have hcl := cutl_len 46 _ s.data.toList (Nat.le_refl _)
  have hsl := lenS s
  refine ⟨P.map (·.data.toList), min n (s.size + 1), w.heap.size, Nat.le_refl _, ⟨fun h => ?_, fun h => ?_, ?_⟩, ?_, by omega, by rw [List.length_map], ?_, ?_⟩
  · rw [h1 h, List.map_map]
    rw [List.map_congr_left (g := id) (fun x _ => by simp)]; simp
  · rw [List.length_map, h2 h]
  · rw [List.length_map]; omega
  · rw [List.length_map]; omega
  · exact below_alloc (Below.refl _ _) _
  · have hsz : P.length ≤ min n (s.size + 1) := by omega
    refine ⟨by simp, fun k hk => ?_⟩
    rw [List.length_map] at hk
    rw [World.cell?_alloc_at _ _ _ _ rfl, Nat.zero_add]
    unfold Lib.cellsOf
    rw [List.getElem?_toArray, List.getElem?_append_left (by simpa using hk), List.getElem?_map, List.getElem?_eq_getElem hk]
    simp [List.getD, List.getElem?_eq_getElem hk]

theorem parts_any (s : ByteArray) (hs : s.size < 4294967281) (w : World) (hm : MaxAt w) :
    Calls Tryz.prog 107 #[.string s] w (SplitIs 5 s.data.toList w) := by
  have HS : Hid (∀ w, MaxAt w → Calls Tryz.prog 144 #[.string s, .string ⟨#[46]⟩, .int .i64 5] w (SplitIs 5 s.data.toList w)) := hid (splitN_any s hs 5 (by decide) (by decide))
  clear hs
  go_enter Tryz.func107, Tryz.ntmps107
  go_wp2_with (go_at_call 144; (with_reducible refine (HS.out _ hm).mono ?_); rintro e w' ⟨gs, c, B, h0, h1, h2, h3, rfl, h5, h6⟩)
  go_ret
  exact ⟨gs, c, B, h0, h1, h2, h3, rfl, h5, h6⟩

theorem part_size {c : UInt8} {l p : List UInt8} (h : p ∈ cutl c l) : p.length ≤ l.length := (cutl_mem c _ l (Nat.le_refl _) p h).2
theorem take_all {α : Type} {p : α → Bool} {l : List α} {k : Nat} {x : α} (h : (l.take k).all p = true) (hx : l[k]? = some x) (hp : p x = true) : (l.take (k + 1)).all p = true := by
  rw [List.take_add_one, hx, List.all_append, h]; simpa using hp
theorem all_off {α : Type} {p : α → Bool} {l : List α} {k : Nat} {x : α} (hx : l[k]? = some x) (hp : p x = false) : l.all p = false := by
  rw [← Bool.not_eq_true, List.all_eq_true]
  intro h
  have := h x (List.mem_of_getElem? hx)
  rw [hp] at this; cases this

set_option maxHeartbeats 1000000 in
theorem checkPre_any (s : ByteArray) (hs : s.size < 4294967281) (w : World) (hm : MaxAt w) :
    Calls Tryz.prog 119 #[.string s] w (Gives (.bool (preV s.data.toList)) w) := by
  have HS := hid (parts_any s hs)
  have hlen := hid (lenS s)
  have HV := hid (show preV s.data.toList = (decide ((cutl 46 s.data.toList).length ≤ 4) && (cutl 46 s.data.toList).all partV) from rfl)
  have HM := hid (fun p (h : p ∈ cutl 46 s.data.toList) => part_size h)
  generalize preV s.data.toList = R at HV ⊢
  generalize hC : cutl 46 s.data.toList = C at HV HM
  have hC' := hid hC
  clear hC
  have hs' := hid hs
  go_enter Tryz.func119, Tryz.ntmps119
  go_wp2_with (go_at_call 107; (with_reducible refine (HS.out _ hm).mono ?_); rintro e w' ⟨gs, c, B, hB, ⟨h1, h2, h2'⟩, h3, h4, rfl, hb, hc⟩)
  all_goals rw [hC'.out] at h1 h2
  · rename_i h4'
    have h5 : 4 < C.length := by
      rcases Nat.lt_or_ge 5 C.length with h | h
      · omega
      · rw [← h1 h]; omega
    go_ret
    exact gives rfl (bool_eq (by rw [HV.out, decide_eq_false (by omega)]; rfl)) hb
  · rename_i h4'
    have h5 : C.length ≤ 5 := by
      rcases Nat.lt_or_ge 5 C.length with h | h
      · have := h2 h; omega
      · exact h
    have hg := h1 h5
    subst hg
    clear h1 h2 h5 h2'
    have hd := hid (show gs.length ≤ 4 by omega)
    go_loopw [5, 13] (fun _ i wr => ∃ k : Nat, k ≤ gs.length ∧ i = .int .i64 k ∧ Below w.heap.size w wr ∧ CellsAt wr B 0 gs ∧ Hid ((gs.take k).all partV = true)) (fun _ i _ => gs.length - (intOf i).toNat)
    case atStart => exact ⟨0, Nat.zero_le _, rfl, hb, hc, hid rfl⟩
    case round =>
      obtain ⟨k, hk, rfl, hb1, hc1, hp⟩ := hrel
      by_cases hlt : k < gs.length
      · have hcell := hc1.2 k hlt
        rw [Nat.zero_add] at hcell
        have hbl := hc1.1
        have hx := hid (show gs[k]? = some (gs.getD k []) by simp [List.getD, List.getElem?_eq_getElem hlt])
        generalize gs.getD k [] = g at hcell hx
        have hgl : g.length ≤ s.size := by rw [← hlen.out]; exact HM.out g (List.mem_of_getElem? hx.out)
        have HG : Hid (∀ w, Calls Tryz.prog 156 #[.string ⟨g.toArray⟩] w (Gives (.bool (partV g)) w)) := hid (checkPart_any ⟨g.toArray⟩ (by show g.toArray.size ≤ maxLen; unfold maxLen; simp; omega))
        have Y := hid (fun h => take_all hp.out hx.out h)
        have Z := hid (fun h => all_off (p := partV) hx.out h)
        clear hx hgl hc hb
        generalize partV g = b at *
        cases b
        · go_wp2_with (go_at_call 156; (with_reducible refine (HG.out _).mono ?_); rintro e w2 ⟨rfl, hb2⟩)
          go_ret
          exact gives rfl (bool_eq (by rw [HV.out, Z.out (by first | rfl | trivial), Bool.and_false])) (below_trans hb1 hb2)
        · go_wp2_with (go_at_call 156; (with_reducible refine (HG.out _).mono ?_); rintro e w2 ⟨rfl, hb2⟩)
          go_roundw
          case rel => exact ⟨k + 1, by omega, by go_num, below_trans hb1 hb2, hc1.below hb2, hid (Y.out (by first | rfl | trivial))⟩
          case measure => simp [intOf]; omega
      · have hke := hid (show k = gs.length by omega)
        go_wp2_with fail
        go_ret
        exact gives rfl (bool_eq (by rw [HV.out, decide_eq_true hd.out]; have := hp.out; rw [hke.out, List.take_length] at this; rw [this]; rfl)) hb1
end Go.Proofs.YtmeaajhongalaaaGreatDoor.Vs
