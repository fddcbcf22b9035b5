/-
  LAYER 12: without, Resolve.
-/
import Derived.Test.YtopneceicamakaaCnfTaut
import Derived.OwnWalk
namespace Go.Proofs.Ytopneceicamakaa.Cf
open Go.RowKit Go.Proofs.Ytopneceicamakaa Go.Proofs.Ytopneceicamakaa.Ln

open Go.Sort Go.Lib in
theorem without_gives (y x : Int) (B : Nat) (W : World) (hc : W.cell? ⟨B, 0, none⟩ = some (.int .i64 y)) :
    Go.Proofs.FnGives Try.prog 64 #[.pointer (some ⟨B, 0, none⟩)] #[.int .i64 x] (.bool (x == y)) W := by
  show Calls Try.prog 64 #[.int .i64 x, .pointer (some ⟨B, 0, none⟩)] W _
  go_enter Try.func64, Try.ntmps64
  go_wp2
  all_goals (go_ret; exact ⟨rfl, 0, rfl⟩)

def dropL (l : List Int) (y : Int) : List Int := l.filter fun x => !(x == y)

open Go.Sort Go.Lib in
theorem delete_any {base : Nat} {w : World} {v : Value} {l : List Int} (y : Int) (B : Nat) (h : Owned base w v l) (hv : v ≠ .slice none 0 0) (hl : l.length ≤ 17592186044416) (hB : B < base) (hBw : B < w.heap.size) (hc : w.cell? ⟨B, 0, none⟩ = some (.int .i64 y)) :
    Calls Try.prog 63 #[v, .func (.func 64) #[] #[.pointer (some ⟨B, 0, none⟩)]] w fun e w' => ∃ v', e = .returned v' ∧ Owned base w' v' (dropL l y) ∧ v' ≠ .slice none 0 0 ∧ (∀ B', B' ≤ base → Go.RowKit.Below B' w w') := by
  obtain ⟨g, cap, rfl, hb, hlt, hn, hm, hlen, hH⟩ := holds_of_ownsRow (enc := Value.int .i64) (zs := l) h hv
  have eg : ∀ args w, (callFunc 64 args).run Try.prog w = .ok (.enter 64 args) w := fun _ _ => by kernel_rfl
  have zv : ∀ w, (zeroValue 3).run Try.prog w = .ok (.int .i64 0) w := fun _ => by kernel_rfl
  have hp : Go.Proofs.PredAt Try.prog 64 #[.pointer (some ⟨B, 0, none⟩)] (Value.int .i64) (fun x => x == y) w := fun W x hb => without_gives y x B W ((hb.cell (p := ⟨B, 0, none⟩) hBw).trans hc)
  have hpo : Go.Proofs.PredOver Try.prog 64 #[.pointer (some ⟨B, 0, none⟩)] (Value.int .i64) (fun x => x == y) g 0 l.toArray.size w := fun n os dk x _ => without_gives y x B _ (by
    unfold Go.Proofs.sortWorld
    rw [cell?_grow _ _ _ (by show B < (putRow _ _ _ _ _).heap.size; rw [size_putRow]; exact hBw), cell?_putRow_other _ _ g 0 _ _ (Or.inl (by show B ≠ g; omega))]
    exact hc)
  have hcon := Go.Proofs.AnyE.slices_DeleteFunc Try.delI (Value.int .i64) (fun _ => rfl) (fun x => x == y) 64 #[.pointer (some ⟨B, 0, none⟩)] eg 0 zv g 0 cap l.toArray w hp hpo hH (by simp; omega) (by simpa using hn)
  change Calls Try.prog 63 _ _ _ at hcon
  rw [List.size_toArray] at hcon
  refine hcon.mono ?_
  rintro e w' ⟨rfl, q, rfl⟩
  have hfl := List.length_filter_le (fun x => !(x == y)) l
  refine ⟨_, rfl, ?_, by simp, ?_⟩
  · have h2 := ownsRow_putRow (enc := Value.int .i64) (q := q) (k := (dropL l y).length) (ys := dropL l y ++ List.replicate (l.length - (dropL l y).length) 0) h (by simp [dropL]; omega) hfl
    rw [List.take_left' rfl] at h2
    exact h2
  · intro B' hB'
    exact below_putRow (Go.RowKit.Below.refl B' w) (by omega)

theorem without_any (v : Value) (l : List Int) (y : Int) (w : World) (h : Ints w v l) (hv : l ≠ []) :
    Calls Try.prog 48 #[v, .int .i64 y] w fun e w' => ∃ v', e = .returned v' ∧ Owned w.heap.size w' v' (dropL l y) ∧ v' ≠ .slice none 0 0 ∧ Below w.heap.size w w' := by
  obtain ⟨a, c, rfl, h2, h3, h4⟩ := h.shape
  have hpos : 0 < l.length := List.length_pos_iff.2 hv
  obtain ⟨B, o, rfl, _, _⟩ := h4 hpos
  have CL := hid (clone_some (h.below ((Below.refl _ _).alloc (Nat.le_refl _) (.cells #[.int .i64 y] 3))))
  clear h h2 h4 hv
  go_enter Try.func48, Try.ntmps48
  go_wp2_with fail
  refine CL.out.mono ?_
  rintro e w1 ⟨v1, rfl, ho, hne, hb⟩
  have hsz := hb.size
  simp only [World.size_alloc] at ho hb hsz
  have H1 := hid (And.intro ho (And.intro hne hb))
  have hcell : w1.cell? ⟨w.heap.size, 0, none⟩ = some (.int .i64 y) := (hb.cell (p := ⟨w.heap.size, 0, none⟩) (by simp)).trans (by simp [go_sem])
  have HC := hid hcell
  obtain ⟨a1, c1, rfl⟩ := own_shape ho
  clear ho hne hb CL hcell
  go_wp2_with fail
  refine (delete_any y w.heap.size H1.out.1 H1.out.2.1 h3 (by omega) (by omega) HC.out).mono ?_
  rintro e w2 ⟨v2, rfl, ho, hne, hb⟩
  have hbl := below_alloc (Below.refl w.heap.size w) (.cells #[.int .i64 y] 3)
  have H2 := hid (And.intro ho (And.intro hne ((hbl.trans (H1.out.2.2.mono (by simp))).trans (hb w.heap.size (by omega)))))
  obtain ⟨a2, c2, rfl⟩ := own_shape ho
  clear ho hne hb hbl
  go_wp2_with fail
  go_ret
  exact ⟨_, rfl, ownsRow_mono H2.out.1 (by omega), H2.out.2.1, H2.out.2.2⟩

theorem infoI : (Try.prog.info? 3).map (fun i => (i.zero, i.size, i.bytes)) = some (some (.int .i64 0), 1, 8) := by kernel_rfl

/-- what follows from two clauses; 9: nothing -/
def resC (a b : List Int) (v : Int) : Option (List Int) :=
  if v < 1 ∨ a.contains v = false ∨ b.contains (-v) = false then none
  else if adjT (normC (normC (dropL a v ++ dropL b (-v)))) then none else some (normC (dropL a v ++ dropL b (-v)))
/-- what Resolve leaves -/
def Resd (a b : List Int) (v : Int) (w : World) (e : Ending) (w' : World) : Prop :=
  (∃ v' : Value, e = .returned (.tuple #[v', .int .i64 (if (resC a b v).isSome then 0 else 9)]) ∧ Ints w' v' ((resC a b v).getD []) ∧ (resC a b v = none → v' = .slice none 0 0)) ∧ Below w.heap.size w w'
theorem Resd.no {a b : List Int} {v : Int} {w w' : World} (h : resC a b v = none) (hb : Below w.heap.size w w') : Resd a b v w (.returned (.tuple #[.slice none 0 0, .int .i64 9])) w' := by
  refine ⟨⟨_, by rw [h]; rfl, ?_, fun _ => rfl⟩, hb⟩
  rw [h]; exact Cells.nil _ none 0
theorem Resd.yes {a b c : List Int} {v : Int} {w w' : World} {v' : Value} (h : resC a b v = some c) (hi : Ints w' v' c) (hb : Below w.heap.size w w') : Resd a b v w (.returned (.tuple #[v', .int .i64 0])) w' := by
  refine ⟨⟨_, by rw [h]; rfl, ?_, fun e => by rw [h] at e; cases e⟩, hb⟩
  rw [h]; exact hi
theorem okL_drop {l : List Int} (h : okL l) (y : Int) : okL (dropL l y) := fun x hx => h x (List.mem_filter.1 hx).1

set_option maxHeartbeats 2000000 in
theorem resolve_any (va vb : Value) (a b : List Int) (v : Int) (hv : v ≤ 9223372036854775807) (ha : okL a) (hb : okL b) (hla : a.length ≤ 1000000) (hlb : b.length ≤ 1000000) (w : World) (hA : Ints w va a) (hB : Ints w vb b) :
    Calls Try.prog 23 #[va, vb, .int .i64 v] w (Resd a b v w) := by
  obtain ⟨i0, q1, q2, q3, q4⟩ := info_parts infoI
  have hi := hid q1
  have hz0 := hid q2
  have hz1 := hid q3
  have hz2 := hid q4
  clear q1 q2 q3 q4
  have KA := hid hA
  have KB := hid hB
  obtain ⟨aa, ca, rfl, _, _, _⟩ := hA.shape
  obtain ⟨ab, cb, rfl, _, _, _⟩ := hB.shape
  by_cases hv1 : v < 1
  · have E := hid (show resC a b v = none by unfold resC; rw [if_pos (.inl hv1)])
    clear hA hB
    go_enter Try.func23, Try.ntmps23
    go_wp2_with fail
    go_ret2
    exact Resd.no E.out (Below.refl _ _)
  have hneg : IntKind.i64.wrap (-v) = -v := IntWalk.i64_in _ (by omega)
  have CA := hid (contains_any _ a v w hA)
  have CB := hid (contains_any _ b (-v) w hB)
  cases hca : a.contains v
  · have E := hid (show resC a b v = none by unfold resC; rw [if_pos (.inr (.inl hca))])
    rw [hca] at CA
    clear hA hB hca
    go_enter Try.func23, Try.ntmps23
    go_wp2_with (go_at_call 47; (with_reducible refine (CA.out).mono ?_); rintro e w' ⟨rfl, rfl⟩)
    go_ret2
    exact Resd.no E.out (Below.refl _ _)
  cases hcb : b.contains (-v)
  · have E := hid (show resC a b v = none by unfold resC; rw [if_pos (.inr (.inr hcb))])
    rw [hca] at CA
    rw [hcb] at CB
    clear hA hB hca hcb
    go_enter Try.func23, Try.ntmps23
    go_wp2_with fail
    refine CA.out.mono ?_
    rintro e w1 ⟨rfl, rfl⟩
    go_wp2_with fail
    refine CB.out.mono ?_
    rintro e w1 ⟨rfl, rfl⟩
    go_wp2_with fail
    go_ret2
    exact Resd.no E.out (Below.refl _ _)
  have hg : ¬ (v < 1 ∨ a.contains v = false ∨ b.contains (-v) = false) := by rw [hca, hcb]; simp; omega
  have hna : a ≠ [] := by rintro rfl; simp at hca
  have hnb : b ≠ [] := by rintro rfl; simp at hcb
  have HR := hid (show resC a b v = if adjT (normC (normC (dropL a v ++ dropL b (-v)))) then none else some (normC (dropL a v ++ dropL b (-v))) by unfold resC; rw [if_neg hg])
  have hnaH := hid hna
  have hnbH := hid hnb
  have hok := hid (show okL (normC (dropL a v ++ dropL b (-v))) from okL_norm (fun x hx => by
    rcases List.mem_append.1 hx with h | h
    · exact okL_drop ha v x h
    · exact okL_drop hb (-v) x h))
  have hda : (dropL a v).length ≤ 1000000 := Nat.le_trans (List.length_filter_le _ _) hla
  have hdb : (dropL b (-v)).length ≤ 1000000 := Nat.le_trans (List.length_filter_le _ _) hlb
  have hnl := norm_len (dropL a v ++ dropL b (-v))
  rw [List.length_append] at hnl
  rw [hca] at CA
  rw [hcb] at CB
  clear hA hB hca hcb hg hna hnb ha hb
  go_enter Try.func23, Try.ntmps23
  go_wp2_with fail
  refine CA.out.mono ?_
  rintro e w1 ⟨rfl, rfl⟩
  go_wp2_with fail
  refine CB.out.mono ?_
  rintro e w1 ⟨rfl, rfl⟩
  go_wp2_with fail
  refine (without_any _ a v _ KA.out hnaH.out).mono ?_
  rintro e w1 ⟨v1, rfl, ho, hne, hb1⟩
  have H1 := hid (And.intro ho (And.intro hne hb1))
  obtain ⟨a1, c1, rfl⟩ := own_shape ho
  clear ho hne hb1
  go_wp2_with fail
  refine (without_any _ b (-v) _ (KB.out.below H1.out.2.2) hnbH.out).mono ?_
  rintro e w2 ⟨v2, rfl, ho, hne, hb2⟩
  have H2 := hid (And.intro (Owned.below H1.out.1 hb2) (H1.out.2.2.trans (hb2.mono H1.out.2.2.size)))
  rcases ownsRow_one ho with ⟨h, _⟩ | ⟨g, cg, hv2, hg1, hg2, hg3, hg4, hcell⟩
  · exact absurd h hne
  subst hv2
  have HC := hid hcell
  have hsz2 := H2.out.2.size
  clear ho hne hb2 hcell CA CB
  have HL1 := hid (show (intsV (dropL b (-v))).length = (dropL b (-v)).length * 1 by simp [intsV])
  have HONE := hid (show ∀ u ∈ intsV (dropL b (-v)), u.oneCell' = true from fun u hu => by
    obtain ⟨x, _, rfl⟩ := List.mem_map.1 hu; rfl)
  go_wp2_with (at_builtin; refine wpList_append_own _ rfl _ _ 31 rfl w.heap.size 3 i0 (.int .i64 0) 1 8 Try.underlying31 hi.out hz0.out hz1.out hz2.out rfl (by decide) _ _ _ rfl H2.out.1 ⟨g, 0, none⟩ (dropL b (-v)).length cg (intsV (dropL b (-v))) rfl HL1.out ?c1 HONE.out ?c3 ?c4 ?c5 ?_)
  case c1 => intro j u hj; rw [addr_add, Nat.zero_add]; exact HC.out j u hj
  case c3 => unfold maxLen; omega
  case c4 => omega
  case c5 => omega
  intro v3 w3 hown3 hgrow _
  have H3 := hid (show Owned w.heap.size w3 v3 (dropL a v ++ dropL b (-v)) by
    unfold Owned; rw [List.length_append, show intsV (dropL a v ++ dropL b (-v)) = intsV (dropL a v) ++ intsV (dropL b (-v)) from List.map_append]; exact hown3)
  have HB3 := hid (show Below w.heap.size w w3 from H2.out.2.grown hgrow (by omega) (fun k hk => (ownsRow_one H2.out.1).elim (fun h => by rw [h.1] at hk; cases hk) (fun ⟨g', c', e, h1, _⟩ => by rw [e] at hk; cases hk; exact h1)))
  have HI3 := hid (Owned.ints H3.out (by rw [List.length_append]; omega))
  obtain ⟨a3, c3, rfl⟩ := own_shape hown3
  clear hown3 hgrow HC HL1 HONE H1 H2
  go_wp2_with fail
  refine (norm_any _ _ _ HI3.out).mono ?_
  rintro e w4 ⟨v4, rfl, ho, hb4⟩
  have HI4 := hid (Owned.ints ho (by omega))
  have HB4 := hid (HB3.out.trans (hb4.mono HB3.out.size))
  obtain ⟨a4, c4, rfl⟩ := own_shape ho
  clear ho hb4
  have HT := hid (taut_any _ _ hok.out _ HI4.out)
  cases ht : adjT (normC (normC (dropL a v ++ dropL b (-v))))
  · have E := hid (show resC a b v = some (normC (dropL a v ++ dropL b (-v))) by rw [HR.out, ht]; rfl)
    rw [ht] at HT
    clear ht HR
    go_wp2_with fail
    refine HT.out.mono ?_
    rintro e w5 ⟨rfl, hb5⟩
    have HB5 := hid (HB4.out.trans (hb5.mono HB4.out.size))
    have HI5 := hid (HI4.out.below hb5)
    clear hb5
    go_wp2_with fail
    go_ret2
    exact Resd.yes E.out HI5.out HB5.out
  · have E := hid (show resC a b v = none by rw [HR.out, ht]; rfl)
    rw [ht] at HT
    clear ht HR
    go_wp2_with fail
    refine HT.out.mono ?_
    rintro e w5 ⟨rfl, hb5⟩
    have HB5 := hid (HB4.out.trans (hb5.mono HB4.out.size))
    clear hb5
    go_wp2_with fail
    go_ret2
    exact Resd.no E.out HB5.out
end Go.Proofs.Ytopneceicamakaa.Cf
