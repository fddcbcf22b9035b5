/-
  THE SECOND FORM OF A CARD OVER A LAID CONDITION, THE WORLD'S SHAPE KEPT; a slice of texts that comes in, its reading named.
-/
import Derived.Test.YtebhgcejcdgdbaaGreatDoorOpens
import Derived.Test.YtebhgcejcdgdbaaGreatDoorMJ
import Derived.Test.YtebhgcejcdgdbaaGreatDoorRows
import Derived.JoinedCond
namespace Go.Proofs.YtebhgcejcdgdbaaGreatDoor.Sh
open Go.RowKit Go.ChangeShapes Go.WideShapes Go.ChangeAt Go.Proofs.YtebhgcejcdgdbaaGreatDoor

theorem open_words2 {H : Type} {enc : TypeId × Value → H} {P : Program} {W : World} {b0 : Nat} {r : Reach} {t e : TypeId} {v : Value} {d : DataW H} {ps : List MemPlace} (ht : P.underlying t = some (.slice e)) (he : P.underlying e = some .string) (hc : P.cellsOf e = 1)
    (hval : Value.okWide P W r b0 t v) (h : DataW.Trod enc P W 0 (fun _ => true) true t v d ps) :
    ∃ a n c, v = .slice a n c ∧ (n = 0 ∨ ∃ B o, ∃ ws : List ByteArray, a = some ⟨B, o, none⟩ ∧ n = ws.length ∧ B < W.heap.size ∧
      (∀ k (h : k < ws.length), W.cell? ⟨B, o + k, none⟩ = some (.string ws[k])) ∧ ∃ sp, d = .slice (strs ws) sp) := by
  obtain ⟨a, n, c, rfl⟩ := okWide_slice ht hval
  refine ⟨a, n, c, rfl, ?_⟩
  obtain ⟨fuel, hf⟩ := h
  rcases open_strings ht he hc hf with ⟨hcs, _⟩ | ⟨a', n', c', zs, hcs, _, hl, hm, hz, hx, hcell, hwz⟩
  · left
    simp [Value.cells] at hcs
    exact hcs.2.1
  · simp [Value.cells] at hcs
    obtain ⟨rfl, rfl, rfl⟩ := hcs
    rcases Nat.eq_zero_or_pos n with h0 | h0
    · exact .inl h0
    · right
      have hz' : zs.length = c := by simpa using hz
      obtain ⟨B, o, rfl, hcc⟩ := strs_at hcell (by omega)
      refine ⟨B, o, zs.take n, rfl, by simp; omega, World.block_lt_of_cell? W _ (hcc 0 (by omega)), ?_, ?_⟩
      · intro k hk
        have hk' : k < zs.length := by simp at hk; omega
        rw [List.getElem_take, hcc k hk']
        simp [List.getD, List.getElem?_eq_getElem hk']
      · simp only [Prod.mk.injEq] at hx
        exact ⟨_, hx.1⟩
theorem bulk_strs {H : Type} : ∀ (ws : List ByteArray) (k : Nat) (h : k < ws.length), ws[k].size ≤ Rows.uptoBulkAll (strs (H := H) ws) := by
  intro ws
  induction ws with
  | nil => intro k h; simp at h
  | cons x ws ih =>
    intro k h
    unfold strs at *
    rw [List.map_cons, Rows.uptoBulkAll, Rows.uptoBulk]
    have e : x.data.toList.length = x.size := Array.length_toList
    cases k with
    | zero => rw [List.getElem_cons_zero, e]; omega
    | succ k =>
      rw [List.getElem_cons_succ]
      have := ih k (by simpa using h)
      omega

variable {H : Type} {enc : TypeId × Value → H}
theorem handed_shaped_cond {a : Assume} {C : Checked} {os : Os} {f : FuncId} {fn : Func} {s : OpenSpec} {k : (H : Type) → List (DataW H) → Bool} (hk : s.cond = some k) {F : Stop.Interp} {conds : List PathCond} {apart fresh handsOn again : Bool} {X : World → Array Value → Prop}
    (hX : ∀ (w w' : World) (args : Array Value), w.heap = w'.heap → X w args → X w' args)
    (own : ownKnob C.prog.godebug = none) (started : os.Started) (noInit : C.prog.inits.idxOf? f = none) (hfn : C.prog.funcs[f]? = some fn)
    (witness : ∃ (w : World) (tape : Tape) (i : Input), w.os = os ∧ (w.forCall tape i).Shaped C.prog ∧ i.vars = [] ∧ Input.okWide C.prog (w.forCall tape i) .any w.heap.size f i ∧
      ((s.pre enc C.prog fn conds apart (w.forCall tape i).memory i.args ∧ X (w.forCall tape i).memory i.args) ∧ sizedMet enc C.prog fn s apart (w.forCall tape i).memory i.args) ∧ a.holds C.prog (lone (Frame.enter C.prog f i.args .normal) [] (w.forCall tape i)))
    (contract : ∀ (W : World) (base : Nat) (args : Array Value) (ds gs : List (DataW H)) (before : List MemPlace),
      (∀ (j : Nat) t v, fn.params[j]? = some t → args[j]? = some v → Value.okWide C.prog W .any base t v) →
      DataW.Whole enc C.prog fn.params.toList s.vars apart W args.toList ds gs before → k H (ds ++ gs) = true → X W args → W.ShapedOpen C.prog →
      Calls C.prog f args W fun e W' => ∃ v, e = .returned v ∧ (s.at F).post enc C.prog fn apart fresh handsOn again W args v W') :
    ReturnsInHanded a C os f .any (fun w args => (s.pre enc C.prog fn conds apart w args ∧ X w args) ∧ sizedMet enc C.prog fn s apart w args) ((s.at F).post enc C.prog fn apart fresh handsOn again) := by
  refine returnsInHanded_of_calls own started noInit witness fun w tape i _ hsh _ hok hpre _ => ?_
  obtain ⟨_, _, _, fn2, hfn2, _, _, _, _, hval⟩ := hok
  obtain rfl : fn2 = fn := Option.some.inj (hfn2.symm.trans hfn)
  obtain ⟨⟨hp, hx⟩, _⟩ := hpre
  obtain ⟨ds, gs, before, hw, _, hkk⟩ := (OpenSpec.pre_some hk conds apart _ _).1 hp
  have hW := DataW.Whole.of_heap (w' := w.forCall tape i) (by rfl) hw
  refine (contract (w.forCall tape i) w.heap.size i.args ds gs before hval hW hkk (hX _ _ _ (by rfl) hx) hsh).mono ?_
  rintro e W' ⟨v, rfl, hp⟩
  exact ChangeSpec.post_blind hp

theorem witness_cond {C : Checked} {os : Os} {f : FuncId} {fn : Func} {s : ChangeSpec} {t : OpenSpec} {k : (H : Type) → List (DataW H) → Bool} (hk : t = { OpenSpec.ofChange s with cond := some k }) {apart : Bool} {X : World → Array Value → Prop} (w0 : World) (args : Array Value) (fuel : Nat) (hos : w0.os = os)
    (hsh : (w0.forCall (fun _ _ => 0) ⟨#[], args, []⟩).Shaped C.prog)
    (hok : Input.okWideB C.prog (w0.forCall (fun _ _ => 0) ⟨#[], args, []⟩) f ⟨#[], args, []⟩ = true)
    (hpre : (match DataW.whole enc C.prog (w0.forCall (fun _ _ => 0) ⟨#[], args, []⟩).memory fn.params.toList s.vars apart args.toList fuel with
      | some x => k H (x.1 ++ x.2.1)
      | none => false) = true)
    (hsz : s.sizedB enc C.prog fn apart (w0.forCall (fun _ _ => 0) ⟨#[], args, []⟩).memory args fuel = true)
    (hx : X (w0.forCall (fun _ _ => 0) ⟨#[], args, []⟩).memory args) :
    ∃ (w : World) (tape : Tape) (i : Input), w.os = os ∧ (w.forCall tape i).Shaped C.prog ∧ i.vars = [] ∧ Input.okWide C.prog (w.forCall tape i) .any w.heap.size f i ∧
      ((t.pre enc C.prog fn [] apart (w.forCall tape i).memory i.args ∧ X (w.forCall tape i).memory i.args) ∧ sizedMet enc C.prog fn t apart (w.forCall tape i).memory i.args) ∧ ({} : Assume).holds C.prog (lone (Frame.enter C.prog f i.args .normal) [] (w.forCall tape i)) := by
  subst hk
  refine ⟨w0, fun _ _ => 0, ⟨#[], args, []⟩, hos, hsh, (Input.okWide_of_okWideB (base := 0) hok).1, (Input.okWide_of_okWideB hok).2, ⟨⟨?_, hx⟩, sizedMet_of_sizedB hsz⟩, by
    simp only [Assume.holds]
    exact ⟨by simp, by simp, fun _ => Modest.zero, by simp, by simp⟩⟩
  split at hpre
  · rename_i x hxx
    exact (OpenSpec.pre_some (s := { OpenSpec.ofChange s with cond := some k }) rfl [] apart _ _).2 ⟨x.1, x.2.1, x.2.2, DataW.Whole_of_whole hxx, rfl, hpre⟩
  · cases hpre
end Go.Proofs.YtebhgcejcdgdbaaGreatDoor.Sh
