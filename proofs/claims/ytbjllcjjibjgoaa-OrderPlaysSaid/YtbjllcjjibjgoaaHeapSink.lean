/-
  LAYER 13: sink: what stands at a place of the tree goes down till nothing below it goes out ahead of it.
-/
import Derived.Test.YtbjllcjjibjgoaaHeapRise
namespace Go.Proofs.Ytbjllcjjibjgoaa.Hp
open Go.RowKit Go.Proofs.Ytbjllcjjibjgoaa.Ln

theorem quiet_drawn {P : Program} {f : FuncId} {args : Array Value} {w : World} {n : Nat} {v : Value} (h : Calls P f args (w.drewN n) fun e w' => e = .returned v ∧ Drawn (w.drewN n) w') : Calls P f args (w.drewN n) fun e w'' => e = .returned v ∧ ∃ m, w'' = w.drewN m :=
  h.mono fun _ _ ⟨he, m, hm⟩ => ⟨he, n + m, by rw [hm, World.drewN_drewN]⟩

/-- f is the first to go out of k and what stands below it at places under j -/
structure First (S T : List Nat) (k f j : Nat) : Prop where
  which : f = k ∨ (0 < f ∧ f < T.length ∧ par f = k ∧ ahead S (T.getD f 0) (T.getD k 0))
  most : ∀ i, 0 < i → i < T.length → par i = k → i < j → ¬ ahead S (T.getD i 0) (T.getD f 0)
theorem First.start (S T : List Nat) (k : Nat) : First S T k k (2 * k + 1) := by
  refine ⟨.inl rfl, fun i h0 hi hp hj => ?_⟩
  unfold par at hp; omega
theorem First.lt {S T : List Nat} {k f j : Nat} (h : First S T k f j) (hk : k < T.length) : f < T.length := by
  rcases h.which with rfl | h
  · exact hk
  · exact h.2.1
theorem First.take {S T : List Nat} {k f j : Nat} (h : First S T k f j) (hj : j < T.length) (h1 : 2 * k + 1 ≤ j) (h2 : j ≤ 2 * k + 2) (ha : ahead S (T.getD j 0) (T.getD f 0)) : First S T k j (j + 1) := by
  have hp : par j = k := by unfold par; omega
  refine ⟨.inr ⟨by omega, hj, hp, ?_⟩, fun i h0 hi hpi hij => ?_⟩
  · rcases h.which with rfl | h
    · exact ha
    · exact ahead_trans ha h.2.2.2
  · by_cases e : i = j
    · subst e; exact not_self _ _
    · exact not_trans (h.most i h0 hi hpi (by omega)) (not_of ha)
theorem First.leave {S T : List Nat} {k f j : Nat} (h : First S T k f j) (ha : ¬ ahead S (T.getD j 0) (T.getD f 0)) : First S T k f (j + 1) := by
  refine ⟨h.which, fun i h0 hi hpi hij => ?_⟩
  by_cases e : i = j
  · subst e; exact ha
  · exact h.most i h0 hi hpi (by omega)
theorem First.all {S T : List Nat} {k f j : Nat} (h : First S T k f j) (he : ¬ (j ≤ 2 * k + 2 ∧ j < T.length)) : ∀ i, 0 < i → i < T.length → par i = k → ¬ ahead S (T.getD i 0) (T.getD f 0) := by
  intro i h0 hi hp
  refine h.most i h0 hi hp ?_
  unfold par at hp
  omega

set_option maxHeartbeats 4000000 in
theorem sink_any {w : World} {m : Hm} {N : Nat} {S : List Nat} {P : List Int} {R : List Nat} {n : Nat} {I : List Bool} (h : HMem w m N S P R n) (a : Nat) (hi : a ≤ N)
    (hp : Pl N I P (R.take n)) (hf : From S (R.take n) (a + 1)) :
    Calls Try.prog 27 #[.pointer (some ⟨m.p, 0, none⟩), .int .i64 (a : Int)] w (Rose m N S I n a w) := by
  have hs := h.small
  have hnN := h.le
  have H := hid (And.intro h (And.intro hp (Down.start hf)))
  clear h hp hf
  go_enter Try.func27, Try.ntmps27
  go_wp2_with fail
  go_loopw [1] (fun u wr => ∃ k : Nat, u = .int .i64 (k : Int) ∧ k ≤ N ∧ ∃ P X, Hid (Only m.own w wr ∧ HMem wr m N S P X n ∧ Pl N I P (X.take n) ∧ Down S (X.take n) a k ∧ a ≤ k)) (fun u _ => 401 - (intOf u).toNat)
  case atStart => exact ⟨a, rfl, hi, P, R, hid ⟨Only.refl _ _, H.out.1, H.out.2.1, H.out.2.2, Nat.le_refl _⟩⟩
  case round =>
    obtain ⟨k, rfl, hk, P1, X, HH⟩ := hrel
    have c2 := HH.out.2.1.head.cell 2 rfl
    have hlT : Hid ((X.take n).length = n) := hid (by have := HH.out.2.1.lenR; simp; omega)
    obtain ⟨wo, rfl⟩ : ∃ wo : World, wo = wr := ⟨_, rfl⟩
    go_wp2_with fail
    go_loopw [4, 5] (fun u v wi => ∃ f j : Nat, u = .int .i64 (f : Int) ∧ v = .int .i64 (j : Int) ∧ 2 * k + 1 ≤ j ∧ j ≤ 2 * k + 3 ∧ f ≤ N ∧ Hid (First S (X.take n) k f j) ∧ Hid (Only m.own w wi ∧ HMem wi m N S P1 X n)) (fun _ v _ => 2 * k + 3 - (intOf v).toNat)
    case atStart => exact ⟨k, 2 * k + 1, rfl, by go_num, by omega, by omega, hk, hid (First.start _ _ _), hid ⟨HH.out.1, HH.out.2.1⟩⟩
    case round =>
      obtain ⟨f, j, rfl, rfl, hj1, hj2, hfN, HF, HW⟩ := hrel
      have c2' := HW.out.2.head.cell 2 rfl
      by_cases hgo : j ≤ 2 * k + 2 ∧ j < n
      · obtain ⟨g1, g2⟩ := hgo
        have d1 : decide (j ≤ 2 * k + 2) = true := decide_eq_true g1
        have d2 : decide (j < n) = true := decide_eq_true g2
        have d3 : decide ((j : Int) ≤ 2 * (k : Int) + 2) = true := decide_eq_true (by omega)
        have hfn : f < n := by have := HF.out.lt (by rw [hlT.out]; omega); rw [hlT.out] at this; exact this
        have ej := hid (take_get X n j g2)
        have ef := hid (take_get X n f hfn)
        have cj := HW.out.2.node (show j < N by omega)
        have cf := HW.out.2.node (show f < N by omega)
        have tj := HH.out.2.2.1.tree j (by rw [hlT.out]; omega)
        have tf := HH.out.2.2.1.tree f (by rw [hlT.out]; omega)
        rw [ej.out] at tj
        rw [ef.out] at tf
        have bj := tj.2.1
        have bf := tf.2.1
        clear tj tf
        generalize hvj : X.getD j 0 = vj at *
        generalize hvf : X.getD f 0 = vf at *
        clear hvj hvf
        cases hah : decide (ahead S vj vf)
        · have HA := hid hah
          clear hah
          have HC := fun z => hid (show Calls Try.prog 31 #[.pointer (some ⟨m.p, 0, none⟩), .int .i64 (vj : Int), .int .i64 (vf : Int)] (wr.drewN z) fun e w' => e = .returned (.bool false) ∧ Drawn (wr.drewN z) w' by
            have := ahead_any (HW.out.2.drewN z) vj vf bj bf
            rwa [HA.out] at this)
          go_wp2_with fail
          go_quiet ((go_at_call 31; exact quiet_drawn (HC _).out))
          go_wp2_with fail
          go_roundw
          case rel => exact ⟨f, j + 1, rfl, by go_num, by omega, by omega, hfN, hid (HF.out.leave (by rw [ej.out, ef.out]; exact of_decide_eq_false HA.out)), hid ⟨HW.out.1.drewN _, HW.out.2.drewN _⟩⟩
          case measure => simp [intOf]; omega
        · have HA := hid hah
          clear hah
          have HC := fun z => hid (show Calls Try.prog 31 #[.pointer (some ⟨m.p, 0, none⟩), .int .i64 (vj : Int), .int .i64 (vf : Int)] (wr.drewN z) fun e w' => e = .returned (.bool true) ∧ Drawn (wr.drewN z) w' by
            have := ahead_any (HW.out.2.drewN z) vj vf bj bf
            rwa [HA.out] at this)
          go_wp2_with fail
          go_quiet ((go_at_call 31; exact quiet_drawn (HC _).out))
          go_wp2_with fail
          go_roundw
          case rel => exact ⟨j, j + 1, rfl, by go_num, by omega, by omega, by omega, hid (HF.out.take (by rw [hlT.out]; omega) hj1 g1 (by rw [ej.out, ef.out]; exact of_decide_eq_true HA.out)), hid ⟨HW.out.1.drewN _, HW.out.2.drewN _⟩⟩
          case measure => simp [intOf]; omega
      · have hall := hid (HF.out.all (by rw [hlT.out]; exact hgo))
        have hx : (decide (j ≤ 2 * k + 2) = true ∧ decide ((j : Int) ≤ 2 * (k : Int) + 2) = true ∧ decide (j < n) = false) ∨ (decide (j ≤ 2 * k + 2) = false ∧ decide ((j : Int) ≤ 2 * (k : Int) + 2) = false) := by
          by_cases g1 : j ≤ 2 * k + 2
          · exact .inl ⟨decide_eq_true g1, decide_eq_true (by omega), decide_eq_false (fun g2 => hgo ⟨g1, g2⟩)⟩
          · exact .inr ⟨decide_eq_false g1, decide_eq_false (by omega)⟩
        clear hgo
        by_cases hfk : f = k
        · subst hfk
          have hdn := hid (HH.out.2.2.2.1.done hall.out)
          have heq : ((f : Int) == (f : Int)) = true := by simp
          rcases hx with ⟨g1, g1', g2⟩ | ⟨g1, g1'⟩
          all_goals
            go_wp2_with fail
            go_end0
            exact ⟨rfl, HW.out.1, _, _, HW.out.2, HH.out.2.2.1, hdn.out⟩
        · have hne : ((f : Int) == (k : Int)) = false := by rw [beq_eq_false_iff_ne]; omega
          have hw := hid (HF.out.which.resolve_left hfk)
          have hfn : f < n := by have := hw.out.2.1; rwa [hlT.out] at this
          have hfp := hw.out.2.2.1
          have hf0 := hw.out.1
          have hkn : k < n := by unfold par at hfp; omega
          have ek := hid (take_get X n k hkn)
          have ef := hid (take_get X n f hfn)
          have ck := HW.out.2.node (show k < N by omega)
          have cf := HW.out.2.node (show f < N by omega)
          have tk := HH.out.2.2.1.tree k (by rw [hlT.out]; omega)
          have tf := HH.out.2.2.1.tree f (by rw [hlT.out]; omega)
          rw [ek.out] at tk
          rw [ef.out] at tf
          have bk := tk.2.1
          have bf := tf.2.1
          clear tk tf
          have HSW := HH.out.2.2.1.swap (i := f) (j := k) (by rw [hlT.out]; omega) (by rw [hlT.out]; omega) hfk
          have HDN := HH.out.2.2.2.1.step HH.out.2.2.2.2 (c := f) (by rw [hlT.out]; omega) hf0 hfp hw.out.2.2.2 hall.out
          rw [ek.out, ef.out] at HSW HDN
          rw [List.set_comm _ _ hfk] at HSW
          rw [← set_take, ← set_take] at HSW HDN
          have HFK := hid hfk
          have HR := hid (And.intro HSW HDN)
          have hkf : a ≤ f := by have := HH.out.2.2.2.2; unfold par at hfp; omega
          have hlt : k < f := by unfold par at hfp; omega
          clear HSW HDN hfk hfp
          generalize X.getD k 0 = vk at *
          generalize X.getD f 0 = vf at *
          rcases hx with ⟨g1, g1', g2⟩ | ⟨g1, g1'⟩
          all_goals
            go_wp2_with fail
            refine (put_any HW.out.2 vf k bf hkn).mono ?_
            rintro e w2 ⟨rfl, ho, hm⟩
            have HM := hid hm
            have HO := hid (HW.out.1.trans ho)
            clear hm ho
            go_wp2_with fail
            refine (put_any HM.out vk f bk hfn).mono ?_
            rintro e w3 ⟨rfl, ho, hm⟩
            have HM3 := hid hm
            have HO3 := hid (HO.out.trans ho)
            clear hm ho
            go_wp2_with fail
            go_roundw
            case rel => exact ⟨f, rfl, hfN, _, _, hid ⟨HO3.out, HM3.out, HR.out.1, HR.out.2, hkf⟩⟩
            case measure => simp [intOf]; omega
theorem sink_zero {w : World} {m : Hm} {N : Nat} {S : List Nat} {P : List Int} {R : List Nat} {n : Nat} {I : List Bool} (h : HMem w m N S P R n)
    (hp : Pl N I P (R.take n)) (hf : From S (R.take n) 1) :
    Calls Try.prog 27 #[.pointer (some ⟨m.p, 0, none⟩), .int .i64 0] w (Rose m N S I n 0 w) := sink_any h 0 (Nat.zero_le _) hp hf
end Go.Proofs.Ytbjllcjjibjgoaa.Hp
