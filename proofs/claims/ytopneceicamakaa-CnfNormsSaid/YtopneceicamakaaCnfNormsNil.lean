/-
  LAYER 12: the law CnfNorms, of the empty clause.
-/
import Derived.Test.YtopneceicamakaaCnfNormsLaw
import Derived.Lib.QuietBelow
import Derived.BigQuiet
namespace Go.Proofs.Ytopneceicamakaa.Cf
open Go.RowKit Go.Sort Go.Proofs.Ytopneceicamakaa Go.Proofs.Ytopneceicamakaa.Ln

theorem refNorm_nil (a : Option Addr) (c : Nat) (w : World) :
    Calls Try.prog 18 #[.slice a 0 c] w fun e w' => e = .returned (.slice none 0 0) ∧ w = w' := by
  go_enter Try.func18, Try.ntmps18
  go_wp2_with fail
  go_loopw [3, 4] (fun o i wr => o = .slice none 0 0 ∧ i = .int .i64 0 ∧ wr = w) (fun _ _ _ => 0)
  case atStart => exact ⟨rfl, rfl, rfl⟩
  case round =>
    obtain ⟨rfl, rfl, rfl⟩ := hrel
    go_wp2_with fail
    go_ret
    exact ⟨rfl, rfl⟩

set_option maxHeartbeats 4000000 in
/-- behind the copy of a clause without literals -/
theorem law_norms_nil (a : Option Addr) (c : Nat) (w : World) :
    Calls Try.prog 4 #[.slice a 0 c] w fun e w' => e = .returned (.bool true) ∧ Below w.heap.size w w' := by
  obtain ⟨i0, q1, q2, q3, q4⟩ := info_parts infoI
  have hi := hid q1
  have hz0 := hid q2
  have hz1 := hid q3
  have hz2 := hid q4
  clear q1 q2 q3 q4
  have R0 := hid (resolved_any w)
  have E0 : normC [] = [] := rfl
  have E1 : adjT (normC []) = tautD [] := by decide +kernel
  have E2 : rangeE (ckC [] 1000) = 0 := by decide +kernel
  have OKN : okL [] := fun x hx => absurd hx List.not_mem_nil
  have NIL := fun W (b : Option Addr) (d : Nat) => hid (show Ints W (.slice b 0 d) [] from Cells.nil W b d)
  go_enter Try.func4, Try.ntmps4
  go_wp2_with fail
  refine R0.out.mono ?_
  rintro e w1 ⟨rfl, hb1⟩
  have B1 := hid hb1
  have RC := hid (refCheckClause_any _ [] 1000 (by decide) w1 (NIL w1 a c).out)
  rw [E2] at RC
  clear hb1 R0
  go_wp2_with fail
  refine RC.out.mono ?_
  rintro e w2 ⟨rfl, rfl⟩
  clear RC E2
  cases a with
  | none =>
    go_wp2_with fail
    have BB := hid (below_alloc B1.out (.cells #[] 3))
    refine (norm_any _ [] _ (NIL _ _ _).out).mono ?_
    rintro e w3 ⟨vx, rfl, hox, hb3⟩
    have X3 := hid (Owned.ints hox (by decide))
    rw [E0] at X3 hox
    have B3 := hid (BB.out.trans (hb3.mono BB.out.size))
    obtain ⟨ax, cx, rfl⟩ : ∃ ax cx, vx = .slice ax 0 cx := own_shape hox
    clear hox hb3 B1 BB
    have QN := hid (show ∀ d os, Calls Try.prog 18 #[.slice none 0 c] (grow (redrawn w3 d) os) fun e w'' => e = .returned (.slice none 0 0) ∧ ∃ p : Regrown, w'' = grow (redrawn w3 p.d) p.os from fun d os => Calls.regrown_of ((refNorm_nil _ c _).mono (fun e w' h => ⟨h.1, by rw [← h.2]; exact Below.refl _ _⟩)))
    have Q1 := hid (show ∀ d os, Calls Try.prog 17 #[.slice ax 0 cx, .slice none 0 0] (grow (redrawn w3 d) os) fun e w'' => e = .returned (.bool true) ∧ ∃ p : Regrown, w'' = grow (redrawn w3 p.d) p.os from fun d os => Calls.regrown_of ((ints_same _ _ [] _ (NIL _ _ _).out (NIL _ _ _).out).mono (fun e w' h => ⟨h.1, h.2.below⟩)))
    have Q2 := hid (show ∀ d os, Calls Try.prog 17 #[.slice (some ⟨w1.heap.size, 0, none⟩) 0 0, .slice none 0 c] (grow (redrawn w3 d) os) fun e w'' => e = .returned (.bool true) ∧ ∃ p : Regrown, w'' = grow (redrawn w3 p.d) p.os from fun d os => Calls.regrown_of ((ints_same _ _ [] _ (NIL _ _ _).out (NIL _ _ _).out).mono (fun e w' h => ⟨h.1, h.2.below⟩)))
    have CT := fun W => hid (taut_any (.slice (some ⟨w1.heap.size, 0, none⟩) 0 0) [] OKN W (NIL W _ _).out)
    have RT := fun W => hid (refTaut_any (.slice none 0 c) [] OKN W (NIL W _ _).out)
    rw [E1] at CT
    generalize tautD [] = tb at *
    have Q3 := hid (show ∀ d os, Calls Try.prog 19 #[.slice (some ⟨w1.heap.size, 0, none⟩) 0 0] (grow (redrawn w3 d) os) fun e w'' => e = .returned (.bool tb) ∧ ∃ p : Regrown, w'' = grow (redrawn w3 p.d) p.os from fun d os => Calls.regrown_of (CT _).out)
    have Q4 := hid (show ∀ d os, Calls Try.prog 20 #[.slice none 0 c] (grow (redrawn w3 d) os) fun e w'' => e = .returned (.bool tb) ∧ ∃ p : Regrown, w'' = grow (redrawn w3 p.d) p.os from fun d os => Calls.regrown_of ((RT _).out.mono (fun e w' h => ⟨h.1, by rw [← h.2]; exact Below.refl _ _⟩)))
    clear E1 CT RT
    go_wp2_with fail
    refine wp_region_quiet_below (by kernel_rfl) (by kernel_rfl) ?_
    repeat (go_big_quiet_step (first | with_reducible exact QN.out _ _ | with_reducible exact Q1.out _ _ | with_reducible exact Q2.out _ _ | with_reducible exact Q3.out _ _ | with_reducible exact Q4.out _ _))
    refine wpQuiet_nil ?_
    intro _ hw'
    obtain ⟨⟨dq, osq⟩, hw''⟩ := hw'
    subst hw''
    have hbz := B3.out.trans ((below_regrown w3 dq osq).mono B3.out.size)
    show Exit.then _ _ Exit.normal _ (grow (redrawn w3 dq) osq)
    clear QN Q1 Q2 Q3 Q4 B3
    generalize grow (redrawn w3 dq) osq = W5 at hbz ⊢
    go_wp2_with fail
    go_ret
    exact ⟨rfl, hbz⟩
  | some ad =>
    go_wp2_with (at_builtin; refine wpList_append_own _ rfl (.tmp 18) (.tmp 19) 31 rfl w1.heap.size 3 i0 (.int .i64 0) 1 8 Try.underlying31 hi.out hz0.out hz1.out hz2.out rfl (by decide) _ 0 [] rfl ?b0 ad 0 c [] rfl ?b1 ?b2 ?b3 ?b4 ?b5 ?b6 ?_)
    case b0 => exact ownsEmpty w1
    case b1 => rfl
    case b2 => intro i u hu; simp at hu
    case b3 => intro u hu; simp at hu
    case b4 => unfold maxLen; omega
    case b5 => omega
    case b6 => simp
    intro vd w2 hown2 hgrow2 _
    have hb2 : Below w1.heap.size w1 w2 := ((Below.refl w1.heap.size w1).alloc (Nat.le_refl _) _).grown hgrow2 (by simp) (fun k hk => by cases hk; exact Nat.le_refl _)
    have BB := hid (B1.out.trans (hb2.mono B1.out.size))
    obtain ⟨ad2, cd2, rfl⟩ : ∃ ad2 cd2, vd = .slice ad2 0 cd2 := own_shape hown2
    clear hown2 hgrow2 hb2
    go_wp2_with fail
    refine (norm_any _ [] _ (NIL _ _ _).out).mono ?_
    rintro e w3 ⟨vx, rfl, hox, hb3⟩
    have X3 := hid (Owned.ints hox (by decide))
    rw [E0] at X3 hox
    have B3 := hid (BB.out.trans (hb3.mono BB.out.size))
    obtain ⟨ax, cx, rfl⟩ : ∃ ax cx, vx = .slice ax 0 cx := own_shape hox
    clear hox hb3 B1 BB
    have QN := hid (show ∀ d os, Calls Try.prog 18 #[.slice (some ad) 0 c] (grow (redrawn w3 d) os) fun e w'' => e = .returned (.slice none 0 0) ∧ ∃ p : Regrown, w'' = grow (redrawn w3 p.d) p.os from fun d os => Calls.regrown_of ((refNorm_nil _ c _).mono (fun e w' h => ⟨h.1, by rw [← h.2]; exact Below.refl _ _⟩)))
    have Q1 := hid (show ∀ d os, Calls Try.prog 17 #[.slice ax 0 cx, .slice none 0 0] (grow (redrawn w3 d) os) fun e w'' => e = .returned (.bool true) ∧ ∃ p : Regrown, w'' = grow (redrawn w3 p.d) p.os from fun d os => Calls.regrown_of ((ints_same _ _ [] _ (NIL _ _ _).out (NIL _ _ _).out).mono (fun e w' h => ⟨h.1, h.2.below⟩)))
    have Q2 := hid (show ∀ d os, Calls Try.prog 17 #[.slice ad2 0 cd2, .slice (some ad) 0 c] (grow (redrawn w3 d) os) fun e w'' => e = .returned (.bool true) ∧ ∃ p : Regrown, w'' = grow (redrawn w3 p.d) p.os from fun d os => Calls.regrown_of ((ints_same _ _ [] _ (NIL _ _ _).out (NIL _ _ _).out).mono (fun e w' h => ⟨h.1, h.2.below⟩)))
    have CT := fun W => hid (taut_any (.slice ad2 0 cd2) [] OKN W (NIL W _ _).out)
    have RT := fun W => hid (refTaut_any (.slice (some ad) 0 c) [] OKN W (NIL W _ _).out)
    rw [E1] at CT
    generalize tautD [] = tb at *
    have Q3 := hid (show ∀ d os, Calls Try.prog 19 #[.slice ad2 0 cd2] (grow (redrawn w3 d) os) fun e w'' => e = .returned (.bool tb) ∧ ∃ p : Regrown, w'' = grow (redrawn w3 p.d) p.os from fun d os => Calls.regrown_of (CT _).out)
    have Q4 := hid (show ∀ d os, Calls Try.prog 20 #[.slice (some ad) 0 c] (grow (redrawn w3 d) os) fun e w'' => e = .returned (.bool tb) ∧ ∃ p : Regrown, w'' = grow (redrawn w3 p.d) p.os from fun d os => Calls.regrown_of ((RT _).out.mono (fun e w' h => ⟨h.1, by rw [← h.2]; exact Below.refl _ _⟩)))
    clear E1 CT RT
    go_wp2_with fail
    refine wp_region_quiet_below (by kernel_rfl) (by kernel_rfl) ?_
    repeat (go_big_quiet_step (first | with_reducible exact QN.out _ _ | with_reducible exact Q1.out _ _ | with_reducible exact Q2.out _ _ | with_reducible exact Q3.out _ _ | with_reducible exact Q4.out _ _))
    refine wpQuiet_nil ?_
    intro _ hw'
    obtain ⟨⟨dq, osq⟩, hw''⟩ := hw'
    subst hw''
    have hbz := B3.out.trans ((below_regrown w3 dq osq).mono B3.out.size)
    show Exit.then _ _ Exit.normal _ (grow (redrawn w3 dq) osq)
    clear QN Q1 Q2 Q3 Q4 B3
    generalize grow (redrawn w3 dq) osq = W5 at hbz ⊢
    go_wp2_with fail
    go_ret
    exact ⟨rfl, hbz⟩
end Go.Proofs.Ytopneceicamakaa.Cf
