/-
  LAYER 12: Clone, Compact, Norm.
-/
import Derived.Test.YtopneceicamakaaCnfNorm
namespace Go.Proofs.Ytopneceicamakaa.Cf
open Go.RowKit Go.Proofs.Ytopneceicamakaa Go.Proofs.Ytopneceicamakaa.Ln

theorem clone_some {w : World} {a : Addr} {c : Nat} {l : List Int} (h : Ints w (.slice (some a) l.length c) l) :
    Calls Try.prog 40 #[.slice (some a) l.length c] w fun e w' => ∃ v', e = .returned v' ∧ Owned w.heap.size w' v' l ∧ v' ≠ .slice none 0 0 ∧ Below w.heap.size w w' := by
  obtain ⟨a', c', h1, h2, h3, h4⟩ := h.shape
  simp only [Value.slice.injEq] at h1
  obtain ⟨rfl, _, rfl⟩ := h1
  by_cases hp : 0 < l.length
  · obtain ⟨B, o, e, hB, hc⟩ := h4 hp
    simp only [Option.some.injEq] at e
    subst e
    have hcon := Try.slices_Clone_int B o l.length c l w (Nat.le_refl _) (by omega) hc
    rw [List.take_length] at hcon
    exact hcon
  · have : l = [] := List.eq_nil_of_length_eq_zero (by omega)
    subst this
    exact Try.slices_Clone_int_zero a c w

open Go.Sort Go.Lib in
theorem compact_any {base : Nat} {w : World} {v : Value} {l d : List Int} (hv : v ≠ .slice none 0 0) (h : w.ownsRow base 3 1 v l.length (intsV d)) (hd : d.length = l.length) (hl : l.length ≤ 17592186044416)
    (hmem : ∀ x, x ∈ d ↔ x ∈ l) (hs : ∀ i j, i < j → j < d.length → before (d.getD j 0) (d.getD i 0) = false) :
    Calls Try.prog 45 #[v] w fun e w' => ∃ v', e = .returned v' ∧ Owned base w' v' (normC l) ∧ (∀ B, B ≤ base → Below B w w') := by
  obtain ⟨g, cap, rfl, hb, hlt, hn, hm, hlen, hH⟩ := holds_of_ownsRow (enc := Value.int .i64) (zs := d) h hv
  have hcon := Try.slices_Compact_int g 0 cap d w hH (by omega) (by omega)
  rw [hd] at hcon
  refine hcon.mono ?_
  rintro e w' ⟨rfl, q, rfl⟩
  have hcl := compact_length_le d
  have hce := compact_norm hmem hs
  refine ⟨_, rfl, ?_, ?_⟩
  · have h2 := ownsRow_putRow (enc := Value.int .i64) (q := q) (k := (compact d).length) (ys := compact d ++ List.replicate (l.length - (compact d).length) 0) h (by simp; omega) (by omega)
    rw [List.take_left'  rfl] at h2
    unfold Owned
    rw [← hce]
    exact h2
  · intro B hB
    exact below_putRow (RowKit.Below.refl B w) (by omega)

theorem ins_nil (w : World) (c : Nat) :
    Calls Try.prog 67 #[.slice none 0 c, .int .i64 0, .int .i64 0, .func (.func 42) #[] #[]] w fun e w' => e = .returned (.tuple #[]) ∧ w = w' := by
  go_enter Try.func67, Try.ntmps67
  go_wp2_with fail
  go_loop [8, 9] (fun u _ => u = .int .i64 1) (fun _ _ => 0)
  case atStart => rfl
  case round =>
    obtain rfl := hrel
    go_wp2_with fail
    go_end0
    exact ⟨rfl, rfl⟩
set_option maxRecDepth 100000 in
theorem pdq_nil (w : World) (c : Nat) :
    Calls Try.prog 59 #[.slice none 0 c, .int .i64 0, .int .i64 0, .int .i64 0, .func (.func 42) #[] #[]] w fun e w' => e = .returned (.tuple #[]) ∧ w = w' := by
  go_enter Try.func59, Try.ntmps59
  go_wp2_with fail
  refine wp_loop_rounds 1 ?_
  rw [rounds_succ]
  go_wp2_with fail
  refine (ins_nil w c).mono ?_
  rintro e w1 ⟨rfl, rfl⟩
  go_wp2_with fail
  refine bodyPost_ret (v := .tuple #[]) (by simp [results, Try.results59, go_sem]) rfl ?_
  exact ⟨rfl, rfl⟩

theorem sort_nil (w : World) (c : Nat) :
    Calls Try.prog 41 #[.slice none 0 c, .func (.func 42) #[] #[]] w fun e w' => e = .returned (.tuple #[]) ∧ w = w' := by
  have HB := hid (show Calls Try.prog 60 #[.int .u64 0] w fun e w' => e = .returned (.int .i64 0) ∧ w' = w from Try.bits_Len 0 w (by decide) (by decide))
  have HP := hid (pdq_nil w c)
  go_enter Try.func41, Try.ntmps41
  go_wp2_with fail
  refine HB.out.mono ?_
  rintro e w1 ⟨rfl, rfl⟩
  go_wp2_with fail
  refine HP.out.mono ?_
  rintro e w1 ⟨rfl, rfl⟩
  go_wp2_with fail
  go_end0
  exact ⟨rfl, rfl⟩

theorem filter_two (l : List Int) (p q : Int → Bool) (h : ∀ x, p x = true → q x = false) : (l.filter p).length + (l.filter q).length ≤ l.length := by
  induction l with
  | nil => simp
  | cons x l ih =>
    have := h x
    cases hp : p x <;> cases hq : q x <;> simp [hp, hq] <;> first | omega | (rw [this hp] at hq; cases hq)
theorem insN_len (x : Int) (out : List Int) : (insN x out).length ≤ out.length + 1 := by
  unfold insN
  split
  · omega
  · have := filter_two out (fun y => before y x) (fun y => before x y) (fun y hy => before_asym hy)
    simp only [List.length_append, List.length_cons]
    omega
theorem foldN_len (l : List Int) : ∀ out : List Int, (l.foldl (fun out x => insN x out) out).length ≤ l.length + out.length := by
  induction l with
  | nil => intro out; simp
  | cons x l ih =>
    intro out
    have h1 := ih (insN x out)
    have h2 := insN_len x out
    rw [List.foldl_cons, List.length_cons]; omega
theorem norm_len (l : List Int) : (normC l).length ≤ l.length := by
  have := foldN_len l []
  simpa [normC] using this

theorem norm_any (v : Value) (l : List Int) (w : World) (h : Ints w v l) :
    Calls Try.prog 16 #[v] w fun e w' => ∃ v', e = .returned v' ∧ Owned w.heap.size w' v' (normC l) ∧ Below w.heap.size w w' := by
  obtain ⟨a, c, rfl, h2, h3, h4⟩ := h.shape
  cases a with
  | none =>
    have hl0 : l = [] := by
      apply List.eq_nil_of_length_eq_zero
      by_cases hp : 0 < l.length
      · obtain ⟨B, o, e, _⟩ := h4 hp; cases e
      · omega
    subst hl0
    have CL := hid (Try.slices_Clone_int_nil 0 c w)
    clear h h2 h3 h4
    go_enter Try.func16, Try.ntmps16
    go_wp2_with fail
    refine CL.out.mono ?_
    rintro e w1 ⟨rfl, rfl⟩
    go_wp2_with fail
    refine (sort_nil _ _).mono ?_
    rintro e w1 ⟨rfl, rfl⟩
    go_wp2_with fail
    refine (Try.slices_Compact_int_empty none 0 _).mono ?_
    rintro e w1 ⟨rfl, rfl⟩
    go_wp2_with fail
    go_ret
    exact ⟨_, rfl, World.ownsRow_nil _ _ _ _, Below.refl _ _⟩
  | some a =>
    have CL := hid (clone_some h)
    clear h h2 h4
    go_enter Try.func16, Try.ntmps16
    go_wp2_with fail
    refine CL.out.mono ?_
    rintro e w1 ⟨v1, rfl, ho, hne, hb⟩
    have H1 := hid (And.intro ho (And.intro hne hb))
    obtain ⟨a1, c1, rfl⟩ := own_shape ho
    clear ho hne hb CL
    go_wp2_with fail
    refine (sort_any H1.out.1 H1.out.2.1 h3).mono ?_
    rintro e w2 ⟨rfl, d, hrow, hd, hmem, hs, hb⟩
    have H2 := hid (And.intro hrow (And.intro hd (And.intro hmem (And.intro hs hb))))
    clear hrow hd hmem hs hb
    go_wp2_with fail
    refine (compact_any H1.out.2.1 H2.out.1 H2.out.2.1 h3 H2.out.2.2.1 H2.out.2.2.2.1).mono ?_
    rintro e w3 ⟨v3, rfl, ho3, hb3⟩
    obtain ⟨a3, c3, rfl⟩ := own_shape ho3
    have H3 := hid (And.intro ho3 ((H1.out.2.2.trans (H2.out.2.2.2.2 _ (Nat.le_refl _))).trans (hb3 _ (Nat.le_refl _))))
    clear ho3 hb3
    go_wp2_with fail
    go_ret
    exact ⟨_, rfl, H3.out.1, H3.out.2⟩
end Go.Proofs.Ytopneceicamakaa.Cf
