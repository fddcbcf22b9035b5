/-
  LAYER 4: SpecParses.
-/
import Derived.Test.YtebhgcejcdgdbaaGreatDoorML
import Derived.Test.YtebhgcejcdgdbaaGreatDoorSpecOf
namespace Go.Proofs.YtebhgcejcdgdbaaGreatDoor.Sp
open Go.RowKit Go.Sort
open Go.Proofs.YtebhgcejcdgdbaaGreatDoor Go.Proofs.YtebhgcejcdgdbaaGreatDoor.Nu Go.Proofs.YtebhgcejcdgdbaaGreatDoor.Vs

set_option maxRecDepth 20000 in
set_option maxHeartbeats 8000000 in
theorem law_parses (s : ByteArray) (w : World) (hm : MaxAt w) (ht : TenAt w) (hg : SignsAt w) :
    Calls Tryz.prog 3 #[.string s] w fun e w' => e = .returned (.bool true) ∧ Below w.heap.size w w' := by
  have HPD := hid taken_any
  have BIG : ∀ (h : (200 : Int) < s.size), Calls Tryz.prog 3 #[.string s] w fun e w' => e = .returned (.bool true) ∧ Below w.heap.size w w' := by
    intro h
    go_enter Tryz.func3, Tryz.ntmps3
    go_wp2_with (go_at_call 11; (with_reducible refine (HPD.out _ hm ht hg).mono ?_); rintro e w1 ⟨rfl, hb1⟩)
    go_ret
    exact ⟨rfl, hb1⟩
  by_cases hbig : (200 : Int) < s.size
  · exact BIG hbig
  · clear BIG
    have h100 : (s.size : Int) ≤ 200 := by omega
    clear hbig
    have P1 := hid (parse_o s (by omega))
    have P2 := hid (rrparse_o s (by omega))
    have OK1 := hid (fun rs (h : rngOf s.data.toList = some rs) => (rngOf_ok h).2)
    have TX := hid (fun rs (h : rngOf s.data.toList = some rs) => show (⟨(rngText rs).toArray⟩ : ByteArray) = s by rw [(rngOf_ok h).1])
    generalize rngOf s.data.toList = o1 at *
    generalize hf1 : o1.isSome = f1 at P1 P2
    replace hf1 := hid hf1
    go_enter Tryz.func3, Tryz.ntmps3
    go_wp2_with fail
    refine (P1.out _ hm hg).mono ?_
    rintro e w1 ⟨oa1, m1, cp1, rfl, hb1, N1, hr1⟩
    have z1 := hid (below_alloc hb1 (.cells #[.slice oa1 m1 cp1] 25))
    have v1 := hid (Blk.new w1 [.slice oa1 m1 cp1] 25)
    have M1 := hid (fun rs h => (hr1 rs h).1)
    replace N1 := hid N1
    replace hr1 := hid (fun rs h => (hr1 rs h).2.below (below_alloc (Below.refl w1.heap.size w1) (.cells #[.slice oa1 m1 cp1] 25)))
    clear hb1
    go_wp2_with fail
    generalize w1.alloc (.cells [.slice oa1 m1 cp1].toArray 25) = W1 at v1 hr1 z1 ⊢
    generalize w1.heap.size = b1' at v1 ⊢
    refine (P2.out _).mono ?_
    rintro e w2 ⟨oa2, m2, cp2, rfl, hb2, hr2⟩
    have z2 := hid (below_trans z1.out hb2)
    have M2 := hid (fun rs h => (hr2 rs h).1)
    replace hr2 := hid (fun rs h => (hr2 rs h).2)
    replace v1 := hid (v1.out.below hb2)
    replace hr1 := hid (fun rs h => (hr1.out rs h).below hb2)
    clear hb2 z1
    go_wp2_with fail
    refine (HPD.out _ (hm.below z2.out) (ht.below z2.out) (hg.below z2.out)).mono ?_
    rintro e w5 ⟨rfl, hb5⟩
    replace v1 := hid (v1.out.below hb5)
    replace hr1 := hid (fun rs h => (hr1.out rs h).below hb5)
    replace hr2 := hid (fun rs h => (hr2.out rs h).below hb5)
    have z5 := hid (below_trans z2.out hb5)
    clear hb5 z2
    have g1 := v1.out.cell 0 rfl
    have g2 := v1.out.lt
    cases o1 with
    | none =>
      obtain rfl : f1 = false := hf1.out.symm
      obtain ⟨rfl, rfl, rfl⟩ := N1.out rfl
      clear OK1 hr1 hr2 M1 M2 HPD P1 P2
      go_wp2_with fail
      go_ret
      exact ⟨rfl, z5.out⟩
    | some rs =>
      obtain rfl : f1 = true := hf1.out.symm
      obtain rfl := M1.out rs rfl
      obtain rfl := M2.out rs rfl
      have hok := hid (OK1.out rs rfl)
      have hts := TX.out rs rfl
      have C1 := hid (checkR_any rs (.slice oa1 rs.length cp1) hok.out w5 (hm.below z5.out) (ht.below z5.out) (hg.below z5.out) (hr1.out rs rfl))
      have C2 := hid (fun w6 (hb : Below w5.heap.size w5 w6) => textR_any rs (.slice oa1 rs.length cp1) hok.out w6 (hm.below (below_trans z5.out hb)) (ht.below (below_trans z5.out hb)) (hg.below (below_trans z5.out hb)) ((hr1.out rs rfl).below hb))
      have C3 := hid (fun w6 (hb : Below w5.heap.size w5 w6) => rrtext_any rs (.slice oa2 rs.length cp2) hok.out.2.1 hok.out.2.2.1 w6 ((hr2.out rs rfl).below hb))
      have C4 := hid (fun w6 (hb : Below w5.heap.size w5 w6) => of_rng rs (.slice oa1 rs.length cp1) hok.out.1 hok.out.2.1 hok.out.2.2.1 w6 (hm.below (below_trans z5.out hb)) (ht.below (below_trans z5.out hb)) ((hr1.out rs rfl).below hb))
      have C5 := hid (fun oa cp w6 h => rrtext_any rs (.slice oa rs.length cp) hok.out.2.1 hok.out.2.2.1 w6 h)
      rw [hts] at C2 C3 C5
      unfold OfR at C4
      replace v1 := hid (fun w6 (hb : Below w5.heap.size w5 w6) => (v1.out.below hb).cell 0 rfl)
      clear OK1 hr1 hr2 M1 M2 HPD P1 P2 N1 TX hts hok
      have hrf := hid (Below.refl w5.heap.size w5)
      go_wp2_with (first
        | (go_at_call 14; (with_reducible refine C1.out.mono ?_); rintro e w6 ⟨rfl, hb6⟩; have k6 := v1.out _ hb6)
        | (go_at_call 15; (with_reducible refine (C2.out _ hb6).mono ?_); rintro e w7 ⟨rfl, hb7⟩; have hb67 := hid (below_trans hb6 hb7); have k7 := v1.out _ hb67.out)
        | (go_at_call 16; (with_reducible refine (C3.out _ hb67.out).mono ?_); rintro e w8 ⟨rfl, hb8⟩; have hb68 := hid (below_trans hb67.out hb8); have k8 := v1.out _ hb68.out)
        | (go_at_call 17; (with_reducible refine (C4.out _ hb68.out).mono ?_); rintro e w9 ⟨oa9, cp9, rfl, hb9, hr9⟩; have hb69 := hid (below_trans hb68.out hb9))
        | (go_at_call 16; (with_reducible refine (C5.out _ _ _ hr9).mono ?_); rintro e w10 ⟨rfl, hb10⟩))
      go_ret
      exact ⟨rfl, below_trans (below_trans z5.out hb69.out) hb10⟩
end Go.Proofs.YtebhgcejcdgdbaaGreatDoor.Sp
