/-
  LAYER 4: SpecHas.
-/
import Derived.Test.YtebhgcejcdgdbaaGreatDoorML
namespace Go.Proofs.YtebhgcejcdgdbaaGreatDoor.Sp
open Go.RowKit Go.Sort
open Go.Proofs.YtebhgcejcdgdbaaGreatDoor Go.Proofs.YtebhgcejcdgdbaaGreatDoor.Nu Go.Proofs.YtebhgcejcdgdbaaGreatDoor.Vs

set_option maxRecDepth 20000 in
set_option maxHeartbeats 8000000 in
theorem law_has (s t : ByteArray) (w : World) (hm : MaxAt w) (ht : TenAt w) (hg : SignsAt w) :
    Calls Tryz.prog 5 #[.string s, .string t] w fun e w' => e = .returned (.bool true) ∧ Below w.heap.size w w' := by
  have HPD := hid taken_any
  have BIG : ∀ (h : (200 : Int) < s.size ∨ ((s.size : Int) ≤ 200 ∧ (100 : Int) < t.size)), Calls Tryz.prog 5 #[.string s, .string t] w fun e w' => e = .returned (.bool true) ∧ Below w.heap.size w w' := by
    intro h
    rcases h with h | ⟨h, k⟩
    all_goals
      go_enter Tryz.func5, Tryz.ntmps5
      go_wp2_with (go_at_call 11; (with_reducible refine (HPD.out _ hm ht hg).mono ?_); rintro e w1 ⟨rfl, hb1⟩)
      go_ret
      exact ⟨rfl, hb1⟩
  by_cases hbig : (200 : Int) < s.size ∨ ((s.size : Int) ≤ 200 ∧ (100 : Int) < t.size)
  · exact BIG hbig
  · clear BIG
    have h100 : (s.size : Int) ≤ 200 := by omega
    have h101 : (t.size : Int) ≤ 100 := by omega
    clear hbig
    obtain ⟨x, y, z, q, lx, ly, lz, Kq, _, HV⟩ := of_v t (by omega)
    replace HV := hid HV
    have hOkV := hid (show OkV x y z q from ⟨lx, ly, lz, Kq.2⟩)
    have P1 := hid (parse_o s (by omega))
    have P2 := hid (rrparse_o s (by omega))
    have OK1 := hid (fun rs (h : rngOf s.data.toList = some rs) => (rngOf_ok h).2)
    have HAS := hid (fun rs v hok w hm ht hg hr => hasR_any rs v hok x y z q hOkV.out w hm ht hg hr)
    have RHAS := hid (fun rs v (hok : OkR rs) pa pc w hr hp => rrhas_any rs v hok.2.1 hok.2.2.1 x y z q Kq.2 pa pc w hr hp)
    have HZ := hid (has_zero (x : Int) (y : Int) (z : Int) ⟨q.toArray⟩)
    clear lx ly lz Kq hOkV
    generalize rngOf s.data.toList = o1 at *
    generalize hf1 : o1.isSome = f1 at P1 P2
    replace hf1 := hid hf1
    go_enter Tryz.func5, Tryz.ntmps5
    go_wp2_with fail
    refine (P1.out _ hm hg).mono ?_
    rintro e w1 ⟨oa1, m1, cp1, rfl, hb1, N1, hr1⟩
    have z1 := hid (below_alloc hb1 (.cells #[.slice oa1 m1 cp1] 25))
    have v1 := hid (Blk.new w1 [.slice oa1 m1 cp1] 25)
    have M1 := hid (fun rs h => (hr1 rs h).1)
    replace N1 := hid N1
    replace hr1 := hid (fun rs h => (hr1 rs h).2.below (below_alloc (Below.refl w1.heap.size w1) (.cells #[.slice oa1 m1 cp1] 25)))
    clear hb1
    go_wp2_with fail
    generalize w1.alloc (.cells [.slice oa1 m1 cp1].toArray 25) = W1 at v1 hr1 z1 ⊢
    generalize w1.heap.size = b1' at v1 ⊢
    refine (P2.out _).mono ?_
    rintro e w2 ⟨oa2, m2, cp2, rfl, hb2, hr2⟩
    have z2 := hid (below_trans z1.out hb2)
    have M2 := hid (fun rs h => (hr2 rs h).1)
    replace hr2 := hid (fun rs h => (hr2 rs h).2)
    replace v1 := hid (v1.out.below hb2)
    replace hr1 := hid (fun rs h => (hr1.out rs h).below hb2)
    clear hb2 z1
    go_wp2_with fail
    refine (HV.out _ (hm.below z2.out)).mono ?_
    rintro e w4 ⟨pa, pc, rfl, hpq, hb4⟩
    have z4 := hid (below_alloc (below_alloc (below_trans z2.out hb4) (.cells #[.int .i64 (x : Int), .int .i64 (y : Int), .int .i64 (z : Int), .string ⟨q.toArray⟩] 38)) (.cells #[.int .i64 (x : Int), .int .i64 (y : Int), .int .i64 (z : Int), .slice pa (rows q).length pc] 45))
    have al4 := hid (below_alloc (below_alloc (Below.refl w4.heap.size w4) (.cells #[.int .i64 (x : Int), .int .i64 (y : Int), .int .i64 (z : Int), .string ⟨q.toArray⟩] 38)) (.cells #[.int .i64 (x : Int), .int .i64 (y : Int), .int .i64 (z : Int), .slice pa (rows q).length pc] 45))
    have v4 := hid (two_blk w4 [.int .i64 (x : Int), .int .i64 (y : Int), .int .i64 (z : Int), .string ⟨q.toArray⟩] [.int .i64 (x : Int), .int .i64 (y : Int), .int .i64 (z : Int), .slice pa (rows q).length pc] 38 45).1
    have v5 := hid (two_blk w4 [.int .i64 (x : Int), .int .i64 (y : Int), .int .i64 (z : Int), .string ⟨q.toArray⟩] [.int .i64 (x : Int), .int .i64 (y : Int), .int .i64 (z : Int), .slice pa (rows q).length pc] 38 45).2
    replace hpq := hid (hpq.below al4.out)
    replace v1 := hid ((v1.out.below hb4).below al4.out)
    replace hr1 := hid (fun rs h => ((hr1.out rs h).below hb4).below al4.out)
    replace hr2 := hid (fun rs h => ((hr2.out rs h).below hb4).below al4.out)
    clear hb4 al4 z2
    go_wp2_with fail
    generalize (w4.alloc (.cells #[.int .i64 (x : Int), .int .i64 (y : Int), .int .i64 (z : Int), .string ⟨q.toArray⟩] 38)).alloc (.cells #[.int .i64 (x : Int), .int .i64 (y : Int), .int .i64 (z : Int), .slice pa (rows q).length pc] 45) = W4 at v1 v4 v5 hr1 hr2 hpq z4 ⊢
    generalize w4.heap.size + 1 = b5' at *
    generalize w4.heap.size = b4' at v4 ⊢
    refine (HPD.out _ (hm.below z4.out) (ht.below z4.out) (hg.below z4.out)).mono ?_
    rintro e w5 ⟨rfl, hb5⟩
    replace v1 := hid (v1.out.below hb5)
    replace v4 := hid (v4.out.below hb5)
    replace v5 := hid (v5.out.below hb5)
    replace hr1 := hid (fun rs h => (hr1.out rs h).below hb5)
    replace hr2 := hid (fun rs h => (hr2.out rs h).below hb5)
    replace hpq := hid (hpq.out.below hb5)
    have z5 := hid (below_trans z4.out hb5)
    clear hb5 z4
    have g1 := v1.out.cell 0 rfl
    have g2 := v4.out.cell 0 rfl
    have g3 := v4.out.cell 1 rfl
    have g4 := v4.out.cell 2 rfl
    have g5 := v4.out.cell 3 rfl
    cases o1 with
    | none =>
      obtain rfl : f1 = false := hf1.out.symm
      obtain ⟨rfl, rfl, rfl⟩ := N1.out rfl
      clear OK1 hr1 hr2 M1 M2 HPD HAS RHAS P1 P2 HV
      go_wp2_with (go_at_call 19; (with_reducible refine (HZ.out _).mono ?_); rintro e w6 ⟨rfl, hb6⟩)
      go_ret
      exact ⟨rfl, below_trans z5.out hb6⟩
    | some rs =>
      obtain rfl : f1 = true := hf1.out.symm
      obtain rfl := M1.out rs rfl
      obtain rfl := M2.out rs rfl
      have A1 := hid (HAS.out rs (.slice oa1 rs.length cp1) (OK1.out rs rfl) _ (hm.below z5.out) (ht.below z5.out) (hg.below z5.out) (hr1.out rs rfl))
      have A2 := hid (fun w6 (hb : Below w5.heap.size w5 w6) => RHAS.out rs (.slice oa2 rs.length cp2) (OK1.out rs rfl) pa pc w6 ((hr2.out rs rfl).below hb) (hpq.out.below hb))
      clear OK1 hr1 hr2 M1 M2 HPD HAS RHAS P1 P2 HV hpq HZ N1
      generalize rngHas rs x y z q = h at A1 A2
      generalize rs.length = rl at *
      generalize (rows q).length = ql at *
      go_wp2_with (first
        | (go_at_call 19; (with_reducible refine A1.out.mono ?_); rintro e w6 ⟨rfl, hb6⟩; have k0 := (v5.out.below hb6).cell 0 rfl; have k1 := (v5.out.below hb6).cell 1 rfl; have k2 := (v5.out.below hb6).cell 2 rfl; have k3 := (v5.out.below hb6).cell 3 rfl)
        | (go_at_call 21; (with_reducible refine (A2.out _ hb6).mono ?_); rintro e w7 ⟨rfl, hb7⟩))
      cases h
      all_goals
        go_wp2_with fail
        go_ret
        exact ⟨rfl, below_trans (below_trans z5.out hb6) hb7⟩
end Go.Proofs.YtebhgcejcdgdbaaGreatDoor.Sp
