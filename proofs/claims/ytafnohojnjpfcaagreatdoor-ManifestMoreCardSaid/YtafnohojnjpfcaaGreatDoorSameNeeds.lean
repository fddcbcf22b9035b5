/-
  LAYERS 7 AND 9: the document's needs held against one another; the law's own Of.
-/
import Derived.Test.YtafnohojnjpfcaaGreatDoorDocM
import Derived.Test.YtafnohojnjpfcaaGreatDoorSpecCheck
import Derived.Deep.RegionHeld3
namespace Go.Proofs.YtafnohojnjpfcaaGreatDoor.Ix
open Go.RowKit
open Go.Proofs.YtafnohojnjpfcaaGreatDoor Go.Proofs.YtafnohojnjpfcaaGreatDoor.Ln Go.Proofs.YtafnohojnjpfcaaGreatDoor.Vs Go.Proofs.YtafnohojnjpfcaaGreatDoor.Sp Go.Proofs.YtafnohojnjpfcaaGreatDoor.Sf

theorem quiet_at' {f : FuncId} {args : Array Value} {w : World} {m x : Nat} (h : Calls Tryz.prog f args (w.drewN (m + x)) (TrueQ (w.drewN (m + x)))) :
    Calls Tryz.prog f args (w.drewN (m + x)) fun e w' => e = .returned (.bool true) ∧ ∃ n, w' = w.drewN (m + n) :=
  h.mono fun _ _ ⟨he, k, hk⟩ => ⟨he, x + k, by rw [hk, World.drewN_drewN, Nat.add_assoc]⟩

set_option maxHeartbeats 2000000 in
theorem sameNeeds_any (ns : List NeedS) (hl : ns.length ≤ 1000) (va vb : Value) (w : World) (ha : DNeedsV w va ns) (hb : DNeedsV w vb ns) (hfs : ∀ n, n ∈ ns → n.feats.length ≤ 1000) :
    Calls Tryz.prog 46 #[va, vb] w (TrueQ w) := by
  obtain ⟨aa, ac, rfl, ha⟩ := ha
  obtain ⟨ba, bc, rfl, hb⟩ := hb
  by_cases h0 : ns = []
  · subst h0
    clear ha hb hl hfs
    go_enter Tryz.func46, Tryz.ntmps46
    go_wp2
    go_rounds 1
    go_ret
    exact ⟨rfl, 0, rfl⟩
  · obtain ⟨GA, cA, rfl, hGA, hcA, hNA⟩ := ha h0
    obtain ⟨GB, cB, rfl, hGB, hcB, hNB⟩ := hb h0
    obtain ⟨n, hn⟩ : ∃ n, ns.length = n := ⟨_, rfl⟩
    rw [hn] at hl ⊢
    have HN := hid hn
    have HCA := hid hcA
    have HCB := hid hcB
    have HNA := hid hNA
    have HNB := hid hNB
    have HFS := hid hfs
    clear hn hcA hcB hNA hNB ha hb h0 hfs
    go_enter Tryz.func46, Tryz.ntmps46
    go_wp2_with fail
    go_loopw [5] (fun v wr => ∃ k m : Nat, k ≤ n ∧ v = .int .i64 k ∧ wr = w.drewN m) (fun v _ => n - (intOf v).toNat)
    case atStart => exact ⟨0, 0, by omega, rfl, rfl⟩
    case round =>
      obtain ⟨k, m, hk, rfl, rfl⟩ := hrel
      by_cases hlt : k < n
      · have hkn : k < ns.length := by have := HN.out; omega
        have hnk : ns[k]? = some ns[k] := List.getElem?_eq_getElem hkn
        obtain ⟨a0, a1, a2, e0, e1, e2, rfl, rfl, hfa⟩ := HNA.out.2 k _ hnk
        obtain ⟨b0, b1, b2, d0, d1, d2, rfl, rfl, hfb⟩ := HNB.out.2 k _ hnk
        have hfl := HFS.out _ (List.getElem_mem hkn)
        generalize ns[k] = N at *
        have TX := hid (fun x => texts_eq N.feats (by omega) a2 b2 (w.drewN x) (show RowIs (w.drewN x) a2 _ from hfa.row) (show RowIs (w.drewN x) b2 _ from hfb.row))
        obtain ⟨fa, fac, rfl, -⟩ := hfa
        obtain ⟨fb, fbc, rfl, -⟩ := hfb
        have c0 := HCA.out _ _ e0
        have c1 := HCA.out _ _ e1
        have c2 := HCA.out _ _ e2
        have x0 := HCB.out _ _ d0
        have x1 := HCB.out _ _ d1
        have x2 := HCB.out _ _ d2
        clear e0 e1 e2 d0 d1 d2 hnk hfl
        generalize N.feats.length = fl at TX c2 x2 ⊢
        generalize (⟨N.name.toArray⟩ : ByteArray) = S1 at c0 x0 ⊢
        generalize (⟨N.rng.toArray⟩ : ByteArray) = S2 at c1 x1 ⊢
        go_wp2_with fail
        go_quiet ((go_at_call 56; exact quiet_at' (TX.out _)))
        go_wp2_with fail
        go_roundw
        case rel => exact ⟨k + 1, _, by omega, by go_num, rfl⟩
        case measure => simp [intOf]; omega
      · go_wp2_with fail
        go_ret
        exact ⟨rfl, m, rfl⟩
end Go.Proofs.YtafnohojnjpfcaaGreatDoor.Ix
