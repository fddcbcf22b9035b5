/-
  LAYER 9, PACKAGE manifest: Names.
-/
import Derived.Test.YtafnohojnjpfcaaGreatDoorManWant
namespace Go.Proofs.YtafnohojnjpfcaaGreatDoor.Ix
open Go.RowKit
open Go.Proofs.YtafnohojnjpfcaaGreatDoor Go.Proofs.YtafnohojnjpfcaaGreatDoor.Ln Go.Proofs.YtafnohojnjpfcaaGreatDoor.Vs Go.Proofs.YtafnohojnjpfcaaGreatDoor.Sp Go.Proofs.YtafnohojnjpfcaaGreatDoor.Sf

/-- each once, behind those that are there already -/
def once (acc : Words) : Words → Words
  | [] => acc
  | x :: xs => once (if acc.contains x then acc else acc ++ [x]) xs
theorem once_step {acc ws : Words} {k : Nat} (h : k < ws.length) : once acc (ws.drop k) = once (if acc.contains ws[k] then acc else acc ++ [ws[k]]) (ws.drop (k + 1)) := by
  rw [List.drop_eq_getElem_cons h]; rfl

/-- needs in a row, of which the names are told -/
def NamedAt (w : World) (G : Nat) (ws : Words) : Prop := ∀ k (h : k < ws.length), ∃ ba bn bc ca cn cc, w.cell? ⟨G, k * 3, none⟩ = some (.string ⟨ws[k].toArray⟩) ∧ w.cell? ⟨G, k * 3 + 1, none⟩ = some (.slice ba bn bc) ∧ w.cell? ⟨G, k * 3 + 2, none⟩ = some (.slice ca cn cc)
theorem NamedAt.below {w w' : World} {G : Nat} {ws : Words} (h : NamedAt w G ws) (hb : Below w.heap.size w w') : NamedAt w' G ws := fun k hk => by
  obtain ⟨ba, bn, bc, ca, cn, cc, h1, h2, h3⟩ := h k hk
  exact ⟨ba, bn, bc, ca, cn, cc, bcell hb h1, bcell hb h2, bcell hb h3⟩

def NamesIs (ws : Words) (w : World) (e : Ending) (w' : World) : Prop := ∃ v, e = .returned v ∧ Below w.heap.size w w' ∧ RowIs w' v (Ln.strs ws)

set_option maxRecDepth 100000 in
set_option maxHeartbeats 4000000 in
theorem names_any (ws : Words) (hl : ws.length ≤ 1000) (G cp : Nat) (w : World) (hN : NamedAt w G ws) :
    Calls Tryz.prog 57 #[.agg #[.slice (some ⟨G, 0, none⟩) ws.length cp]] w (NamesIs (once [] ws) w) := by
  have HNM := hid hN
  have hb := Blk.new w [.slice (some ⟨G, 0, none⟩) ws.length cp] 106
  have c0 := hb.cell 0 rfl
  obtain ⟨n, hn⟩ : ∃ n, ws.length = n := ⟨_, rfl⟩
  rw [hn] at hb c0 ⊢
  have HN := hid hn
  have BW := hid (below_alloc (Below.refl w.heap.size w) (.cells #[.slice (some ⟨G, 0, none⟩) n cp] 106))
  have hl' : n ≤ 1000 := by omega
  generalize honce : once [] ws = R
  have HR := hid (show R = once [] (ws.drop 0) by rw [← honce]; rfl)
  clear hN hn hb honce hl
  go_enter Tryz.func57, Tryz.ntmps57
  go_wp2_with fail
  generalize w.alloc (.cells #[.slice (some ⟨G, 0, none⟩) n cp] 106) = w1 at BW c0 ⊢
  have hz1 := BW.out.size
  go_loopw [3, 5, 9] (fun v _ i wr => ∃ (k : Nat) (acc : Words) (a : Option Addr) (m c : Nat), k ≤ n ∧ i = .int .i64 k ∧ v = .slice a m c ∧ Hid (Below w1.heap.size w1 wr) ∧ Hid (wr.ownsRow w1.heap.size 9 1 v acc.length (Ln.strs acc)) ∧ Hid (acc.length ≤ k) ∧ Hid (R = once acc (ws.drop k))) (fun _ _ i _ => n - (intOf i).toNat)
  case atStart => exact ⟨0, [], none, 0, 0, by omega, rfl, rfl, hid (Below.refl _ _), hid (World.ownsRow_nil _ _ _ _), hid (Nat.le_refl _), HR⟩
  case round =>
    obtain ⟨k, acc, a, m, c, hk, rfl, rfl, hb, hown, hal, hr⟩ := hrel
    clear HR
    by_cases hlt : k < n
    · have hkw : k < ws.length := by rw [HN.out]; exact hlt
      obtain ⟨ba, bn, bc, ca, cn, cc, n0, n1, n2⟩ := (HNM.out.below (below_trans BW.out hb.out)) k hkw
      have hst := hid (hr.out.trans (once_step hkw))
      generalize ws[k] = x at *
      have gl := World.block_lt_of_cell? wr _ n0
      have hb2 := hid (below_alloc hb.out (.cells #[.string ⟨x.toArray⟩, .slice ba bn bc, .slice ca cn cc] 78))
      have bA := below_alloc (Below.refl wr.heap.size wr) (.cells #[.string ⟨x.toArray⟩, .slice ba bn bc, .slice ca cn cc] 78)
      have hown2 := hid (ownsRow_below hown.out bA)
      have nb := Blk.new wr [.string ⟨x.toArray⟩, .slice ba bn bc, .slice ca cn cc] 78
      have x0 := nb.cell 0 rfl
      have xl := nb.lt
      have hz := hid (Nat.le_trans hb.out.size (show wr.heap.size ≤ _ from bA.size))
      clear bA nb
      go_wp2_with fail
      generalize wr.alloc (.cells #[.string ⟨x.toArray⟩, .slice ba bn bc, .slice ca cn cc] 78) = w2 at hb2 hown2 x0 xl hz ⊢
      generalize wr.heap.size = b2 at x0 xl ⊢
      refine (contains_any acc (by have := hal.out; omega) x _ _ (rowIs_of hown2.out)).mono ?_
      cases hct : acc.contains x with
      | true =>
        rw [hct, if_pos rfl] at hst
        clear hct
        rintro e w3 ⟨rfl, rfl⟩
        go_wp2_with fail
        go_roundw
        case rel => exact ⟨k + 1, acc, a, m, c, by omega, by go_num, rfl, hb2, hown2, hid (by have := hal.out; omega), hst⟩
        case measure => simp [intOf]; omega
      | false =>
        rw [hct, if_neg (by simp)] at hst
        clear hct
        rintro e w3 ⟨rfl, rfl⟩
        obtain ⟨iC, hi, hz0, hz1', hz2⟩ := info_parts infoS
        have hi := hid hi
        have hz0 := hid hz0
        have hz1' := hid hz1'
        have hz2 := hid hz2
        have HAPP := hid (strs_app acc x)
        have HLN := hid (show (acc ++ [x]).length = acc.length + 1 by simp)
        generalize hax : acc ++ [x] = ax at hst HAPP HLN
        replace hax := hid hax
        generalize Ln.strs acc = sa at hown2 HAPP
        generalize hal2 : acc.length = al at hown2 HLN hal
        replace hal2 := hid hal2
        generalize (⟨x.toArray⟩ : ByteArray) = X at HAPP x0 ⊢
        clear hown n0
        go_wp2_with (at_builtin; refine wpList_append_lies _ rfl _ _ 76 rfl w1.heap.size 9 iC (.string ⟨#[]⟩) 1 16 Tryz.underlying76 hi.out hz0.out hz1'.out hz2.out rfl (by decide) _ _ _ rfl (ownsRow_below hown2.out (below_alloc (Below.refl _ _) _)) ⟨_, 0, none⟩ 1 1 [.string X] rfl rfl ?c1 ?c2 ?cm ?c3 ?c4 ?c5 _ rfl ?_)
        case c1 => exact cell_one_at _ _ _ _ rfl
        case c2 => intro u hu; simp at hu; subst hu; rfl
        case cm => decide
        case c3 => have := hal.out; unfold maxLen; omega
        case c4 => have := hal.out; omega
        case c5 => have := hz.out; simp; omega
        intro g cap w4 hown4 hgrow hat hlt4
        have kp := hid ((below_alloc hb2.out (.cells #[.string X] 9)).grown hgrow (by have := hz.out; simp; omega) (fun k hk => (hown2.out.lt k hk).1))
        have O4 := hid hown4
        clear hown4 hgrow hat hlt4
        go_wp2_with fail
        go_roundw
        case rel =>
          refine ⟨k + 1, ax, _, _, _, by omega, by go_num, rfl, kp, hid ?_, hid (by rw [HLN.out]; have := hal.out; omega), hst⟩
          rw [HLN.out, HAPP.out]
          exact O4.out
        case measure => simp [intOf]; omega
    · have hke : k = n := by omega
      have hr' := hid (show R = acc by
        rw [hr.out, hke, ← HN.out, List.drop_length]; rfl)
      have hrow := hid (rowIs_of hown.out)
      have hb3 := hid (below_trans BW.out hb.out)
      clear hown hr
      go_wp2_with fail
      go_ret
      exact ⟨_, rfl, hb3.out, by rw [hr'.out]; exact hrow.out⟩

theorem names_nil (a : Option Addr) (c : Nat) (w : World) :
    Calls Tryz.prog 57 #[.agg #[.slice a 0 c]] w (NamesIs [] w) := by
  have hb := Blk.new w [.slice a 0 c] 106
  have c0 := hb.cell 0 rfl
  go_enter Tryz.func57, Tryz.ntmps57
  go_wp2
  go_rounds 1
  go_ret
  exact ⟨_, rfl, below_alloc (Below.refl _ _) _, .inl ⟨rfl, _, _, rfl⟩⟩
end Go.Proofs.YtafnohojnjpfcaaGreatDoor.Ix
