/-
  LAYER 1: LinesNumbers.
-/
import Derived.Test.YthmmeiilcblpgaaLinesEach
import Derived.Test.YthmmeiilcblpgaaLinesNumS
namespace Go.Proofs.Ythmmeiilcblpgaa.Ln
open Go.RowKit

/-- ahead of the line; behind it; where it ends -/
def numI (mB gB : Nat) (most : Int) (W : List UInt8) (k : Nat) (w : World) : Prop :=
  Blk w mB [.int .i64 most] 3 ∧ ((k = 0 ∧ Blk w gB [.int .i64 (-1)] 3) ∨ (k = 1 ∧ numB W = true ∧ ¬ most < (numN W : Int) ∧ Blk w gB [.int .i64 (numN W : Int)] 3))
def numD (mB gB : Nat) (most : Int) (W : List UInt8) (f : Flt) (w : World) : Prop :=
  Blk w mB [.int .i64 most] 3 ∧ Blk w gB [.int .i64 (-1)] 3 ∧ ((numB W = false ∧ f = ⟨1, 1, 3⟩) ∨ (numB W = true ∧ most < (numN W : Int) ∧ f = ⟨8, 1, 3⟩))

set_option maxRecDepth 100000 in
set_option maxHeartbeats 2000000 in
theorem numbers_by (W : List UInt8) (hW : W.length ≤ 80) (most : Int) (mB gB : Nat) (r : Rd) (w : World) (T : Nat → Prop) (hno : r.no = 1) (hp : T r.p) (hg : T gB) (hgp : gB ≠ r.p) (hmp : mB ≠ r.p) (hgm : gB ≠ mB) (h : RdAt w r 0) (hl : RdL w r [[120], W] [1, 3])
    (hm : Blk w mB [.int .i64 most] 3) (hgt : Blk w gB [.int .i64 (-1)] 3) :
    Calls Try.prog 27 #[.pointer (some ⟨r.p, 0, none⟩), .pointer (some ⟨mB, 0, none⟩), .pointer (some ⟨gB, 0, none⟩)] w (ByIs r [[120], W] [1, 3] T (numI mB gB most W 1) (numD mB gB most W) w) := by
  have H := hid h
  have HL := hid hl
  have HM := hid hm
  have HG := hid hgt
  have HN := hid hno
  clear h hl hm hgt hno
  go_enter Try.func27, Try.ntmps27
  go_wp2_with fail
  refine (word_ok H.out HL.out (show 0 < 2 by decide)).mono ?_
  rintro e w1 ⟨rfl, ho1, hr1⟩
  have HO1 := hid ho1
  have HR1 := hid hr1
  have m1 := (Blk.only HM.out ho1 hmp).cell 0 rfl
  clear ho1 hr1
  go_wp2_with fail
  have HTT : Hid (∀ (a b : World), Only (· = r.p) a b → Only T a b) := hid (fun a b h => h.mono (fun k _ hk => hk ▸ hp))
  cases hb : numB W
  · refine (number_bad HR1.out (HL.out.self HO1.out) (show 0 + 1 < 2 by decide) (by show W.length ≤ _; omega) hb most).mono ?_
    rintro e w2 ⟨rfl, ho2⟩
    have hO := HO1.out.trans ho2
    refine ⟨rfl, HTT.out _ _ hO, .inr ⟨1, 3, by rw [HN.out]; rfl, Blk.only HM.out hO hmp, Blk.only HG.out hO hgp, .inl ⟨hb, by rw [HN.out]; rfl⟩⟩⟩
  · by_cases hlt : most < (numN W : Int)
    · refine (number_high HR1.out (HL.out.self HO1.out) (show 0 + 1 < 2 by decide) (by show W.length ≤ _; omega) hb most hlt).mono ?_
      rintro e w2 ⟨rfl, ho2⟩
      have hO := HO1.out.trans ho2
      refine ⟨rfl, HTT.out _ _ hO, .inr ⟨8, 3, by rw [HN.out]; rfl, Blk.only HM.out hO hmp, Blk.only HG.out hO hgp, .inr ⟨hb, hlt, by rw [HN.out]; rfl⟩⟩⟩
    · refine (number_ok HR1.out (HL.out.self HO1.out) (show 0 + 1 < 2 by decide) (by show W.length ≤ _; omega) hb most hlt).mono ?_
      rintro e w2 ⟨rfl, ho2, hr2⟩
      have hO := hid (HO1.out.trans ho2)
      have hG2 := Blk.only HG.out hO.out hgp
      have g0 := hG2.cell 0 rfl
      have gf := hG2.free
      have HG2 := hid hG2
      have HR2 := hid hr2
      have HNN := hid (rfl : numN W = numN W)
      clear ho2 hr2 m1 hG2
      generalize hNN : numN W = N at *
      have HNE := hid hNN
      clear hNN
      go_wp2_with fail
      go_end0
      refine ⟨(HTT.out _ _ hO.out).setCell hg _, .inl ⟨2, rfl, ?_, .inr ⟨rfl, ?_, .inr ⟨rfl, hb, ?_, ?_⟩⟩⟩⟩
      · exact Blk.other HR2.out (Ne.symm hgp) _
      · exact Blk.other (Blk.only HM.out hO.out hmp) (Ne.symm hgm) _
      · rw [HNE.out]; omega
      · rw [HNE.out]; exact Blk.set HG2.out 0 _

set_option maxRecDepth 100000 in
set_option maxHeartbeats 4000000 in
theorem law_numbers_no (s : ByteArray) (hs : s.size ≤ maxLen) (most : Int) (hw : wordV s.data.toList = false) (w : World) :
    Calls Try.prog 7 #[.string s, .int .i64 most] w fun e w' => e = .returned (.bool true) ∧ Below w.heap.size w w' := by
  have WD := fun M => hid (word_any s hs M)
  rw [hw] at WD
  have WDH := hid WD
  clear WD hw hs
  go_enter Try.func7, Try.ntmps7
  go_wp2_with fail
  refine (readTrue_any _).mono ?_
  rintro e w1 ⟨rfl, hb1⟩
  have HB1 := hid hb1
  clear hb1
  go_wp2_with fail
  refine (WDH.out _).out.mono ?_
  rintro e w2 ⟨rfl, rfl⟩
  go_wp2_with fail
  refine (readTrue_any _).mono ?_
  rintro e w3 ⟨rfl, hb3⟩
  have HB3 := hid hb3
  clear hb3
  go_wp2_with fail
  go_ret
  exact ⟨rfl, below_trans (below_trans (below_alloc (Below.refl _ _) _) HB1.out) HB3.out⟩

set_option maxRecDepth 100000 in
set_option maxHeartbeats 8000000 in
theorem law_numbers (l : List UInt8) (most : Int) (hw : wordV l = true) (w : World) :
    Calls Try.prog 7 #[.string ⟨l.toArray⟩, .int .i64 most] w fun e w' => e = .returned (.bool true) ∧ Below w.heap.size w w' := by
  have h80 : l.length ≤ 80 := (wordV_ok hw).2.1
  have WD := fun M => hid (word_any ⟨l.toArray⟩ (by show l.toArray.size ≤ _; unfold maxLen; simp; omega) M)
  rw [show (⟨l.toArray⟩ : ByteArray).data.toList = l from rfl, hw] at WD
  have WDH := hid WD
  have RD := fun W => hid (Read_any (120 :: 32 :: l) (by simp; omega) W)
  rw [numbers_read l hw] at RD
  have RDH := hid RD
  have HW := hid hw
  have H80 := hid h80
  have hcat : ∀ (a b : List UInt8), (⟨a.toArray⟩ : ByteArray) ++ ⟨b.toArray⟩ = ⟨(a ++ b).toArray⟩ := fun a b => by
    apply ByteArray.ext; simp
  clear WD RD hw h80
  go_enter Try.func7, Try.ntmps7
  go_wp2_with fail
  refine (readTrue_any _).mono ?_
  rintro e w1 ⟨rfl, hb1⟩
  have HB1 := hid hb1
  clear hb1
  go_wp2_with fail
  refine (WDH.out _).out.mono ?_
  rintro e w2 ⟨rfl, rfl⟩
  have hlen : l.length ≤ 80 := H80.out
  go_wp2_with fail
  refine (RDH.out _).out.mono ?_
  rintro e w2 ⟨hb2, v, rfl, hlv⟩
  obtain ⟨cells, hown, hrow⟩ := hlv
  rcases own3 hown with ⟨_, h⟩ | ⟨g, c, hv, hc⟩
  · cases h
  subst hv
  have g25 : Try.prog.eqGuardType Try.prog.depth 25 = false := by kernel_rfl
  have hmf : ∀ (fn : Fn) (first cap : Array Value) (w : World), (Instr.makeFunc fn first cap).run Try.prog w = .ok (.func fn first cap) w := fun _ _ _ _ => rfl
  have hm0 : w.heap.size < w1.heap.size := by have := HB1.out.size; simp at this; omega
  have hm2 : w1.heap.size + 1 ≤ w2.heap.size := by have := hb2.size; simp at this; omega
  have hM2 : Blk w2 w.heap.size [.int .i64 most] 3 := (((Blk.new w [.int .i64 most] 3).below HB1.out).alloc _).below hb2
  have hG2 : Blk w2 w1.heap.size [.int .i64 (-1)] 3 := (Blk.new w1 [.int .i64 (-1)] 3).below hb2
  have HM2 := hid hM2
  have HG2 := hid hG2
  have HOWN := hid hown
  have HROW := hid hrow
  have HB2 := hid hb2
  have HC := hid hc
  have HM0 := hid hm0
  have HM22 := hid hm2
  clear hown hrow hb2 hM2 hG2 RDH hc hm0 hm2
  go_wp2_with fail
  have hF : ∀ (args : Array Value) (w : World), (callFunc 27 args).run Try.prog w = .ok (.enter 27 args) w := fun _ _ => by simp [go_sem]
  have hBA : Below w2.heap.size w2 (w2.alloc (.cells #[.int .i64 0, .int .i64 0, .int .i64 0] 25)) := below_alloc (Below.refl _ _) _
  have hsz : (w2.alloc (.cells #[.int .i64 0, .int .i64 0, .int .i64 0] 25)).heap.size = w2.heap.size + 1 := by simp
  have hbase : (w1.alloc (.cells #[.int .i64 (-1)] 3)).heap.size = w1.heap.size + 1 := by simp
  refine (each_any 27 hF #[.pointer (some ⟨w.heap.size, 0, none⟩), .pointer (some ⟨w1.heap.size, 0, none⟩)] [(1, [[120], l], [1, 3])] (by simp) ?_ g c _ (w1.heap.size + 1) cells ?_ ?_
    (· = w1.heap.size) (fun b h => by omega) (numI w.heap.size w1.heap.size most l) (numD w.heap.size w1.heap.size most l) ?_ ?_ ?_ ?_).mono ?_
  · intro x hx
    rw [List.mem_singleton.1 hx]
    exact ⟨by simp, rfl, by simp⟩
  · have := HOWN.out
    rw [hbase] at this
    exact ownsRow_below this hBA
  · intro i x hx
    obtain ⟨wv, cv, a, b, c, d⟩ := HROW.out i x hx
    rw [hbase] at d
    exact ⟨wv, cv, a, b, c, d.below hBA⟩
  · exact ⟨HM2.out.alloc _, .inl ⟨rfl, HG2.out.alloc _⟩⟩
  · rintro k wa wb ho ⟨h1, h2⟩
    rw [hsz] at ho
    refine ⟨Blk.only h1 ho (by have := HM0.out; have := HM22.out; omega), ?_⟩
    rcases h2 with ⟨h, h3⟩ | ⟨h, h3, h4, h5⟩
    · exact .inl ⟨h, Blk.only h3 ho (by have := HM22.out; omega)⟩
    · exact .inr ⟨h, h3, h4, Blk.only h5 ho (by have := HM22.out; omega)⟩
  · rintro f wa wb ho ⟨h1, h2, h3⟩
    rw [hsz] at ho
    exact ⟨Blk.only h1 ho (by have := HM0.out; have := HM22.out; omega), Blk.only h2 ho (by have := HM22.out; omega), h3⟩
  · rintro k x r wr hxk hno hea hpl hsr hr hl ⟨hI1, hI2⟩ ho
    rw [hsz] at hpl
    have hk : k = 0 := by
      rcases k with _ | k
      · rfl
      · simp at hxk
    subst hk
    simp only [List.getElem?_cons_zero, Option.some.injEq] at hxk
    subst hxk
    rcases hI2 with ⟨_, hg⟩ | ⟨h, _⟩
    · have := HM0.out
      have := HM22.out
      exact numbers_by l H80.out most w.heap.size w1.heap.size r wr _ hno (.inr (by rw [hsz]; omega)) (.inl rfl) (by omega) (by omega) (by omega) hr hl hI1 hg
    · cases h
  rintro e w3 ⟨c, l', k, rfl, ho, hcase⟩
  have HO3 := hid ho
  have NI := fun M => hid (refNumber_any ⟨l.toArray⟩ (by show l.toArray.size ≤ _; unfold maxLen; simp; omega) M)
  unfold NumIs at NI
  rw [show (⟨l.toArray⟩ : ByteArray).data.toList = l from rfl] at NI
  have hend : Below w.heap.size w w3 := by
    have h1 : Below w.heap.size (w2.alloc (.cells #[.int .i64 0, .int .i64 0, .int .i64 0] 25)) w3 := ho.below (by rw [hsz]; have := HM0.out; have := HM22.out; omega) (fun k hk h => by
      rw [hsz] at h
      have := HM0.out
      have := HM22.out
      rcases h with h | h <;> omega)
    exact (below_alloc (below_trans (below_alloc (below_trans (below_alloc (Below.refl _ _) _) HB1.out) _) HB2.out) _).trans h1
  have HEND := hid hend
  clear ho hend hF hBA hsz hbase HOWN HROW HC HB2 HB1 HM22 HM0
  rcases hcase with ⟨rfl, rfl, rfl, hI⟩ | hD
  · obtain ⟨hM, hI⟩ := hI
    rcases hI with ⟨h, _⟩ | ⟨_, hb, hm, hg⟩
    · cases h
    · rw [hb] at NI
      have NIH := hid NI
      have l1 := hg.lt
      have l2 := hM.lt
      have c0 := hg.cell 0 rfl
      have m0 := hM.cell 0 rfl
      clear NI hb hg hM
      generalize numN l = N at *
      go_wp2_with fail
      refine (NIH.out _).out.mono ?_
      rintro e w4 ⟨rfl, rfl⟩
      go_wp2_with fail
      go_ret
      exact ⟨rfl, below_alloc HEND.out _⟩
  · obtain ⟨hM, hg, hD⟩ := hD
    rcases hD with ⟨hb, hf⟩ | ⟨hb, hm, hf⟩
    · injection hf with e1 e2 e3
      subst e1; subst e2; subst e3
      rw [hb] at NI
      have NIH := hid NI
      have l1 := hg.lt
      have l2 := hM.lt
      have c0 := hg.cell 0 rfl
      have m0 := hM.cell 0 rfl
      clear NI hb hg hM
      generalize numN l = N at *
      go_wp2_with fail
      refine (NIH.out _).out.mono ?_
      rintro e w4 ⟨rfl, rfl⟩
      go_wp2_with fail
      go_ret
      exact ⟨rfl, below_alloc HEND.out _⟩
    · injection hf with e1 e2 e3
      subst e1; subst e2; subst e3
      rw [hb] at NI
      have NIH := hid NI
      have l1 := hg.lt
      have l2 := hM.lt
      have c0 := hg.cell 0 rfl
      have m0 := hM.cell 0 rfl
      clear NI hb hg hM
      generalize numN l = N at *
      go_wp2_with fail
      refine (NIH.out _).out.mono ?_
      rintro e w4 ⟨rfl, rfl⟩
      go_wp2_with fail
      go_ret
      exact ⟨rfl, below_alloc HEND.out _⟩

end Go.Proofs.Ythmmeiilcblpgaa.Ln
